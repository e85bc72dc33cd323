/- slices.Insert of one run into a row of runs that has no room: the same row with it in its place, in a row of its own. -/
import Derived.Test.YtokaoafbgebelaaTd20
import Derived.Test.YtokaoafbgebelaaTd21
import Derived.Test.YtokaoafbgebelaaTd02
import Derived.Deep.RegionWith
import Derived.Test.YtokaoafbgebelaaRunLib
import Derived.Test.YtokaoafbgebelaaTd01
import Derived.Deep.DeepAppendWide
import Derived.Laws.CopyOwn

/- The specification's draw of a table. -/
namespace Go.Proofs.Ytokaoafbgebelaa.dtt
open Go.ChangeShapes Go.WideShapes Go.ChangeAt Go.RowKit Go.Proofs.Ytokaoafbgebelaa.fl Go.Proofs.Ytokaoafbgebelaa.fo Go.Proofs.Ytokaoafbgebelaa.dw Go.Proofs.Ytokaoafbgebelaa.rn Go.Proofs.Ytokaoafbgebelaa.rc Go.Proofs.Ytokaoafbgebelaa.ro Go.Proofs.Ytokaoafbgebelaa.tk Go.Proofs.Ytokaoafbgebelaa.tko Go.Proofs.Ytokaoafbgebelaa.tan Go.Proofs.Ytokaoafbgebelaa.ptp Go.Proofs.Ytokaoafbgebelaa.dlt
set_option linter.unusedVariables false

def keys4 : List ByteArray := [⟨#[97]⟩, ⟨#[122, 122]⟩, ⟨#[]⟩]
theorem keys4_in : ∀ z ∈ keys4, z.size ≤ 2 := by decide
/-- how long the list in a cell is -/
def lenC (b o : Nat) (W : World) : Nat := match W.cell? ⟨b, o, none⟩ with
  | some (.slice _ n _) => n
  | _ => 0
theorem dec_small (n : Nat) (h : n ≤ 1000) : (⟨(Lib.itoa (1000 + (n : Int))).toArray⟩ : ByteArray).size ≤ 20 := by
  have e : Lib.itoa (1000 + (n : Int)) = Lib.decDigits (1000 + n) := by
    unfold Lib.itoa
    rw [if_neg (by omega)]
    congr 1
  rw [e]
  have h1 := dt.digits_le 18 (1000 + n) (by have : (10 : Nat) ^ (18 + 1) = 10000000000000000000 := by decide
                                            omega)
  show (Lib.decDigits (1000 + n)).toArray.size ≤ 20
  rw [List.size_toArray]
  omega
theorem lenC_eq {b o n c : Nat} {a : Option Addr} {W : World} (h : W.cell? ⟨b, o, none⟩ = some (.slice a n c)) : lenC b o W = n := by unfold lenC; rw [h]
set_option maxRecDepth 100000 in
set_option maxHeartbeats 4000000 in
theorem draw_table (p : Nat) (a : Option Addr) (len cap : Nat) (w : World) (hc : Cur w p a len cap) :
    Calls Try.prog 28 #[.pointer (some ⟨p, 0, none⟩)] w fun e w' => (∃ (ys : List flP.Pr) (ks : List Rn) (ya : Option Addr) (yc : Nat) (ra : Option Addr) (rc : Nat), e = .returned (.agg #[.slice ya ys.length yc, .slice ra ks.length rc]) ∧ Sm 500 ys (ks.map (·.l)) ∧ Tb w.heap.size w' ys ks ya yc ra rc) ∧ Cur w' p a len cap ∧ On p w w' := by
  have hs0 := st_0 hc
  have h1 := draw_below p a len cap 24 _ (by omega) hs0.cur
  have HS0 : Hid (St p a len cap w [] [] none 0 none 0 ((w.alloc (.cells #[.slice none 0 0, .slice none 0 0] 27)).alloc (.cells #[.slice none 0 0, .slice none 0 0] 27))) := hs0
  have hp := hc.lt
  clear hc hs0
  go_enter Try.func28, Try.ntmps28
  go_wp2_with (go_at_call 32; fail)
  refine h1.mono ?_
  rintro e w1 ⟨⟨n, hn, rfl⟩, hc1, hb1⟩
  have HS1 : Hid (St p a len cap w [] [] none 0 none 0 w1) := HS0.out.draw hc1 hb1
  clear h1 hc1 hb1 HS0
  go_wp2
  go_loopw [5] (fun x wr => ∃ (j : Nat) (ys : List flP.Pr) (ks : List Rn) (ya : Option Addr) (yc : Nat) (ra : Option Addr) (rc : Nat), j ≤ n ∧ x = .int .i64 j ∧ Hid (Sm j ys (ks.map (·.l))) ∧ Hid (St p a len cap w ys ks ya yc ra rc wr)) (fun x _ => n - (intOf x).toNat)
  case atStart => exact ⟨0, [], [], none, 0, none, 0, Nat.zero_le _, rfl, sm_nil, HS1⟩
  case round =>
    obtain ⟨j, ys, ks, ya, yc, ra, rc, hj, rfl, HSM, hst⟩ := hrel
    clear HS1
    by_cases hjn : j < n
    · have i2 : (j : Int) < (n : Int) := by omega
      have c0 : wr.cell? ⟨w.heap.size + 1, 0, none⟩ = some (.slice ya ys.length yc) := bcell hst.out.sb rfl
      have c1 : wr.cell? ⟨w.heap.size + 1, 1, none⟩ = some (.slice ra ks.length rc) := bcell hst.out.sb rfl
      have hsb := hst.out.size
      have HN0 : Hid ((wr.alloc (.cells #[.slice ya ys.length yc, .slice ra ks.length rc] 27)).heap[wr.heap.size]? = some (.cells #[.slice ya ys.length yc, .slice ra ks.length rc] 27 (0, 0))) := bnew _ _ _
      have HT0 : Hid (St p a len cap w ys ks ya yc ra rc (wr.alloc (.cells #[.slice ya ys.length yc, .slice ra ks.length rc] 27))) := hst.out.alloc _
      have g1 := draw_below p a len cap 8 _ (by omega) HT0.out.cur
      go_wp2_with (go_at_call 32; fail)
      clear c0 c1 hst
      refine g1.mono ?_
      rintro e x1 ⟨⟨z, hz, rfl⟩, hd1, hf1⟩
      have HT1 : Hid (St p a len cap w ys ks ya yc ra rc x1) := HT0.out.draw hd1 hf1
      have HN1 : Hid (x1.heap[wr.heap.size]? = some (.cells #[.slice ya ys.length yc, .slice ra ks.length rc] 27 (0, 0))) := st_block HN0.out hf1 (by omega)
      have hs1 := HT1.out.size
      clear g1 hd1 hf1 HN0 HT0
      by_cases z4 : z < 4
      · obtain rfl | rfl | rfl | rfl : z = 0 ∨ z = 1 ∨ z = 2 ∨ z = 3 := by omega
        all_goals
          go_wp2
          refine cht.region (σ := G) (ws := (fun s : G => [(31, .agg #[.slice ya ys.length yc, .slice ra ks.length rc]), (32, .pointer (some ⟨p, 0, none⟩)), (33, .string s.t), (34, .pointer (some ⟨p, 0, none⟩)), (35, .pointer (some ⟨p, 0, none⟩)), (36, .int .i64 s.x), (37, .string s.u), (38, .tuple #[s.v, .bool s.b]), (30, .tuple #[s.v, .bool s.b]), (39, s.v), (40, .bool s.b)])) (js := [2, 5, 6, 7, 11]) (S := (fun g k W => Sx p a len cap w ys ks ya yc ra rc wr.heap.size j 4 (fun g k W => (1 ≤ k → g.t.size ≤ 101) ∧ (k = 2 → g.x < 4) ∧ (3 ≤ k → g.u.size ≤ 3)) g k W)) [31, 32, 33, 34, 35, 36, 37, 38, 30, 39, 40] ⟨0, 0, 0, ⟨#[]⟩, ⟨#[]⟩, undef, false⟩ (by kernel_rfl) (by kernel_rfl) (fun _ => rfl) (by kernel_rfl) (by decide) ⟨HT1.out.step (Below.refl _ _).drew, ⟨fun h => (by omega), fun h => (by omega), fun h => (by omega)⟩, fun _ => bstay HN1.out (Below.refl _ _).drew (by have := (Array.getElem?_eq_some_iff.1 HN1.out).1; omega), fun e => (by omega), fun e => (by omega)⟩ ?_ ?_
          · refine ⟨cht.quiet 5 rfl (by decide) (.inl rfl) (by simp) (fun s => .agg #[.slice ya ys.length yc, .slice ra ks.length rc]) (by rintro s _ ⟨⟩; exact dk.sets_on _ (by simp) _ rfl) (fun s k' W hk' hS => by have c0 : W.cell? ⟨w.heap.size + 1, 0, none⟩ = some (.slice ya ys.length yc) := bcell hS.st.sb rfl; have c1 : W.cell? ⟨w.heap.size + 1, 1, none⟩ = some (.slice ra ks.length rc) := bcell hS.st.sb rfl; simp [execOp, go_sem, Act.eval, dk.sets_get, List.lookup, c0, c1]), ?_⟩
            refine ⟨cht.quiet 5 rfl (by decide) (.inl rfl) (by simp) (fun s => .pointer (some ⟨p, 0, none⟩)) (by rintro s _ ⟨⟩; exact dk.sets_on _ (by simp) _ rfl) (fun s k' W hk' hS => by simp [execOp, go_sem, Act.eval, dk.sets_get, List.lookup]), ?_⟩
            refine ⟨chd.call 0 [2, 5, 6, 7, 8, 9, 10, 11] [33] (by kernel_rfl) (by kernel_rfl) rfl (by decide) rfl (.inl rfl) (by simp) 29 (fun s => #[.pointer (some ⟨p, 0, none⟩)]) (fun s W hS => by exact ⟨by simp [go_sem, Act.eval, dk.sets_get, List.lookup], (dkt.draw_key p a len cap W hS.st.cur).mono fun e w9 hh => by obtain ⟨⟨z9, hz9, rfl⟩, k1, k2⟩ := hh; exact ⟨{ s with t := z9 }, _, rfl, (by simp [chd.But]), (by rintro _ ⟨⟩; exact dk.sets_on _ (by simp) _ rfl), hS.draw (by decide) (by omega) k1 k2 (⟨fun _ => hz9, fun h => (by omega), fun h => (by omega)⟩)⟩⟩), ?_⟩
            refine ⟨cht.quiet 5 rfl (by decide) (.inl rfl) (by simp) (fun s => .pointer (some ⟨p, 0, none⟩)) (by rintro s _ ⟨⟩; exact dk.sets_on _ (by simp) _ rfl) (fun s k' W hk' hS => by simp [execOp, go_sem, Act.eval, dk.sets_get, List.lookup]), ?_⟩
            refine ⟨cht.quiet 5 rfl (by decide) (.inl rfl) (by simp) (fun s => .pointer (some ⟨p, 0, none⟩)) (by rintro s _ ⟨⟩; exact dk.sets_on _ (by simp) _ rfl) (fun s k' W hk' hS => by simp [execOp, go_sem, Act.eval, dk.sets_get, List.lookup]), ?_⟩
            refine ⟨chd.call 1 [5, 6, 7, 8, 9, 10, 11] [36] (by kernel_rfl) (by kernel_rfl) rfl (by decide) rfl (.inr ⟨⟨2, .chain⟩, by simp, rfl, rfl⟩) (by simp) 32 (fun s => #[.pointer (some ⟨p, 0, none⟩), .int .i64 4]) (fun s W hS => by exact ⟨by simp [go_sem, Act.eval, dk.sets_get, List.lookup], (draw_below p a len cap 4 W (by omega) hS.st.cur).mono fun e w9 hh => by obtain ⟨⟨z9, hz9, rfl⟩, k1, k2⟩ := hh; exact ⟨{ s with x := z9 }, _, rfl, (by simp [chd.But]), (by rintro _ ⟨⟩; exact dk.sets_on _ (by simp) _ rfl), hS.draw (by decide) (by omega) k1 k2 (⟨fun _ => hS.pre.1 (by omega), fun _ => hz9, fun h => (by omega)⟩)⟩⟩), ?_⟩
            refine ⟨chd.call 2 [6, 7, 8, 9, 10, 11] [37] (by kernel_rfl) (by kernel_rfl) rfl (by decide) rfl (.inr ⟨⟨5, .data⟩, by simp, rfl, rfl⟩) (by simp) 31 (fun s => #[.pointer (some ⟨p, 0, none⟩), .int .i64 s.x]) (fun s W hS => by exact ⟨by simp [go_sem, Act.eval, dk.sets_get, List.lookup], (draw_bytes p a len cap s.x W (by have := hS.pre.2.1 rfl; omega) hS.st.cur).mono fun e w9 hh => by obtain ⟨⟨z9, hz9, rfl⟩, k1, k2⟩ := hh; exact ⟨{ s with u := z9 }, _, rfl, (by simp [chd.But]), (by rintro _ ⟨⟩; exact dk.sets_on _ (by simp) _ rfl), hS.draw (by decide) (by omega) k1 k2 (⟨fun _ => hS.pre.1 (by omega), fun h => (by omega), fun _ => (by have h9 := hS.pre.2.1 rfl; show z9.size ≤ 3; omega)⟩)⟩⟩), ?_⟩
            refine ⟨chd.call 3 [7, 8, 9, 10, 11] [38, 30, 39, 40] (by kernel_rfl) (by kernel_rfl) rfl (by decide) rfl (.inr ⟨⟨6, .data⟩, by simp, rfl, rfl⟩) (by simp) 8 (fun s => #[.agg #[.slice ya ys.length yc, .slice ra ks.length rc], .string s.t, .string s.u]) (fun s W hS => by exact ⟨by simp [go_sem, Act.eval, dk.sets_get, List.lookup], (hS.st.putT HSM.out (by omega) s.t s.u (hS.pre.1 (by omega)) (by have := hS.pre.2.2 (by omega); omega)).mono fun e w9 hh => by obtain ⟨⟨v9, b9, rfl, n9⟩, k1⟩ := hh; exact ⟨{ s with v := v9, b := b9 }, _, rfl, (by simp [chd.But]), (by rintro _ ⟨⟩; exact dk.sets_on _ (by simp) _ rfl), hS.last (by decide) k1 n9 (⟨fun _ => hS.pre.1 (by omega), fun h => (by omega), fun _ => hS.pre.2.2 (by omega)⟩)⟩⟩), ?_⟩
            refine ⟨cht.quiet 5 rfl (by decide) (.inl rfl) (by simp) (fun s => .tuple #[s.v, .bool s.b]) (by rintro s _ ⟨⟩; exact dk.sets_on _ (by simp) _ rfl) (fun s k' W hk' hS => by simp [execOp, go_sem, Act.eval, dk.sets_get, List.lookup]), ?_⟩
            refine ⟨cht.quiet 5 rfl (by decide) (.inl rfl) (by simp) (fun s => s.v) (by rintro s _ ⟨⟩; exact dk.sets_on _ (by simp) _ rfl) (fun s k' W hk' hS => by simp [execOp, go_sem, Act.eval, dk.sets_get, List.lookup]), ?_⟩
            refine ⟨cht.quiet 5 rfl (by decide) (.inl rfl) (by simp) (fun s => .bool s.b) (by rintro s _ ⟨⟩; exact dk.sets_on _ (by simp) _ rfl) (fun s k' W hk' hS => by simp [execOp, go_sem, Act.eval, dk.sets_get, List.lookup]), ?_⟩
            exact ⟨cht.sto 4 rfl (by decide) rfl (.inr ⟨⟨7, .chain⟩, by simp, rfl, rfl⟩) (by simp) rfl (fun s W hS => by obtain ⟨ys', ks', ya', yc', ra', rc', hv, ⟨c0, c1⟩, hf, hS'⟩ := hS.sto (by omega) (fun _ => ⟨fun _ => hS.pre.1 (by omega), fun h => (by omega), fun _ => hS.pre.2.2 (by omega)⟩); have f0 := hf 0; have f1 := hf 1; exact ⟨res2 W wr.heap.size (.slice ya' ys'.length yc') (.slice ra' ks'.length rc'), by simp [execOp, go_sem, Act.eval, dk.sets_get, List.lookup, hv, c0, c1, f0, f1, res2], hS'⟩), trivial⟩
          · intro s x5 hS
            have HT5 : Hid (St p a len cap w ys ks ya yc ra rc x5) := hS.st
            obtain ⟨ys', ks', ya', yc', ra', rc', hb5, hsm5, hd5⟩ := hS.fin rfl
            have HSM5 : Hid (Sm (j + 1) ys' (ks'.map (·.l))) := hsm5
            have HD5 : Hid (Tb (w.heap.size + 2) x5 ys' ks' ya' yc' ra' rc') := hd5
            have b0 : x5.cell? ⟨wr.heap.size, 0, none⟩ = some (.slice ya' ys'.length yc') := bcell hb5 rfl
            have b1 : x5.cell? ⟨wr.heap.size, 1, none⟩ = some (.slice ra' ks'.length rc') := bcell hb5 rfl
            have c0 : x5.cell? ⟨w.heap.size + 1, 0, none⟩ = some (.slice ya ys.length yc) := bcell HT5.out.sb rfl
            have c1 : x5.cell? ⟨w.heap.size + 1, 1, none⟩ = some (.slice ra ks.length rc) := bcell HT5.out.sb rfl
            have e0 := bfree HT5.out.sb 0
            have e1 := bfree HT5.out.sb 1
            obtain ⟨sx, sy, sA, sT, sU, sV, sB⟩ := s
            clear hS hb5 hsm5 hd5
            simp only [dk.sets]
            go_wp2
            go_roundw
            case rel => exact ⟨j + 1, ys', ks', ya', yc', ra', rc', by omega, by go_num, HSM5.out, St.put HT5.out HD5.out⟩
            case measure => simp [intOf]; omega
      by_cases z0 : z = 4
      · subst z0
        go_wp2
        refine cht.region (σ := G) (ws := (fun s : G => [(44, .agg #[.slice ya ys.length yc, .slice ra ks.length rc]), (45, .pointer (some ⟨p, 0, none⟩)), (46, .string s.t), (47, .tuple #[s.v, .bool s.b]), (43, .tuple #[s.v, .bool s.b]), (48, s.v), (49, .bool s.b)])) (js := [2, 3, 7]) (S := (fun g k W => Sx p a len cap w ys ks ya yc ra rc wr.heap.size j 2 (fun g k W => 1 ≤ k → g.t.size ≤ 101) g k W)) [44, 45, 46, 47, 43, 48, 49] ⟨0, 0, 0, ⟨#[]⟩, ⟨#[]⟩, undef, false⟩ (by kernel_rfl) (by kernel_rfl) (fun _ => rfl) (by kernel_rfl) (by decide) ⟨HT1.out.step (Below.refl _ _).drew, fun h => (by omega), fun _ => bstay HN1.out (Below.refl _ _).drew (by have := (Array.getElem?_eq_some_iff.1 HN1.out).1; omega), fun e => (by omega), fun e => (by omega)⟩ ?each ?fin
        case each =>
          refine ⟨cht.quiet 3 rfl (by decide) (.inl rfl) (by simp) (fun s => .agg #[.slice ya ys.length yc, .slice ra ks.length rc]) (by rintro s _ ⟨⟩; exact dk.sets_on _ (by simp) _ rfl) (fun s k' W hk' hS => by have c0 : W.cell? ⟨w.heap.size + 1, 0, none⟩ = some (.slice ya ys.length yc) := bcell hS.st.sb rfl; have c1 : W.cell? ⟨w.heap.size + 1, 1, none⟩ = some (.slice ra ks.length rc) := bcell hS.st.sb rfl; simp [execOp, go_sem, Act.eval, dk.sets_get, List.lookup, c0, c1]), ?_⟩
          refine ⟨cht.quiet 3 rfl (by decide) (.inl rfl) (by simp) (fun s => .pointer (some ⟨p, 0, none⟩)) (by rintro s _ ⟨⟩; exact dk.sets_on _ (by simp) _ rfl) (fun s k' W hk' hS => by simp [execOp, go_sem, Act.eval, dk.sets_get, List.lookup]), ?_⟩
          refine ⟨chd.call 0 [2, 3, 4, 5, 6, 7] [46] (by kernel_rfl) (by kernel_rfl) rfl (by decide) rfl (.inl rfl) (by simp) 29 (fun s => #[.pointer (some ⟨p, 0, none⟩)]) (fun s W hS => by exact ⟨by simp [go_sem, Act.eval, dk.sets_get, List.lookup], (dkt.draw_key p a len cap W hS.st.cur).mono fun e w9 hh => by obtain ⟨⟨z9, hz9, rfl⟩, k1, k2⟩ := hh; exact ⟨{ s with t := z9 }, _, rfl, (by simp [chd.But]), (by rintro _ ⟨⟩; exact dk.sets_on _ (by simp) _ rfl), hS.draw (by decide) (by omega) k1 k2 (fun _ => hz9)⟩⟩), ?_⟩
          refine ⟨chd.call 1 [3, 4, 5, 6, 7] [47, 43, 48, 49] (by kernel_rfl) (by kernel_rfl) rfl (by decide) rfl (.inr ⟨⟨2, .data⟩, by simp, rfl, rfl⟩) (by simp) 10 (fun s => #[.agg #[.slice ya ys.length yc, .slice ra ks.length rc], .string s.t]) (fun s W hS => by exact ⟨by simp [go_sem, Act.eval, dk.sets_get, List.lookup], (hS.st.dropT HSM.out (by omega) s.t (hS.pre (by omega))).mono fun e w9 hh => by obtain ⟨⟨v9, b9, rfl, n9⟩, k1⟩ := hh; exact ⟨{ s with v := v9, b := b9 }, _, rfl, (by simp [chd.But]), (by rintro _ ⟨⟩; exact dk.sets_on _ (by simp) _ rfl), hS.last (by decide) k1 n9 (fun _ => hS.pre (by omega))⟩⟩), ?_⟩
          refine ⟨cht.quiet 3 rfl (by decide) (.inl rfl) (by simp) (fun s => .tuple #[s.v, .bool s.b]) (by rintro s _ ⟨⟩; exact dk.sets_on _ (by simp) _ rfl) (fun s k' W hk' hS => by simp [execOp, go_sem, Act.eval, dk.sets_get, List.lookup]), ?_⟩
          refine ⟨cht.quiet 3 rfl (by decide) (.inl rfl) (by simp) (fun s => s.v) (by rintro s _ ⟨⟩; exact dk.sets_on _ (by simp) _ rfl) (fun s k' W hk' hS => by simp [execOp, go_sem, Act.eval, dk.sets_get, List.lookup]), ?_⟩
          refine ⟨cht.quiet 3 rfl (by decide) (.inl rfl) (by simp) (fun s => .bool s.b) (by rintro s _ ⟨⟩; exact dk.sets_on _ (by simp) _ rfl) (fun s k' W hk' hS => by simp [execOp, go_sem, Act.eval, dk.sets_get, List.lookup]), ?_⟩
          exact ⟨cht.sto 2 rfl (by decide) rfl (.inr ⟨⟨3, .chain⟩, by simp, rfl, rfl⟩) (by simp) rfl (fun s W hS => by obtain ⟨ys', ks', ya', yc', ra', rc', hv, ⟨c0, c1⟩, hf, hS'⟩ := hS.sto (by omega) (fun _ _ => hS.pre (by omega)); have f0 := hf 0; have f1 := hf 1; exact ⟨res2 W wr.heap.size (.slice ya' ys'.length yc') (.slice ra' ks'.length rc'), by simp [execOp, go_sem, Act.eval, dk.sets_get, List.lookup, hv, c0, c1, f0, f1, res2], hS'⟩), trivial⟩
        case fin =>
          intro s x5 hS
          have HT5 : Hid (St p a len cap w ys ks ya yc ra rc x5) := hS.st
          obtain ⟨ys', ks', ya', yc', ra', rc', hb5, hsm5, hd5⟩ := hS.fin rfl
          have HSM5 : Hid (Sm (j + 1) ys' (ks'.map (·.l))) := hsm5
          have HD5 : Hid (Tb (w.heap.size + 2) x5 ys' ks' ya' yc' ra' rc') := hd5
          have b0 : x5.cell? ⟨wr.heap.size, 0, none⟩ = some (.slice ya' ys'.length yc') := bcell hb5 rfl
          have b1 : x5.cell? ⟨wr.heap.size, 1, none⟩ = some (.slice ra' ks'.length rc') := bcell hb5 rfl
          have c0 : x5.cell? ⟨w.heap.size + 1, 0, none⟩ = some (.slice ya ys.length yc) := bcell HT5.out.sb rfl
          have c1 : x5.cell? ⟨w.heap.size + 1, 1, none⟩ = some (.slice ra ks.length rc) := bcell HT5.out.sb rfl
          have e0 := bfree HT5.out.sb 0
          have e1 := bfree HT5.out.sb 1
          obtain ⟨sx, sy, sA, sT, sU, sV, sB⟩ := s
          clear hS hb5 hsm5 hd5
          simp only [dk.sets]
          go_wp2
          go_roundw
          case rel => exact ⟨j + 1, ys', ks', ya', yc', ra', rc', by omega, by go_num, HSM5.out, St.put HT5.out HD5.out⟩
          case measure => simp [intOf]; omega
      by_cases z5 : z < 7
      · have hfl := HT1.out.flushT HSM.out (by omega)
        have c0 : x1.cell? ⟨w.heap.size + 1, 0, none⟩ = some (.slice ya ys.length yc) := bcell HT1.out.sb rfl
        have c1 : x1.cell? ⟨w.heap.size + 1, 1, none⟩ = some (.slice ra ks.length rc) := bcell HT1.out.sb rfl
        obtain rfl | rfl : z = 5 ∨ z = 6 := by omega
        all_goals
          go_wp2_with (go_at_call 22; fail)
          refine hfl.mono ?_
          rintro e x5 ⟨⟨v9, b9, rfl, ys', ks', ya', yc', ra', rc', rfl, hsm5, hd5⟩, hb9⟩
          have HT5 : Hid (St p a len cap w ys ks ya yc ra rc x5) := HT1.out.step hb9
          have hn5 : x5.heap[wr.heap.size]? = some (.cells #[.slice ya ys.length yc, .slice ra ks.length rc] 27 (0, 0)) := bstay HN1.out hb9 (Array.getElem?_eq_some_iff.1 HN1.out).1
          have HSM5 : Hid (Sm (j + 1) ys' (ks'.map (·.l))) := hsm5
          have HN5 : Hid (x5.heap[wr.heap.size]? = some (.cells #[.slice ya ys.length yc, .slice ra ks.length rc] 27 (0, 0))) := hn5
          have HD5 : Hid (Tb (w.heap.size + 2) x5 ys' ks' ya' yc' ra' rc') := hd5
          have m0 : x5.cell? ⟨wr.heap.size, 0, none⟩ = some (.slice ya ys.length yc) := bcell hn5 rfl
          have m1 : x5.cell? ⟨wr.heap.size, 1, none⟩ = some (.slice ra ks.length rc) := bcell hn5 rfl
          have n0 := bfree hn5 0
          have n1 := bfree hn5 1
          have HT6 : Hid (St p a len cap w ys ks ya yc ra rc (res2 x5 wr.heap.size (.slice ya' ys'.length yc') (.slice ra' ks'.length rc'))) := HT5.out.res hn5 (by omega) _ _
          have HD6 : Hid (Tb (w.heap.size + 2) (res2 x5 wr.heap.size (.slice ya' ys'.length yc') (.slice ra' ks'.length rc')) ys' ks' ya' yc' ra' rc') := tb_res2 HD5.out hn5 _ _
          have hb6 : (res2 x5 wr.heap.size (.slice ya' ys'.length yc') (.slice ra' ks'.length rc')).heap[wr.heap.size]? = some (.cells #[.slice ya' ys'.length yc', .slice ra' ks'.length rc'] 27 (0, 0)) := res2_at hn5 _ _
          have b0 := bcell (j := 0) (v := .slice ya' ys'.length yc') hb6 rfl
          have b1 := bcell (j := 1) (v := .slice ra' ks'.length rc') hb6 rfl
          have c0 : (res2 x5 wr.heap.size (.slice ya' ys'.length yc') (.slice ra' ks'.length rc')).cell? ⟨w.heap.size + 1, 0, none⟩ = some (.slice ya ys.length yc) := bcell HT6.out.sb rfl
          have c1 : (res2 x5 wr.heap.size (.slice ya' ys'.length yc') (.slice ra' ks'.length rc')).cell? ⟨w.heap.size + 1, 1, none⟩ = some (.slice ra ks.length rc) := bcell HT6.out.sb rfl
          have e0 := bfree HT6.out.sb 0
          have e1 := bfree HT6.out.sb 1
          unfold res2 at HT6 HD6 b0 b1 c0 c1 e0 e1
          clear hfl hsm5 hd5 hb9 hn5 hb6 HT5 HN5 HT1 HN1 HD5
          go_wp2
          go_roundw
          case rel => exact ⟨j + 1, ys', ks', ya', yc', ra', rc', by omega, by go_num, HSM5.out, St.put HT6.out HD6.out⟩
          case measure => simp [intOf]; omega
      obtain rfl : z = 7 := by omega
      go_wp2
      refine cht.region (σ := G) (ws := (fun s : G => [(19, .agg #[.slice ya ys.length yc, .slice ra ks.length rc]), (20, .pointer (some ⟨p, 0, none⟩)), (21, .int .i64 s.x), (22, .tuple #[s.v, .bool s.b]), (18, .tuple #[s.v, .bool s.b]), (23, s.v), (24, .bool s.b)])) (js := [2, 3, 7]) (S := (fun g k W => Sx p a len cap w ys ks ya yc ra rc wr.heap.size j 2 (fun g k W => 1 ≤ k → g.x < 3) g k W)) [19, 20, 21, 22, 18, 23, 24] ⟨0, 0, 0, ⟨#[]⟩, ⟨#[]⟩, undef, false⟩ (by kernel_rfl) (by kernel_rfl) (fun _ => rfl) (by kernel_rfl) (by decide) ⟨HT1.out.step (Below.refl _ _).drew, fun h => (by omega), fun _ => bstay HN1.out (Below.refl _ _).drew (by have := (Array.getElem?_eq_some_iff.1 HN1.out).1; omega), fun e => (by omega), fun e => (by omega)⟩ ?each ?fin
      case each =>
        refine ⟨cht.quiet 3 rfl (by decide) (.inl rfl) (by simp) (fun s => .agg #[.slice ya ys.length yc, .slice ra ks.length rc]) (by rintro s _ ⟨⟩; exact dk.sets_on _ (by simp) _ rfl) (fun s k' W hk' hS => by have c0 : W.cell? ⟨w.heap.size + 1, 0, none⟩ = some (.slice ya ys.length yc) := bcell hS.st.sb rfl; have c1 : W.cell? ⟨w.heap.size + 1, 1, none⟩ = some (.slice ra ks.length rc) := bcell hS.st.sb rfl; simp [execOp, go_sem, Act.eval, dk.sets_get, List.lookup, c0, c1]), ?_⟩
        refine ⟨cht.quiet 3 rfl (by decide) (.inl rfl) (by simp) (fun s => .pointer (some ⟨p, 0, none⟩)) (by rintro s _ ⟨⟩; exact dk.sets_on _ (by simp) _ rfl) (fun s k' W hk' hS => by simp [execOp, go_sem, Act.eval, dk.sets_get, List.lookup]), ?_⟩
        refine ⟨chd.call 0 [2, 3, 4, 5, 6, 7] [21] (by kernel_rfl) (by kernel_rfl) rfl (by decide) rfl (.inl rfl) (by simp) 32 (fun s => #[.pointer (some ⟨p, 0, none⟩), .int .i64 3]) (fun s W hS => by exact ⟨by simp [go_sem, Act.eval, dk.sets_get, List.lookup], (draw_below p a len cap 3 W (by omega) hS.st.cur).mono fun e w9 hh => by obtain ⟨⟨z9, hz9, rfl⟩, k1, k2⟩ := hh; exact ⟨{ s with x := z9 }, _, rfl, (by simp [chd.But]), (by rintro _ ⟨⟩; exact dk.sets_on _ (by simp) _ rfl), hS.draw (by decide) (by omega) k1 k2 (fun _ => hz9)⟩⟩), ?_⟩
        refine ⟨chd.call 1 [3, 4, 5, 6, 7] [22, 18, 23, 24] (by kernel_rfl) (by kernel_rfl) rfl (by decide) rfl (.inr ⟨⟨2, .data⟩, by simp, rfl, rfl⟩) (by simp) 20 (fun s => #[.agg #[.slice ya ys.length yc, .slice ra ks.length rc], .int .i64 s.x]) (fun s W hS => by exact ⟨by simp [go_sem, Act.eval, dk.sets_get, List.lookup], (hS.st.mergeT HSM.out (by omega) s.x (by omega) (by have := hS.pre (by omega); omega)).mono fun e w9 hh => by obtain ⟨⟨v9, b9, rfl, n9⟩, k1⟩ := hh; exact ⟨{ s with v := v9, b := b9 }, _, rfl, (by simp [chd.But]), (by rintro _ ⟨⟩; exact dk.sets_on _ (by simp) _ rfl), hS.last (by decide) k1 n9 (fun _ => hS.pre (by omega))⟩⟩), ?_⟩
        refine ⟨cht.quiet 3 rfl (by decide) (.inl rfl) (by simp) (fun s => .tuple #[s.v, .bool s.b]) (by rintro s _ ⟨⟩; exact dk.sets_on _ (by simp) _ rfl) (fun s k' W hk' hS => by simp [execOp, go_sem, Act.eval, dk.sets_get, List.lookup]), ?_⟩
        refine ⟨cht.quiet 3 rfl (by decide) (.inl rfl) (by simp) (fun s => s.v) (by rintro s _ ⟨⟩; exact dk.sets_on _ (by simp) _ rfl) (fun s k' W hk' hS => by simp [execOp, go_sem, Act.eval, dk.sets_get, List.lookup]), ?_⟩
        refine ⟨cht.quiet 3 rfl (by decide) (.inl rfl) (by simp) (fun s => .bool s.b) (by rintro s _ ⟨⟩; exact dk.sets_on _ (by simp) _ rfl) (fun s k' W hk' hS => by simp [execOp, go_sem, Act.eval, dk.sets_get, List.lookup]), ?_⟩
        exact ⟨cht.sto 2 rfl (by decide) rfl (.inr ⟨⟨3, .chain⟩, by simp, rfl, rfl⟩) (by simp) rfl (fun s W hS => by obtain ⟨ys', ks', ya', yc', ra', rc', hv, ⟨c0, c1⟩, hf, hS'⟩ := hS.sto (by omega) (fun _ _ => hS.pre (by omega)); have f0 := hf 0; have f1 := hf 1; exact ⟨res2 W wr.heap.size (.slice ya' ys'.length yc') (.slice ra' ks'.length rc'), by simp [execOp, go_sem, Act.eval, dk.sets_get, List.lookup, hv, c0, c1, f0, f1, res2], hS'⟩), trivial⟩
      case fin =>
        intro s x5 hS
        have HT5 : Hid (St p a len cap w ys ks ya yc ra rc x5) := hS.st
        obtain ⟨ys', ks', ya', yc', ra', rc', hb5, hsm5, hd5⟩ := hS.fin rfl
        have HSM5 : Hid (Sm (j + 1) ys' (ks'.map (·.l))) := hsm5
        have HD5 : Hid (Tb (w.heap.size + 2) x5 ys' ks' ya' yc' ra' rc') := hd5
        have b0 : x5.cell? ⟨wr.heap.size, 0, none⟩ = some (.slice ya' ys'.length yc') := bcell hb5 rfl
        have b1 : x5.cell? ⟨wr.heap.size, 1, none⟩ = some (.slice ra' ks'.length rc') := bcell hb5 rfl
        have c0 : x5.cell? ⟨w.heap.size + 1, 0, none⟩ = some (.slice ya ys.length yc) := bcell HT5.out.sb rfl
        have c1 : x5.cell? ⟨w.heap.size + 1, 1, none⟩ = some (.slice ra ks.length rc) := bcell HT5.out.sb rfl
        have e0 := bfree HT5.out.sb 0
        have e1 := bfree HT5.out.sb 1
        obtain ⟨sx, sy, sA, sT, sU, sV, sB⟩ := s
        clear hS hb5 hsm5 hd5
        simp only [dk.sets]
        go_wp2
        go_roundw
        case rel => exact ⟨j + 1, ys', ks', ya', yc', ra', rc', by omega, by go_num, HSM5.out, St.put HT5.out HD5.out⟩
        case measure => simp [intOf]; omega
    · obtain rfl : j = n := by omega
      have hsb := hst.out.size
      have g1 := draw_below p a len cap 24 wr (by omega) hst.out.cur
      go_wp2_with (go_at_call 32; fail)
      refine g1.mono ?_
      rintro e x1 ⟨⟨z, hz, rfl⟩, hd1, hf1⟩
      have HT1 : Hid (St p a len cap w ys ks ya yc ra rc x1) := hst.out.draw hd1 hf1
      have hs1 := HT1.out.size
      have hyt := HSM.out.tt
      have hrl := HSM.out.rl
      rw [List.length_map] at hrl
      clear g1 hd1 hf1 hst
      by_cases z0 : z = 0
      · subst z0
        go_wp2
        refine cht.region (σ := G) (ws := (fun s : G => [(63, .pointer (some ⟨w.heap.size + 1, 0, none⟩)), (64, .slice ya ys.length yc), (65, .pointer (some ⟨p, 0, none⟩)), (66, .slice (some ⟨s.a, 0, none⟩) 3 3), (67, .string s.t), (68, .pointer (some ⟨p, 0, none⟩)), (69, .bool s.b), (70, .agg #[.string s.t, .string ⟨#[118]⟩, .bool s.b]), (71, .slice (some ⟨s.y, 0, none⟩) 1 1), (72, s.v), (73, .pointer (some ⟨w.heap.size + 1, 0, none⟩))])) (js := [3, 4, 6, 7, 8, 9, 11]) (S := (fun g k W => (k ≤ 5 → St p a len cap w ys ks ya yc ra rc W) ∧ (k = 1 → p < g.a ∧ ∀ i, i < 3 → ∃ z ∈ keys4, W.cell? ⟨g.a, i, none⟩ = some (.string z)) ∧ (2 ≤ k → g.t.size ≤ 2) ∧ (k = 5 → W.heap[g.y]? = some (.cells #[.string g.t, .string ⟨#[118]⟩, .bool g.b] 40 (0, 0))) ∧ (k = 7 → ∃ ya' yc', St p a len cap w (ys ++ [⟨g.t, ⟨#[118]⟩, g.b⟩]) ks ya' yc' ra rc W) ∧ (k = 6 → ∃ ya' yc', g.v = .slice ya' (ys.length + 1) yc' ∧ W.cell? ⟨w.heap.size + 1, 0, none⟩ = some (.slice ya ys.length yc) ∧ W.frozen? ⟨w.heap.size + 1, 0, none⟩ = false ∧ St p a len cap w (ys ++ [⟨g.t, ⟨#[118]⟩, g.b⟩]) ks ya' yc' ra rc (W.setCell ⟨w.heap.size + 1, 0, none⟩ (.slice ya' (ys.length + 1) yc'))))) [63, 64, 65, 66, 67, 68, 69, 70, 71, 72, 73] ⟨0, 0, 0, ⟨#[]⟩, ⟨#[]⟩, undef, false⟩ (by kernel_rfl) (by kernel_rfl) (fun _ => rfl) (by kernel_rfl) (by decide) ⟨fun _ => HT1.out.step (Below.refl _ _).drew, fun h => (by omega), fun h => (by omega), fun h => (by omega), fun h => (by omega), fun h => (by omega)⟩ ?each ?fin
        case each =>
          refine ⟨cht.quiet 7 rfl (by decide) (.inl rfl) (by simp) (fun s => .pointer (some ⟨w.heap.size + 1, 0, none⟩)) (by rintro s _ ⟨⟩; exact dk.sets_on _ (by simp) _ rfl) (fun s k' W hk' hS => by simp [execOp, go_sem, Act.eval, dk.sets_get, List.lookup]), ?_⟩
          refine ⟨cht.quiet 5 rfl (by decide) (.inr ⟨9, _, rfl, rfl, ⟨1, .data⟩, by simp, rfl, rfl⟩) (by simp) (fun s => .slice ya ys.length yc) (by rintro s _ ⟨⟩; exact dk.sets_on _ (by simp) _ rfl) (fun s k' W hk' hS => by have hst := hS.1 hk'; have c0 : W.cell? ⟨w.heap.size + 1, 0, none⟩ = some (.slice ya ys.length yc) := bcell hst.sb rfl; simp [execOp, go_sem, Act.eval, dk.sets_get, List.lookup, c0]), ?_⟩
          refine ⟨cht.quiet 7 rfl (by decide) (.inl rfl) (by simp) (fun s => .pointer (some ⟨p, 0, none⟩)) (by rintro s _ ⟨⟩; exact dk.sets_on _ (by simp) _ rfl) (fun s k' W hk' hS => by simp [execOp, go_sem, Act.eval, dk.sets_get, List.lookup]), ?_⟩
          refine ⟨chd.eff 0 [3, 4, 6, 7, 8, 9, 10, 11] [66] (by kernel_rfl) (by kernel_rfl) rfl (by decide) rfl (.inl rfl) (by simp) (fun s W hS => by exact ⟨{ s with a := W.heap.size }, .slice (some ⟨W.heap.size, 0, none⟩) 3 3, W.alloc (.cells #[.string ⟨#[97]⟩, .string ⟨#[122, 122]⟩, .string ⟨#[]⟩] 9), (by simp [chd.But]), (by rintro _ ⟨⟩; exact dk.sets_on _ (by simp) _ rfl), (by simp [execOp, go_sem, Act.eval, dk.sets_get, List.lookup]), fun _ => (hS.1 (by omega)).alloc _, fun _ => ⟨(by have := (hS.1 (by omega)).size; show p < W.heap.size; omega), at_texts W keys4 _⟩, fun h => (by omega), fun h => (by omega), fun h => (by omega), fun h => (by omega)⟩), ?_⟩
          refine ⟨chd.call 1 [4, 6, 7, 8, 9, 10, 11] [67, 70] (by kernel_rfl) (by kernel_rfl) rfl (by decide) rfl (.inr ⟨⟨3, .data⟩, by simp, rfl, rfl⟩) (by simp) 51 (fun s => #[.pointer (some ⟨p, 0, none⟩), .slice (some ⟨s.a, 0, none⟩) 3 3]) (fun s W hS => by exact ⟨by simp [go_sem, Act.eval, dk.sets_get, List.lookup], (draw_pick p a len cap s.a 3 keys4 W (by omega) (by have := (hS.2.1 rfl).1; omega) (hS.2.1 rfl).2 (hS.1 (by omega)).cur).mono fun e w9 hh => by obtain ⟨⟨z9, hz9, rfl⟩, k1, k2⟩ := hh; exact ⟨{ s with t := z9 }, _, rfl, (by simp [chd.But]), (by rintro _ ⟨⟩; exact dk.sets_on _ (by simp) _ rfl), fun _ => (hS.1 (by omega)).draw k1 k2, fun h => (by omega), fun _ => keys4_in z9 hz9, fun h => (by omega), fun h => (by omega), fun h => (by omega)⟩⟩), ?_⟩
          refine ⟨cht.quiet 7 rfl (by decide) (.inl rfl) (by simp) (fun s => .pointer (some ⟨p, 0, none⟩)) (by rintro s _ ⟨⟩; exact dk.sets_on _ (by simp) _ rfl) (fun s k' W hk' hS => by simp [execOp, go_sem, Act.eval, dk.sets_get, List.lookup]), ?_⟩
          refine ⟨chd.call 2 [6, 7, 8, 9, 10, 11] [69, 70] (by kernel_rfl) (by kernel_rfl) rfl (by decide) rfl (.inr ⟨⟨4, .chain⟩, by simp, rfl, rfl⟩) (by simp) 30 (fun s => #[.pointer (some ⟨p, 0, none⟩), .int .i64 2]) (fun s W hS => by exact ⟨by simp [go_sem, Act.eval, dk.sets_get, List.lookup], (draw_once p a len cap 2 W (by omega) (hS.1 (by omega)).cur).mono fun e w9 hh => by obtain ⟨⟨z9, rfl⟩, k1, k2⟩ := hh; exact ⟨{ s with b := z9 }, _, rfl, (by simp [chd.But]), (by rintro _ ⟨⟩; exact dk.sets_on _ (by simp) _ rfl), fun _ => (hS.1 (by omega)).draw k1 k2, fun h => (by omega), fun _ => hS.2.2.1 (by omega), fun h => (by omega), fun h => (by omega), fun h => (by omega)⟩⟩), ?_⟩
          refine ⟨chd.eff 3 [7, 8, 9, 10, 11] [70] (by kernel_rfl) (by kernel_rfl) rfl (by decide) rfl (.inr ⟨⟨6, .data⟩, by simp, rfl, rfl⟩) (by simp) (fun s W hS => by exact ⟨s, .agg #[.string s.t, .string ⟨#[118]⟩, .bool s.b], W, (by simp [chd.But]), (by rintro _ ⟨⟩; exact dk.sets_on _ (by simp) _ rfl), (by simp [execOp, go_sem, Act.eval, dk.sets_get, List.lookup]), fun _ => hS.1 (by omega), fun h => (by omega), fun _ => hS.2.2.1 (by omega), fun h => (by omega), fun h => (by omega), fun h => (by omega)⟩), ?_⟩
          refine ⟨chd.eff 4 [8, 9, 10, 11] [71] (by kernel_rfl) (by kernel_rfl) rfl (by decide) rfl (.inr ⟨⟨7, .data⟩, by simp, rfl, rfl⟩) (by simp) (fun s W hS => by exact ⟨{ s with y := W.heap.size }, .slice (some ⟨W.heap.size, 0, none⟩) 1 1, W.alloc (.cells #[.string s.t, .string ⟨#[118]⟩, .bool s.b] 40), (by simp [chd.But]), (by rintro _ ⟨⟩; exact dk.sets_on _ (by simp) _ rfl), (by simp [execOp, go_sem, Act.eval, dk.sets_get, List.lookup]), fun _ => (hS.1 (by omega)).alloc _, fun h => (by omega), fun _ => hS.2.2.1 (by omega), fun _ => bnew W _ _, fun h => (by omega), fun h => (by omega)⟩), ?_⟩
          refine ⟨chd.eff 5 [9, 10, 11] [72] (by kernel_rfl) (by kernel_rfl) rfl (by decide) rfl (.inr ⟨⟨8, .data⟩, by simp, rfl, rfl⟩) (by simp) (fun s W hS => by obtain ⟨ya', yc', Y, hr, ⟨n1, n2⟩, hst⟩ := (hS.1 (by omega)).appY (hS.2.2.2.1 rfl) (by omega) 24; exact ⟨{ s with v := .slice ya' (ys.length + 1) yc' }, .slice ya' (ys.length + 1) yc', Y, (by simp [chd.But]), (by rintro _ ⟨⟩; exact dk.sets_on _ (by simp) _ rfl), chd.app_run rfl (by simp [Act.eval, dk.sets_get, List.lookup]) (by simp [Act.eval, dk.sets_get, List.lookup]) hr, fun h => (by omega), fun h => (by omega), fun _ => hS.2.2.1 (by omega), fun h => (by omega), fun h => (by omega), fun _ => ⟨ya', yc', rfl, n1, n2, hst⟩⟩), ?_⟩
          refine ⟨cht.quiet 7 rfl (by decide) (.inl rfl) (by simp) (fun s => .pointer (some ⟨w.heap.size + 1, 0, none⟩)) (by rintro s _ ⟨⟩; exact dk.sets_on _ (by simp) _ rfl) (fun s k' W hk' hS => by simp [execOp, go_sem, Act.eval, dk.sets_get, List.lookup]), ?_⟩
          exact ⟨cht.sto 6 rfl (by decide) rfl (.inr ⟨⟨9, .data⟩, by simp, rfl, rfl⟩) (by simp) rfl (fun s W hS => by obtain ⟨ya', yc', hv, n1, n2, hst⟩ := hS.2.2.2.2.2 rfl; exact ⟨W.setCell ⟨w.heap.size + 1, 0, none⟩ (.slice ya' (ys.length + 1) yc'), by simp [execOp, go_sem, Act.eval, dk.sets_get, List.lookup, hv, n1, n2], fun h => (by omega), fun h => (by omega), fun _ => hS.2.2.1 (by omega), fun h => (by omega), fun _ => ⟨ya', yc', hst⟩, fun h => (by omega)⟩), trivial⟩
        case fin =>
          intro s x3 hS
          obtain ⟨ya', yc', hst3⟩ := hS.2.2.2.2.1 rfl
          have HTT : Hid (St p a len cap w (ys ++ [⟨s.t, ⟨#[118]⟩, s.b⟩]) ks ya' yc' ra rc x3) := hst3
          have hst2 := hS.2.2.1 (by decide)
          have HSM2 : Hid (Sm 500 (ys ++ [⟨s.t, ⟨#[118]⟩, s.b⟩]) (ks.map (·.l))) := ⟨by simp; omega, by rw [List.length_map]; omega, fun e he => by
            rcases List.mem_append.1 he with he | he
            · exact HSM.out.yo e he
            · rw [List.mem_singleton.1 he]; exact ⟨by show s.t.size ≤ 101; omega, Nat.le_of_ble_eq_true rfl⟩, HSM.out.ro⟩
          simp only [dk.sets]
          clear hS hst3 hst2 HT1
          have c0 : x3.cell? ⟨w.heap.size + 1, 0, none⟩ = some (.slice ya' (ys.length + 1) yc') := (by have h9 := HTT.out.sb; rw [List.length_append] at h9; exact bcell h9 rfl)
          have c1 : x3.cell? ⟨w.heap.size + 1, 1, none⟩ = some (.slice ra ks.length rc) := bcell HTT.out.sb rfl
          have q0 : x3.cell? ⟨w.heap.size, 0, none⟩ = some (.slice none 0 0) := bcell HTT.out.rb rfl
          have q1 : x3.cell? ⟨w.heap.size, 1, none⟩ = some (.slice none 0 0) := bcell HTT.out.rb rfl
          have r0 := bfree HTT.out.rb 0
          have r1 := bfree HTT.out.rb 1
          have HDN : Hid (∀ y0 y1, Tb w.heap.size (res2 x3 w.heap.size y0 y1) (ys ++ [({ k := s.t, v := ⟨#[118]⟩, g := s.b } : flP.Pr)]) ks ya' yc' ra rc ∧ Cur (res2 x3 w.heap.size y0 y1) p a len cap ∧ On p w (res2 x3 w.heap.size y0 y1)) := fun y0 y1 => HTT.out.done y0 y1
          clear HTT
          go_wp2
          exact bodyPost_ret (v := .agg #[.slice ya' (ys.length + 1) yc', .slice ra ks.length rc]) (by simp [results, Try.results28, go_sem, q0, q1]) rfl ⟨⟨(ys ++ [({ k := s.t, v := ⟨#[118]⟩, g := s.b } : flP.Pr)]), ks, ya', yc', ra, rc, (by rw [List.length_append]; rfl), HSM2.out, (HDN.out _ _).1⟩, (HDN.out _ _).2⟩
      by_cases z1 : z = 1
      · subst z1
        have HSM0 : Hid (Sm 500 ys (ks.map (·.l))) := HSM.out.more (by omega)
        go_wp2
        go_loopw [82] (fun _ wr => ∃ (K : List Rn) (rr : Option Addr) (rx : Nat), K.length ≤ 30 ∧ Hid (Sm 500 ys (K.map (·.l))) ∧ Hid (St p a len cap w ys K ya yc rr rx wr)) (fun _ wr => 40 - lenC (w.heap.size + 1) 1 wr)
        case atStart => exact ⟨ks, ra, rc, by omega, HSM0, HT1⟩
        case round =>
          obtain ⟨K, rr, rx, hK, HSM3, hst2⟩ := hrel
          clear HT1 HSM0
          have hlz : lenC (w.heap.size + 1) 1 wr = K.length := lenC_eq (bcell (j := 1) (v := .slice rr K.length rx) hst2.out.sb rfl)
          have HLZ : Hid (lenC (w.heap.size + 1) 1 wr = K.length) := hlz
          have hsz2 := hst2.out.size
          clear hlz
          go_wp2
          refine cht.region (σ := G) (ws := (fun s : G => [(76, .pointer (some ⟨w.heap.size + 1, 1, none⟩)), (77, .slice rr K.length rx), (78, .int .i64 K.length), (79, .pointer (some ⟨p, 0, none⟩)), (80, .int .i64 s.x), (81, .int .i64 (8 + s.x)), (82, .bool (decide ((K.length : Int) < 8 + s.x)))])) (js := [4]) (S := (fun g k W => St p a len cap w ys K ya yc rr rx W ∧ g.x < 2)) [76, 77, 78, 79, 80, 81, 82] ⟨0, 0, 0, ⟨#[]⟩, ⟨#[]⟩, undef, false⟩ (by kernel_rfl) (by kernel_rfl) (fun _ => rfl) (by kernel_rfl) (by decide) ⟨hst2.out.step (Below.refl _ _).drew, by decide⟩ ?each ?fin
          case each =>
            refine ⟨cht.quiet 1 rfl (by decide) (.inl rfl) (by simp) (fun s => .pointer (some ⟨w.heap.size + 1, 1, none⟩)) (by rintro s _ ⟨⟩; exact dk.sets_on _ (by simp) _ rfl) (fun s k' W hk' hS => by simp [execOp, go_sem, Act.eval, dk.sets_get, List.lookup]), ?_⟩
            refine ⟨cht.quiet 1 rfl (by decide) (.inl rfl) (by simp) (fun s => .slice rr K.length rx) (by rintro s _ ⟨⟩; exact dk.sets_on _ (by simp) _ rfl) (fun s k' W hk' hS => by have c3 : W.cell? ⟨w.heap.size + 1, 1, none⟩ = some (.slice rr K.length rx) := bcell hS.1.sb rfl; simp [execOp, go_sem, Act.eval, dk.sets_get, List.lookup, c3]), ?_⟩
            refine ⟨cht.quiet 1 rfl (by decide) (.inl rfl) (by simp) (fun s => .int .i64 K.length) (by rintro s _ ⟨⟩; exact dk.sets_on _ (by simp) _ rfl) (fun s k' W hk' hS => by simp [go_sem, Act.eval, dk.sets_get, List.lookup]), ?_⟩
            refine ⟨cht.quiet 1 rfl (by decide) (.inl rfl) (by simp) (fun s => .pointer (some ⟨p, 0, none⟩)) (by rintro s _ ⟨⟩; exact dk.sets_on _ (by simp) _ rfl) (fun s k' W hk' hS => by simp [execOp, go_sem, Act.eval, dk.sets_get, List.lookup]), ?_⟩
            refine ⟨chd.call 0 [4, 5, 6] [80, 81, 82] (by kernel_rfl) (by kernel_rfl) rfl (by decide) rfl (.inl rfl) (by simp) 32 (fun s => #[.pointer (some ⟨p, 0, none⟩), .int .i64 2]) (fun s W hS => by exact ⟨by simp [go_sem, Act.eval, dk.sets_get, List.lookup], (draw_below p a len cap 2 W (by omega) hS.1.cur).mono fun e w9 hh => by obtain ⟨⟨z9, hz9, rfl⟩, k1, k2⟩ := hh; exact ⟨{ s with x := z9 }, _, rfl, (by simp [chd.But]), (by rintro _ ⟨⟩; exact dk.sets_on _ (by simp) _ rfl), hS.1.draw k1 k2, hz9⟩⟩), ?_⟩
            refine ⟨cht.quiet 1 rfl (by decide) (.inl rfl) (by simp) (fun s => .int .i64 (8 + s.x)) (by rintro s _ ⟨⟩; exact dk.sets_on _ (by simp) _ rfl) (fun s k' W hk' hS => by have h9 := hS.2; have hwr : IntKind.i64.wrap (8 + (s.x : Int)) = 8 + s.x := (by rw [IntKind.wrap_i64]; omega); simp [execOp, go_sem, Act.eval, dk.sets_get, List.lookup, hwr]), ?_⟩
            exact ⟨cht.quiet 1 rfl (by decide) (.inl rfl) (by simp) (fun s => .bool (decide ((K.length : Int) < 8 + s.x))) (by rintro s _ ⟨⟩; exact dk.sets_on _ (by simp) _ rfl) (fun s k' W hk' hS => by simp [execOp, go_sem, Act.eval, dk.sets_get, List.lookup]), trivial⟩
          case fin =>
            intro s x3 hS
            obtain ⟨hs3, hsx⟩ := hS
            have d1 : x3.cell? ⟨w.heap.size + 1, 1, none⟩ = some (.slice rr K.length rx) := bcell hs3.sb rfl
            have hs3z := hs3.size
            have HS3 : Hid (St p a len cap w ys K ya yc rr rx x3) := hs3
            clear hs3
            obtain ⟨sx, sy, sA, sT, sU, sV, sB⟩ := s
            simp only at hsx
            simp only [dk.sets, Act.put, List.setIfInBounds_toArray, List.set_cons_succ, List.set_cons_zero]
            cases hcb : decide ((K.length : Int) < 8 + (sx : Int)) with
            | true =>
              have hlt0 := of_decide_eq_true hcb
              have hle4 : K.length ≤ 8 := by omega
              clear hcb hlt0
              have h4 := HS3.out.alloc (.cells #[] 40)
              have h5 := h4.alloc (.cells #[.slice (some ⟨x3.heap.size, 0, none⟩) 0 0] 24)
              have hmade : (x3.alloc (.cells #[] 40)).ownsRow (w.heap.size + 2) 40 3 (.slice (some ⟨x3.heap.size, 0, none⟩) 0 0) 0 [] := World.ownsRow_made x3 #[] 0 hs3z (by unfold maxLen; omega) (by simp)
              obtain ⟨ra', rc', Y, hr, ⟨k3, k3f⟩, hst5⟩ := h5.appR (gb := (x3.alloc (.cells #[] 40)).heap.size) (q := ⟨x3.heap.size, 0, none⟩) (bnew _ _ _) (hmade.alloc _) (fun x hx => by
                have q2 := (HS3.out.dr.oy.lt x.block (by rw [hx]; rfl)).2
                show x.block ≠ x3.heap.size
                omega) (by omega) 25
              rw [World.size_alloc] at hr
              have HSM6 : Hid (Sm 500 ys ((K ++ [(⟨some ⟨x3.heap.size, 0, none⟩, 0, []⟩ : Rn)]).map (·.l))) := by
                have h9 := HSM3.out
                refine ⟨?_, by simp; omega, h9.yo, fun l hl e he => ?_⟩
                · rw [List.map_append, mga.tot_app]
                  have := h9.tt
                  show ys.length + (tot (K.map (·.l)) + (0 + 0)) ≤ 500
                  omega
                · rw [List.map_append] at hl
                  rcases List.mem_append.1 hl with hl | hl
                  · exact h9.ro l hl e he
                  · rw [List.mem_singleton.1 hl] at he; cases he
              have HLE : Hid ((K ++ [(⟨some ⟨x3.heap.size, 0, none⟩, 0, []⟩ : Rn)] : List Rn).length = K.length + 1) := by unfold Hid; simp
              have hlz2 : lenC (w.heap.size + 1) 1 (Y.setCell ⟨w.heap.size + 1, 1, none⟩ (.slice ra' (K.length + 1) rc')) = K.length + 1 := by
                have h9 := hst5.sb
                rw [HLE.out] at h9
                exact lenC_eq (bcell (j := 1) h9 rfl)
              have HLZ2 : Hid (lenC (w.heap.size + 1) 1 (Y.setCell ⟨w.heap.size + 1, 1, none⟩ (.slice ra' (K.length + 1) rc')) = K.length + 1) := hlz2
              have HST6 : Hid (St p a len cap w ys (K ++ [(⟨some ⟨x3.heap.size, 0, none⟩, 0, []⟩ : Rn)]) ya yc ra' rc' (Y.setCell ⟨w.heap.size + 1, 1, none⟩ (.slice ra' (K.length + 1) rc'))) := hst5
              clear hlz2 hst5 h4 h5 hmade
              go_wp2_with (at_builtin; refine cpr.wpList_append_run rfl _ _ _ _ rfl _ _ _ rfl rfl hr ?_)
              clear hr d1
              go_wp2
              go_roundw
              case rel => exact ⟨_, ra', rc', by rw [HLE.out]; omega, HSM6, HST6⟩
              case measure => rw [HLZ.out, HLZ2.out]; omega
            | false =>
              clear hcb
              have HSM2 : Hid (Sm 500 ys (K.map (·.l))) := HSM3
              have HTT : Hid (St p a len cap w ys K ya yc rr rx x3) := HS3
              clear HS3 d1
              have c0 : x3.cell? ⟨w.heap.size + 1, 0, none⟩ = some (.slice ya ys.length yc) := bcell HTT.out.sb rfl
              have c1 : x3.cell? ⟨w.heap.size + 1, 1, none⟩ = some (.slice rr K.length rx) := bcell HTT.out.sb rfl
              have q0 : x3.cell? ⟨w.heap.size, 0, none⟩ = some (.slice none 0 0) := bcell HTT.out.rb rfl
              have q1 : x3.cell? ⟨w.heap.size, 1, none⟩ = some (.slice none 0 0) := bcell HTT.out.rb rfl
              have r0 := bfree HTT.out.rb 0
              have r1 := bfree HTT.out.rb 1
              have HDN : Hid (∀ y0 y1, Tb w.heap.size (res2 x3 w.heap.size y0 y1) ys K ya yc rr rx ∧ Cur (res2 x3 w.heap.size y0 y1) p a len cap ∧ On p w (res2 x3 w.heap.size y0 y1)) := fun y0 y1 => HTT.out.done y0 y1
              clear HTT
              go_wp2
              exact bodyPost_ret (v := .agg #[.slice ya ys.length yc, .slice rr K.length rx]) (by simp [results, Try.results28, go_sem, q0, q1]) rfl ⟨⟨ys, K, ya, yc, rr, rx, rfl, HSM2.out, (HDN.out _ _).1⟩, (HDN.out _ _).2⟩
      by_cases z2 : z = 2
      · subst z2
        have d0 : x1.cell? ⟨w.heap.size + 1, 0, none⟩ = some (.slice ya ys.length yc) := bcell HT1.out.sb rfl
        have d0f := bfree HT1.out.sb 0
        have hny := HT1.out.newY
        have k9 : (x1.alloc (.cells #[] 40)).cell? ⟨w.heap.size + 1, 0, none⟩ = some (.slice ya ys.length yc) := bcell (HT1.out.alloc (.cells #[] 40)).sb rfl
        have k9f := bfree (HT1.out.alloc (.cells #[] 40)).sb 0
        have HNY : Hid (St p a len cap w [] ks (some ⟨x1.heap.size, 0, none⟩) 0 ra rc ((x1.alloc (.cells #[] 40)).setCell ⟨w.heap.size + 1, 0, none⟩ (.slice (some ⟨x1.heap.size, 0, none⟩) 0 0))) := hny
        have HSM0 : Hid (Sm 400 [] (ks.map (·.l))) := ⟨by rw [List.length_nil]; omega, by rw [List.length_map]; omega, fun e he => (by cases he), HSM.out.ro⟩
        clear hny HT1
        go_wp2
        go_loopw [99] (fun _ wr => ∃ (Y : List flP.Pr) (yy : Option Addr) (yx : Nat), Y.length ≤ 301 ∧ Hid (Sm (Y.length + 100) Y (ks.map (·.l))) ∧ Hid (St p a len cap w Y ks yy yx ra rc wr)) (fun _ wr => 400 - lenC (w.heap.size + 1) 0 wr)
        case atStart => exact ⟨[], some ⟨x1.heap.size, 0, none⟩, 0, by decide, ⟨by rw [List.length_nil]; omega, by rw [List.length_map]; omega, fun e he => (by cases he), HSM.out.ro⟩, HNY⟩
        case round =>
          obtain ⟨Y, yy, yx, hY, HSM3, hst2⟩ := hrel
          clear HNY HSM0 d0 d0f k9 k9f
          have hlz : lenC (w.heap.size + 1) 0 wr = Y.length := lenC_eq (bcell (j := 0) (v := .slice yy Y.length yx) hst2.out.sb rfl)
          have HLZ : Hid (lenC (w.heap.size + 1) 0 wr = Y.length) := hlz
          have hsz2 := hst2.out.size
          clear hlz
          go_wp2
          refine cht.region (σ := G) (ws := (fun s : G => [(93, .pointer (some ⟨w.heap.size + 1, 0, none⟩)), (94, .slice yy Y.length yx), (95, .int .i64 Y.length), (96, .pointer (some ⟨p, 0, none⟩)), (97, .int .i64 s.x), (98, .int .i64 (300 + s.x)), (99, .bool (decide ((Y.length : Int) < 300 + s.x)))])) (js := [4]) (S := (fun g k W => St p a len cap w Y ks yy yx ra rc W ∧ g.x < 2)) [93, 94, 95, 96, 97, 98, 99] ⟨0, 0, 0, ⟨#[]⟩, ⟨#[]⟩, undef, false⟩ (by kernel_rfl) (by kernel_rfl) (fun _ => rfl) (by kernel_rfl) (by decide) ⟨hst2.out.step (Below.refl _ _).drew, by decide⟩ ?each ?fin
          case each =>
            refine ⟨cht.quiet 1 rfl (by decide) (.inl rfl) (by simp) (fun s => .pointer (some ⟨w.heap.size + 1, 0, none⟩)) (by rintro s _ ⟨⟩; exact dk.sets_on _ (by simp) _ rfl) (fun s k' W hk' hS => by simp [execOp, go_sem, Act.eval, dk.sets_get, List.lookup]), ?_⟩
            refine ⟨cht.quiet 1 rfl (by decide) (.inl rfl) (by simp) (fun s => .slice yy Y.length yx) (by rintro s _ ⟨⟩; exact dk.sets_on _ (by simp) _ rfl) (fun s k' W hk' hS => by have c3 : W.cell? ⟨w.heap.size + 1, 0, none⟩ = some (.slice yy Y.length yx) := bcell hS.1.sb rfl; simp [execOp, go_sem, Act.eval, dk.sets_get, List.lookup, c3]), ?_⟩
            refine ⟨cht.quiet 1 rfl (by decide) (.inl rfl) (by simp) (fun s => .int .i64 Y.length) (by rintro s _ ⟨⟩; exact dk.sets_on _ (by simp) _ rfl) (fun s k' W hk' hS => by simp [go_sem, Act.eval, dk.sets_get, List.lookup]), ?_⟩
            refine ⟨cht.quiet 1 rfl (by decide) (.inl rfl) (by simp) (fun s => .pointer (some ⟨p, 0, none⟩)) (by rintro s _ ⟨⟩; exact dk.sets_on _ (by simp) _ rfl) (fun s k' W hk' hS => by simp [execOp, go_sem, Act.eval, dk.sets_get, List.lookup]), ?_⟩
            refine ⟨chd.call 0 [4, 5, 6] [97, 98, 99] (by kernel_rfl) (by kernel_rfl) rfl (by decide) rfl (.inl rfl) (by simp) 32 (fun s => #[.pointer (some ⟨p, 0, none⟩), .int .i64 2]) (fun s W hS => by exact ⟨by simp [go_sem, Act.eval, dk.sets_get, List.lookup], (draw_below p a len cap 2 W (by omega) hS.1.cur).mono fun e w9 hh => by obtain ⟨⟨z9, hz9, rfl⟩, k1, k2⟩ := hh; exact ⟨{ s with x := z9 }, _, rfl, (by simp [chd.But]), (by rintro _ ⟨⟩; exact dk.sets_on _ (by simp) _ rfl), hS.1.draw k1 k2, hz9⟩⟩), ?_⟩
            refine ⟨cht.quiet 1 rfl (by decide) (.inl rfl) (by simp) (fun s => .int .i64 (300 + s.x)) (by rintro s _ ⟨⟩; exact dk.sets_on _ (by simp) _ rfl) (fun s k' W hk' hS => by have h9 := hS.2; have hwr : IntKind.i64.wrap (300 + (s.x : Int)) = 300 + s.x := (by rw [IntKind.wrap_i64]; omega); simp [execOp, go_sem, Act.eval, dk.sets_get, List.lookup, hwr]), ?_⟩
            exact ⟨cht.quiet 1 rfl (by decide) (.inl rfl) (by simp) (fun s => .bool (decide ((Y.length : Int) < 300 + s.x))) (by rintro s _ ⟨⟩; exact dk.sets_on _ (by simp) _ rfl) (fun s k' W hk' hS => by simp [execOp, go_sem, Act.eval, dk.sets_get, List.lookup]), trivial⟩
          case fin =>
            intro s x3 hS
            obtain ⟨hs3, hsx⟩ := hS
            have d0 : x3.cell? ⟨w.heap.size + 1, 0, none⟩ = some (.slice yy Y.length yx) := bcell hs3.sb rfl
            have hs3z := hs3.size
            have HS3 : Hid (St p a len cap w Y ks yy yx ra rc x3) := hs3
            clear hs3
            obtain ⟨sx, sy, sA, sT, sU, sV, sB⟩ := s
            simp only at hsx
            simp only [dk.sets, Act.put, List.setIfInBounds_toArray, List.set_cons_succ, List.set_cons_zero]
            cases hcb : decide ((Y.length : Int) < 300 + (sx : Int)) with
            | true =>
              have hlt0 := of_decide_eq_true hcb
              have hle4 : Y.length ≤ 300 := by omega
              clear hcb hlt0
              have hw9 : IntKind.i64.wrap (1000 + (Y.length : Int)) = 1000 + Y.length := by rw [IntKind.wrap_i64]; omega
              go_wp2
              refine cht.region (σ := G) (ws := (fun s : G => [(100, .pointer (some ⟨w.heap.size + 1, 0, none⟩)), (101, .slice yy Y.length yx), (102, .pointer (some ⟨w.heap.size + 1, 0, none⟩)), (103, .slice yy Y.length yx), (104, .int .i64 Y.length), (105, .int .i64 (1000 + Y.length)), (106, .string s.t), (107, .string (⟨#[107]⟩ ++ s.t)), (108, .agg #[.string (⟨#[107]⟩ ++ s.t), .string ⟨#[]⟩, .bool false]), (109, .slice (some ⟨s.y, 0, none⟩) 1 1), (110, s.v), (111, .pointer (some ⟨w.heap.size + 1, 0, none⟩))])) (js := [6, 7, 8, 9, 10, 12]) (S := (fun g k W => (k ≤ 4 → St p a len cap w Y ks yy yx ra rc W) ∧ (1 ≤ k → g.t.size ≤ 20) ∧ (k = 4 → W.heap[g.y]? = some (.cells #[.string (⟨#[107]⟩ ++ g.t), .string ⟨#[]⟩, .bool false] 40 (0, 0))) ∧ (k = 5 → ∃ ya' yc', g.v = .slice ya' (Y.length + 1) yc' ∧ W.cell? ⟨w.heap.size + 1, 0, none⟩ = some (.slice yy Y.length yx) ∧ W.frozen? ⟨w.heap.size + 1, 0, none⟩ = false ∧ St p a len cap w (Y ++ [⟨⟨#[107]⟩ ++ g.t, ⟨#[]⟩, false⟩]) ks ya' yc' ra rc (W.setCell ⟨w.heap.size + 1, 0, none⟩ (.slice ya' (Y.length + 1) yc'))) ∧ (k = 6 → ∃ ya' yc', St p a len cap w (Y ++ [⟨⟨#[107]⟩ ++ g.t, ⟨#[]⟩, false⟩]) ks ya' yc' ra rc W) ∧ (k ≤ 5 → W.cell? ⟨w.heap.size + 1, 0, none⟩ = some (.slice yy Y.length yx)))) [100, 101, 102, 103, 104, 105, 106, 107, 108, 109, 110, 111] ⟨0, 0, 0, ⟨#[]⟩, ⟨#[]⟩, undef, false⟩ (by kernel_rfl) (by kernel_rfl) (fun _ => rfl) (by kernel_rfl) (by decide) ⟨fun _ => HS3.out.step (Below.refl _ _).drew, fun h => (by omega), fun h => (by omega), fun h => (by omega), fun h => (by omega), fun _ => bcell (HS3.out.step (Below.refl _ _).drew).sb rfl⟩ ?each ?fin
              case each =>
                refine ⟨cht.quiet 6 rfl (by decide) (.inl rfl) (by simp) (fun s => .pointer (some ⟨w.heap.size + 1, 0, none⟩)) (by rintro s _ ⟨⟩; exact dk.sets_on _ (by simp) _ rfl) (fun s k' W hk' hS => by simp [execOp, go_sem, Act.eval, dk.sets_get, List.lookup]), ?_⟩
                refine ⟨cht.quiet 5 rfl (by decide) (.inr ⟨12, _, rfl, rfl, ⟨1, .phase⟩, by simp, rfl, rfl⟩) (by simp) (fun s => .slice yy Y.length yx) (by rintro s _ ⟨⟩; exact dk.sets_on _ (by simp) _ rfl) (fun s k' W hk' hS => by have c0 : W.cell? ⟨w.heap.size + 1, 0, none⟩ = some (.slice yy Y.length yx) := hS.2.2.2.2.2 (by omega); simp [execOp, go_sem, Act.eval, dk.sets_get, List.lookup, c0]), ?_⟩
                refine ⟨cht.quiet 6 rfl (by decide) (.inl rfl) (by simp) (fun s => .pointer (some ⟨w.heap.size + 1, 0, none⟩)) (by rintro s _ ⟨⟩; exact dk.sets_on _ (by simp) _ rfl) (fun s k' W hk' hS => by simp [execOp, go_sem, Act.eval, dk.sets_get, List.lookup]), ?_⟩
                refine ⟨cht.quiet 5 rfl (by decide) (.inr ⟨12, _, rfl, rfl, ⟨3, .phase⟩, by simp, rfl, rfl⟩) (by simp) (fun s => .slice yy Y.length yx) (by rintro s _ ⟨⟩; exact dk.sets_on _ (by simp) _ rfl) (fun s k' W hk' hS => by have c0 : W.cell? ⟨w.heap.size + 1, 0, none⟩ = some (.slice yy Y.length yx) := hS.2.2.2.2.2 (by omega); simp [execOp, go_sem, Act.eval, dk.sets_get, List.lookup, c0]), ?_⟩
                refine ⟨cht.quiet 6 rfl (by decide) (.inl rfl) (by simp) (fun s => .int .i64 Y.length) (by rintro s _ ⟨⟩; exact dk.sets_on _ (by simp) _ rfl) (fun s k' W hk' hS => by simp [go_sem, Act.eval, dk.sets_get, List.lookup]), ?_⟩
                refine ⟨cht.quiet 6 rfl (by decide) (.inl rfl) (by simp) (fun s => .int .i64 (1000 + Y.length)) (by rintro s _ ⟨⟩; exact dk.sets_on _ (by simp) _ rfl) (fun s k' W hk' hS => by simp [execOp, go_sem, Act.eval, dk.sets_get, List.lookup, hw9]), ?_⟩
                refine ⟨chd.call 0 [6, 7, 8, 9, 10, 11, 12] [106, 107, 108] (by kernel_rfl) (by kernel_rfl) rfl (by decide) rfl (.inl rfl) (by simp) 54 (fun s => #[.int .i64 (1000 + Y.length)]) (fun s W hS => by exact ⟨by simp [go_sem, Act.eval, dk.sets_get, List.lookup], (dt.spec_dec (1000 + Y.length) W (by omega) (by omega)).mono fun e w9 hh => by obtain ⟨rfl, rfl⟩ := hh; exact ⟨{ s with t := ⟨(Lib.itoa (1000 + Y.length)).toArray⟩ }, _, rfl, (by simp [chd.But]), (by rintro _ ⟨⟩; exact dk.sets_on _ (by simp) _ rfl), fun _ => hS.1 (by omega), fun _ => dec_small Y.length (by omega), fun h => (by omega), fun h => (by omega), fun h => (by omega), fun _ => bcell (hS.1 (by omega)).sb rfl⟩⟩), ?_⟩
                refine ⟨chd.eff 1 [7, 8, 9, 10, 11, 12] [107, 108] (by kernel_rfl) (by kernel_rfl) rfl (by decide) rfl (.inr ⟨⟨6, .data⟩, by simp, rfl, rfl⟩) (by simp) (fun s W hS => by have h9 := hS.2.1 (by omega); have h8 : 1 + s.t.size ≤ 9223372036854775807 := (by omega); exact ⟨s, .string (⟨#[107]⟩ ++ s.t), W, (by simp [chd.But]), (by rintro _ ⟨⟩; exact dk.sets_on _ (by simp) _ rfl), (by simp [execOp, go_sem, Act.eval, dk.sets_get, List.lookup, h8]), fun _ => hS.1 (by omega), fun _ => hS.2.1 (by omega), fun h => (by omega), fun h => (by omega), fun h => (by omega), fun _ => bcell (hS.1 (by omega)).sb rfl⟩), ?_⟩
                refine ⟨chd.eff 2 [8, 9, 10, 11, 12] [108] (by kernel_rfl) (by kernel_rfl) rfl (by decide) rfl (.inr ⟨⟨7, .data⟩, by simp, rfl, rfl⟩) (by simp) (fun s W hS => by exact ⟨s, .agg #[.string (⟨#[107]⟩ ++ s.t), .string ⟨#[]⟩, .bool false], W, (by simp [chd.But]), (by rintro _ ⟨⟩; exact dk.sets_on _ (by simp) _ rfl), (by simp [execOp, go_sem, Act.eval, dk.sets_get, List.lookup]), fun _ => hS.1 (by omega), fun _ => hS.2.1 (by omega), fun h => (by omega), fun h => (by omega), fun h => (by omega), fun _ => bcell (hS.1 (by omega)).sb rfl⟩), ?_⟩
                refine ⟨chd.eff 3 [9, 10, 11, 12] [109] (by kernel_rfl) (by kernel_rfl) rfl (by decide) rfl (.inr ⟨⟨8, .data⟩, by simp, rfl, rfl⟩) (by simp) (fun s W hS => by exact ⟨{ s with y := W.heap.size }, .slice (some ⟨W.heap.size, 0, none⟩) 1 1, W.alloc (.cells #[.string (⟨#[107]⟩ ++ s.t), .string ⟨#[]⟩, .bool false] 40), (by simp [chd.But]), (by rintro _ ⟨⟩; exact dk.sets_on _ (by simp) _ rfl), (by simp [execOp, go_sem, Act.eval, dk.sets_get, List.lookup]), fun _ => (hS.1 (by omega)).alloc _, fun _ => hS.2.1 (by omega), fun _ => bnew W _ _, fun h => (by omega), fun h => (by omega), fun _ => bcell ((hS.1 (by omega)).alloc _).sb rfl⟩), ?_⟩
                refine ⟨chd.eff 4 [10, 11, 12] [110] (by kernel_rfl) (by kernel_rfl) rfl (by decide) rfl (.inr ⟨⟨9, .data⟩, by simp, rfl, rfl⟩) (by simp) (fun s W hS => by obtain ⟨ya', yc', Y', hr, ⟨n1, n2⟩, hst⟩ := (hS.1 (by omega)).appY (hS.2.2.1 rfl) (by omega) 24; exact ⟨{ s with v := .slice ya' (Y.length + 1) yc' }, .slice ya' (Y.length + 1) yc', Y', (by simp [chd.But]), (by rintro _ ⟨⟩; exact dk.sets_on _ (by simp) _ rfl), chd.app_run rfl (by simp [Act.eval, dk.sets_get, List.lookup]) (by simp [Act.eval, dk.sets_get, List.lookup]) hr, fun h => (by omega), fun _ => hS.2.1 (by omega), fun h => (by omega), fun _ => ⟨ya', yc', rfl, n1, n2, hst⟩, fun h => (by omega), fun _ => n1⟩), ?_⟩
                refine ⟨cht.quiet 6 rfl (by decide) (.inl rfl) (by simp) (fun s => .pointer (some ⟨w.heap.size + 1, 0, none⟩)) (by rintro s _ ⟨⟩; exact dk.sets_on _ (by simp) _ rfl) (fun s k' W hk' hS => by simp [execOp, go_sem, Act.eval, dk.sets_get, List.lookup]), ?_⟩
                exact ⟨cht.sto 5 rfl (by decide) rfl (.inr ⟨⟨10, .data⟩, by simp, rfl, rfl⟩) (by simp) rfl (fun s W hS => by obtain ⟨ya', yc', hv, n1, n2, hst⟩ := hS.2.2.2.1 rfl; exact ⟨W.setCell ⟨w.heap.size + 1, 0, none⟩ (.slice ya' (Y.length + 1) yc'), by simp [execOp, go_sem, Act.eval, dk.sets_get, List.lookup, hv, n1, n2], fun h => (by omega), fun _ => hS.2.1 (by omega), fun h => (by omega), fun h => (by omega), fun _ => ⟨ya', yc', hst⟩, fun h => (by omega)⟩), trivial⟩
              case fin =>
                intro s x4 hS
                obtain ⟨ya', yc', hst5⟩ := hS.2.2.2.2.1 rfl
                have hst6 := hS.2.1 (by decide)
                have HSM6 : Hid (Sm ((Y ++ [⟨⟨#[107]⟩ ++ s.t, ⟨#[]⟩, false⟩] : List flP.Pr).length + 100) (Y ++ [⟨⟨#[107]⟩ ++ s.t, ⟨#[]⟩, false⟩]) (ks.map (·.l))) := by
                  have h9 := HSM3.out
                  refine ⟨by have := h9.tt; simp; omega, by have := h9.rl; rw [List.length_append]; omega, fun e he => ?_, h9.ro⟩
                  rcases List.mem_append.1 he with he | he
                  · exact h9.yo e he
                  · rw [List.mem_singleton.1 he]
                    refine ⟨?_, Nat.zero_le _⟩
                    show (⟨#[107]⟩ ++ s.t : ByteArray).size ≤ 101
                    rw [ByteArray.size_append]
                    have : (⟨#[107]⟩ : ByteArray).size = 1 := rfl
                    omega
                have HLE : Hid ((Y ++ [⟨⟨#[107]⟩ ++ s.t, ⟨#[]⟩, false⟩] : List flP.Pr).length = Y.length + 1) := by unfold Hid; simp
                have hlz2 : lenC (w.heap.size + 1) 0 x4 = Y.length + 1 := by
                  have h9 := hst5.sb
                  rw [HLE.out] at h9
                  exact lenC_eq (bcell (j := 0) h9 rfl)
                have HLZ2 : Hid (lenC (w.heap.size + 1) 0 x4 = Y.length + 1) := hlz2
                have HST6 : Hid (St p a len cap w (Y ++ [⟨⟨#[107]⟩ ++ s.t, ⟨#[]⟩, false⟩]) ks ya' yc' ra rc x4) := hst5
                clear hlz2 hst5 hst6 hS HS3 d0
                simp only [dk.sets, Act.put, List.setIfInBounds_toArray, List.set_cons_succ, List.set_cons_zero]
                go_wp2
                go_roundw
                case rel => exact ⟨_, ya', yc', by rw [HLE.out]; omega, HSM6, HST6⟩
                case measure => rw [HLZ.out, HLZ2.out]; omega
            | false =>
              clear hcb
              have HSM2 : Hid (Sm 500 Y (ks.map (·.l))) := HSM3.out.more (by omega)
              have HTT : Hid (St p a len cap w Y ks yy yx ra rc x3) := HS3
              clear HS3 d0
              have c0 : x3.cell? ⟨w.heap.size + 1, 0, none⟩ = some (.slice yy Y.length yx) := bcell HTT.out.sb rfl
              have c1 : x3.cell? ⟨w.heap.size + 1, 1, none⟩ = some (.slice ra ks.length rc) := bcell HTT.out.sb rfl
              have q0 : x3.cell? ⟨w.heap.size, 0, none⟩ = some (.slice none 0 0) := bcell HTT.out.rb rfl
              have q1 : x3.cell? ⟨w.heap.size, 1, none⟩ = some (.slice none 0 0) := bcell HTT.out.rb rfl
              have r0 := bfree HTT.out.rb 0
              have r1 := bfree HTT.out.rb 1
              have HDN : Hid (∀ y0 y1, Tb w.heap.size (res2 x3 w.heap.size y0 y1) Y ks yy yx ra rc ∧ Cur (res2 x3 w.heap.size y0 y1) p a len cap ∧ On p w (res2 x3 w.heap.size y0 y1)) := fun y0 y1 => HTT.out.done y0 y1
              clear HTT
              go_wp2
              exact bodyPost_ret (v := .agg #[.slice yy Y.length yx, .slice ra ks.length rc]) (by simp [results, Try.results28, go_sem, q0, q1]) rfl ⟨⟨Y, ks, yy, yx, ra, rc, rfl, HSM2.out, (HDN.out _ _).1⟩, (HDN.out _ _).2⟩
      have f0 : ((z : Int) == 0) = false := by simp; omega
      have f1 : ((z : Int) == 1) = false := by simp; omega
      have f2 : ((z : Int) == 2) = false := by simp; omega
      have HSM2 : Hid (Sm 500 ys (ks.map (·.l))) := HSM.out.more (by omega)
      have HTT : Hid (St p a len cap w ys ks ya yc ra rc x1) := HT1
      clear HT1
      have c0 : x1.cell? ⟨w.heap.size + 1, 0, none⟩ = some (.slice ya ys.length yc) := bcell HTT.out.sb rfl
      have c1 : x1.cell? ⟨w.heap.size + 1, 1, none⟩ = some (.slice ra ks.length rc) := bcell HTT.out.sb rfl
      have q0 : x1.cell? ⟨w.heap.size, 0, none⟩ = some (.slice none 0 0) := bcell HTT.out.rb rfl
      have q1 : x1.cell? ⟨w.heap.size, 1, none⟩ = some (.slice none 0 0) := bcell HTT.out.rb rfl
      have r0 := bfree HTT.out.rb 0
      have r1 := bfree HTT.out.rb 1
      have HDN : Hid (∀ y0 y1, Tb w.heap.size (res2 x1 w.heap.size y0 y1) ys ks ya yc ra rc ∧ Cur (res2 x1 w.heap.size y0 y1) p a len cap ∧ On p w (res2 x1 w.heap.size y0 y1)) := fun y0 y1 => HTT.out.done y0 y1
      clear HTT
      go_wp2
      exact bodyPost_ret (v := .agg #[.slice ya ys.length yc, .slice ra ks.length rc]) (by simp [results, Try.results28, go_sem, q0, q1]) rfl ⟨⟨ys, ks, ya, yc, ra, rc, rfl, HSM2.out, (HDN.out _ _).1⟩, (HDN.out _ _).2⟩
end Go.Proofs.Ytokaoafbgebelaa.dtt

/- The specification's draws of FnTable and FnMerged: a table and what is asked of it. -/
namespace Go.Proofs.Ytokaoafbgebelaa.dts
open Go.ChangeShapes Go.WideShapes Go.ChangeAt Go.RowKit Go.Proofs.Ytokaoafbgebelaa.fl Go.Proofs.Ytokaoafbgebelaa.fo Go.Proofs.Ytokaoafbgebelaa.dw Go.Proofs.Ytokaoafbgebelaa.rn Go.Proofs.Ytokaoafbgebelaa.rc Go.Proofs.Ytokaoafbgebelaa.ro Go.Proofs.Ytokaoafbgebelaa.tk Go.Proofs.Ytokaoafbgebelaa.tko Go.Proofs.Ytokaoafbgebelaa.tan Go.Proofs.Ytokaoafbgebelaa.ptp Go.Proofs.Ytokaoafbgebelaa.dlt Go.Proofs.Ytokaoafbgebelaa.dtt
set_option linter.unusedVariables false

def keysF : List ByteArray := [⟨#[]⟩, ⟨#[97]⟩, ⟨#[98]⟩, ⟨#[97, 97]⟩]
theorem keysF_in : ∀ z ∈ keysF, z.size ≤ 2 := by decide
def keysO : List ByteArray := [⟨#[]⟩, ⟨#[98]⟩, ⟨#[100]⟩, ⟨#[122, 122]⟩, ⟨#[97]⟩]
theorem keysO_in : ∀ z ∈ keysO, z.size ≤ 2 := by decide
/-- what stands on the way of a draw behind the table's -/
structure Dz (a : Option Addr) (len cap : Nat) (w : World) (ys : List flP.Pr) (ks : List Rn) (ya : Option Addr) (yc : Nat) (ra : Option Addr) (rc : Nat) (W : World) : Prop where
  rb : W.heap[w.heap.size]? = some (.cells #[.slice none 0 0, .slice none 0 0] 27 (0, 0))
  cur : Cur W (w.heap.size + 1) a len cap
  bel : Below w.heap.size w W
  dr : Tb (w.heap.size + 2) W ys ks ya yc ra rc
section
variable {a : Option Addr} {len cap : Nat} {w W W' : World} {ys : List flP.Pr} {ks : List Rn} {ya : Option Addr} {yc : Nat} {ra : Option Addr} {rc : Nat}
theorem Dz.draw (h : Dz a len cap w ys ks ya yc ra rc W) (hc : Cur W' (w.heap.size + 1) a len cap) (hb : On (w.heap.size + 1) W W') : Dz a len cap w ys ks ya yc ra rc W' :=
  ⟨st_block h.rb hb (by omega), hc, h.bel.trans (hb.below (by omega) (by have := (Array.getElem?_eq_some_iff.1 h.rb).1; omega)), h.dr.on hb (by omega)⟩
theorem Dz.step (h : Dz a len cap w ys ks ya yc ra rc W) (hb : Below W.heap.size W W') : Dz a len cap w ys ks ya yc ra rc W' :=
  ⟨bstay h.rb hb (Array.getElem?_eq_some_iff.1 h.rb).1, h.cur.below hb, h.bel.trans (hb.mono h.bel.size), h.dr.below hb⟩
theorem Dz.done (h : Dz a len cap w ys ks ya yc ra rc W) (x0 x1 : Value) : Tb w.heap.size (res2 W w.heap.size x0 x1) ys ks ya yc ra rc ∧ Below w.heap.size w (res2 W w.heap.size x0 x1) :=
  ⟨(tb_res2 h.dr h.rb ..).low (by omega), ((h.bel.setCell (Nat.le_refl _) _).setCell (Nat.le_refl _) _)⟩
theorem code_at (hc : dw.Code w w.heap.size a len) : dw.Code (w.alloc (.cells #[.slice none 0 0, .slice none 0 0] 27)) (w.alloc (.cells #[.slice none 0 0, .slice none 0 0] 27)).heap.size a len := (hc.below ((Below.refl _ _).alloc (Nat.le_refl _) _) (Nat.le_refl _)).mono (by simp)
end
set_option maxRecDepth 100000 in
set_option maxHeartbeats 2000000 in
theorem draw_Put (a : Option Addr) (len cap : Nat) (w : World) (hlen : len ≤ 1048576) (hc : dw.Code w w.heap.size a len) :
    Calls Try.prog 6 #[.slice a len cap] w fun e w' => (∃ (ys : List flP.Pr) (ks : List Rn) (ya : Option Addr) (yc : Nat) (ra : Option Addr) (rc : Nat) (k v : ByteArray), e = .returned (.tuple #[.agg #[.slice ya ys.length yc, .slice ra ks.length rc], .string k, .string v]) ∧ Sm 500 ys (ks.map (·.l)) ∧ Tb w.heap.size w' ys ks ya yc ra rc ∧ k.size ≤ 101 ∧ v.size ≤ 4001) ∧ Below w.heap.size w w' ∧ w.heap.size < w'.heap.size := by
  have h1 := draw_new a len cap _ hlen (code_at hc)
  have HR0 : Hid ((w.alloc (.cells #[.slice none 0 0, .slice none 0 0] 27)).heap[w.heap.size]? = some (.cells #[.slice none 0 0, .slice none 0 0] 27 (0, 0))) := bnew w _ _
  have HB0 : Hid (Below w.heap.size w (w.alloc (.cells #[.slice none 0 0, .slice none 0 0] 27))) := (Below.refl _ _).alloc (Nat.le_refl _) _
  clear hc
  go_enter Try.func6, Try.ntmps6
  go_wp2_with (go_at_call 27; fail)
  refine h1.mono ?_
  rintro e w1 ⟨rfl, hc1, hb1⟩
  rw [World.size_alloc] at hc1 hb1
  have hR1 := bstay HR0.out hb1 (by omega)
  have hB1 := HB0.out.trans (hb1.mono (by omega))
  have h2 := draw_table (w.heap.size + 1) a len cap w1 hc1
  have hlt1 := hc1.lt
  have HR1 : Hid (w1.heap[w.heap.size]? = some (.cells #[.slice none 0 0, .slice none 0 0] 27 (0, 0))) := hR1
  have HB1 : Hid (Below w.heap.size w w1) := hB1
  clear h1 hc1 hb1 hR1 hB1 HR0 HB0
  go_wp2_with (go_at_call 28; fail)
  refine h2.mono ?_
  rintro e w2 ⟨⟨ys, ks, ya, yc, ra, rc, rfl, hsm, hdr⟩, hc2, hb2⟩
  have HD2 : Hid (Dz a len cap w ys ks ya yc ra rc w2) := ⟨st_block HR1.out hb2 (by omega), hc2, HB1.out.trans (hb2.below (by omega) (by omega)), hdr.low (by omega)⟩
  have HSM : Hid (Sm 500 ys (ks.map (·.l))) := hsm
  have hsz2 := hb2.size
  clear h2 hsm hdr hc2 hb2 HR1 HB1
  have HN2 : Hid ((w2.alloc (.cells #[.slice ya ys.length yc, .slice ra ks.length rc] 27)).heap[w2.heap.size]? = some (.cells #[.slice ya ys.length yc, .slice ra ks.length rc] 27 (0, 0))) := bnew w2 _ _
  have HD3 : Hid (Dz a len cap w ys ks ya yc ra rc (w2.alloc (.cells #[.slice ya ys.length yc, .slice ra ks.length rc] 27))) := HD2.out.step ((Below.refl _ _).alloc (Nat.le_refl _) _)
  have hne2 : w2.heap.size ≠ w.heap.size + 1 := by omega
  have g1 := dkt.draw_key (w.heap.size + 1) a len cap _ HD3.out.cur
  go_wp2_with (go_at_call 29; fail)
  refine g1.mono ?_
  rintro e w3 ⟨⟨kk, hkk, rfl⟩, hc3, hb3⟩
  have HD4 : Hid (Dz a len cap w ys ks ya yc ra rc w3) := HD3.out.draw hc3 hb3
  have HN4 : Hid (w3.heap[w2.heap.size]? = some (.cells #[.slice ya ys.length yc, .slice ra ks.length rc] 27 (0, 0))) := st_block HN2.out hb3 (by omega)
  have hsz3 : w2.heap.size < w3.heap.size := (Array.getElem?_eq_some_iff.1 HN4.out).1
  have g2 := draw_once (w.heap.size + 1) a len cap 30 w3 (by omega) HD4.out.cur
  clear g1 hc3 hb3 HD3 HN2 HD2
  go_wp2_with (go_at_call 30; fail)
  refine g2.mono ?_
  rintro e w4 ⟨⟨bo, rfl⟩, hc4, hb4⟩
  have HD8 : Hid (Dz a len cap w ys ks ya yc ra rc w4) := HD4.out.draw hc4 hb4
  have HN8 : Hid (w4.heap[w2.heap.size]? = some (.cells #[.slice ya ys.length yc, .slice ra ks.length rc] 27 (0, 0))) := st_block HN4.out hb4 (by omega)
  have hsz4 : w2.heap.size < w4.heap.size := (Array.getElem?_eq_some_iff.1 HN8.out).1
  clear g2 hc4 hb4 HD4 HN4
  cases bo with
  | true =>
    go_wp2
    refine cht.region (σ := G) (ws := (fun s : G => [(16, .agg #[.slice ya ys.length yc, .slice ra ks.length rc]), (17, .string kk), (18, .pointer (some ⟨w.heap.size + 1, 0, none⟩)), (19, .pointer (some ⟨w.heap.size + 1, 0, none⟩)), (20, .int .i64 s.x), (21, .int .i64 (4000 + (s.x : Int))), (22, .string s.t), (3, .string kk), (4, .string s.t)])) (js := [4, 6, 7]) (S := (fun g k W => (k ≤ 2 → Dz a len cap w ys ks ya yc ra rc W ∧ W.heap[w2.heap.size]? = some (.cells #[.slice ya ys.length yc, .slice ra ks.length rc] 27 (0, 0))) ∧ (g.x < 2 ∧ g.t.size ≤ 4001) ∧ (k = 3 → Tb w.heap.size W ys ks ya yc ra rc ∧ Below w.heap.size w W ∧ W.heap[w.heap.size]? = some (.cells #[.slice ya ys.length yc, .slice ra ks.length rc] 27 (0, 0))))) [16, 17, 18, 19, 20, 21, 22, 3, 4] ⟨0, 0, 0, ⟨#[]⟩, ⟨#[]⟩, undef, false⟩ (by kernel_rfl) (by kernel_rfl) (fun _ => rfl) (by kernel_rfl) (by decide) ⟨fun _ => ⟨HD8.out.step (Below.refl _ _).drew, bstay HN8.out (Below.refl _ _).drew (by have := (Array.getElem?_eq_some_iff.1 HN8.out).1; omega)⟩, ⟨by decide, by decide⟩, fun h => (by omega)⟩ ?each ?fin
    case each =>
      refine ⟨cht.quiet 2 rfl (by decide) (.inr ⟨7, _, rfl, rfl, ⟨0, .data⟩, by simp, rfl, rfl⟩) (by simp) (fun s => .agg #[.slice ya ys.length yc, .slice ra ks.length rc]) (by rintro s _ ⟨⟩; exact dk.sets_on _ (by simp) _ rfl) (fun s k' W hk' hS => by obtain ⟨hZ, hN⟩ := hS.1 hk'; have c0 : W.cell? ⟨w2.heap.size, 0, none⟩ = some (.slice ya ys.length yc) := bcell hN rfl; have c1 : W.cell? ⟨w2.heap.size, 1, none⟩ = some (.slice ra ks.length rc) := bcell hN rfl; simp [execOp, go_sem, Act.eval, dk.sets_get, List.lookup, c0, c1]), ?_⟩
      refine ⟨cht.quiet 3 rfl (by decide) (.inl rfl) (by simp) (fun s => .string kk) (by rintro s _ ⟨⟩; exact dk.sets_on _ (by simp) _ rfl) (fun s k' W hk' hS => by simp [execOp, go_sem, Act.eval, dk.sets_get, List.lookup]), ?_⟩
      refine ⟨cht.quiet 3 rfl (by decide) (.inl rfl) (by simp) (fun s => .pointer (some ⟨w.heap.size + 1, 0, none⟩)) (by rintro s _ ⟨⟩; exact dk.sets_on _ (by simp) _ rfl) (fun s k' W hk' hS => by simp [execOp, go_sem, Act.eval, dk.sets_get, List.lookup]), ?_⟩
      refine ⟨cht.quiet 3 rfl (by decide) (.inl rfl) (by simp) (fun s => .pointer (some ⟨w.heap.size + 1, 0, none⟩)) (by rintro s _ ⟨⟩; exact dk.sets_on _ (by simp) _ rfl) (fun s k' W hk' hS => by simp [execOp, go_sem, Act.eval, dk.sets_get, List.lookup]), ?_⟩
      refine ⟨chd.call 0 [4, 5, 6, 7, 8, 9] [20, 21] (by kernel_rfl) (by kernel_rfl) rfl (by decide) rfl (.inl rfl) (by simp) 32 (fun s => #[.pointer (some ⟨w.heap.size + 1, 0, none⟩), .int .i64 2]) (fun s W hS => by exact ⟨by simp [go_sem, Act.eval, dk.sets_get, List.lookup], (draw_below (w.heap.size + 1) a len cap 2 W (by omega) (hS.1 (by omega)).1.cur).mono fun e w9 hh => by obtain ⟨⟨z9, hz9, rfl⟩, k1, k2⟩ := hh; exact ⟨{ s with x := z9 }, _, rfl, (by simp [chd.But]), (by rintro _ ⟨⟩; exact dk.sets_on _ (by simp) _ rfl), fun h => ⟨(hS.1 (by omega)).1.draw k1 k2, st_block (hS.1 (by omega)).2 k2 (by omega)⟩, ⟨hz9, hS.2.1.2⟩, fun h => (by omega)⟩⟩), ?_⟩
      refine ⟨cht.quiet 3 rfl (by decide) (.inl rfl) (by simp) (fun s => .int .i64 (4000 + (s.x : Int))) (by rintro s _ ⟨⟩; exact dk.sets_on _ (by simp) _ rfl) (fun s k' W hk' hS => by have h9 := hS.2.1.1; have hwr : IntKind.i64.wrap (4000 + (s.x : Int)) = 4000 + (s.x : Int) := (by rw [IntKind.wrap_i64]; omega); simp [execOp, go_sem, Act.eval, dk.sets_get, List.lookup, hwr]), ?_⟩
      refine ⟨chd.call 1 [6, 7, 8, 9] [22, 4] (by kernel_rfl) (by kernel_rfl) rfl (by decide) rfl (.inr ⟨⟨4, .chain⟩, by simp, rfl, rfl⟩) (by simp) 31 (fun s => #[.pointer (some ⟨w.heap.size + 1, 0, none⟩), .int .i64 (4000 + (s.x : Int))]) (fun s W hS => by have h9 := draw_bytes (w.heap.size + 1) a len cap (4000 + s.x) W (by have := hS.2.1.1; omega) (hS.1 (by omega)).1.cur; rw [show (((4000 + s.x : Nat)) : Int) = 4000 + (s.x : Int) by omega] at h9; exact ⟨by simp [go_sem, Act.eval, dk.sets_get, List.lookup], h9.mono fun e w9 hh => by obtain ⟨⟨z9, hz9, rfl⟩, k1, k2⟩ := hh; exact ⟨{ s with t := z9 }, _, rfl, (by simp [chd.But]), (by rintro _ ⟨⟩; exact dk.sets_on _ (by simp) _ rfl), fun h => ⟨(hS.1 (by omega)).1.draw k1 k2, st_block (hS.1 (by omega)).2 k2 (by omega)⟩, ⟨hS.2.1.1, (by have h8 := hS.2.1.1; show z9.size ≤ 4001; omega)⟩, fun h => (by omega)⟩⟩), ?_⟩
      refine ⟨cht.sto 2 rfl (by decide) rfl (.inr ⟨⟨6, .chain⟩, by simp, rfl, rfl⟩) (by simp) rfl (fun s W hS => by obtain ⟨hZ, hN⟩ := hS.1 (by omega); have q0 : W.cell? ⟨w.heap.size, 0, none⟩ = some (.slice none 0 0) := bcell hZ.rb rfl; have q1 : W.cell? ⟨w.heap.size, 1, none⟩ = some (.slice none 0 0) := bcell hZ.rb rfl; have r0 := bfree hZ.rb 0; have r1 := bfree hZ.rb 1; exact ⟨res2 W w.heap.size (.slice ya ys.length yc) (.slice ra ks.length rc), by simp [execOp, go_sem, Act.eval, dk.sets_get, List.lookup, q0, q1, r0, r1, res2], fun h => (by omega), hS.2.1, fun _ => ⟨(hZ.done _ _).1, (hZ.done _ _).2, res2_at hZ.rb ..⟩⟩), ?_⟩
      refine ⟨cht.quiet 3 rfl (by decide) (.inl rfl) (by simp) (fun s => .string kk) (by rintro s _ ⟨⟩; exact dk.sets_on _ (by simp) _ rfl) (fun s k' W hk' hS => by simp [execOp, go_sem, Act.eval, dk.sets_get, List.lookup]), ?_⟩
      exact ⟨cht.quiet 3 rfl (by decide) (.inl rfl) (by simp) (fun s => .string s.t) (by rintro s _ ⟨⟩; exact dk.sets_on _ (by simp) _ rfl) (fun s k' W hk' hS => by simp [execOp, go_sem, Act.eval, dk.sets_get, List.lookup]), trivial⟩
    case fin =>
      intro s x5 hS
      have HST : s.t.size ≤ 4001 := hS.2.1.2
      obtain ⟨hd5, hb5, hr5⟩ := hS.2.2 rfl
      have q0 : x5.cell? ⟨w.heap.size, 0, none⟩ = some (.slice ya ys.length yc) := bcell hr5 rfl
      have q1 : x5.cell? ⟨w.heap.size, 1, none⟩ = some (.slice ra ks.length rc) := bcell hr5 rfl
      have HD5 : Hid (Tb w.heap.size x5 ys ks ya yc ra rc ∧ Below w.heap.size w x5 ∧ w.heap.size < x5.heap.size) := ⟨hd5, hb5, (Array.getElem?_eq_some_iff.1 hr5).1⟩
      obtain ⟨sx, sy, sA, sT, sU, sV, sB⟩ := s
      simp only [dk.sets]
      clear hS hd5 hb5 hr5
      go_wp2
      exact bodyPost_ret (v := .tuple #[.agg #[.slice ya ys.length yc, .slice ra ks.length rc], .string kk, .string sT]) (by simp [results, Try.results6, go_sem, q0, q1]) rfl ⟨⟨ys, ks, ya, yc, ra, rc, kk, sT, rfl, HSM.out, HD5.out.1, hkk, HST⟩, HD5.out.2⟩
  | false =>
    go_wp2
    refine cht.region (σ := G) (ws := (fun s : G => [(23, .agg #[.slice ya ys.length yc, .slice ra ks.length rc]), (24, .string kk), (25, .pointer (some ⟨w.heap.size + 1, 0, none⟩)), (26, .pointer (some ⟨w.heap.size + 1, 0, none⟩)), (27, .int .i64 s.x), (28, .string s.t), (3, .string kk), (4, .string s.t)])) (js := [4, 5, 6]) (S := (fun g k W => (k ≤ 2 → Dz a len cap w ys ks ya yc ra rc W ∧ W.heap[w2.heap.size]? = some (.cells #[.slice ya ys.length yc, .slice ra ks.length rc] 27 (0, 0))) ∧ (g.x < 4 ∧ g.t.size ≤ 4001) ∧ (k = 3 → Tb w.heap.size W ys ks ya yc ra rc ∧ Below w.heap.size w W ∧ W.heap[w.heap.size]? = some (.cells #[.slice ya ys.length yc, .slice ra ks.length rc] 27 (0, 0))))) [23, 24, 25, 26, 27, 28, 3, 4] ⟨0, 0, 0, ⟨#[]⟩, ⟨#[]⟩, undef, false⟩ (by kernel_rfl) (by kernel_rfl) (fun _ => rfl) (by kernel_rfl) (by decide) ⟨fun _ => ⟨HD8.out.step (Below.refl _ _).drew, bstay HN8.out (Below.refl _ _).drew (by have := (Array.getElem?_eq_some_iff.1 HN8.out).1; omega)⟩, ⟨by decide, by decide⟩, fun h => (by omega)⟩ ?each ?fin
    case each =>
      refine ⟨cht.quiet 2 rfl (by decide) (.inr ⟨6, _, rfl, rfl, ⟨0, .data⟩, by simp, rfl, rfl⟩) (by simp) (fun s => .agg #[.slice ya ys.length yc, .slice ra ks.length rc]) (by rintro s _ ⟨⟩; exact dk.sets_on _ (by simp) _ rfl) (fun s k' W hk' hS => by obtain ⟨hZ, hN⟩ := hS.1 hk'; have c0 : W.cell? ⟨w2.heap.size, 0, none⟩ = some (.slice ya ys.length yc) := bcell hN rfl; have c1 : W.cell? ⟨w2.heap.size, 1, none⟩ = some (.slice ra ks.length rc) := bcell hN rfl; simp [execOp, go_sem, Act.eval, dk.sets_get, List.lookup, c0, c1]), ?_⟩
      refine ⟨cht.quiet 3 rfl (by decide) (.inl rfl) (by simp) (fun s => .string kk) (by rintro s _ ⟨⟩; exact dk.sets_on _ (by simp) _ rfl) (fun s k' W hk' hS => by simp [execOp, go_sem, Act.eval, dk.sets_get, List.lookup]), ?_⟩
      refine ⟨cht.quiet 3 rfl (by decide) (.inl rfl) (by simp) (fun s => .pointer (some ⟨w.heap.size + 1, 0, none⟩)) (by rintro s _ ⟨⟩; exact dk.sets_on _ (by simp) _ rfl) (fun s k' W hk' hS => by simp [execOp, go_sem, Act.eval, dk.sets_get, List.lookup]), ?_⟩
      refine ⟨cht.quiet 3 rfl (by decide) (.inl rfl) (by simp) (fun s => .pointer (some ⟨w.heap.size + 1, 0, none⟩)) (by rintro s _ ⟨⟩; exact dk.sets_on _ (by simp) _ rfl) (fun s k' W hk' hS => by simp [execOp, go_sem, Act.eval, dk.sets_get, List.lookup]), ?_⟩
      refine ⟨chd.call 0 [4, 5, 6, 7, 8] [27] (by kernel_rfl) (by kernel_rfl) rfl (by decide) rfl (.inl rfl) (by simp) 32 (fun s => #[.pointer (some ⟨w.heap.size + 1, 0, none⟩), .int .i64 4]) (fun s W hS => by exact ⟨by simp [go_sem, Act.eval, dk.sets_get, List.lookup], (draw_below (w.heap.size + 1) a len cap 4 W (by omega) (hS.1 (by omega)).1.cur).mono fun e w9 hh => by obtain ⟨⟨z9, hz9, rfl⟩, k1, k2⟩ := hh; exact ⟨{ s with x := z9 }, _, rfl, (by simp [chd.But]), (by rintro _ ⟨⟩; exact dk.sets_on _ (by simp) _ rfl), fun h => ⟨(hS.1 (by omega)).1.draw k1 k2, st_block (hS.1 (by omega)).2 k2 (by omega)⟩, ⟨hz9, hS.2.1.2⟩, fun h => (by omega)⟩⟩), ?_⟩
      refine ⟨chd.call 1 [5, 6, 7, 8] [28, 4] (by kernel_rfl) (by kernel_rfl) rfl (by decide) rfl (.inr ⟨⟨4, .data⟩, by simp, rfl, rfl⟩) (by simp) 31 (fun s => #[.pointer (some ⟨w.heap.size + 1, 0, none⟩), .int .i64 s.x]) (fun s W hS => by have h9 := draw_bytes (w.heap.size + 1) a len cap (s.x) W (by have := hS.2.1.1; omega) (hS.1 (by omega)).1.cur; exact ⟨by simp [go_sem, Act.eval, dk.sets_get, List.lookup], h9.mono fun e w9 hh => by obtain ⟨⟨z9, hz9, rfl⟩, k1, k2⟩ := hh; exact ⟨{ s with t := z9 }, _, rfl, (by simp [chd.But]), (by rintro _ ⟨⟩; exact dk.sets_on _ (by simp) _ rfl), fun h => ⟨(hS.1 (by omega)).1.draw k1 k2, st_block (hS.1 (by omega)).2 k2 (by omega)⟩, ⟨hS.2.1.1, (by have h8 := hS.2.1.1; show z9.size ≤ 4001; omega)⟩, fun h => (by omega)⟩⟩), ?_⟩
      refine ⟨cht.sto 2 rfl (by decide) rfl (.inr ⟨⟨5, .chain⟩, by simp, rfl, rfl⟩) (by simp) rfl (fun s W hS => by obtain ⟨hZ, hN⟩ := hS.1 (by omega); have q0 : W.cell? ⟨w.heap.size, 0, none⟩ = some (.slice none 0 0) := bcell hZ.rb rfl; have q1 : W.cell? ⟨w.heap.size, 1, none⟩ = some (.slice none 0 0) := bcell hZ.rb rfl; have r0 := bfree hZ.rb 0; have r1 := bfree hZ.rb 1; exact ⟨res2 W w.heap.size (.slice ya ys.length yc) (.slice ra ks.length rc), by simp [execOp, go_sem, Act.eval, dk.sets_get, List.lookup, q0, q1, r0, r1, res2], fun h => (by omega), hS.2.1, fun _ => ⟨(hZ.done _ _).1, (hZ.done _ _).2, res2_at hZ.rb ..⟩⟩), ?_⟩
      refine ⟨cht.quiet 3 rfl (by decide) (.inl rfl) (by simp) (fun s => .string kk) (by rintro s _ ⟨⟩; exact dk.sets_on _ (by simp) _ rfl) (fun s k' W hk' hS => by simp [execOp, go_sem, Act.eval, dk.sets_get, List.lookup]), ?_⟩
      exact ⟨cht.quiet 3 rfl (by decide) (.inl rfl) (by simp) (fun s => .string s.t) (by rintro s _ ⟨⟩; exact dk.sets_on _ (by simp) _ rfl) (fun s k' W hk' hS => by simp [execOp, go_sem, Act.eval, dk.sets_get, List.lookup]), trivial⟩
    case fin =>
      intro s x5 hS
      have HST : s.t.size ≤ 4001 := hS.2.1.2
      obtain ⟨hd5, hb5, hr5⟩ := hS.2.2 rfl
      have q0 : x5.cell? ⟨w.heap.size, 0, none⟩ = some (.slice ya ys.length yc) := bcell hr5 rfl
      have q1 : x5.cell? ⟨w.heap.size, 1, none⟩ = some (.slice ra ks.length rc) := bcell hr5 rfl
      have HD5 : Hid (Tb w.heap.size x5 ys ks ya yc ra rc ∧ Below w.heap.size w x5 ∧ w.heap.size < x5.heap.size) := ⟨hd5, hb5, (Array.getElem?_eq_some_iff.1 hr5).1⟩
      obtain ⟨sx, sy, sA, sT, sU, sV, sB⟩ := s
      simp only [dk.sets]
      clear hS hd5 hb5 hr5
      go_wp2
      exact bodyPost_ret (v := .tuple #[.agg #[.slice ya ys.length yc, .slice ra ks.length rc], .string kk, .string sT]) (by simp [results, Try.results6, go_sem, q0, q1]) rfl ⟨⟨ys, ks, ya, yc, ra, rc, kk, sT, rfl, HSM.out, HD5.out.1, hkk, HST⟩, HD5.out.2⟩
set_option maxRecDepth 100000 in
set_option maxHeartbeats 2000000 in
theorem draw_Merge (a : Option Addr) (len cap : Nat) (w : World) (hlen : len ≤ 1048576) (hc : dw.Code w w.heap.size a len) :
    Calls Try.prog 18 #[.slice a len cap] w fun e w' => (∃ (ys : List flP.Pr) (ks : List Rn) (ya : Option Addr) (yc : Nat) (ra : Option Addr) (rc : Nat) (x : Int), e = .returned (.tuple #[.agg #[.slice ya ys.length yc, .slice ra ks.length rc], .int .i64 x]) ∧ Sm 500 ys (ks.map (·.l)) ∧ Tb w.heap.size w' ys ks ya yc ra rc ∧ -1 ≤ x ∧ x ≤ 3) ∧ Below w.heap.size w w' ∧ w.heap.size < w'.heap.size := by
  have h1 := draw_new a len cap _ hlen (code_at hc)
  have HR0 : Hid ((w.alloc (.cells #[.slice none 0 0, .slice none 0 0] 27)).heap[w.heap.size]? = some (.cells #[.slice none 0 0, .slice none 0 0] 27 (0, 0))) := bnew w _ _
  have HB0 : Hid (Below w.heap.size w (w.alloc (.cells #[.slice none 0 0, .slice none 0 0] 27))) := (Below.refl _ _).alloc (Nat.le_refl _) _
  clear hc
  go_enter Try.func18, Try.ntmps18
  go_wp2_with (go_at_call 27; fail)
  refine h1.mono ?_
  rintro e w1 ⟨rfl, hc1, hb1⟩
  rw [World.size_alloc] at hc1 hb1
  have hR1 := bstay HR0.out hb1 (by omega)
  have hB1 := HB0.out.trans (hb1.mono (by omega))
  have h2 := draw_table (w.heap.size + 1) a len cap w1 hc1
  have hlt1 := hc1.lt
  have HR1 : Hid (w1.heap[w.heap.size]? = some (.cells #[.slice none 0 0, .slice none 0 0] 27 (0, 0))) := hR1
  have HB1 : Hid (Below w.heap.size w w1) := hB1
  clear h1 hc1 hb1 hR1 hB1 HR0 HB0
  go_wp2_with (go_at_call 28; fail)
  refine h2.mono ?_
  rintro e w2 ⟨⟨ys, ks, ya, yc, ra, rc, rfl, hsm, hdr⟩, hc2, hb2⟩
  have HD2 : Hid (Dz a len cap w ys ks ya yc ra rc w2) := ⟨st_block HR1.out hb2 (by omega), hc2, HB1.out.trans (hb2.below (by omega) (by omega)), hdr.low (by omega)⟩
  have HSM : Hid (Sm 500 ys (ks.map (·.l))) := hsm
  have hsz2 := hb2.size
  clear h2 hsm hdr hc2 hb2 HR1 HB1
  have HN2 : Hid ((w2.alloc (.cells #[.slice ya ys.length yc, .slice ra ks.length rc] 27)).heap[w2.heap.size]? = some (.cells #[.slice ya ys.length yc, .slice ra ks.length rc] 27 (0, 0))) := bnew w2 _ _
  have HD3 : Hid (Dz a len cap w ys ks ya yc ra rc (w2.alloc (.cells #[.slice ya ys.length yc, .slice ra ks.length rc] 27))) := HD2.out.step ((Below.refl _ _).alloc (Nat.le_refl _) _)
  have hne2 : w2.heap.size ≠ w.heap.size + 1 := by omega
  go_wp2
  refine cht.region (σ := G) (ws := (fun s : G => [(10, .agg #[.slice ya ys.length yc, .slice ra ks.length rc]), (11, .pointer (some ⟨w.heap.size + 1, 0, none⟩)), (12, .int .i64 s.x), (13, .int .i64 ((s.x : Int) - 1)), (3, .int .i64 ((s.x : Int) - 1))])) (js := [2, 4]) (S := (fun g k W => (k ≤ 1 → Dz a len cap w ys ks ya yc ra rc W ∧ W.heap[w2.heap.size]? = some (.cells #[.slice ya ys.length yc, .slice ra ks.length rc] 27 (0, 0))) ∧ (g.x < 5) ∧ (k = 2 → Tb w.heap.size W ys ks ya yc ra rc ∧ Below w.heap.size w W ∧ W.heap[w.heap.size]? = some (.cells #[.slice ya ys.length yc, .slice ra ks.length rc] 27 (0, 0))))) [10, 11, 12, 13, 3] ⟨0, 0, 0, ⟨#[]⟩, ⟨#[]⟩, undef, false⟩ (by kernel_rfl) (by kernel_rfl) (fun _ => rfl) (by kernel_rfl) (by decide) ⟨fun _ => ⟨HD3.out.step (Below.refl _ _).drew, bstay HN2.out (Below.refl _ _).drew (by have := (Array.getElem?_eq_some_iff.1 HN2.out).1; omega)⟩, (by decide), fun h => (by omega)⟩ ?each ?fin
  case each =>
    refine ⟨cht.quiet 1 rfl (by decide) (.inr ⟨4, _, rfl, rfl, ⟨0, .data⟩, by simp, rfl, rfl⟩) (by simp) (fun s => .agg #[.slice ya ys.length yc, .slice ra ks.length rc]) (by rintro s _ ⟨⟩; exact dk.sets_on _ (by simp) _ rfl) (fun s k' W hk' hS => by obtain ⟨hZ, hN⟩ := hS.1 hk'; have c0 : W.cell? ⟨w2.heap.size, 0, none⟩ = some (.slice ya ys.length yc) := bcell hN rfl; have c1 : W.cell? ⟨w2.heap.size, 1, none⟩ = some (.slice ra ks.length rc) := bcell hN rfl; simp [execOp, go_sem, Act.eval, dk.sets_get, List.lookup, c0, c1]), ?_⟩
    refine ⟨cht.quiet 2 rfl (by decide) (.inl rfl) (by simp) (fun s => .pointer (some ⟨w.heap.size + 1, 0, none⟩)) (by rintro s _ ⟨⟩; exact dk.sets_on _ (by simp) _ rfl) (fun s k' W hk' hS => by simp [execOp, go_sem, Act.eval, dk.sets_get, List.lookup]), ?_⟩
    refine ⟨chd.call 0 [2, 3, 4, 5] [12, 13, 3] (by kernel_rfl) (by kernel_rfl) rfl (by decide) rfl (.inl rfl) (by simp) 32 (fun s => #[.pointer (some ⟨w.heap.size + 1, 0, none⟩), .int .i64 5]) (fun s W hS => by exact ⟨by simp [go_sem, Act.eval, dk.sets_get, List.lookup], (draw_below (w.heap.size + 1) a len cap 5 W (by omega) (hS.1 (by omega)).1.cur).mono fun e w9 hh => by obtain ⟨⟨z9, hz9, rfl⟩, k1, k2⟩ := hh; exact ⟨{ s with x := z9 }, _, rfl, (by simp [chd.But]), (by rintro _ ⟨⟩; exact dk.sets_on _ (by simp) _ rfl), fun h => ⟨(hS.1 (by omega)).1.draw k1 k2, st_block (hS.1 (by omega)).2 k2 (by omega)⟩, hz9, fun h => (by omega)⟩⟩), ?_⟩
    refine ⟨cht.quiet 2 rfl (by decide) (.inl rfl) (by simp) (fun s => .int .i64 ((s.x : Int) - 1)) (by rintro s _ ⟨⟩; exact dk.sets_on _ (by simp) _ rfl) (fun s k' W hk' hS => by have h9 := hS.2.1; have hwr : IntKind.i64.wrap ((s.x : Int) - 1) = (s.x : Int) - 1 := (by rw [IntKind.wrap_i64]; omega); simp [execOp, go_sem, Act.eval, dk.sets_get, List.lookup, hwr]), ?_⟩
    refine ⟨cht.sto 1 rfl (by decide) rfl (.inr ⟨⟨2, .chain⟩, by simp, rfl, rfl⟩) (by simp) rfl (fun s W hS => by obtain ⟨hZ, hN⟩ := hS.1 (by omega); have q0 : W.cell? ⟨w.heap.size, 0, none⟩ = some (.slice none 0 0) := bcell hZ.rb rfl; have q1 : W.cell? ⟨w.heap.size, 1, none⟩ = some (.slice none 0 0) := bcell hZ.rb rfl; have r0 := bfree hZ.rb 0; have r1 := bfree hZ.rb 1; exact ⟨res2 W w.heap.size (.slice ya ys.length yc) (.slice ra ks.length rc), by simp [execOp, go_sem, Act.eval, dk.sets_get, List.lookup, q0, q1, r0, r1, res2], fun h => (by omega), hS.2.1, fun _ => ⟨(hZ.done _ _).1, (hZ.done _ _).2, res2_at hZ.rb ..⟩⟩), ?_⟩
    exact ⟨cht.quiet 2 rfl (by decide) (.inl rfl) (by simp) (fun s => .int .i64 ((s.x : Int) - 1)) (by rintro s _ ⟨⟩; exact dk.sets_on _ (by simp) _ rfl) (fun s k' W hk' hS => by simp [execOp, go_sem, Act.eval, dk.sets_get, List.lookup]), trivial⟩
  case fin =>
    intro s x5 hS
    have hsx : s.x < 5 := hS.2.1
    obtain ⟨hd5, hb5, hr5⟩ := hS.2.2 rfl
    have q0 : x5.cell? ⟨w.heap.size, 0, none⟩ = some (.slice ya ys.length yc) := bcell hr5 rfl
    have q1 : x5.cell? ⟨w.heap.size, 1, none⟩ = some (.slice ra ks.length rc) := bcell hr5 rfl
    have HD5 : Hid (Tb w.heap.size x5 ys ks ya yc ra rc ∧ Below w.heap.size w x5 ∧ w.heap.size < x5.heap.size) := ⟨hd5, hb5, (Array.getElem?_eq_some_iff.1 hr5).1⟩
    obtain ⟨sx, sy, sA, sT, sU, sV, sB⟩ := s
    simp only [dk.sets]
    clear hS hd5 hb5 hr5
    go_wp2
    exact bodyPost_ret (v := .tuple #[.agg #[.slice ya ys.length yc, .slice ra ks.length rc], .int .i64 ((sx : Int) - 1)]) (by simp [results, Try.results18, go_sem, q0, q1]) rfl ⟨⟨ys, ks, ya, yc, ra, rc, (sx : Int) - 1, rfl, HSM.out, HD5.out.1, by omega, by omega⟩, HD5.out.2⟩
set_option maxRecDepth 100000 in
set_option maxHeartbeats 2000000 in
theorem draw_Scan (a : Option Addr) (len cap : Nat) (w : World) (hlen : len ≤ 1048576) (hc : dw.Code w w.heap.size a len) :
    Calls Try.prog 23 #[.slice a len cap] w fun e w' => (∃ (ys : List flP.Pr) (ks : List Rn) (ya : Option Addr) (yc : Nat) (ra : Option Addr) (rc : Nat) (f t : ByteArray), e = .returned (.tuple #[.agg #[.slice ya ys.length yc, .slice ra ks.length rc], .string f, .string t]) ∧ Sm 500 ys (ks.map (·.l)) ∧ Tb w.heap.size w' ys ks ya yc ra rc ∧ f.size ≤ 2 ∧ t.size ≤ 2) ∧ Below w.heap.size w w' ∧ w.heap.size < w'.heap.size := by
  have h1 := draw_new a len cap _ hlen (code_at hc)
  have HR0 : Hid ((w.alloc (.cells #[.slice none 0 0, .slice none 0 0] 27)).heap[w.heap.size]? = some (.cells #[.slice none 0 0, .slice none 0 0] 27 (0, 0))) := bnew w _ _
  have HB0 : Hid (Below w.heap.size w (w.alloc (.cells #[.slice none 0 0, .slice none 0 0] 27))) := (Below.refl _ _).alloc (Nat.le_refl _) _
  clear hc
  go_enter Try.func23, Try.ntmps23
  go_wp2_with (go_at_call 27; fail)
  refine h1.mono ?_
  rintro e w1 ⟨rfl, hc1, hb1⟩
  rw [World.size_alloc] at hc1 hb1
  have hR1 := bstay HR0.out hb1 (by omega)
  have hB1 := HB0.out.trans (hb1.mono (by omega))
  have h2 := draw_table (w.heap.size + 1) a len cap w1 hc1
  have hlt1 := hc1.lt
  have HR1 : Hid (w1.heap[w.heap.size]? = some (.cells #[.slice none 0 0, .slice none 0 0] 27 (0, 0))) := hR1
  have HB1 : Hid (Below w.heap.size w w1) := hB1
  clear h1 hc1 hb1 hR1 hB1 HR0 HB0
  go_wp2_with (go_at_call 28; fail)
  refine h2.mono ?_
  rintro e w2 ⟨⟨ys, ks, ya, yc, ra, rc, rfl, hsm, hdr⟩, hc2, hb2⟩
  have HD2 : Hid (Dz a len cap w ys ks ya yc ra rc w2) := ⟨st_block HR1.out hb2 (by omega), hc2, HB1.out.trans (hb2.below (by omega) (by omega)), hdr.low (by omega)⟩
  have HSM : Hid (Sm 500 ys (ks.map (·.l))) := hsm
  have hsz2 := hb2.size
  clear h2 hsm hdr hc2 hb2 HR1 HB1
  have HN2 : Hid ((w2.alloc (.cells #[.slice ya ys.length yc, .slice ra ks.length rc] 27)).heap[w2.heap.size]? = some (.cells #[.slice ya ys.length yc, .slice ra ks.length rc] 27 (0, 0))) := bnew w2 _ _
  have HD3 : Hid (Dz a len cap w ys ks ya yc ra rc (w2.alloc (.cells #[.slice ya ys.length yc, .slice ra ks.length rc] 27))) := HD2.out.step ((Below.refl _ _).alloc (Nat.le_refl _) _)
  have hne2 : w2.heap.size ≠ w.heap.size + 1 := by omega
  have g1 := draw_pick (w.heap.size + 1) a len cap (w2.alloc (.cells #[.slice ya ys.length yc, .slice ra ks.length rc] 27)).heap.size 4 keysF _ (by omega) (by rw [World.size_alloc]; omega) (at_texts (w2.alloc (.cells #[.slice ya ys.length yc, .slice ra ks.length rc] 27)) keysF 9) (HD3.out.step ((Below.refl _ _).alloc (Nat.le_refl _) _)).cur
  have HD4 : Hid (Dz a len cap w ys ks ya yc ra rc ((w2.alloc (.cells #[.slice ya ys.length yc, .slice ra ks.length rc] 27)).alloc (.cells (keysF.map Value.string).toArray 9))) := HD3.out.step ((Below.refl _ _).alloc (Nat.le_refl _) _)
  have HN4 : Hid (((w2.alloc (.cells #[.slice ya ys.length yc, .slice ra ks.length rc] 27)).alloc (.cells (keysF.map Value.string).toArray 9)).heap[w2.heap.size]? = some (.cells #[.slice ya ys.length yc, .slice ra ks.length rc] 27 (0, 0))) := bold HN2.out _
  rw [World.size_alloc] at g1
  go_wp2_with (go_at_call 51; fail)
  refine g1.mono ?_
  rintro e w3 ⟨⟨fr, hrr, rfl⟩, hc3, hb3⟩
  have hr4 := keysF_in fr hrr
  have HD5 : Hid (Dz a len cap w ys ks ya yc ra rc w3) := HD4.out.draw hc3 hb3
  have HN5 : Hid (w3.heap[w2.heap.size]? = some (.cells #[.slice ya ys.length yc, .slice ra ks.length rc] 27 (0, 0))) := st_block HN4.out hb3 (by omega)
  have hsz3 : w2.heap.size < w3.heap.size := (Array.getElem?_eq_some_iff.1 HN5.out).1
  clear g1 hc3 hb3 HD4 HN4 HD3 HN2 hrr
  go_wp2
  refine cht.region (σ := G) (ws := (fun s : G => [(15, .agg #[.slice ya ys.length yc, .slice ra ks.length rc]), (16, .string fr), (17, .pointer (some ⟨w.heap.size + 1, 0, none⟩)), (18, .slice (some ⟨s.a, 0, none⟩) 5 5), (19, .string s.t), (3, .string fr), (4, .string s.t)])) (js := [3, 4, 5]) (S := (fun g k W => (k ≤ 2 → Dz a len cap w ys ks ya yc ra rc W ∧ W.heap[w2.heap.size]? = some (.cells #[.slice ya ys.length yc, .slice ra ks.length rc] 27 (0, 0))) ∧ ((k = 1 → w.heap.size + 1 ≠ g.a ∧ ∀ i, i < 5 → ∃ z ∈ keysO, W.cell? ⟨g.a, i, none⟩ = some (.string z)) ∧ g.t.size ≤ 2) ∧ (k = 3 → Tb w.heap.size W ys ks ya yc ra rc ∧ Below w.heap.size w W ∧ W.heap[w.heap.size]? = some (.cells #[.slice ya ys.length yc, .slice ra ks.length rc] 27 (0, 0))))) [15, 16, 17, 18, 19, 3, 4] ⟨0, 0, 0, ⟨#[]⟩, ⟨#[]⟩, undef, false⟩ (by kernel_rfl) (by kernel_rfl) (fun _ => rfl) (by kernel_rfl) (by decide) ⟨fun _ => ⟨HD5.out.step (Below.refl _ _).drew, bstay HN5.out (Below.refl _ _).drew (by have := (Array.getElem?_eq_some_iff.1 HN5.out).1; omega)⟩, ⟨fun h => (by omega), by decide⟩, fun h => (by omega)⟩ ?each ?fin
  case each =>
    refine ⟨cht.quiet 2 rfl (by decide) (.inr ⟨5, _, rfl, rfl, ⟨0, .data⟩, by simp, rfl, rfl⟩) (by simp) (fun s => .agg #[.slice ya ys.length yc, .slice ra ks.length rc]) (by rintro s _ ⟨⟩; exact dk.sets_on _ (by simp) _ rfl) (fun s k' W hk' hS => by obtain ⟨hZ, hN⟩ := hS.1 hk'; have c0 : W.cell? ⟨w2.heap.size, 0, none⟩ = some (.slice ya ys.length yc) := bcell hN rfl; have c1 : W.cell? ⟨w2.heap.size, 1, none⟩ = some (.slice ra ks.length rc) := bcell hN rfl; simp [execOp, go_sem, Act.eval, dk.sets_get, List.lookup, c0, c1]), ?_⟩
    refine ⟨cht.quiet 3 rfl (by decide) (.inl rfl) (by simp) (fun s => .string fr) (by rintro s _ ⟨⟩; exact dk.sets_on _ (by simp) _ rfl) (fun s k' W hk' hS => by simp [execOp, go_sem, Act.eval, dk.sets_get, List.lookup]), ?_⟩
    refine ⟨cht.quiet 3 rfl (by decide) (.inl rfl) (by simp) (fun s => .pointer (some ⟨w.heap.size + 1, 0, none⟩)) (by rintro s _ ⟨⟩; exact dk.sets_on _ (by simp) _ rfl) (fun s k' W hk' hS => by simp [execOp, go_sem, Act.eval, dk.sets_get, List.lookup]), ?_⟩
    refine ⟨chd.eff 0 [3, 4, 5, 6, 7] [18] (by kernel_rfl) (by kernel_rfl) rfl (by decide) rfl (.inl rfl) (by simp) (fun s W hS => by exact ⟨{ s with a := W.heap.size }, .slice (some ⟨W.heap.size, 0, none⟩) 5 5, W.alloc (.cells (keysO.map Value.string).toArray 9), (by simp [chd.But]), (by rintro _ ⟨⟩; exact dk.sets_on _ (by simp) _ rfl), (by simp [execOp, go_sem, Act.eval, dk.sets_get, List.lookup, keysO]), fun h => ⟨(hS.1 (by omega)).1.step ((Below.refl _ _).alloc (Nat.le_refl _) _), bold (hS.1 (by omega)).2 _⟩, ⟨fun _ => ⟨(by have := (hS.1 (by omega)).1.cur.lt; show w.heap.size + 1 ≠ W.heap.size; omega), at_texts W keysO _⟩, hS.2.1.2⟩, fun h => (by omega)⟩), ?_⟩
    refine ⟨chd.call 1 [4, 5, 6, 7] [19, 4] (by kernel_rfl) (by kernel_rfl) rfl (by decide) rfl (.inr ⟨⟨3, .data⟩, by simp, rfl, rfl⟩) (by simp) 51 (fun s => #[.pointer (some ⟨w.heap.size + 1, 0, none⟩), .slice (some ⟨s.a, 0, none⟩) 5 5]) (fun s W hS => by exact ⟨by simp [go_sem, Act.eval, dk.sets_get, List.lookup], (draw_pick (w.heap.size + 1) a len cap s.a 5 keysO W (by omega) (Ne.symm (hS.2.1.1 rfl).1) (hS.2.1.1 rfl).2 (hS.1 (by omega)).1.cur).mono fun e w9 hh => by obtain ⟨⟨z9, hz9, rfl⟩, k1, k2⟩ := hh; exact ⟨{ s with t := z9 }, _, rfl, (by simp [chd.But]), (by rintro _ ⟨⟩; exact dk.sets_on _ (by simp) _ rfl), fun h => ⟨(hS.1 (by omega)).1.draw k1 k2, st_block (hS.1 (by omega)).2 k2 (by omega)⟩, ⟨fun h => (by omega), keysO_in z9 hz9⟩, fun h => (by omega)⟩⟩), ?_⟩
    refine ⟨cht.sto 2 rfl (by decide) rfl (.inr ⟨⟨4, .chain⟩, by simp, rfl, rfl⟩) (by simp) rfl (fun s W hS => by obtain ⟨hZ, hN⟩ := hS.1 (by omega); have q0 : W.cell? ⟨w.heap.size, 0, none⟩ = some (.slice none 0 0) := bcell hZ.rb rfl; have q1 : W.cell? ⟨w.heap.size, 1, none⟩ = some (.slice none 0 0) := bcell hZ.rb rfl; have r0 := bfree hZ.rb 0; have r1 := bfree hZ.rb 1; exact ⟨res2 W w.heap.size (.slice ya ys.length yc) (.slice ra ks.length rc), by simp [execOp, go_sem, Act.eval, dk.sets_get, List.lookup, q0, q1, r0, r1, res2], fun h => (by omega), ⟨fun h => (by omega), hS.2.1.2⟩, fun _ => ⟨(hZ.done _ _).1, (hZ.done _ _).2, res2_at hZ.rb ..⟩⟩), ?_⟩
    refine ⟨cht.quiet 3 rfl (by decide) (.inl rfl) (by simp) (fun s => .string fr) (by rintro s _ ⟨⟩; exact dk.sets_on _ (by simp) _ rfl) (fun s k' W hk' hS => by simp [execOp, go_sem, Act.eval, dk.sets_get, List.lookup]), ?_⟩
    exact ⟨cht.quiet 3 rfl (by decide) (.inl rfl) (by simp) (fun s => .string s.t) (by rintro s _ ⟨⟩; exact dk.sets_on _ (by simp) _ rfl) (fun s k' W hk' hS => by simp [execOp, go_sem, Act.eval, dk.sets_get, List.lookup]), trivial⟩
  case fin =>
    intro s x5 hS
    clear HD5
    have HST : s.t.size ≤ 2 := hS.2.1.2
    obtain ⟨hd5, hb5, hr5⟩ := hS.2.2 rfl
    have q0 : x5.cell? ⟨w.heap.size, 0, none⟩ = some (.slice ya ys.length yc) := bcell hr5 rfl
    have q1 : x5.cell? ⟨w.heap.size, 1, none⟩ = some (.slice ra ks.length rc) := bcell hr5 rfl
    have HD5 : Hid (Tb w.heap.size x5 ys ks ya yc ra rc ∧ Below w.heap.size w x5 ∧ w.heap.size < x5.heap.size) := ⟨hd5, hb5, (Array.getElem?_eq_some_iff.1 hr5).1⟩
    obtain ⟨sx, sy, sA, sT, sU, sV, sB⟩ := s
    simp only [dk.sets]
    clear hS hd5 hb5 hr5
    go_wp2
    exact bodyPost_ret (v := .tuple #[.agg #[.slice ya ys.length yc, .slice ra ks.length rc], .string fr, .string sT]) (by simp [results, Try.results23, go_sem, q0, q1]) rfl ⟨⟨ys, ks, ya, yc, ra, rc, fr, sT, rfl, HSM.out, HD5.out.1, hr4, HST⟩, HD5.out.2⟩
set_option maxRecDepth 100000 in
set_option maxHeartbeats 2000000 in
theorem draw_Get (a : Option Addr) (len cap : Nat) (w : World) (hlen : len ≤ 1048576) (hc : dw.Code w w.heap.size a len) :
    Calls Try.prog 26 #[.slice a len cap] w fun e w' => (∃ (ys : List flP.Pr) (ks : List Rn) (ya : Option Addr) (yc : Nat) (ra : Option Addr) (rc : Nat) (k : ByteArray), e = .returned (.tuple #[.agg #[.slice ya ys.length yc, .slice ra ks.length rc], .string k]) ∧ Sm 500 ys (ks.map (·.l)) ∧ Tb w.heap.size w' ys ks ya yc ra rc ∧ k.size ≤ 101) ∧ Below w.heap.size w w' ∧ w.heap.size < w'.heap.size := by
  have h1 := draw_new a len cap _ hlen (code_at hc)
  have HR0 : Hid ((w.alloc (.cells #[.slice none 0 0, .slice none 0 0] 27)).heap[w.heap.size]? = some (.cells #[.slice none 0 0, .slice none 0 0] 27 (0, 0))) := bnew w _ _
  have HB0 : Hid (Below w.heap.size w (w.alloc (.cells #[.slice none 0 0, .slice none 0 0] 27))) := (Below.refl _ _).alloc (Nat.le_refl _) _
  clear hc
  go_enter Try.func26, Try.ntmps26
  go_wp2_with (go_at_call 27; fail)
  refine h1.mono ?_
  rintro e w1 ⟨rfl, hc1, hb1⟩
  rw [World.size_alloc] at hc1 hb1
  have hR1 := bstay HR0.out hb1 (by omega)
  have hB1 := HB0.out.trans (hb1.mono (by omega))
  have h2 := draw_table (w.heap.size + 1) a len cap w1 hc1
  have hlt1 := hc1.lt
  have HR1 : Hid (w1.heap[w.heap.size]? = some (.cells #[.slice none 0 0, .slice none 0 0] 27 (0, 0))) := hR1
  have HB1 : Hid (Below w.heap.size w w1) := hB1
  clear h1 hc1 hb1 hR1 hB1 HR0 HB0
  go_wp2_with (go_at_call 28; fail)
  refine h2.mono ?_
  rintro e w2 ⟨⟨ys, ks, ya, yc, ra, rc, rfl, hsm, hdr⟩, hc2, hb2⟩
  have HD2 : Hid (Dz a len cap w ys ks ya yc ra rc w2) := ⟨st_block HR1.out hb2 (by omega), hc2, HB1.out.trans (hb2.below (by omega) (by omega)), hdr.low (by omega)⟩
  have HSM : Hid (Sm 500 ys (ks.map (·.l))) := hsm
  have hsz2 := hb2.size
  clear h2 hsm hdr hc2 hb2 HR1 HB1
  have HN2 : Hid ((w2.alloc (.cells #[.slice ya ys.length yc, .slice ra ks.length rc] 27)).heap[w2.heap.size]? = some (.cells #[.slice ya ys.length yc, .slice ra ks.length rc] 27 (0, 0))) := bnew w2 _ _
  have HD3 : Hid (Dz a len cap w ys ks ya yc ra rc (w2.alloc (.cells #[.slice ya ys.length yc, .slice ra ks.length rc] 27))) := HD2.out.step ((Below.refl _ _).alloc (Nat.le_refl _) _)
  have hne2 : w2.heap.size ≠ w.heap.size + 1 := by omega
  go_wp2
  refine cht.region (σ := G) (ws := (fun s : G => [(10, .agg #[.slice ya ys.length yc, .slice ra ks.length rc]), (11, .pointer (some ⟨w.heap.size + 1, 0, none⟩)), (12, .string s.t), (3, .string s.t)])) (js := [2, 3]) (S := (fun g k W => (k ≤ 1 → Dz a len cap w ys ks ya yc ra rc W ∧ W.heap[w2.heap.size]? = some (.cells #[.slice ya ys.length yc, .slice ra ks.length rc] 27 (0, 0))) ∧ (g.t.size ≤ 101) ∧ (k = 2 → Tb w.heap.size W ys ks ya yc ra rc ∧ Below w.heap.size w W ∧ W.heap[w.heap.size]? = some (.cells #[.slice ya ys.length yc, .slice ra ks.length rc] 27 (0, 0))))) [10, 11, 12, 3] ⟨0, 0, 0, ⟨#[]⟩, ⟨#[]⟩, undef, false⟩ (by kernel_rfl) (by kernel_rfl) (fun _ => rfl) (by kernel_rfl) (by decide) ⟨fun _ => ⟨HD3.out.step (Below.refl _ _).drew, bstay HN2.out (Below.refl _ _).drew (by have := (Array.getElem?_eq_some_iff.1 HN2.out).1; omega)⟩, (by decide), fun h => (by omega)⟩ ?each ?fin
  case each =>
    refine ⟨cht.quiet 1 rfl (by decide) (.inr ⟨3, _, rfl, rfl, ⟨0, .data⟩, by simp, rfl, rfl⟩) (by simp) (fun s => .agg #[.slice ya ys.length yc, .slice ra ks.length rc]) (by rintro s _ ⟨⟩; exact dk.sets_on _ (by simp) _ rfl) (fun s k' W hk' hS => by obtain ⟨hZ, hN⟩ := hS.1 hk'; have c0 : W.cell? ⟨w2.heap.size, 0, none⟩ = some (.slice ya ys.length yc) := bcell hN rfl; have c1 : W.cell? ⟨w2.heap.size, 1, none⟩ = some (.slice ra ks.length rc) := bcell hN rfl; simp [execOp, go_sem, Act.eval, dk.sets_get, List.lookup, c0, c1]), ?_⟩
    refine ⟨cht.quiet 2 rfl (by decide) (.inl rfl) (by simp) (fun s => .pointer (some ⟨w.heap.size + 1, 0, none⟩)) (by rintro s _ ⟨⟩; exact dk.sets_on _ (by simp) _ rfl) (fun s k' W hk' hS => by simp [execOp, go_sem, Act.eval, dk.sets_get, List.lookup]), ?_⟩
    refine ⟨chd.call 0 [2, 3, 4] [12, 3] (by kernel_rfl) (by kernel_rfl) rfl (by decide) rfl (.inl rfl) (by simp) 29 (fun s => #[.pointer (some ⟨w.heap.size + 1, 0, none⟩)]) (fun s W hS => by exact ⟨by simp [go_sem, Act.eval, dk.sets_get, List.lookup], (dkt.draw_key (w.heap.size + 1) a len cap W (hS.1 (by omega)).1.cur).mono fun e w9 hh => by obtain ⟨⟨z9, hz9, rfl⟩, k1, k2⟩ := hh; exact ⟨{ s with t := z9 }, _, rfl, (by simp [chd.But]), (by rintro _ ⟨⟩; exact dk.sets_on _ (by simp) _ rfl), fun h => ⟨(hS.1 (by omega)).1.draw k1 k2, st_block (hS.1 (by omega)).2 k2 (by omega)⟩, hz9, fun h => (by omega)⟩⟩), ?_⟩
    refine ⟨cht.sto 1 rfl (by decide) rfl (.inr ⟨⟨2, .chain⟩, by simp, rfl, rfl⟩) (by simp) rfl (fun s W hS => by obtain ⟨hZ, hN⟩ := hS.1 (by omega); have q0 : W.cell? ⟨w.heap.size, 0, none⟩ = some (.slice none 0 0) := bcell hZ.rb rfl; have q1 : W.cell? ⟨w.heap.size, 1, none⟩ = some (.slice none 0 0) := bcell hZ.rb rfl; have r0 := bfree hZ.rb 0; have r1 := bfree hZ.rb 1; exact ⟨res2 W w.heap.size (.slice ya ys.length yc) (.slice ra ks.length rc), by simp [execOp, go_sem, Act.eval, dk.sets_get, List.lookup, q0, q1, r0, r1, res2], fun h => (by omega), hS.2.1, fun _ => ⟨(hZ.done _ _).1, (hZ.done _ _).2, res2_at hZ.rb ..⟩⟩), ?_⟩
    exact ⟨cht.quiet 2 rfl (by decide) (.inl rfl) (by simp) (fun s => .string s.t) (by rintro s _ ⟨⟩; exact dk.sets_on _ (by simp) _ rfl) (fun s k' W hk' hS => by simp [execOp, go_sem, Act.eval, dk.sets_get, List.lookup]), trivial⟩
  case fin =>
    intro s x5 hS
    have HST : s.t.size ≤ 101 := hS.2.1
    obtain ⟨hd5, hb5, hr5⟩ := hS.2.2 rfl
    have q0 : x5.cell? ⟨w.heap.size, 0, none⟩ = some (.slice ya ys.length yc) := bcell hr5 rfl
    have q1 : x5.cell? ⟨w.heap.size, 1, none⟩ = some (.slice ra ks.length rc) := bcell hr5 rfl
    have HD5 : Hid (Tb w.heap.size x5 ys ks ya yc ra rc ∧ Below w.heap.size w x5 ∧ w.heap.size < x5.heap.size) := ⟨hd5, hb5, (Array.getElem?_eq_some_iff.1 hr5).1⟩
    obtain ⟨sx, sy, sA, sT, sU, sV, sB⟩ := s
    simp only [dk.sets]
    clear hS hd5 hb5 hr5
    go_wp2
    exact bodyPost_ret (v := .tuple #[.agg #[.slice ya ys.length yc, .slice ra ks.length rc], .string sT]) (by simp [results, Try.results26, go_sem, q0, q1]) rfl ⟨⟨ys, ks, ya, yc, ra, rc, sT, rfl, HSM.out, HD5.out.1, HST⟩, HD5.out.2⟩
end Go.Proofs.Ytokaoafbgebelaa.dts

/- slices.Insert of one run into a row of runs that has no room: the same row with it in its place, in a row of its own. -/
namespace Go.Proofs.Ytokaoafbgebelaa.insr
open Go.ChangeShapes Go.WideShapes Go.ChangeAt Go.RowKit Go.Proofs.Ytokaoafbgebelaa.rn Go.Proofs.Ytokaoafbgebelaa.fl
set_option linter.unusedVariables false

theorem infoX : ∃ i0, Try.prog.info? 24 = some i0 ∧ i0.zero = some (.slice none 0 0) ∧ i0.size = 1 ∧ i0.bytes = 24 := by
  have h := rn.info
  cases hh : Try.prog.info? 24 with
  | none => rw [hh] at h; cases h
  | some i => rw [hh] at h; simp at h; exact ⟨i, rfl, h.1, h.2.1, h.2.2⟩
theorem own_form {w : World} {B n : Nat} {U : TypeId} {s : Nat} {v : Value} {xs : List Value} (h : w.ownsRow B U s v (n + 1) xs) : ∃ g cap, v = .slice (some ⟨g, 0, none⟩) (n + 1) cap := by
  obtain ⟨_, ⟨rfl, h0⟩ | ⟨g, cap, cur, rfl, _⟩⟩ := h
  · omega
  · exact ⟨g, cap, rfl⟩
theorem owns_at {w : World} {B n s g c : Nat} {U : TypeId} {xs : List Value} (h : w.ownsRow B U s (.slice (some ⟨g, 0, none⟩) n c) n xs) : B ≤ g ∧ ∃ cur, w.heap[g]? = some (.cells cur U (0, 0)) := by
  obtain ⟨_, ⟨h1, _⟩ | ⟨g', cap', cur, h1, h2, h3, _⟩⟩ := h
  · cases h1
  cases h1
  exact ⟨h2, cur, h3⟩
theorem add_at (g o j : Nat) : (⟨g, o, none⟩ : Addr).add j = ⟨g, o + j, none⟩ := by unfold Addr.add; split <;> simp_all
theorem oneX (ms : List Rn) : ∀ u ∈ ms.flatMap cR, u.oneCell' = true := fun u hu => by
  obtain ⟨e, _, he⟩ := List.mem_flatMap.1 hu
  simp [cR] at he
  rw [he]; rfl
/-- the cells of an owned row -/
theorem owns_cells {α : Type} {c : α → List Value} {n B g cap : Nat} {U : TypeId} {l : List α} {w : World} (hn : ∀ e, (c e).length = n) (h : w.ownsRow B U n (.slice (some ⟨g, 0, none⟩) l.length cap) l.length (l.flatMap c)) : ∀ (j : Nat) (u : Value), (l.flatMap c)[j]? = some u → w.cell? ⟨g, j, none⟩ = some u := fun j u hu => by
  obtain ⟨_, ⟨h1, _⟩ | ⟨g', cap', cur, h1, h2, h3, h4, h5, h6, h7⟩⟩ := h
  · cases h1
  cases h1
  rw [← h7] at hu
  have hlt := (List.getElem?_eq_some_iff.1 hu).1
  rw [List.length_take] at hlt
  rw [List.getElem?_take_of_lt (by omega)] at hu
  exact bcell h3 (by simpa using hu)
theorem flat_take {α : Type} {c : α → List Value} (l : List α) (i : Nat) : (l.take i).flatMap c ++ (l.drop i).flatMap c = l.flatMap c := by rw [← List.flatMap_append, List.take_append_drop]
/-- two copies into a row: what was ahead, what is put in, what stood from there on -/
theorem two_copies {xs v cs rest : List Value} {o1 o2 : Nat} (h1 : xs.length = o1) (h2 : o1 + v.length = o2) (hr : v.length + cs.length ≤ rest.length) :
    (((xs ++ rest).take o1 ++ v ++ (xs ++ rest).drop (o1 + v.length)).take o2 ++ cs ++ ((xs ++ rest).take o1 ++ v ++ (xs ++ rest).drop (o1 + v.length)).drop (o2 + cs.length)) = xs ++ v ++ cs ++ rest.drop (v.length + cs.length) := by
  subst h1
  subst h2
  rw [List.take_left, List.drop_append, List.drop_eq_nil_of_le (by omega), List.nil_append, show xs.length + v.length - xs.length = v.length by omega]
  have e1 : (xs ++ v).length = xs.length + v.length := List.length_append
  rw [← e1, List.take_left, List.drop_append, List.drop_eq_nil_of_le (by omega), List.nil_append, List.drop_drop]
  congr 2
  omega
/-- the row behind it is owned -/
theorem owns_new {B g cap n : Nat} {U : TypeId} {w : World} {cur : Array Value} {ys tl : List Value} (hg : w.heap[g]? = some (.cells cur U (0, 0))) (hB : B ≤ g) (hc : cur.toList = ys ++ tl) (hy : ys.length = n * 1) (hn : n ≤ cap) (hm : cap ≤ maxLen) (hs : cur.size = cap * 1) : w.ownsRow B U 1 (.slice (some ⟨g, 0, none⟩) n cap) n ys :=
  ⟨hy, .inr ⟨g, cap, cur, rfl, hB, hg, hn, hm, hs, by rw [hc, ← hy, List.take_left]⟩⟩

def ws (b g i n G : Nat) : List (Nat × Value) := [(46, .slice (some ⟨b, 0, none⟩) (n + 1) G), (47, .int .i64 i), (48, .int .i64 1), (49, .int .i64 ((i : Int) + 1)), (50, .slice (some ⟨b, (i + 1), none⟩) (n - i) (G - (i + 1))), (51, .slice (some ⟨g, 0, none⟩) n n), (52, .int .i64 i), (53, .slice (some ⟨g, i, none⟩) (n - i) (n - i)), (54, .int .i64 ((n - i : Nat) : Int))]

set_option maxRecDepth 100000 in
set_option maxHeartbeats 4000000 in
theorem insert_mid (l : List Rn) (g i B : Nat) (xa : Option Addr) (xc : Nat) (xl : List flP.Pr) (ga : Nat) (w : World) (hi : i < l.length) (hl : l.length ≤ 1048576) (hB : B ≤ w.heap.size) (ho : w.ownsRow B 24 1 (.slice (some ⟨g, 0, none⟩) l.length l.length) l.length (l.flatMap cR)) (ha : w.heap[ga]? = some (.cells #[.slice xa xl.length xc] 24 (0, 0))) :
    Calls Try.prog 50 #[.slice (some ⟨g, 0, none⟩) l.length l.length, .int .i64 i, .slice (some ⟨ga, 0, none⟩) 1 1] w fun r w' => ∃ g2 c2, r = .returned (.slice (some ⟨g2, 0, none⟩) (l.length + 1) c2) ∧ w'.ownsRow B 24 1 (.slice (some ⟨g2, 0, none⟩) (l.length + 1) c2) (l.length + 1) ((l.take i ++ ⟨xa, xc, xl⟩ :: l.drop i).flatMap cR) ∧ Below w.heap.size w w' := by
  obtain ⟨i1, ki, kz0, kz1, kz2⟩ := infoX
  have hcells := owns_cells cR_len ho
  have hgl : g < w.heap.size := by obtain ⟨_, cur, hcur⟩ := owns_at ho; exact (Array.getElem?_eq_some_iff.1 hcur).1
  have hgal := (Array.getElem?_eq_some_iff.1 ha).1
  obtain ⟨n, hn⟩ : ∃ n, l.length = n := ⟨_, rfl⟩
  have hxl : ((l.take i).flatMap cR).length = i * 1 := by rw [flat_len cR_len, List.length_take]; congr 1; omega
  have hdl : ((l.drop i).flatMap cR).length = (n - i) * 1 := by rw [flat_len cR_len, List.length_drop, hn]
  have hxc : ∀ (j : Nat) (u : Value), ((l.take i).flatMap cR)[j]? = some u → w.cell? ((⟨g, 0, none⟩ : Addr).add j) = some u := fun j u hu => by
    rw [add_at, Nat.zero_add]
    refine hcells j u ?_
    rw [← flat_take l i, List.getElem?_append_left (List.getElem?_eq_some_iff.1 hu).1]
    exact hu
  have hdc : ∀ (j : Nat) (u : Value), ((l.drop i).flatMap cR)[j]? = some u → w.cell? ((⟨g, i * 1, none⟩ : Addr).add j) = some u := fun j u hu => by
    rw [add_at]
    refine hcells (i * 1 + j) u ?_
    rw [← flat_take l i, List.getElem?_append_right (by rw [hxl]; omega), hxl, show i * 1 + j - i * 1 = j by omega]
    exact hu
  rw [hn] at hi hl
  simp only [hn]
  have hz := fun ty => az.run_append_zeros (P := Try.prog) w 25 3 ty 24 i1 _ Try.underlying25 Try.underlying3 ki kz0 ⟨g, 0, none⟩ i n ((l.take i).flatMap cR) (by rw [hxl, kz1]) hxc (n + 1 - i) (by rw [kz1]; omega) (by omega) (by omega) (by rw [kz2]; omega) (by rw [kz2]; exact growslice_fits_wide (by omega) (by omega))
  rw [show i + (n + 1 - i) = n + 1 by omega] at hz
  have hG1 := grownCap_ge w (n + 1) n 24
  have hG2 := grownCap_le_maxLen w (n + 1) n 24 (by unfold maxLen; omega)
  obtain ⟨G, hG⟩ : ∃ G, grownCap w (n + 1) n 24 = G := ⟨_, rfl⟩
  rw [hG] at hz hG1 hG2
  obtain ⟨rest, hrest⟩ : ∃ rest : List Value, rest.length = (G - i) * 1 ∧ ∀ zc : Array Value, zc = (Value.slice none 0 0).cells → (((l.take i).flatMap cR).toArray ++ Builtin.zeroCells zc (n + 1 - i) ++ Builtin.zeroCells zc (G - (n + 1))) = (((l.take i).flatMap cR) ++ rest).toArray := by
    refine ⟨(Builtin.zeroCells (Value.slice none 0 0).cells (n + 1 - i) ++ Builtin.zeroCells (Value.slice none 0 0).cells (G - (n + 1))).toList, ?_, ?_⟩
    · simp [size_zeroCells, Value.cells]; omega
    · rintro zc rfl; simp
  have hrow := hrest.2 _ rfl
  rw [hrow] at hz
  have hk : (n : Int) + 1 - (i : Int) = ((n + 1 - i : Nat) : Int) := by omega
  rw [← hk] at hz
  obtain ⟨xs, hxs⟩ : ∃ xs, (l.take i).flatMap cR = xs := ⟨_, rfl⟩
  obtain ⟨cs, hcs⟩ : ∃ cs, (l.drop i).flatMap cR = cs := ⟨_, rfl⟩
  rw [hxs] at hz hxl
  rw [hcs] at hdl hdc
  have hfl : (l.take i ++ ⟨xa, xc, xl⟩ :: l.drop i).flatMap cR = xs ++ [Value.slice xa xl.length xc] ++ cs := by rw [← hxs, ← hcs]; simp [cR]
  rw [hfl]
  have hone : ∀ u ∈ cs, u.oneCell' = true := by rw [← hcs]; exact oneX _
  have hg1 : (w.drew.alloc (.cells (xs ++ rest).toArray 24)).heap[w.heap.size]? = some (.cells (xs ++ rest).toArray 24 (0, 0)) := bnew w.drew _ _
  have hb1 : Below w.heap.size w (w.drew.alloc (.cells (xs ++ rest).toArray 24)) := (Below.refl _ w).drew.alloc (Nat.le_refl _) _
  obtain ⟨W1, hW1⟩ : ∃ W1, w.drew.alloc (.cells (xs ++ rest).toArray 24) = W1 := ⟨_, rfl⟩
  rw [hW1] at hz hg1 hb1
  have hav := bstay ha hb1 hgal
  have hrl := hrest.1
  have hmin1 : Nat.min 1 (n + 1 - i) = 1 := Nat.min_eq_left (by omega)
  have hmin2 : Nat.min (n - i) (n - i) = n - i := Nat.min_self _
  have hc1 := fun ty => cpr.run_copy_rows (P := Try.prog) W1 25 25 ty 24 i1 w.heap.size (i * 1) (n + 1 - i) (G - i) ⟨ga, 0, none⟩ 1 1 (xs ++ rest).toArray 24 [Value.slice xa xl.length xc] Try.underlying25 ki hg1 (by rw [kz1, hmin1]; rfl) (fun j u hu => by
    rw [add_at, Nat.zero_add]
    match j, hu with
    | 0, hu => cases hu; exact bcell hav rfl
    | j + 1, hu => simp at hu) (by simp; omega) (by simp [Value.oneCell'])
  rw [hmin1] at hc1
  simp only [show ([Value.slice xa xl.length xc] : List Value).length = 1 from rfl] at hc1
  obtain ⟨A1, hA1⟩ : ∃ A1 : List Value, (xs ++ rest).take (i * 1) ++ [Value.slice xa xl.length xc] ++ (xs ++ rest).drop (i * 1 + 1) = A1 := ⟨_, rfl⟩
  rw [hA1] at hc1
  have hA1l : A1.length = i * 1 + (G - i) * 1 := by rw [← hA1]; simp; omega
  have hg2 : (W1.setRow w.heap.size A1.toArray).heap[w.heap.size]? = some (.cells A1.toArray 24 (0, 0)) := setRow_heap W1 w.heap.size _ _ 24 _ hg1
  have hb2 : Below w.heap.size w (W1.setRow w.heap.size A1.toArray) := below_setRow hb1 (Nat.le_refl _) _
  obtain ⟨W2, hW2⟩ : ∃ W2, W1.setRow w.heap.size A1.toArray = W2 := ⟨_, rfl⟩
  rw [hW2] at hc1 hg2 hb2
  have hc2 := fun ty => cpr.run_copy_rows (P := Try.prog) W2.drew 25 25 ty 24 i1 w.heap.size ((i + 1) * 1) (n - i) (G - (i + 1)) ⟨g, i * 1, none⟩ (n - i) (n - i) A1.toArray 24 cs Try.underlying25 ki hg2 (by rw [kz1, hmin2, hdl]) (fun j u hu => by
    have := hdc j u hu
    rw [add_at] at this ⊢
    exact (hb2.drew.cell (p := ⟨g, i * 1 + j, none⟩) hgl).trans this) (by rw [hdl]; simp; omega) hone
  rw [hmin2] at hc2
  have hc2 := fun ty => (hc2 ty).trans rfl
  have htwo : A1.take ((i + 1) * 1) ++ cs ++ A1.drop ((i + 1) * 1 + cs.length) = xs ++ [Value.slice xa xl.length xc] ++ cs ++ rest.drop (1 + cs.length) := by
    rw [← hA1]
    exact two_copies (v := [Value.slice xa xl.length xc]) hxl (by show i * 1 + 1 = (i + 1) * 1; omega) (by show 1 + cs.length ≤ rest.length; omega)
  rw [htwo] at hc2
  have hg3 : (W2.drew.setRow w.heap.size (xs ++ [Value.slice xa xl.length xc] ++ cs ++ rest.drop (1 + cs.length)).toArray).heap[w.heap.size]? = some (.cells (xs ++ [Value.slice xa xl.length xc] ++ cs ++ rest.drop (1 + cs.length)).toArray 24 (0, 0)) := setRow_heap W2.drew w.heap.size _ _ 24 _ hg2
  have hb3 : Below w.heap.size w (W2.drew.setRow w.heap.size (xs ++ [Value.slice xa xl.length xc] ++ cs ++ rest.drop (1 + cs.length)).toArray) := below_setRow hb2.drew (Nat.le_refl _) _
  have hown : (W2.drew.setRow w.heap.size (xs ++ [Value.slice xa xl.length xc] ++ cs ++ rest.drop (1 + cs.length)).toArray).ownsRow B 24 1 (.slice (some ⟨w.heap.size, 0, none⟩) (n + 1) G) (n + 1) (xs ++ [Value.slice xa xl.length xc] ++ cs) :=
    owns_new (tl := rest.drop (1 + cs.length)) hg3 hB (by simp) (by simp; omega) hG1 hG2 (by simp; omega)
  obtain ⟨W3, hW3⟩ : ∃ W3, W2.drew.setRow w.heap.size (xs ++ [Value.slice xa xl.length xc] ++ cs ++ rest.drop (1 + cs.length)).toArray = W3 := ⟨_, rfl⟩
  rw [hW3] at hc2 hb3 hown
  have HB3 : Hid (Below w.heap.size w W3) := hb3
  have HOWN : Hid (W3.ownsRow B 24 1 (.slice (some ⟨w.heap.size, 0, none⟩) (n + 1) G) (n + 1) (xs ++ [Value.slice xa xl.length xc] ++ cs)) := hown
  have i9 : IntKind.i64.wrap ((i : Int) + 1) = (i : Int) + 1 := by rw [IntKind.wrap_i64]; omega
  have r1 : i ≤ n := by omega
  have r2 : (0 : Int) ≤ (i : Int) + 1 := by omega
  have r3 : ¬ G = i + 1 := by omega
  have r4 : ¬ n = i := by omega
  have q1 : ¬ (i : Int) = (n : Int) := by omega
  have q2 : i < G := by omega
  have q3 : i + 1 < G := by omega
  have q4 : (n : Int) < (n : Int) + 1 := by omega
  have q5 : n - i ≠ 0 := by omega
  simp only [Nat.mul_one] at hc1 hc2
  clear hcells hxc hdc ho ha hrest hrow hav hg1 hg2 hg3 hb1 hb2 hb3 hown hA1 htwo hW1 hW2 hW3 hone hfl hxs hcs hk hG
  go_enter Try.func50, Try.ntmps50
  go_wp2_with (at_builtin; first | refine cpr.wpList_append_run rfl _ _ 25 3 rfl _ _ _ rfl rfl (hz _) ?_ | refine cpr.wpList_copy_run rfl _ _ 25 25 rfl _ _ _ rfl rfl (hc1 _) ?_)
  refine dk.region_sets (ws w.heap.size g i n G) [46, 47, 48, 49, 50, 51, 52, 53, 54] (dk.Cl (fun b W => W = if b then W3 else W2.drew) 8) (by kernel_rfl) (by kernel_rfl) rfl (by kernel_rfl) rfl ?each ?fin
  case each =>
    refine ⟨dk.q (by decide) (.slice (some ⟨w.heap.size, 0, none⟩) (n + 1) G) (by rintro _ ⟨⟩; exact dk.sets_on _ (by simp) _ rfl) (fun b W h => by simp [execOp, go_sem, Act.eval, dk.sets_get, ws, List.lookup]), ?_⟩
    refine ⟨dk.q (by decide) (.int .i64 i) (by rintro _ ⟨⟩; exact dk.sets_on _ (by simp) _ rfl) (fun b W h => by simp [execOp, go_sem, Act.eval, dk.sets_get, ws, List.lookup]), ?_⟩
    refine ⟨dk.q (by decide) (.int .i64 1) (by rintro _ ⟨⟩; exact dk.sets_on _ (by simp) _ rfl) (fun b W h => by simp [execOp, go_sem, Act.eval, dk.sets_get, ws, List.lookup]), ?_⟩
    refine ⟨dk.q (by decide) (.int .i64 ((i : Int) + 1)) (by rintro _ ⟨⟩; exact dk.sets_on _ (by simp) _ rfl) (fun b W h => by simp [execOp, go_sem, Act.eval, dk.sets_get, ws, List.lookup, i9]), ?_⟩
    refine ⟨dk.q (by decide) (.slice (some ⟨w.heap.size, (i + 1), none⟩) (n - i) (G - (i + 1))) (by rintro _ ⟨⟩; exact dk.sets_on _ (by simp) _ rfl) (fun b W h => by simp [execOp, go_sem, Act.eval, dk.sets_get, ws, List.lookup, r1, r2, r3]), ?_⟩
    refine ⟨dk.q (by decide) (.slice (some ⟨g, 0, none⟩) n n) (by rintro _ ⟨⟩; exact dk.sets_on _ (by simp) _ rfl) (fun b W h => by simp [execOp, go_sem, Act.eval, dk.sets_get, ws, List.lookup]), ?_⟩
    refine ⟨dk.q (by decide) (.int .i64 i) (by rintro _ ⟨⟩; exact dk.sets_on _ (by simp) _ rfl) (fun b W h => by simp [execOp, go_sem, Act.eval, dk.sets_get, ws, List.lookup]), ?_⟩
    refine ⟨dk.q (by decide) (.slice (some ⟨g, i, none⟩) (n - i) (n - i)) (by rintro _ ⟨⟩; exact dk.sets_on _ (by simp) _ rfl) (fun b W h => by simp [execOp, go_sem, Act.eval, dk.sets_get, ws, List.lookup, r1, r4]), ?_⟩
    refine ⟨cpr.lastv (.int .i64 ((n - i : Nat) : Int)) (by rintro _ ⟨⟩; exact dk.sets_on _ (by simp) _ rfl) (fun W h => ?_), trivial⟩
    obtain rfl : W = W2.drew := h
    refine ⟨W3, ?_, rfl⟩
    simp [execOp, resolve, invoke, builtin, Act.eval, dk.sets_get, ws, List.lookup, hc2]
    rfl
  case fin =>
    intro L W hL hC
    obtain rfl : W = W3 := by
      have h8 := hL 8 (by decide)
      unfold dk.Cl at hC
      rw [h8] at hC
      exact hC
    simp only [dk.sets, ws]
    go_wp2
    go_ret
    exact ⟨_, _, rfl, HOWN.out, HB3.out⟩
set_option maxRecDepth 100000 in
set_option maxHeartbeats 4000000 in
theorem insert_end (l : List Rn) (g B : Nat) (xa : Option Addr) (xc : Nat) (xl : List flP.Pr) (ga : Nat) (w : World) (hl : l.length ≤ 1048576) (hB : B ≤ w.heap.size) (ho : w.ownsRow B 24 1 (.slice (some ⟨g, 0, none⟩) l.length l.length) l.length (l.flatMap cR)) (ha : w.heap[ga]? = some (.cells #[.slice xa xl.length xc] 24 (0, 0))) :
    Calls Try.prog 50 #[.slice (some ⟨g, 0, none⟩) l.length l.length, .int .i64 l.length, .slice (some ⟨ga, 0, none⟩) 1 1] w fun r w' => ∃ g2 c2, r = .returned (.slice (some ⟨g2, 0, none⟩) (l.length + 1) c2) ∧ w'.ownsRow B 24 1 (.slice (some ⟨g2, 0, none⟩) (l.length + 1) c2) (l.length + 1) ((l ++ [(⟨xa, xc, xl⟩ : Rn)]).flatMap cR) ∧ w.grownBy w' (some g) := by
  obtain ⟨i1, ki, kz0, kz1, kz2⟩ := infoX
  have hfl : (l ++ [(⟨xa, xc, xl⟩ : Rn)]).flatMap cR = l.flatMap cR ++ [Value.slice xa xl.length xc] := by rw [List.flatMap_append]; simp [cR]
  rw [hfl]
  have hnw : ∀ (j : Nat) (u : Value), [Value.slice xa xl.length xc][j]? = some u → w.cell? ((⟨ga, 0, none⟩ : Addr).add j) = some u := fun j u hu => by
    rw [add_at, Nat.zero_add]
    match j, hu with
    | 0, hu => cases hu; exact bcell ha rfl
    | j + 1, hu => simp at hu
  clear hfl ha
  go_enter Try.func50, Try.ntmps50
  go_wp2_with (at_builtin; refine wpList_append_own _ rfl _ _ 25 rfl B 24 i1 (.slice none 0 0) 1 24 Try.underlying25 ki kz0 kz1 kz2 rfl (by decide) _ _ _ rfl ho ⟨ga, 0, none⟩ 1 1 [Value.slice xa xl.length xc] rfl rfl hnw (by simp [Value.oneCell']) (by unfold maxLen; omega) (by omega) hB ?_)
  intro v' w' hown hgrow _
  obtain ⟨g2, c2, rfl⟩ := own_form hown
  have HO : Hid (w'.ownsRow B 24 1 (.slice (some ⟨g2, 0, none⟩) (l.length + 1) c2) (l.length + 1) (l.flatMap cR ++ [Value.slice xa xl.length xc])) := hown
  have HG : Hid (w.grownBy w' (some g)) := hgrow
  clear hown hgrow ho hnw
  go_wp2
  go_ret
  exact ⟨_, _, rfl, HO.out, HG.out⟩
/-- either way -/
theorem insert_run (l : List Rn) (g i B : Nat) (xa : Option Addr) (xc : Nat) (xl : List flP.Pr) (ga : Nat) (w : World) (hi : i ≤ l.length) (hl : l.length ≤ 1048576) (hB : B ≤ w.heap.size) (ho : w.ownsRow B 24 1 (.slice (some ⟨g, 0, none⟩) l.length l.length) l.length (l.flatMap cR)) (ha : w.heap[ga]? = some (.cells #[.slice xa xl.length xc] 24 (0, 0))) :
    Calls Try.prog 50 #[.slice (some ⟨g, 0, none⟩) l.length l.length, .int .i64 i, .slice (some ⟨ga, 0, none⟩) 1 1] w fun r w' => ∃ g2 c2, r = .returned (.slice (some ⟨g2, 0, none⟩) (l.length + 1) c2) ∧ w'.ownsRow B 24 1 (.slice (some ⟨g2, 0, none⟩) (l.length + 1) c2) (l.length + 1) ((l.take i ++ ⟨xa, xc, xl⟩ :: l.drop i).flatMap cR) ∧ w.grownBy w' (some g) := by
  by_cases h : i < l.length
  · exact (insert_mid l g i B xa xc xl ga w h hl hB ho ha).mono fun r w' ⟨g2, c2, h1, h2, h3⟩ => ⟨g2, c2, h1, h2, ⟨h3.os, h3.tape, h3.output, h3.size, fun k hk _ => h3.block k hk⟩⟩
  · obtain rfl : i = l.length := by omega
    rw [List.take_length, List.drop_length]
    exact insert_end l g B xa xc xl ga w hl hB ho ha
end Go.Proofs.Ytokaoafbgebelaa.insr
