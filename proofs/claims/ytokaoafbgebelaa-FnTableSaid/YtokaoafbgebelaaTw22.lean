/- FnTable, walked: what comes on the way is as it is told, at every code. -/
import Derived.Test.YtokaoafbgebelaaTw20
import Derived.Test.YtokaoafbgebelaaTw21
import Derived.Test.YtokaoafbgebelaaTw02
import Derived.Deep.RegionWith
import Derived.Test.YtokaoafbgebelaaTw18
import Derived.Test.YtokaoafbgebelaaQuietIn

/- The specification's draw of a table. -/
namespace Go.Proofs.Ytokaoafbgebelaa.dtt
open Go.ChangeShapes Go.WideShapes Go.ChangeAt Go.RowKit Go.Proofs.Ytokaoafbgebelaa.fl Go.Proofs.Ytokaoafbgebelaa.fo Go.Proofs.Ytokaoafbgebelaa.dw Go.Proofs.Ytokaoafbgebelaa.rn Go.Proofs.Ytokaoafbgebelaa.rc Go.Proofs.Ytokaoafbgebelaa.ro Go.Proofs.Ytokaoafbgebelaa.tk Go.Proofs.Ytokaoafbgebelaa.tko Go.Proofs.Ytokaoafbgebelaa.tan Go.Proofs.Ytokaoafbgebelaa.ptp Go.Proofs.Ytokaoafbgebelaa.dlt
set_option linter.unusedVariables false

def keys4 : List ByteArray := [⟨#[97]⟩, ⟨#[122, 122]⟩, ⟨#[]⟩]
theorem keys4_in : ∀ z ∈ keys4, z.size ≤ 2 := by decide
/-- how long the list in a cell is -/
def lenC (b o : Nat) (W : World) : Nat := match W.cell? ⟨b, o, none⟩ with
  | some (.slice _ n _) => n
  | _ => 0
theorem dec_small (n : Nat) (h : n ≤ 1000) : (⟨(Lib.itoa (1000 + (n : Int))).toArray⟩ : ByteArray).size ≤ 20 := by
  have e : Lib.itoa (1000 + (n : Int)) = Lib.decDigits (1000 + n) := by
    unfold Lib.itoa
    rw [if_neg (by omega)]
    congr 1
  rw [e]
  have h1 := dt.digits_le 18 (1000 + n) (by have : (10 : Nat) ^ (18 + 1) = 10000000000000000000 := by decide
                                            omega)
  show (Lib.decDigits (1000 + n)).toArray.size ≤ 20
  rw [List.size_toArray]
  omega
theorem lenC_eq {b o n c : Nat} {a : Option Addr} {W : World} (h : W.cell? ⟨b, o, none⟩ = some (.slice a n c)) : lenC b o W = n := by unfold lenC; rw [h]
set_option maxRecDepth 100000 in
set_option maxHeartbeats 4000000 in
theorem draw_table (p : Nat) (a : Option Addr) (len cap : Nat) (w : World) (hc : Cur w p a len cap) :
    Calls Try.prog 28 #[.pointer (some ⟨p, 0, none⟩)] w fun e w' => (∃ (ys : List flP.Pr) (ks : List Rn) (ya : Option Addr) (yc : Nat) (ra : Option Addr) (rc : Nat), e = .returned (.agg #[.slice ya ys.length yc, .slice ra ks.length rc]) ∧ Sm 500 ys (ks.map (·.l)) ∧ Tb w.heap.size w' ys ks ya yc ra rc) ∧ Cur w' p a len cap ∧ On p w w' := by
  have hs0 := st_0 hc
  have h1 := draw_below p a len cap 24 _ (by omega) hs0.cur
  have HS0 : Hid (St p a len cap w [] [] none 0 none 0 ((w.alloc (.cells #[.slice none 0 0, .slice none 0 0] 27)).alloc (.cells #[.slice none 0 0, .slice none 0 0] 27))) := hs0
  have hp := hc.lt
  clear hc hs0
  go_enter Try.func28, Try.ntmps28
  go_wp2_with (go_at_call 32; fail)
  refine h1.mono ?_
  rintro e w1 ⟨⟨n, hn, rfl⟩, hc1, hb1⟩
  have HS1 : Hid (St p a len cap w [] [] none 0 none 0 w1) := HS0.out.draw hc1 hb1
  clear h1 hc1 hb1 HS0
  go_wp2
  go_loopw [5] (fun x wr => ∃ (j : Nat) (ys : List flP.Pr) (ks : List Rn) (ya : Option Addr) (yc : Nat) (ra : Option Addr) (rc : Nat), j ≤ n ∧ x = .int .i64 j ∧ Hid (Sm j ys (ks.map (·.l))) ∧ Hid (St p a len cap w ys ks ya yc ra rc wr)) (fun x _ => n - (intOf x).toNat)
  case atStart => exact ⟨0, [], [], none, 0, none, 0, Nat.zero_le _, rfl, sm_nil, HS1⟩
  case round =>
    obtain ⟨j, ys, ks, ya, yc, ra, rc, hj, rfl, HSM, hst⟩ := hrel
    clear HS1
    by_cases hjn : j < n
    · have i2 : (j : Int) < (n : Int) := by omega
      have c0 : wr.cell? ⟨w.heap.size + 1, 0, none⟩ = some (.slice ya ys.length yc) := bcell hst.out.sb rfl
      have c1 : wr.cell? ⟨w.heap.size + 1, 1, none⟩ = some (.slice ra ks.length rc) := bcell hst.out.sb rfl
      have hsb := hst.out.size
      have HN0 : Hid ((wr.alloc (.cells #[.slice ya ys.length yc, .slice ra ks.length rc] 27)).heap[wr.heap.size]? = some (.cells #[.slice ya ys.length yc, .slice ra ks.length rc] 27 (0, 0))) := bnew _ _ _
      have HT0 : Hid (St p a len cap w ys ks ya yc ra rc (wr.alloc (.cells #[.slice ya ys.length yc, .slice ra ks.length rc] 27))) := hst.out.alloc _
      have g1 := draw_below p a len cap 8 _ (by omega) HT0.out.cur
      go_wp2_with (go_at_call 32; fail)
      clear c0 c1 hst
      refine g1.mono ?_
      rintro e x1 ⟨⟨z, hz, rfl⟩, hd1, hf1⟩
      have HT1 : Hid (St p a len cap w ys ks ya yc ra rc x1) := HT0.out.draw hd1 hf1
      have HN1 : Hid (x1.heap[wr.heap.size]? = some (.cells #[.slice ya ys.length yc, .slice ra ks.length rc] 27 (0, 0))) := st_block HN0.out hf1 (by omega)
      have hs1 := HT1.out.size
      clear g1 hd1 hf1 HN0 HT0
      by_cases z4 : z < 4
      · obtain rfl | rfl | rfl | rfl : z = 0 ∨ z = 1 ∨ z = 2 ∨ z = 3 := by omega
        all_goals
          go_wp2
          refine cht.region (σ := G) (ws := (fun s : G => [(31, .agg #[.slice ya ys.length yc, .slice ra ks.length rc]), (32, .pointer (some ⟨p, 0, none⟩)), (33, .string s.t), (34, .pointer (some ⟨p, 0, none⟩)), (35, .pointer (some ⟨p, 0, none⟩)), (36, .int .i64 s.x), (37, .string s.u), (38, .tuple #[s.v, .bool s.b]), (30, .tuple #[s.v, .bool s.b]), (39, s.v), (40, .bool s.b)])) (js := [2, 5, 6, 7, 11]) (S := (fun g k W => Sx p a len cap w ys ks ya yc ra rc wr.heap.size j 4 (fun g k W => (1 ≤ k → g.t.size ≤ 101) ∧ (k = 2 → g.x < 4) ∧ (3 ≤ k → g.u.size ≤ 3)) g k W)) [31, 32, 33, 34, 35, 36, 37, 38, 30, 39, 40] ⟨0, 0, 0, ⟨#[]⟩, ⟨#[]⟩, undef, false⟩ (by kernel_rfl) (by kernel_rfl) (fun _ => rfl) (by kernel_rfl) (by decide) ⟨HT1.out.step (Below.refl _ _).drew, ⟨fun h => (by omega), fun h => (by omega), fun h => (by omega)⟩, fun _ => bstay HN1.out (Below.refl _ _).drew (by have := (Array.getElem?_eq_some_iff.1 HN1.out).1; omega), fun e => (by omega), fun e => (by omega)⟩ ?_ ?_
          · refine ⟨cht.quiet 5 rfl (by decide) (.inl rfl) (by simp) (fun s => .agg #[.slice ya ys.length yc, .slice ra ks.length rc]) (by rintro s _ ⟨⟩; exact dk.sets_on _ (by simp) _ rfl) (fun s k' W hk' hS => by have c0 : W.cell? ⟨w.heap.size + 1, 0, none⟩ = some (.slice ya ys.length yc) := bcell hS.st.sb rfl; have c1 : W.cell? ⟨w.heap.size + 1, 1, none⟩ = some (.slice ra ks.length rc) := bcell hS.st.sb rfl; simp [execOp, go_sem, Act.eval, dk.sets_get, List.lookup, c0, c1]), ?_⟩
            refine ⟨cht.quiet 5 rfl (by decide) (.inl rfl) (by simp) (fun s => .pointer (some ⟨p, 0, none⟩)) (by rintro s _ ⟨⟩; exact dk.sets_on _ (by simp) _ rfl) (fun s k' W hk' hS => by simp [execOp, go_sem, Act.eval, dk.sets_get, List.lookup]), ?_⟩
            refine ⟨chd.call 0 [2, 5, 6, 7, 8, 9, 10, 11] [33] (by kernel_rfl) (by kernel_rfl) rfl (by decide) rfl (.inl rfl) (by simp) 29 (fun s => #[.pointer (some ⟨p, 0, none⟩)]) (fun s W hS => by exact ⟨by simp [go_sem, Act.eval, dk.sets_get, List.lookup], (dkt.draw_key p a len cap W hS.st.cur).mono fun e w9 hh => by obtain ⟨⟨z9, hz9, rfl⟩, k1, k2⟩ := hh; exact ⟨{ s with t := z9 }, _, rfl, (by simp [chd.But]), (by rintro _ ⟨⟩; exact dk.sets_on _ (by simp) _ rfl), hS.draw (by decide) (by omega) k1 k2 (⟨fun _ => hz9, fun h => (by omega), fun h => (by omega)⟩)⟩⟩), ?_⟩
            refine ⟨cht.quiet 5 rfl (by decide) (.inl rfl) (by simp) (fun s => .pointer (some ⟨p, 0, none⟩)) (by rintro s _ ⟨⟩; exact dk.sets_on _ (by simp) _ rfl) (fun s k' W hk' hS => by simp [execOp, go_sem, Act.eval, dk.sets_get, List.lookup]), ?_⟩
            refine ⟨cht.quiet 5 rfl (by decide) (.inl rfl) (by simp) (fun s => .pointer (some ⟨p, 0, none⟩)) (by rintro s _ ⟨⟩; exact dk.sets_on _ (by simp) _ rfl) (fun s k' W hk' hS => by simp [execOp, go_sem, Act.eval, dk.sets_get, List.lookup]), ?_⟩
            refine ⟨chd.call 1 [5, 6, 7, 8, 9, 10, 11] [36] (by kernel_rfl) (by kernel_rfl) rfl (by decide) rfl (.inr ⟨⟨2, .chain⟩, by simp, rfl, rfl⟩) (by simp) 32 (fun s => #[.pointer (some ⟨p, 0, none⟩), .int .i64 4]) (fun s W hS => by exact ⟨by simp [go_sem, Act.eval, dk.sets_get, List.lookup], (draw_below p a len cap 4 W (by omega) hS.st.cur).mono fun e w9 hh => by obtain ⟨⟨z9, hz9, rfl⟩, k1, k2⟩ := hh; exact ⟨{ s with x := z9 }, _, rfl, (by simp [chd.But]), (by rintro _ ⟨⟩; exact dk.sets_on _ (by simp) _ rfl), hS.draw (by decide) (by omega) k1 k2 (⟨fun _ => hS.pre.1 (by omega), fun _ => hz9, fun h => (by omega)⟩)⟩⟩), ?_⟩
            refine ⟨chd.call 2 [6, 7, 8, 9, 10, 11] [37] (by kernel_rfl) (by kernel_rfl) rfl (by decide) rfl (.inr ⟨⟨5, .data⟩, by simp, rfl, rfl⟩) (by simp) 31 (fun s => #[.pointer (some ⟨p, 0, none⟩), .int .i64 s.x]) (fun s W hS => by exact ⟨by simp [go_sem, Act.eval, dk.sets_get, List.lookup], (draw_bytes p a len cap s.x W (by have := hS.pre.2.1 rfl; omega) hS.st.cur).mono fun e w9 hh => by obtain ⟨⟨z9, hz9, rfl⟩, k1, k2⟩ := hh; exact ⟨{ s with u := z9 }, _, rfl, (by simp [chd.But]), (by rintro _ ⟨⟩; exact dk.sets_on _ (by simp) _ rfl), hS.draw (by decide) (by omega) k1 k2 (⟨fun _ => hS.pre.1 (by omega), fun h => (by omega), fun _ => (by have h9 := hS.pre.2.1 rfl; show z9.size ≤ 3; omega)⟩)⟩⟩), ?_⟩
            refine ⟨chd.call 3 [7, 8, 9, 10, 11] [38, 30, 39, 40] (by kernel_rfl) (by kernel_rfl) rfl (by decide) rfl (.inr ⟨⟨6, .data⟩, by simp, rfl, rfl⟩) (by simp) 8 (fun s => #[.agg #[.slice ya ys.length yc, .slice ra ks.length rc], .string s.t, .string s.u]) (fun s W hS => by exact ⟨by simp [go_sem, Act.eval, dk.sets_get, List.lookup], (hS.st.putT HSM.out (by omega) s.t s.u (hS.pre.1 (by omega)) (by have := hS.pre.2.2 (by omega); omega)).mono fun e w9 hh => by obtain ⟨⟨v9, b9, rfl, n9⟩, k1⟩ := hh; exact ⟨{ s with v := v9, b := b9 }, _, rfl, (by simp [chd.But]), (by rintro _ ⟨⟩; exact dk.sets_on _ (by simp) _ rfl), hS.last (by decide) k1 n9 (⟨fun _ => hS.pre.1 (by omega), fun h => (by omega), fun _ => hS.pre.2.2 (by omega)⟩)⟩⟩), ?_⟩
            refine ⟨cht.quiet 5 rfl (by decide) (.inl rfl) (by simp) (fun s => .tuple #[s.v, .bool s.b]) (by rintro s _ ⟨⟩; exact dk.sets_on _ (by simp) _ rfl) (fun s k' W hk' hS => by simp [execOp, go_sem, Act.eval, dk.sets_get, List.lookup]), ?_⟩
            refine ⟨cht.quiet 5 rfl (by decide) (.inl rfl) (by simp) (fun s => s.v) (by rintro s _ ⟨⟩; exact dk.sets_on _ (by simp) _ rfl) (fun s k' W hk' hS => by simp [execOp, go_sem, Act.eval, dk.sets_get, List.lookup]), ?_⟩
            refine ⟨cht.quiet 5 rfl (by decide) (.inl rfl) (by simp) (fun s => .bool s.b) (by rintro s _ ⟨⟩; exact dk.sets_on _ (by simp) _ rfl) (fun s k' W hk' hS => by simp [execOp, go_sem, Act.eval, dk.sets_get, List.lookup]), ?_⟩
            exact ⟨cht.sto 4 rfl (by decide) rfl (.inr ⟨⟨7, .chain⟩, by simp, rfl, rfl⟩) (by simp) rfl (fun s W hS => by obtain ⟨ys', ks', ya', yc', ra', rc', hv, ⟨c0, c1⟩, hf, hS'⟩ := hS.sto (by omega) (fun _ => ⟨fun _ => hS.pre.1 (by omega), fun h => (by omega), fun _ => hS.pre.2.2 (by omega)⟩); have f0 := hf 0; have f1 := hf 1; exact ⟨res2 W wr.heap.size (.slice ya' ys'.length yc') (.slice ra' ks'.length rc'), by simp [execOp, go_sem, Act.eval, dk.sets_get, List.lookup, hv, c0, c1, f0, f1, res2], hS'⟩), trivial⟩
          · intro s x5 hS
            have HT5 : Hid (St p a len cap w ys ks ya yc ra rc x5) := hS.st
            obtain ⟨ys', ks', ya', yc', ra', rc', hb5, hsm5, hd5⟩ := hS.fin rfl
            have HSM5 : Hid (Sm (j + 1) ys' (ks'.map (·.l))) := hsm5
            have HD5 : Hid (Tb (w.heap.size + 2) x5 ys' ks' ya' yc' ra' rc') := hd5
            have b0 : x5.cell? ⟨wr.heap.size, 0, none⟩ = some (.slice ya' ys'.length yc') := bcell hb5 rfl
            have b1 : x5.cell? ⟨wr.heap.size, 1, none⟩ = some (.slice ra' ks'.length rc') := bcell hb5 rfl
            have c0 : x5.cell? ⟨w.heap.size + 1, 0, none⟩ = some (.slice ya ys.length yc) := bcell HT5.out.sb rfl
            have c1 : x5.cell? ⟨w.heap.size + 1, 1, none⟩ = some (.slice ra ks.length rc) := bcell HT5.out.sb rfl
            have e0 := bfree HT5.out.sb 0
            have e1 := bfree HT5.out.sb 1
            obtain ⟨sx, sy, sA, sT, sU, sV, sB⟩ := s
            clear hS hb5 hsm5 hd5
            simp only [dk.sets]
            go_wp2
            go_roundw
            case rel => exact ⟨j + 1, ys', ks', ya', yc', ra', rc', by omega, by go_num, HSM5.out, St.put HT5.out HD5.out⟩
            case measure => simp [intOf]; omega
      by_cases z0 : z = 4
      · subst z0
        go_wp2
        refine cht.region (σ := G) (ws := (fun s : G => [(44, .agg #[.slice ya ys.length yc, .slice ra ks.length rc]), (45, .pointer (some ⟨p, 0, none⟩)), (46, .string s.t), (47, .tuple #[s.v, .bool s.b]), (43, .tuple #[s.v, .bool s.b]), (48, s.v), (49, .bool s.b)])) (js := [2, 3, 7]) (S := (fun g k W => Sx p a len cap w ys ks ya yc ra rc wr.heap.size j 2 (fun g k W => 1 ≤ k → g.t.size ≤ 101) g k W)) [44, 45, 46, 47, 43, 48, 49] ⟨0, 0, 0, ⟨#[]⟩, ⟨#[]⟩, undef, false⟩ (by kernel_rfl) (by kernel_rfl) (fun _ => rfl) (by kernel_rfl) (by decide) ⟨HT1.out.step (Below.refl _ _).drew, fun h => (by omega), fun _ => bstay HN1.out (Below.refl _ _).drew (by have := (Array.getElem?_eq_some_iff.1 HN1.out).1; omega), fun e => (by omega), fun e => (by omega)⟩ ?each ?fin
        case each =>
          refine ⟨cht.quiet 3 rfl (by decide) (.inl rfl) (by simp) (fun s => .agg #[.slice ya ys.length yc, .slice ra ks.length rc]) (by rintro s _ ⟨⟩; exact dk.sets_on _ (by simp) _ rfl) (fun s k' W hk' hS => by have c0 : W.cell? ⟨w.heap.size + 1, 0, none⟩ = some (.slice ya ys.length yc) := bcell hS.st.sb rfl; have c1 : W.cell? ⟨w.heap.size + 1, 1, none⟩ = some (.slice ra ks.length rc) := bcell hS.st.sb rfl; simp [execOp, go_sem, Act.eval, dk.sets_get, List.lookup, c0, c1]), ?_⟩
          refine ⟨cht.quiet 3 rfl (by decide) (.inl rfl) (by simp) (fun s => .pointer (some ⟨p, 0, none⟩)) (by rintro s _ ⟨⟩; exact dk.sets_on _ (by simp) _ rfl) (fun s k' W hk' hS => by simp [execOp, go_sem, Act.eval, dk.sets_get, List.lookup]), ?_⟩
          refine ⟨chd.call 0 [2, 3, 4, 5, 6, 7] [46] (by kernel_rfl) (by kernel_rfl) rfl (by decide) rfl (.inl rfl) (by simp) 29 (fun s => #[.pointer (some ⟨p, 0, none⟩)]) (fun s W hS => by exact ⟨by simp [go_sem, Act.eval, dk.sets_get, List.lookup], (dkt.draw_key p a len cap W hS.st.cur).mono fun e w9 hh => by obtain ⟨⟨z9, hz9, rfl⟩, k1, k2⟩ := hh; exact ⟨{ s with t := z9 }, _, rfl, (by simp [chd.But]), (by rintro _ ⟨⟩; exact dk.sets_on _ (by simp) _ rfl), hS.draw (by decide) (by omega) k1 k2 (fun _ => hz9)⟩⟩), ?_⟩
          refine ⟨chd.call 1 [3, 4, 5, 6, 7] [47, 43, 48, 49] (by kernel_rfl) (by kernel_rfl) rfl (by decide) rfl (.inr ⟨⟨2, .data⟩, by simp, rfl, rfl⟩) (by simp) 10 (fun s => #[.agg #[.slice ya ys.length yc, .slice ra ks.length rc], .string s.t]) (fun s W hS => by exact ⟨by simp [go_sem, Act.eval, dk.sets_get, List.lookup], (hS.st.dropT HSM.out (by omega) s.t (hS.pre (by omega))).mono fun e w9 hh => by obtain ⟨⟨v9, b9, rfl, n9⟩, k1⟩ := hh; exact ⟨{ s with v := v9, b := b9 }, _, rfl, (by simp [chd.But]), (by rintro _ ⟨⟩; exact dk.sets_on _ (by simp) _ rfl), hS.last (by decide) k1 n9 (fun _ => hS.pre (by omega))⟩⟩), ?_⟩
          refine ⟨cht.quiet 3 rfl (by decide) (.inl rfl) (by simp) (fun s => .tuple #[s.v, .bool s.b]) (by rintro s _ ⟨⟩; exact dk.sets_on _ (by simp) _ rfl) (fun s k' W hk' hS => by simp [execOp, go_sem, Act.eval, dk.sets_get, List.lookup]), ?_⟩
          refine ⟨cht.quiet 3 rfl (by decide) (.inl rfl) (by simp) (fun s => s.v) (by rintro s _ ⟨⟩; exact dk.sets_on _ (by simp) _ rfl) (fun s k' W hk' hS => by simp [execOp, go_sem, Act.eval, dk.sets_get, List.lookup]), ?_⟩
          refine ⟨cht.quiet 3 rfl (by decide) (.inl rfl) (by simp) (fun s => .bool s.b) (by rintro s _ ⟨⟩; exact dk.sets_on _ (by simp) _ rfl) (fun s k' W hk' hS => by simp [execOp, go_sem, Act.eval, dk.sets_get, List.lookup]), ?_⟩
          exact ⟨cht.sto 2 rfl (by decide) rfl (.inr ⟨⟨3, .chain⟩, by simp, rfl, rfl⟩) (by simp) rfl (fun s W hS => by obtain ⟨ys', ks', ya', yc', ra', rc', hv, ⟨c0, c1⟩, hf, hS'⟩ := hS.sto (by omega) (fun _ _ => hS.pre (by omega)); have f0 := hf 0; have f1 := hf 1; exact ⟨res2 W wr.heap.size (.slice ya' ys'.length yc') (.slice ra' ks'.length rc'), by simp [execOp, go_sem, Act.eval, dk.sets_get, List.lookup, hv, c0, c1, f0, f1, res2], hS'⟩), trivial⟩
        case fin =>
          intro s x5 hS
          have HT5 : Hid (St p a len cap w ys ks ya yc ra rc x5) := hS.st
          obtain ⟨ys', ks', ya', yc', ra', rc', hb5, hsm5, hd5⟩ := hS.fin rfl
          have HSM5 : Hid (Sm (j + 1) ys' (ks'.map (·.l))) := hsm5
          have HD5 : Hid (Tb (w.heap.size + 2) x5 ys' ks' ya' yc' ra' rc') := hd5
          have b0 : x5.cell? ⟨wr.heap.size, 0, none⟩ = some (.slice ya' ys'.length yc') := bcell hb5 rfl
          have b1 : x5.cell? ⟨wr.heap.size, 1, none⟩ = some (.slice ra' ks'.length rc') := bcell hb5 rfl
          have c0 : x5.cell? ⟨w.heap.size + 1, 0, none⟩ = some (.slice ya ys.length yc) := bcell HT5.out.sb rfl
          have c1 : x5.cell? ⟨w.heap.size + 1, 1, none⟩ = some (.slice ra ks.length rc) := bcell HT5.out.sb rfl
          have e0 := bfree HT5.out.sb 0
          have e1 := bfree HT5.out.sb 1
          obtain ⟨sx, sy, sA, sT, sU, sV, sB⟩ := s
          clear hS hb5 hsm5 hd5
          simp only [dk.sets]
          go_wp2
          go_roundw
          case rel => exact ⟨j + 1, ys', ks', ya', yc', ra', rc', by omega, by go_num, HSM5.out, St.put HT5.out HD5.out⟩
          case measure => simp [intOf]; omega
      by_cases z5 : z < 7
      · have hfl := HT1.out.flushT HSM.out (by omega)
        have c0 : x1.cell? ⟨w.heap.size + 1, 0, none⟩ = some (.slice ya ys.length yc) := bcell HT1.out.sb rfl
        have c1 : x1.cell? ⟨w.heap.size + 1, 1, none⟩ = some (.slice ra ks.length rc) := bcell HT1.out.sb rfl
        obtain rfl | rfl : z = 5 ∨ z = 6 := by omega
        all_goals
          go_wp2_with (go_at_call 22; fail)
          refine hfl.mono ?_
          rintro e x5 ⟨⟨v9, b9, rfl, ys', ks', ya', yc', ra', rc', rfl, hsm5, hd5⟩, hb9⟩
          have HT5 : Hid (St p a len cap w ys ks ya yc ra rc x5) := HT1.out.step hb9
          have hn5 : x5.heap[wr.heap.size]? = some (.cells #[.slice ya ys.length yc, .slice ra ks.length rc] 27 (0, 0)) := bstay HN1.out hb9 (Array.getElem?_eq_some_iff.1 HN1.out).1
          have HSM5 : Hid (Sm (j + 1) ys' (ks'.map (·.l))) := hsm5
          have HN5 : Hid (x5.heap[wr.heap.size]? = some (.cells #[.slice ya ys.length yc, .slice ra ks.length rc] 27 (0, 0))) := hn5
          have HD5 : Hid (Tb (w.heap.size + 2) x5 ys' ks' ya' yc' ra' rc') := hd5
          have m0 : x5.cell? ⟨wr.heap.size, 0, none⟩ = some (.slice ya ys.length yc) := bcell hn5 rfl
          have m1 : x5.cell? ⟨wr.heap.size, 1, none⟩ = some (.slice ra ks.length rc) := bcell hn5 rfl
          have n0 := bfree hn5 0
          have n1 := bfree hn5 1
          have HT6 : Hid (St p a len cap w ys ks ya yc ra rc (res2 x5 wr.heap.size (.slice ya' ys'.length yc') (.slice ra' ks'.length rc'))) := HT5.out.res hn5 (by omega) _ _
          have HD6 : Hid (Tb (w.heap.size + 2) (res2 x5 wr.heap.size (.slice ya' ys'.length yc') (.slice ra' ks'.length rc')) ys' ks' ya' yc' ra' rc') := tb_res2 HD5.out hn5 _ _
          have hb6 : (res2 x5 wr.heap.size (.slice ya' ys'.length yc') (.slice ra' ks'.length rc')).heap[wr.heap.size]? = some (.cells #[.slice ya' ys'.length yc', .slice ra' ks'.length rc'] 27 (0, 0)) := res2_at hn5 _ _
          have b0 := bcell (j := 0) (v := .slice ya' ys'.length yc') hb6 rfl
          have b1 := bcell (j := 1) (v := .slice ra' ks'.length rc') hb6 rfl
          have c0 : (res2 x5 wr.heap.size (.slice ya' ys'.length yc') (.slice ra' ks'.length rc')).cell? ⟨w.heap.size + 1, 0, none⟩ = some (.slice ya ys.length yc) := bcell HT6.out.sb rfl
          have c1 : (res2 x5 wr.heap.size (.slice ya' ys'.length yc') (.slice ra' ks'.length rc')).cell? ⟨w.heap.size + 1, 1, none⟩ = some (.slice ra ks.length rc) := bcell HT6.out.sb rfl
          have e0 := bfree HT6.out.sb 0
          have e1 := bfree HT6.out.sb 1
          unfold res2 at HT6 HD6 b0 b1 c0 c1 e0 e1
          clear hfl hsm5 hd5 hb9 hn5 hb6 HT5 HN5 HT1 HN1 HD5
          go_wp2
          go_roundw
          case rel => exact ⟨j + 1, ys', ks', ya', yc', ra', rc', by omega, by go_num, HSM5.out, St.put HT6.out HD6.out⟩
          case measure => simp [intOf]; omega
      obtain rfl : z = 7 := by omega
      go_wp2
      refine cht.region (σ := G) (ws := (fun s : G => [(19, .agg #[.slice ya ys.length yc, .slice ra ks.length rc]), (20, .pointer (some ⟨p, 0, none⟩)), (21, .int .i64 s.x), (22, .tuple #[s.v, .bool s.b]), (18, .tuple #[s.v, .bool s.b]), (23, s.v), (24, .bool s.b)])) (js := [2, 3, 7]) (S := (fun g k W => Sx p a len cap w ys ks ya yc ra rc wr.heap.size j 2 (fun g k W => 1 ≤ k → g.x < 3) g k W)) [19, 20, 21, 22, 18, 23, 24] ⟨0, 0, 0, ⟨#[]⟩, ⟨#[]⟩, undef, false⟩ (by kernel_rfl) (by kernel_rfl) (fun _ => rfl) (by kernel_rfl) (by decide) ⟨HT1.out.step (Below.refl _ _).drew, fun h => (by omega), fun _ => bstay HN1.out (Below.refl _ _).drew (by have := (Array.getElem?_eq_some_iff.1 HN1.out).1; omega), fun e => (by omega), fun e => (by omega)⟩ ?each ?fin
      case each =>
        refine ⟨cht.quiet 3 rfl (by decide) (.inl rfl) (by simp) (fun s => .agg #[.slice ya ys.length yc, .slice ra ks.length rc]) (by rintro s _ ⟨⟩; exact dk.sets_on _ (by simp) _ rfl) (fun s k' W hk' hS => by have c0 : W.cell? ⟨w.heap.size + 1, 0, none⟩ = some (.slice ya ys.length yc) := bcell hS.st.sb rfl; have c1 : W.cell? ⟨w.heap.size + 1, 1, none⟩ = some (.slice ra ks.length rc) := bcell hS.st.sb rfl; simp [execOp, go_sem, Act.eval, dk.sets_get, List.lookup, c0, c1]), ?_⟩
        refine ⟨cht.quiet 3 rfl (by decide) (.inl rfl) (by simp) (fun s => .pointer (some ⟨p, 0, none⟩)) (by rintro s _ ⟨⟩; exact dk.sets_on _ (by simp) _ rfl) (fun s k' W hk' hS => by simp [execOp, go_sem, Act.eval, dk.sets_get, List.lookup]), ?_⟩
        refine ⟨chd.call 0 [2, 3, 4, 5, 6, 7] [21] (by kernel_rfl) (by kernel_rfl) rfl (by decide) rfl (.inl rfl) (by simp) 32 (fun s => #[.pointer (some ⟨p, 0, none⟩), .int .i64 3]) (fun s W hS => by exact ⟨by simp [go_sem, Act.eval, dk.sets_get, List.lookup], (draw_below p a len cap 3 W (by omega) hS.st.cur).mono fun e w9 hh => by obtain ⟨⟨z9, hz9, rfl⟩, k1, k2⟩ := hh; exact ⟨{ s with x := z9 }, _, rfl, (by simp [chd.But]), (by rintro _ ⟨⟩; exact dk.sets_on _ (by simp) _ rfl), hS.draw (by decide) (by omega) k1 k2 (fun _ => hz9)⟩⟩), ?_⟩
        refine ⟨chd.call 1 [3, 4, 5, 6, 7] [22, 18, 23, 24] (by kernel_rfl) (by kernel_rfl) rfl (by decide) rfl (.inr ⟨⟨2, .data⟩, by simp, rfl, rfl⟩) (by simp) 20 (fun s => #[.agg #[.slice ya ys.length yc, .slice ra ks.length rc], .int .i64 s.x]) (fun s W hS => by exact ⟨by simp [go_sem, Act.eval, dk.sets_get, List.lookup], (hS.st.mergeT HSM.out (by omega) s.x (by omega) (by have := hS.pre (by omega); omega)).mono fun e w9 hh => by obtain ⟨⟨v9, b9, rfl, n9⟩, k1⟩ := hh; exact ⟨{ s with v := v9, b := b9 }, _, rfl, (by simp [chd.But]), (by rintro _ ⟨⟩; exact dk.sets_on _ (by simp) _ rfl), hS.last (by decide) k1 n9 (fun _ => hS.pre (by omega))⟩⟩), ?_⟩
        refine ⟨cht.quiet 3 rfl (by decide) (.inl rfl) (by simp) (fun s => .tuple #[s.v, .bool s.b]) (by rintro s _ ⟨⟩; exact dk.sets_on _ (by simp) _ rfl) (fun s k' W hk' hS => by simp [execOp, go_sem, Act.eval, dk.sets_get, List.lookup]), ?_⟩
        refine ⟨cht.quiet 3 rfl (by decide) (.inl rfl) (by simp) (fun s => s.v) (by rintro s _ ⟨⟩; exact dk.sets_on _ (by simp) _ rfl) (fun s k' W hk' hS => by simp [execOp, go_sem, Act.eval, dk.sets_get, List.lookup]), ?_⟩
        refine ⟨cht.quiet 3 rfl (by decide) (.inl rfl) (by simp) (fun s => .bool s.b) (by rintro s _ ⟨⟩; exact dk.sets_on _ (by simp) _ rfl) (fun s k' W hk' hS => by simp [execOp, go_sem, Act.eval, dk.sets_get, List.lookup]), ?_⟩
        exact ⟨cht.sto 2 rfl (by decide) rfl (.inr ⟨⟨3, .chain⟩, by simp, rfl, rfl⟩) (by simp) rfl (fun s W hS => by obtain ⟨ys', ks', ya', yc', ra', rc', hv, ⟨c0, c1⟩, hf, hS'⟩ := hS.sto (by omega) (fun _ _ => hS.pre (by omega)); have f0 := hf 0; have f1 := hf 1; exact ⟨res2 W wr.heap.size (.slice ya' ys'.length yc') (.slice ra' ks'.length rc'), by simp [execOp, go_sem, Act.eval, dk.sets_get, List.lookup, hv, c0, c1, f0, f1, res2], hS'⟩), trivial⟩
      case fin =>
        intro s x5 hS
        have HT5 : Hid (St p a len cap w ys ks ya yc ra rc x5) := hS.st
        obtain ⟨ys', ks', ya', yc', ra', rc', hb5, hsm5, hd5⟩ := hS.fin rfl
        have HSM5 : Hid (Sm (j + 1) ys' (ks'.map (·.l))) := hsm5
        have HD5 : Hid (Tb (w.heap.size + 2) x5 ys' ks' ya' yc' ra' rc') := hd5
        have b0 : x5.cell? ⟨wr.heap.size, 0, none⟩ = some (.slice ya' ys'.length yc') := bcell hb5 rfl
        have b1 : x5.cell? ⟨wr.heap.size, 1, none⟩ = some (.slice ra' ks'.length rc') := bcell hb5 rfl
        have c0 : x5.cell? ⟨w.heap.size + 1, 0, none⟩ = some (.slice ya ys.length yc) := bcell HT5.out.sb rfl
        have c1 : x5.cell? ⟨w.heap.size + 1, 1, none⟩ = some (.slice ra ks.length rc) := bcell HT5.out.sb rfl
        have e0 := bfree HT5.out.sb 0
        have e1 := bfree HT5.out.sb 1
        obtain ⟨sx, sy, sA, sT, sU, sV, sB⟩ := s
        clear hS hb5 hsm5 hd5
        simp only [dk.sets]
        go_wp2
        go_roundw
        case rel => exact ⟨j + 1, ys', ks', ya', yc', ra', rc', by omega, by go_num, HSM5.out, St.put HT5.out HD5.out⟩
        case measure => simp [intOf]; omega
    · obtain rfl : j = n := by omega
      have hsb := hst.out.size
      have g1 := draw_below p a len cap 24 wr (by omega) hst.out.cur
      go_wp2_with (go_at_call 32; fail)
      refine g1.mono ?_
      rintro e x1 ⟨⟨z, hz, rfl⟩, hd1, hf1⟩
      have HT1 : Hid (St p a len cap w ys ks ya yc ra rc x1) := hst.out.draw hd1 hf1
      have hs1 := HT1.out.size
      have hyt := HSM.out.tt
      have hrl := HSM.out.rl
      rw [List.length_map] at hrl
      clear g1 hd1 hf1 hst
      by_cases z0 : z = 0
      · subst z0
        go_wp2
        refine cht.region (σ := G) (ws := (fun s : G => [(63, .pointer (some ⟨w.heap.size + 1, 0, none⟩)), (64, .slice ya ys.length yc), (65, .pointer (some ⟨p, 0, none⟩)), (66, .slice (some ⟨s.a, 0, none⟩) 3 3), (67, .string s.t), (68, .pointer (some ⟨p, 0, none⟩)), (69, .bool s.b), (70, .agg #[.string s.t, .string ⟨#[118]⟩, .bool s.b]), (71, .slice (some ⟨s.y, 0, none⟩) 1 1), (72, s.v), (73, .pointer (some ⟨w.heap.size + 1, 0, none⟩))])) (js := [3, 4, 6, 7, 8, 9, 11]) (S := (fun g k W => (k ≤ 5 → St p a len cap w ys ks ya yc ra rc W) ∧ (k = 1 → p < g.a ∧ ∀ i, i < 3 → ∃ z ∈ keys4, W.cell? ⟨g.a, i, none⟩ = some (.string z)) ∧ (2 ≤ k → g.t.size ≤ 2) ∧ (k = 5 → W.heap[g.y]? = some (.cells #[.string g.t, .string ⟨#[118]⟩, .bool g.b] 40 (0, 0))) ∧ (k = 7 → ∃ ya' yc', St p a len cap w (ys ++ [⟨g.t, ⟨#[118]⟩, g.b⟩]) ks ya' yc' ra rc W) ∧ (k = 6 → ∃ ya' yc', g.v = .slice ya' (ys.length + 1) yc' ∧ W.cell? ⟨w.heap.size + 1, 0, none⟩ = some (.slice ya ys.length yc) ∧ W.frozen? ⟨w.heap.size + 1, 0, none⟩ = false ∧ St p a len cap w (ys ++ [⟨g.t, ⟨#[118]⟩, g.b⟩]) ks ya' yc' ra rc (W.setCell ⟨w.heap.size + 1, 0, none⟩ (.slice ya' (ys.length + 1) yc'))))) [63, 64, 65, 66, 67, 68, 69, 70, 71, 72, 73] ⟨0, 0, 0, ⟨#[]⟩, ⟨#[]⟩, undef, false⟩ (by kernel_rfl) (by kernel_rfl) (fun _ => rfl) (by kernel_rfl) (by decide) ⟨fun _ => HT1.out.step (Below.refl _ _).drew, fun h => (by omega), fun h => (by omega), fun h => (by omega), fun h => (by omega), fun h => (by omega)⟩ ?each ?fin
        case each =>
          refine ⟨cht.quiet 7 rfl (by decide) (.inl rfl) (by simp) (fun s => .pointer (some ⟨w.heap.size + 1, 0, none⟩)) (by rintro s _ ⟨⟩; exact dk.sets_on _ (by simp) _ rfl) (fun s k' W hk' hS => by simp [execOp, go_sem, Act.eval, dk.sets_get, List.lookup]), ?_⟩
          refine ⟨cht.quiet 5 rfl (by decide) (.inr ⟨9, _, rfl, rfl, ⟨1, .data⟩, by simp, rfl, rfl⟩) (by simp) (fun s => .slice ya ys.length yc) (by rintro s _ ⟨⟩; exact dk.sets_on _ (by simp) _ rfl) (fun s k' W hk' hS => by have hst := hS.1 hk'; have c0 : W.cell? ⟨w.heap.size + 1, 0, none⟩ = some (.slice ya ys.length yc) := bcell hst.sb rfl; simp [execOp, go_sem, Act.eval, dk.sets_get, List.lookup, c0]), ?_⟩
          refine ⟨cht.quiet 7 rfl (by decide) (.inl rfl) (by simp) (fun s => .pointer (some ⟨p, 0, none⟩)) (by rintro s _ ⟨⟩; exact dk.sets_on _ (by simp) _ rfl) (fun s k' W hk' hS => by simp [execOp, go_sem, Act.eval, dk.sets_get, List.lookup]), ?_⟩
          refine ⟨chd.eff 0 [3, 4, 6, 7, 8, 9, 10, 11] [66] (by kernel_rfl) (by kernel_rfl) rfl (by decide) rfl (.inl rfl) (by simp) (fun s W hS => by exact ⟨{ s with a := W.heap.size }, .slice (some ⟨W.heap.size, 0, none⟩) 3 3, W.alloc (.cells #[.string ⟨#[97]⟩, .string ⟨#[122, 122]⟩, .string ⟨#[]⟩] 9), (by simp [chd.But]), (by rintro _ ⟨⟩; exact dk.sets_on _ (by simp) _ rfl), (by simp [execOp, go_sem, Act.eval, dk.sets_get, List.lookup]), fun _ => (hS.1 (by omega)).alloc _, fun _ => ⟨(by have := (hS.1 (by omega)).size; show p < W.heap.size; omega), at_texts W keys4 _⟩, fun h => (by omega), fun h => (by omega), fun h => (by omega), fun h => (by omega)⟩), ?_⟩
          refine ⟨chd.call 1 [4, 6, 7, 8, 9, 10, 11] [67, 70] (by kernel_rfl) (by kernel_rfl) rfl (by decide) rfl (.inr ⟨⟨3, .data⟩, by simp, rfl, rfl⟩) (by simp) 51 (fun s => #[.pointer (some ⟨p, 0, none⟩), .slice (some ⟨s.a, 0, none⟩) 3 3]) (fun s W hS => by exact ⟨by simp [go_sem, Act.eval, dk.sets_get, List.lookup], (draw_pick p a len cap s.a 3 keys4 W (by omega) (by have := (hS.2.1 rfl).1; omega) (hS.2.1 rfl).2 (hS.1 (by omega)).cur).mono fun e w9 hh => by obtain ⟨⟨z9, hz9, rfl⟩, k1, k2⟩ := hh; exact ⟨{ s with t := z9 }, _, rfl, (by simp [chd.But]), (by rintro _ ⟨⟩; exact dk.sets_on _ (by simp) _ rfl), fun _ => (hS.1 (by omega)).draw k1 k2, fun h => (by omega), fun _ => keys4_in z9 hz9, fun h => (by omega), fun h => (by omega), fun h => (by omega)⟩⟩), ?_⟩
          refine ⟨cht.quiet 7 rfl (by decide) (.inl rfl) (by simp) (fun s => .pointer (some ⟨p, 0, none⟩)) (by rintro s _ ⟨⟩; exact dk.sets_on _ (by simp) _ rfl) (fun s k' W hk' hS => by simp [execOp, go_sem, Act.eval, dk.sets_get, List.lookup]), ?_⟩
          refine ⟨chd.call 2 [6, 7, 8, 9, 10, 11] [69, 70] (by kernel_rfl) (by kernel_rfl) rfl (by decide) rfl (.inr ⟨⟨4, .chain⟩, by simp, rfl, rfl⟩) (by simp) 30 (fun s => #[.pointer (some ⟨p, 0, none⟩), .int .i64 2]) (fun s W hS => by exact ⟨by simp [go_sem, Act.eval, dk.sets_get, List.lookup], (draw_once p a len cap 2 W (by omega) (hS.1 (by omega)).cur).mono fun e w9 hh => by obtain ⟨⟨z9, rfl⟩, k1, k2⟩ := hh; exact ⟨{ s with b := z9 }, _, rfl, (by simp [chd.But]), (by rintro _ ⟨⟩; exact dk.sets_on _ (by simp) _ rfl), fun _ => (hS.1 (by omega)).draw k1 k2, fun h => (by omega), fun _ => hS.2.2.1 (by omega), fun h => (by omega), fun h => (by omega), fun h => (by omega)⟩⟩), ?_⟩
          refine ⟨chd.eff 3 [7, 8, 9, 10, 11] [70] (by kernel_rfl) (by kernel_rfl) rfl (by decide) rfl (.inr ⟨⟨6, .data⟩, by simp, rfl, rfl⟩) (by simp) (fun s W hS => by exact ⟨s, .agg #[.string s.t, .string ⟨#[118]⟩, .bool s.b], W, (by simp [chd.But]), (by rintro _ ⟨⟩; exact dk.sets_on _ (by simp) _ rfl), (by simp [execOp, go_sem, Act.eval, dk.sets_get, List.lookup]), fun _ => hS.1 (by omega), fun h => (by omega), fun _ => hS.2.2.1 (by omega), fun h => (by omega), fun h => (by omega), fun h => (by omega)⟩), ?_⟩
          refine ⟨chd.eff 4 [8, 9, 10, 11] [71] (by kernel_rfl) (by kernel_rfl) rfl (by decide) rfl (.inr ⟨⟨7, .data⟩, by simp, rfl, rfl⟩) (by simp) (fun s W hS => by exact ⟨{ s with y := W.heap.size }, .slice (some ⟨W.heap.size, 0, none⟩) 1 1, W.alloc (.cells #[.string s.t, .string ⟨#[118]⟩, .bool s.b] 40), (by simp [chd.But]), (by rintro _ ⟨⟩; exact dk.sets_on _ (by simp) _ rfl), (by simp [execOp, go_sem, Act.eval, dk.sets_get, List.lookup]), fun _ => (hS.1 (by omega)).alloc _, fun h => (by omega), fun _ => hS.2.2.1 (by omega), fun _ => bnew W _ _, fun h => (by omega), fun h => (by omega)⟩), ?_⟩
          refine ⟨chd.eff 5 [9, 10, 11] [72] (by kernel_rfl) (by kernel_rfl) rfl (by decide) rfl (.inr ⟨⟨8, .data⟩, by simp, rfl, rfl⟩) (by simp) (fun s W hS => by obtain ⟨ya', yc', Y, hr, ⟨n1, n2⟩, hst⟩ := (hS.1 (by omega)).appY (hS.2.2.2.1 rfl) (by omega) 24; exact ⟨{ s with v := .slice ya' (ys.length + 1) yc' }, .slice ya' (ys.length + 1) yc', Y, (by simp [chd.But]), (by rintro _ ⟨⟩; exact dk.sets_on _ (by simp) _ rfl), chd.app_run rfl (by simp [Act.eval, dk.sets_get, List.lookup]) (by simp [Act.eval, dk.sets_get, List.lookup]) hr, fun h => (by omega), fun h => (by omega), fun _ => hS.2.2.1 (by omega), fun h => (by omega), fun h => (by omega), fun _ => ⟨ya', yc', rfl, n1, n2, hst⟩⟩), ?_⟩
          refine ⟨cht.quiet 7 rfl (by decide) (.inl rfl) (by simp) (fun s => .pointer (some ⟨w.heap.size + 1, 0, none⟩)) (by rintro s _ ⟨⟩; exact dk.sets_on _ (by simp) _ rfl) (fun s k' W hk' hS => by simp [execOp, go_sem, Act.eval, dk.sets_get, List.lookup]), ?_⟩
          exact ⟨cht.sto 6 rfl (by decide) rfl (.inr ⟨⟨9, .data⟩, by simp, rfl, rfl⟩) (by simp) rfl (fun s W hS => by obtain ⟨ya', yc', hv, n1, n2, hst⟩ := hS.2.2.2.2.2 rfl; exact ⟨W.setCell ⟨w.heap.size + 1, 0, none⟩ (.slice ya' (ys.length + 1) yc'), by simp [execOp, go_sem, Act.eval, dk.sets_get, List.lookup, hv, n1, n2], fun h => (by omega), fun h => (by omega), fun _ => hS.2.2.1 (by omega), fun h => (by omega), fun _ => ⟨ya', yc', hst⟩, fun h => (by omega)⟩), trivial⟩
        case fin =>
          intro s x3 hS
          obtain ⟨ya', yc', hst3⟩ := hS.2.2.2.2.1 rfl
          have HTT : Hid (St p a len cap w (ys ++ [⟨s.t, ⟨#[118]⟩, s.b⟩]) ks ya' yc' ra rc x3) := hst3
          have hst2 := hS.2.2.1 (by decide)
          have HSM2 : Hid (Sm 500 (ys ++ [⟨s.t, ⟨#[118]⟩, s.b⟩]) (ks.map (·.l))) := ⟨by simp; omega, by rw [List.length_map]; omega, fun e he => by
            rcases List.mem_append.1 he with he | he
            · exact HSM.out.yo e he
            · rw [List.mem_singleton.1 he]; exact ⟨by show s.t.size ≤ 101; omega, Nat.le_of_ble_eq_true rfl⟩, HSM.out.ro⟩
          simp only [dk.sets]
          clear hS hst3 hst2 HT1
          have c0 : x3.cell? ⟨w.heap.size + 1, 0, none⟩ = some (.slice ya' (ys.length + 1) yc') := (by have h9 := HTT.out.sb; rw [List.length_append] at h9; exact bcell h9 rfl)
          have c1 : x3.cell? ⟨w.heap.size + 1, 1, none⟩ = some (.slice ra ks.length rc) := bcell HTT.out.sb rfl
          have q0 : x3.cell? ⟨w.heap.size, 0, none⟩ = some (.slice none 0 0) := bcell HTT.out.rb rfl
          have q1 : x3.cell? ⟨w.heap.size, 1, none⟩ = some (.slice none 0 0) := bcell HTT.out.rb rfl
          have r0 := bfree HTT.out.rb 0
          have r1 := bfree HTT.out.rb 1
          have HDN : Hid (∀ y0 y1, Tb w.heap.size (res2 x3 w.heap.size y0 y1) (ys ++ [({ k := s.t, v := ⟨#[118]⟩, g := s.b } : flP.Pr)]) ks ya' yc' ra rc ∧ Cur (res2 x3 w.heap.size y0 y1) p a len cap ∧ On p w (res2 x3 w.heap.size y0 y1)) := fun y0 y1 => HTT.out.done y0 y1
          clear HTT
          go_wp2
          exact bodyPost_ret (v := .agg #[.slice ya' (ys.length + 1) yc', .slice ra ks.length rc]) (by simp [results, Try.results28, go_sem, q0, q1]) rfl ⟨⟨(ys ++ [({ k := s.t, v := ⟨#[118]⟩, g := s.b } : flP.Pr)]), ks, ya', yc', ra, rc, (by rw [List.length_append]; rfl), HSM2.out, (HDN.out _ _).1⟩, (HDN.out _ _).2⟩
      by_cases z1 : z = 1
      · subst z1
        have HSM0 : Hid (Sm 500 ys (ks.map (·.l))) := HSM.out.more (by omega)
        go_wp2
        go_loopw [82] (fun _ wr => ∃ (K : List Rn) (rr : Option Addr) (rx : Nat), K.length ≤ 30 ∧ Hid (Sm 500 ys (K.map (·.l))) ∧ Hid (St p a len cap w ys K ya yc rr rx wr)) (fun _ wr => 40 - lenC (w.heap.size + 1) 1 wr)
        case atStart => exact ⟨ks, ra, rc, by omega, HSM0, HT1⟩
        case round =>
          obtain ⟨K, rr, rx, hK, HSM3, hst2⟩ := hrel
          clear HT1 HSM0
          have hlz : lenC (w.heap.size + 1) 1 wr = K.length := lenC_eq (bcell (j := 1) (v := .slice rr K.length rx) hst2.out.sb rfl)
          have HLZ : Hid (lenC (w.heap.size + 1) 1 wr = K.length) := hlz
          have hsz2 := hst2.out.size
          clear hlz
          go_wp2
          refine cht.region (σ := G) (ws := (fun s : G => [(76, .pointer (some ⟨w.heap.size + 1, 1, none⟩)), (77, .slice rr K.length rx), (78, .int .i64 K.length), (79, .pointer (some ⟨p, 0, none⟩)), (80, .int .i64 s.x), (81, .int .i64 (8 + s.x)), (82, .bool (decide ((K.length : Int) < 8 + s.x)))])) (js := [4]) (S := (fun g k W => St p a len cap w ys K ya yc rr rx W ∧ g.x < 2)) [76, 77, 78, 79, 80, 81, 82] ⟨0, 0, 0, ⟨#[]⟩, ⟨#[]⟩, undef, false⟩ (by kernel_rfl) (by kernel_rfl) (fun _ => rfl) (by kernel_rfl) (by decide) ⟨hst2.out.step (Below.refl _ _).drew, by decide⟩ ?each ?fin
          case each =>
            refine ⟨cht.quiet 1 rfl (by decide) (.inl rfl) (by simp) (fun s => .pointer (some ⟨w.heap.size + 1, 1, none⟩)) (by rintro s _ ⟨⟩; exact dk.sets_on _ (by simp) _ rfl) (fun s k' W hk' hS => by simp [execOp, go_sem, Act.eval, dk.sets_get, List.lookup]), ?_⟩
            refine ⟨cht.quiet 1 rfl (by decide) (.inl rfl) (by simp) (fun s => .slice rr K.length rx) (by rintro s _ ⟨⟩; exact dk.sets_on _ (by simp) _ rfl) (fun s k' W hk' hS => by have c3 : W.cell? ⟨w.heap.size + 1, 1, none⟩ = some (.slice rr K.length rx) := bcell hS.1.sb rfl; simp [execOp, go_sem, Act.eval, dk.sets_get, List.lookup, c3]), ?_⟩
            refine ⟨cht.quiet 1 rfl (by decide) (.inl rfl) (by simp) (fun s => .int .i64 K.length) (by rintro s _ ⟨⟩; exact dk.sets_on _ (by simp) _ rfl) (fun s k' W hk' hS => by simp [go_sem, Act.eval, dk.sets_get, List.lookup]), ?_⟩
            refine ⟨cht.quiet 1 rfl (by decide) (.inl rfl) (by simp) (fun s => .pointer (some ⟨p, 0, none⟩)) (by rintro s _ ⟨⟩; exact dk.sets_on _ (by simp) _ rfl) (fun s k' W hk' hS => by simp [execOp, go_sem, Act.eval, dk.sets_get, List.lookup]), ?_⟩
            refine ⟨chd.call 0 [4, 5, 6] [80, 81, 82] (by kernel_rfl) (by kernel_rfl) rfl (by decide) rfl (.inl rfl) (by simp) 32 (fun s => #[.pointer (some ⟨p, 0, none⟩), .int .i64 2]) (fun s W hS => by exact ⟨by simp [go_sem, Act.eval, dk.sets_get, List.lookup], (draw_below p a len cap 2 W (by omega) hS.1.cur).mono fun e w9 hh => by obtain ⟨⟨z9, hz9, rfl⟩, k1, k2⟩ := hh; exact ⟨{ s with x := z9 }, _, rfl, (by simp [chd.But]), (by rintro _ ⟨⟩; exact dk.sets_on _ (by simp) _ rfl), hS.1.draw k1 k2, hz9⟩⟩), ?_⟩
            refine ⟨cht.quiet 1 rfl (by decide) (.inl rfl) (by simp) (fun s => .int .i64 (8 + s.x)) (by rintro s _ ⟨⟩; exact dk.sets_on _ (by simp) _ rfl) (fun s k' W hk' hS => by have h9 := hS.2; have hwr : IntKind.i64.wrap (8 + (s.x : Int)) = 8 + s.x := (by rw [IntKind.wrap_i64]; omega); simp [execOp, go_sem, Act.eval, dk.sets_get, List.lookup, hwr]), ?_⟩
            exact ⟨cht.quiet 1 rfl (by decide) (.inl rfl) (by simp) (fun s => .bool (decide ((K.length : Int) < 8 + s.x))) (by rintro s _ ⟨⟩; exact dk.sets_on _ (by simp) _ rfl) (fun s k' W hk' hS => by simp [execOp, go_sem, Act.eval, dk.sets_get, List.lookup]), trivial⟩
          case fin =>
            intro s x3 hS
            obtain ⟨hs3, hsx⟩ := hS
            have d1 : x3.cell? ⟨w.heap.size + 1, 1, none⟩ = some (.slice rr K.length rx) := bcell hs3.sb rfl
            have hs3z := hs3.size
            have HS3 : Hid (St p a len cap w ys K ya yc rr rx x3) := hs3
            clear hs3
            obtain ⟨sx, sy, sA, sT, sU, sV, sB⟩ := s
            simp only at hsx
            simp only [dk.sets, Act.put, List.setIfInBounds_toArray, List.set_cons_succ, List.set_cons_zero]
            cases hcb : decide ((K.length : Int) < 8 + (sx : Int)) with
            | true =>
              have hlt0 := of_decide_eq_true hcb
              have hle4 : K.length ≤ 8 := by omega
              clear hcb hlt0
              have h4 := HS3.out.alloc (.cells #[] 40)
              have h5 := h4.alloc (.cells #[.slice (some ⟨x3.heap.size, 0, none⟩) 0 0] 24)
              have hmade : (x3.alloc (.cells #[] 40)).ownsRow (w.heap.size + 2) 40 3 (.slice (some ⟨x3.heap.size, 0, none⟩) 0 0) 0 [] := World.ownsRow_made x3 #[] 0 hs3z (by unfold maxLen; omega) (by simp)
              obtain ⟨ra', rc', Y, hr, ⟨k3, k3f⟩, hst5⟩ := h5.appR (gb := (x3.alloc (.cells #[] 40)).heap.size) (q := ⟨x3.heap.size, 0, none⟩) (bnew _ _ _) (hmade.alloc _) (fun x hx => by
                have q2 := (HS3.out.dr.oy.lt x.block (by rw [hx]; rfl)).2
                show x.block ≠ x3.heap.size
                omega) (by omega) 25
              rw [World.size_alloc] at hr
              have HSM6 : Hid (Sm 500 ys ((K ++ [(⟨some ⟨x3.heap.size, 0, none⟩, 0, []⟩ : Rn)]).map (·.l))) := by
                have h9 := HSM3.out
                refine ⟨?_, by simp; omega, h9.yo, fun l hl e he => ?_⟩
                · rw [List.map_append, mga.tot_app]
                  have := h9.tt
                  show ys.length + (tot (K.map (·.l)) + (0 + 0)) ≤ 500
                  omega
                · rw [List.map_append] at hl
                  rcases List.mem_append.1 hl with hl | hl
                  · exact h9.ro l hl e he
                  · rw [List.mem_singleton.1 hl] at he; cases he
              have HLE : Hid ((K ++ [(⟨some ⟨x3.heap.size, 0, none⟩, 0, []⟩ : Rn)] : List Rn).length = K.length + 1) := by unfold Hid; simp
              have hlz2 : lenC (w.heap.size + 1) 1 (Y.setCell ⟨w.heap.size + 1, 1, none⟩ (.slice ra' (K.length + 1) rc')) = K.length + 1 := by
                have h9 := hst5.sb
                rw [HLE.out] at h9
                exact lenC_eq (bcell (j := 1) h9 rfl)
              have HLZ2 : Hid (lenC (w.heap.size + 1) 1 (Y.setCell ⟨w.heap.size + 1, 1, none⟩ (.slice ra' (K.length + 1) rc')) = K.length + 1) := hlz2
              have HST6 : Hid (St p a len cap w ys (K ++ [(⟨some ⟨x3.heap.size, 0, none⟩, 0, []⟩ : Rn)]) ya yc ra' rc' (Y.setCell ⟨w.heap.size + 1, 1, none⟩ (.slice ra' (K.length + 1) rc'))) := hst5
              clear hlz2 hst5 h4 h5 hmade
              go_wp2_with (at_builtin; refine cpr.wpList_append_run rfl _ _ _ _ rfl _ _ _ rfl rfl hr ?_)
              clear hr d1
              go_wp2
              go_roundw
              case rel => exact ⟨_, ra', rc', by rw [HLE.out]; omega, HSM6, HST6⟩
              case measure => rw [HLZ.out, HLZ2.out]; omega
            | false =>
              clear hcb
              have HSM2 : Hid (Sm 500 ys (K.map (·.l))) := HSM3
              have HTT : Hid (St p a len cap w ys K ya yc rr rx x3) := HS3
              clear HS3 d1
              have c0 : x3.cell? ⟨w.heap.size + 1, 0, none⟩ = some (.slice ya ys.length yc) := bcell HTT.out.sb rfl
              have c1 : x3.cell? ⟨w.heap.size + 1, 1, none⟩ = some (.slice rr K.length rx) := bcell HTT.out.sb rfl
              have q0 : x3.cell? ⟨w.heap.size, 0, none⟩ = some (.slice none 0 0) := bcell HTT.out.rb rfl
              have q1 : x3.cell? ⟨w.heap.size, 1, none⟩ = some (.slice none 0 0) := bcell HTT.out.rb rfl
              have r0 := bfree HTT.out.rb 0
              have r1 := bfree HTT.out.rb 1
              have HDN : Hid (∀ y0 y1, Tb w.heap.size (res2 x3 w.heap.size y0 y1) ys K ya yc rr rx ∧ Cur (res2 x3 w.heap.size y0 y1) p a len cap ∧ On p w (res2 x3 w.heap.size y0 y1)) := fun y0 y1 => HTT.out.done y0 y1
              clear HTT
              go_wp2
              exact bodyPost_ret (v := .agg #[.slice ya ys.length yc, .slice rr K.length rx]) (by simp [results, Try.results28, go_sem, q0, q1]) rfl ⟨⟨ys, K, ya, yc, rr, rx, rfl, HSM2.out, (HDN.out _ _).1⟩, (HDN.out _ _).2⟩
      by_cases z2 : z = 2
      · subst z2
        have d0 : x1.cell? ⟨w.heap.size + 1, 0, none⟩ = some (.slice ya ys.length yc) := bcell HT1.out.sb rfl
        have d0f := bfree HT1.out.sb 0
        have hny := HT1.out.newY
        have k9 : (x1.alloc (.cells #[] 40)).cell? ⟨w.heap.size + 1, 0, none⟩ = some (.slice ya ys.length yc) := bcell (HT1.out.alloc (.cells #[] 40)).sb rfl
        have k9f := bfree (HT1.out.alloc (.cells #[] 40)).sb 0
        have HNY : Hid (St p a len cap w [] ks (some ⟨x1.heap.size, 0, none⟩) 0 ra rc ((x1.alloc (.cells #[] 40)).setCell ⟨w.heap.size + 1, 0, none⟩ (.slice (some ⟨x1.heap.size, 0, none⟩) 0 0))) := hny
        have HSM0 : Hid (Sm 400 [] (ks.map (·.l))) := ⟨by rw [List.length_nil]; omega, by rw [List.length_map]; omega, fun e he => (by cases he), HSM.out.ro⟩
        clear hny HT1
        go_wp2
        go_loopw [99] (fun _ wr => ∃ (Y : List flP.Pr) (yy : Option Addr) (yx : Nat), Y.length ≤ 301 ∧ Hid (Sm (Y.length + 100) Y (ks.map (·.l))) ∧ Hid (St p a len cap w Y ks yy yx ra rc wr)) (fun _ wr => 400 - lenC (w.heap.size + 1) 0 wr)
        case atStart => exact ⟨[], some ⟨x1.heap.size, 0, none⟩, 0, by decide, ⟨by rw [List.length_nil]; omega, by rw [List.length_map]; omega, fun e he => (by cases he), HSM.out.ro⟩, HNY⟩
        case round =>
          obtain ⟨Y, yy, yx, hY, HSM3, hst2⟩ := hrel
          clear HNY HSM0 d0 d0f k9 k9f
          have hlz : lenC (w.heap.size + 1) 0 wr = Y.length := lenC_eq (bcell (j := 0) (v := .slice yy Y.length yx) hst2.out.sb rfl)
          have HLZ : Hid (lenC (w.heap.size + 1) 0 wr = Y.length) := hlz
          have hsz2 := hst2.out.size
          clear hlz
          go_wp2
          refine cht.region (σ := G) (ws := (fun s : G => [(93, .pointer (some ⟨w.heap.size + 1, 0, none⟩)), (94, .slice yy Y.length yx), (95, .int .i64 Y.length), (96, .pointer (some ⟨p, 0, none⟩)), (97, .int .i64 s.x), (98, .int .i64 (300 + s.x)), (99, .bool (decide ((Y.length : Int) < 300 + s.x)))])) (js := [4]) (S := (fun g k W => St p a len cap w Y ks yy yx ra rc W ∧ g.x < 2)) [93, 94, 95, 96, 97, 98, 99] ⟨0, 0, 0, ⟨#[]⟩, ⟨#[]⟩, undef, false⟩ (by kernel_rfl) (by kernel_rfl) (fun _ => rfl) (by kernel_rfl) (by decide) ⟨hst2.out.step (Below.refl _ _).drew, by decide⟩ ?each ?fin
          case each =>
            refine ⟨cht.quiet 1 rfl (by decide) (.inl rfl) (by simp) (fun s => .pointer (some ⟨w.heap.size + 1, 0, none⟩)) (by rintro s _ ⟨⟩; exact dk.sets_on _ (by simp) _ rfl) (fun s k' W hk' hS => by simp [execOp, go_sem, Act.eval, dk.sets_get, List.lookup]), ?_⟩
            refine ⟨cht.quiet 1 rfl (by decide) (.inl rfl) (by simp) (fun s => .slice yy Y.length yx) (by rintro s _ ⟨⟩; exact dk.sets_on _ (by simp) _ rfl) (fun s k' W hk' hS => by have c3 : W.cell? ⟨w.heap.size + 1, 0, none⟩ = some (.slice yy Y.length yx) := bcell hS.1.sb rfl; simp [execOp, go_sem, Act.eval, dk.sets_get, List.lookup, c3]), ?_⟩
            refine ⟨cht.quiet 1 rfl (by decide) (.inl rfl) (by simp) (fun s => .int .i64 Y.length) (by rintro s _ ⟨⟩; exact dk.sets_on _ (by simp) _ rfl) (fun s k' W hk' hS => by simp [go_sem, Act.eval, dk.sets_get, List.lookup]), ?_⟩
            refine ⟨cht.quiet 1 rfl (by decide) (.inl rfl) (by simp) (fun s => .pointer (some ⟨p, 0, none⟩)) (by rintro s _ ⟨⟩; exact dk.sets_on _ (by simp) _ rfl) (fun s k' W hk' hS => by simp [execOp, go_sem, Act.eval, dk.sets_get, List.lookup]), ?_⟩
            refine ⟨chd.call 0 [4, 5, 6] [97, 98, 99] (by kernel_rfl) (by kernel_rfl) rfl (by decide) rfl (.inl rfl) (by simp) 32 (fun s => #[.pointer (some ⟨p, 0, none⟩), .int .i64 2]) (fun s W hS => by exact ⟨by simp [go_sem, Act.eval, dk.sets_get, List.lookup], (draw_below p a len cap 2 W (by omega) hS.1.cur).mono fun e w9 hh => by obtain ⟨⟨z9, hz9, rfl⟩, k1, k2⟩ := hh; exact ⟨{ s with x := z9 }, _, rfl, (by simp [chd.But]), (by rintro _ ⟨⟩; exact dk.sets_on _ (by simp) _ rfl), hS.1.draw k1 k2, hz9⟩⟩), ?_⟩
            refine ⟨cht.quiet 1 rfl (by decide) (.inl rfl) (by simp) (fun s => .int .i64 (300 + s.x)) (by rintro s _ ⟨⟩; exact dk.sets_on _ (by simp) _ rfl) (fun s k' W hk' hS => by have h9 := hS.2; have hwr : IntKind.i64.wrap (300 + (s.x : Int)) = 300 + s.x := (by rw [IntKind.wrap_i64]; omega); simp [execOp, go_sem, Act.eval, dk.sets_get, List.lookup, hwr]), ?_⟩
            exact ⟨cht.quiet 1 rfl (by decide) (.inl rfl) (by simp) (fun s => .bool (decide ((Y.length : Int) < 300 + s.x))) (by rintro s _ ⟨⟩; exact dk.sets_on _ (by simp) _ rfl) (fun s k' W hk' hS => by simp [execOp, go_sem, Act.eval, dk.sets_get, List.lookup]), trivial⟩
          case fin =>
            intro s x3 hS
            obtain ⟨hs3, hsx⟩ := hS
            have d0 : x3.cell? ⟨w.heap.size + 1, 0, none⟩ = some (.slice yy Y.length yx) := bcell hs3.sb rfl
            have hs3z := hs3.size
            have HS3 : Hid (St p a len cap w Y ks yy yx ra rc x3) := hs3
            clear hs3
            obtain ⟨sx, sy, sA, sT, sU, sV, sB⟩ := s
            simp only at hsx
            simp only [dk.sets, Act.put, List.setIfInBounds_toArray, List.set_cons_succ, List.set_cons_zero]
            cases hcb : decide ((Y.length : Int) < 300 + (sx : Int)) with
            | true =>
              have hlt0 := of_decide_eq_true hcb
              have hle4 : Y.length ≤ 300 := by omega
              clear hcb hlt0
              have hw9 : IntKind.i64.wrap (1000 + (Y.length : Int)) = 1000 + Y.length := by rw [IntKind.wrap_i64]; omega
              go_wp2
              refine cht.region (σ := G) (ws := (fun s : G => [(100, .pointer (some ⟨w.heap.size + 1, 0, none⟩)), (101, .slice yy Y.length yx), (102, .pointer (some ⟨w.heap.size + 1, 0, none⟩)), (103, .slice yy Y.length yx), (104, .int .i64 Y.length), (105, .int .i64 (1000 + Y.length)), (106, .string s.t), (107, .string (⟨#[107]⟩ ++ s.t)), (108, .agg #[.string (⟨#[107]⟩ ++ s.t), .string ⟨#[]⟩, .bool false]), (109, .slice (some ⟨s.y, 0, none⟩) 1 1), (110, s.v), (111, .pointer (some ⟨w.heap.size + 1, 0, none⟩))])) (js := [6, 7, 8, 9, 10, 12]) (S := (fun g k W => (k ≤ 4 → St p a len cap w Y ks yy yx ra rc W) ∧ (1 ≤ k → g.t.size ≤ 20) ∧ (k = 4 → W.heap[g.y]? = some (.cells #[.string (⟨#[107]⟩ ++ g.t), .string ⟨#[]⟩, .bool false] 40 (0, 0))) ∧ (k = 5 → ∃ ya' yc', g.v = .slice ya' (Y.length + 1) yc' ∧ W.cell? ⟨w.heap.size + 1, 0, none⟩ = some (.slice yy Y.length yx) ∧ W.frozen? ⟨w.heap.size + 1, 0, none⟩ = false ∧ St p a len cap w (Y ++ [⟨⟨#[107]⟩ ++ g.t, ⟨#[]⟩, false⟩]) ks ya' yc' ra rc (W.setCell ⟨w.heap.size + 1, 0, none⟩ (.slice ya' (Y.length + 1) yc'))) ∧ (k = 6 → ∃ ya' yc', St p a len cap w (Y ++ [⟨⟨#[107]⟩ ++ g.t, ⟨#[]⟩, false⟩]) ks ya' yc' ra rc W) ∧ (k ≤ 5 → W.cell? ⟨w.heap.size + 1, 0, none⟩ = some (.slice yy Y.length yx)))) [100, 101, 102, 103, 104, 105, 106, 107, 108, 109, 110, 111] ⟨0, 0, 0, ⟨#[]⟩, ⟨#[]⟩, undef, false⟩ (by kernel_rfl) (by kernel_rfl) (fun _ => rfl) (by kernel_rfl) (by decide) ⟨fun _ => HS3.out.step (Below.refl _ _).drew, fun h => (by omega), fun h => (by omega), fun h => (by omega), fun h => (by omega), fun _ => bcell (HS3.out.step (Below.refl _ _).drew).sb rfl⟩ ?each ?fin
              case each =>
                refine ⟨cht.quiet 6 rfl (by decide) (.inl rfl) (by simp) (fun s => .pointer (some ⟨w.heap.size + 1, 0, none⟩)) (by rintro s _ ⟨⟩; exact dk.sets_on _ (by simp) _ rfl) (fun s k' W hk' hS => by simp [execOp, go_sem, Act.eval, dk.sets_get, List.lookup]), ?_⟩
                refine ⟨cht.quiet 5 rfl (by decide) (.inr ⟨12, _, rfl, rfl, ⟨1, .phase⟩, by simp, rfl, rfl⟩) (by simp) (fun s => .slice yy Y.length yx) (by rintro s _ ⟨⟩; exact dk.sets_on _ (by simp) _ rfl) (fun s k' W hk' hS => by have c0 : W.cell? ⟨w.heap.size + 1, 0, none⟩ = some (.slice yy Y.length yx) := hS.2.2.2.2.2 (by omega); simp [execOp, go_sem, Act.eval, dk.sets_get, List.lookup, c0]), ?_⟩
                refine ⟨cht.quiet 6 rfl (by decide) (.inl rfl) (by simp) (fun s => .pointer (some ⟨w.heap.size + 1, 0, none⟩)) (by rintro s _ ⟨⟩; exact dk.sets_on _ (by simp) _ rfl) (fun s k' W hk' hS => by simp [execOp, go_sem, Act.eval, dk.sets_get, List.lookup]), ?_⟩
                refine ⟨cht.quiet 5 rfl (by decide) (.inr ⟨12, _, rfl, rfl, ⟨3, .phase⟩, by simp, rfl, rfl⟩) (by simp) (fun s => .slice yy Y.length yx) (by rintro s _ ⟨⟩; exact dk.sets_on _ (by simp) _ rfl) (fun s k' W hk' hS => by have c0 : W.cell? ⟨w.heap.size + 1, 0, none⟩ = some (.slice yy Y.length yx) := hS.2.2.2.2.2 (by omega); simp [execOp, go_sem, Act.eval, dk.sets_get, List.lookup, c0]), ?_⟩
                refine ⟨cht.quiet 6 rfl (by decide) (.inl rfl) (by simp) (fun s => .int .i64 Y.length) (by rintro s _ ⟨⟩; exact dk.sets_on _ (by simp) _ rfl) (fun s k' W hk' hS => by simp [go_sem, Act.eval, dk.sets_get, List.lookup]), ?_⟩
                refine ⟨cht.quiet 6 rfl (by decide) (.inl rfl) (by simp) (fun s => .int .i64 (1000 + Y.length)) (by rintro s _ ⟨⟩; exact dk.sets_on _ (by simp) _ rfl) (fun s k' W hk' hS => by simp [execOp, go_sem, Act.eval, dk.sets_get, List.lookup, hw9]), ?_⟩
                refine ⟨chd.call 0 [6, 7, 8, 9, 10, 11, 12] [106, 107, 108] (by kernel_rfl) (by kernel_rfl) rfl (by decide) rfl (.inl rfl) (by simp) 54 (fun s => #[.int .i64 (1000 + Y.length)]) (fun s W hS => by exact ⟨by simp [go_sem, Act.eval, dk.sets_get, List.lookup], (dt.spec_dec (1000 + Y.length) W (by omega) (by omega)).mono fun e w9 hh => by obtain ⟨rfl, rfl⟩ := hh; exact ⟨{ s with t := ⟨(Lib.itoa (1000 + Y.length)).toArray⟩ }, _, rfl, (by simp [chd.But]), (by rintro _ ⟨⟩; exact dk.sets_on _ (by simp) _ rfl), fun _ => hS.1 (by omega), fun _ => dec_small Y.length (by omega), fun h => (by omega), fun h => (by omega), fun h => (by omega), fun _ => bcell (hS.1 (by omega)).sb rfl⟩⟩), ?_⟩
                refine ⟨chd.eff 1 [7, 8, 9, 10, 11, 12] [107, 108] (by kernel_rfl) (by kernel_rfl) rfl (by decide) rfl (.inr ⟨⟨6, .data⟩, by simp, rfl, rfl⟩) (by simp) (fun s W hS => by have h9 := hS.2.1 (by omega); have h8 : 1 + s.t.size ≤ 9223372036854775807 := (by omega); exact ⟨s, .string (⟨#[107]⟩ ++ s.t), W, (by simp [chd.But]), (by rintro _ ⟨⟩; exact dk.sets_on _ (by simp) _ rfl), (by simp [execOp, go_sem, Act.eval, dk.sets_get, List.lookup, h8]), fun _ => hS.1 (by omega), fun _ => hS.2.1 (by omega), fun h => (by omega), fun h => (by omega), fun h => (by omega), fun _ => bcell (hS.1 (by omega)).sb rfl⟩), ?_⟩
                refine ⟨chd.eff 2 [8, 9, 10, 11, 12] [108] (by kernel_rfl) (by kernel_rfl) rfl (by decide) rfl (.inr ⟨⟨7, .data⟩, by simp, rfl, rfl⟩) (by simp) (fun s W hS => by exact ⟨s, .agg #[.string (⟨#[107]⟩ ++ s.t), .string ⟨#[]⟩, .bool false], W, (by simp [chd.But]), (by rintro _ ⟨⟩; exact dk.sets_on _ (by simp) _ rfl), (by simp [execOp, go_sem, Act.eval, dk.sets_get, List.lookup]), fun _ => hS.1 (by omega), fun _ => hS.2.1 (by omega), fun h => (by omega), fun h => (by omega), fun h => (by omega), fun _ => bcell (hS.1 (by omega)).sb rfl⟩), ?_⟩
                refine ⟨chd.eff 3 [9, 10, 11, 12] [109] (by kernel_rfl) (by kernel_rfl) rfl (by decide) rfl (.inr ⟨⟨8, .data⟩, by simp, rfl, rfl⟩) (by simp) (fun s W hS => by exact ⟨{ s with y := W.heap.size }, .slice (some ⟨W.heap.size, 0, none⟩) 1 1, W.alloc (.cells #[.string (⟨#[107]⟩ ++ s.t), .string ⟨#[]⟩, .bool false] 40), (by simp [chd.But]), (by rintro _ ⟨⟩; exact dk.sets_on _ (by simp) _ rfl), (by simp [execOp, go_sem, Act.eval, dk.sets_get, List.lookup]), fun _ => (hS.1 (by omega)).alloc _, fun _ => hS.2.1 (by omega), fun _ => bnew W _ _, fun h => (by omega), fun h => (by omega), fun _ => bcell ((hS.1 (by omega)).alloc _).sb rfl⟩), ?_⟩
                refine ⟨chd.eff 4 [10, 11, 12] [110] (by kernel_rfl) (by kernel_rfl) rfl (by decide) rfl (.inr ⟨⟨9, .data⟩, by simp, rfl, rfl⟩) (by simp) (fun s W hS => by obtain ⟨ya', yc', Y', hr, ⟨n1, n2⟩, hst⟩ := (hS.1 (by omega)).appY (hS.2.2.1 rfl) (by omega) 24; exact ⟨{ s with v := .slice ya' (Y.length + 1) yc' }, .slice ya' (Y.length + 1) yc', Y', (by simp [chd.But]), (by rintro _ ⟨⟩; exact dk.sets_on _ (by simp) _ rfl), chd.app_run rfl (by simp [Act.eval, dk.sets_get, List.lookup]) (by simp [Act.eval, dk.sets_get, List.lookup]) hr, fun h => (by omega), fun _ => hS.2.1 (by omega), fun h => (by omega), fun _ => ⟨ya', yc', rfl, n1, n2, hst⟩, fun h => (by omega), fun _ => n1⟩), ?_⟩
                refine ⟨cht.quiet 6 rfl (by decide) (.inl rfl) (by simp) (fun s => .pointer (some ⟨w.heap.size + 1, 0, none⟩)) (by rintro s _ ⟨⟩; exact dk.sets_on _ (by simp) _ rfl) (fun s k' W hk' hS => by simp [execOp, go_sem, Act.eval, dk.sets_get, List.lookup]), ?_⟩
                exact ⟨cht.sto 5 rfl (by decide) rfl (.inr ⟨⟨10, .data⟩, by simp, rfl, rfl⟩) (by simp) rfl (fun s W hS => by obtain ⟨ya', yc', hv, n1, n2, hst⟩ := hS.2.2.2.1 rfl; exact ⟨W.setCell ⟨w.heap.size + 1, 0, none⟩ (.slice ya' (Y.length + 1) yc'), by simp [execOp, go_sem, Act.eval, dk.sets_get, List.lookup, hv, n1, n2], fun h => (by omega), fun _ => hS.2.1 (by omega), fun h => (by omega), fun h => (by omega), fun _ => ⟨ya', yc', hst⟩, fun h => (by omega)⟩), trivial⟩
              case fin =>
                intro s x4 hS
                obtain ⟨ya', yc', hst5⟩ := hS.2.2.2.2.1 rfl
                have hst6 := hS.2.1 (by decide)
                have HSM6 : Hid (Sm ((Y ++ [⟨⟨#[107]⟩ ++ s.t, ⟨#[]⟩, false⟩] : List flP.Pr).length + 100) (Y ++ [⟨⟨#[107]⟩ ++ s.t, ⟨#[]⟩, false⟩]) (ks.map (·.l))) := by
                  have h9 := HSM3.out
                  refine ⟨by have := h9.tt; simp; omega, by have := h9.rl; rw [List.length_append]; omega, fun e he => ?_, h9.ro⟩
                  rcases List.mem_append.1 he with he | he
                  · exact h9.yo e he
                  · rw [List.mem_singleton.1 he]
                    refine ⟨?_, Nat.zero_le _⟩
                    show (⟨#[107]⟩ ++ s.t : ByteArray).size ≤ 101
                    rw [ByteArray.size_append]
                    have : (⟨#[107]⟩ : ByteArray).size = 1 := rfl
                    omega
                have HLE : Hid ((Y ++ [⟨⟨#[107]⟩ ++ s.t, ⟨#[]⟩, false⟩] : List flP.Pr).length = Y.length + 1) := by unfold Hid; simp
                have hlz2 : lenC (w.heap.size + 1) 0 x4 = Y.length + 1 := by
                  have h9 := hst5.sb
                  rw [HLE.out] at h9
                  exact lenC_eq (bcell (j := 0) h9 rfl)
                have HLZ2 : Hid (lenC (w.heap.size + 1) 0 x4 = Y.length + 1) := hlz2
                have HST6 : Hid (St p a len cap w (Y ++ [⟨⟨#[107]⟩ ++ s.t, ⟨#[]⟩, false⟩]) ks ya' yc' ra rc x4) := hst5
                clear hlz2 hst5 hst6 hS HS3 d0
                simp only [dk.sets, Act.put, List.setIfInBounds_toArray, List.set_cons_succ, List.set_cons_zero]
                go_wp2
                go_roundw
                case rel => exact ⟨_, ya', yc', by rw [HLE.out]; omega, HSM6, HST6⟩
                case measure => rw [HLZ.out, HLZ2.out]; omega
            | false =>
              clear hcb
              have HSM2 : Hid (Sm 500 Y (ks.map (·.l))) := HSM3.out.more (by omega)
              have HTT : Hid (St p a len cap w Y ks yy yx ra rc x3) := HS3
              clear HS3 d0
              have c0 : x3.cell? ⟨w.heap.size + 1, 0, none⟩ = some (.slice yy Y.length yx) := bcell HTT.out.sb rfl
              have c1 : x3.cell? ⟨w.heap.size + 1, 1, none⟩ = some (.slice ra ks.length rc) := bcell HTT.out.sb rfl
              have q0 : x3.cell? ⟨w.heap.size, 0, none⟩ = some (.slice none 0 0) := bcell HTT.out.rb rfl
              have q1 : x3.cell? ⟨w.heap.size, 1, none⟩ = some (.slice none 0 0) := bcell HTT.out.rb rfl
              have r0 := bfree HTT.out.rb 0
              have r1 := bfree HTT.out.rb 1
              have HDN : Hid (∀ y0 y1, Tb w.heap.size (res2 x3 w.heap.size y0 y1) Y ks yy yx ra rc ∧ Cur (res2 x3 w.heap.size y0 y1) p a len cap ∧ On p w (res2 x3 w.heap.size y0 y1)) := fun y0 y1 => HTT.out.done y0 y1
              clear HTT
              go_wp2
              exact bodyPost_ret (v := .agg #[.slice yy Y.length yx, .slice ra ks.length rc]) (by simp [results, Try.results28, go_sem, q0, q1]) rfl ⟨⟨Y, ks, yy, yx, ra, rc, rfl, HSM2.out, (HDN.out _ _).1⟩, (HDN.out _ _).2⟩
      have f0 : ((z : Int) == 0) = false := by simp; omega
      have f1 : ((z : Int) == 1) = false := by simp; omega
      have f2 : ((z : Int) == 2) = false := by simp; omega
      have HSM2 : Hid (Sm 500 ys (ks.map (·.l))) := HSM.out.more (by omega)
      have HTT : Hid (St p a len cap w ys ks ya yc ra rc x1) := HT1
      clear HT1
      have c0 : x1.cell? ⟨w.heap.size + 1, 0, none⟩ = some (.slice ya ys.length yc) := bcell HTT.out.sb rfl
      have c1 : x1.cell? ⟨w.heap.size + 1, 1, none⟩ = some (.slice ra ks.length rc) := bcell HTT.out.sb rfl
      have q0 : x1.cell? ⟨w.heap.size, 0, none⟩ = some (.slice none 0 0) := bcell HTT.out.rb rfl
      have q1 : x1.cell? ⟨w.heap.size, 1, none⟩ = some (.slice none 0 0) := bcell HTT.out.rb rfl
      have r0 := bfree HTT.out.rb 0
      have r1 := bfree HTT.out.rb 1
      have HDN : Hid (∀ y0 y1, Tb w.heap.size (res2 x1 w.heap.size y0 y1) ys ks ya yc ra rc ∧ Cur (res2 x1 w.heap.size y0 y1) p a len cap ∧ On p w (res2 x1 w.heap.size y0 y1)) := fun y0 y1 => HTT.out.done y0 y1
      clear HTT
      go_wp2
      exact bodyPost_ret (v := .agg #[.slice ya ys.length yc, .slice ra ks.length rc]) (by simp [results, Try.results28, go_sem, q0, q1]) rfl ⟨⟨ys, ks, ya, yc, ra, rc, rfl, HSM2.out, (HDN.out _ _).1⟩, (HDN.out _ _).2⟩
end Go.Proofs.Ytokaoafbgebelaa.dtt

/- The specification's draws of FnTable and FnMerged: a table and what is asked of it. -/
namespace Go.Proofs.Ytokaoafbgebelaa.dts
open Go.ChangeShapes Go.WideShapes Go.ChangeAt Go.RowKit Go.Proofs.Ytokaoafbgebelaa.fl Go.Proofs.Ytokaoafbgebelaa.fo Go.Proofs.Ytokaoafbgebelaa.dw Go.Proofs.Ytokaoafbgebelaa.rn Go.Proofs.Ytokaoafbgebelaa.rc Go.Proofs.Ytokaoafbgebelaa.ro Go.Proofs.Ytokaoafbgebelaa.tk Go.Proofs.Ytokaoafbgebelaa.tko Go.Proofs.Ytokaoafbgebelaa.tan Go.Proofs.Ytokaoafbgebelaa.ptp Go.Proofs.Ytokaoafbgebelaa.dlt Go.Proofs.Ytokaoafbgebelaa.dtt
set_option linter.unusedVariables false

def keysF : List ByteArray := [⟨#[]⟩, ⟨#[97]⟩, ⟨#[98]⟩, ⟨#[97, 97]⟩]
theorem keysF_in : ∀ z ∈ keysF, z.size ≤ 2 := by decide
def keysO : List ByteArray := [⟨#[]⟩, ⟨#[98]⟩, ⟨#[100]⟩, ⟨#[122, 122]⟩, ⟨#[97]⟩]
theorem keysO_in : ∀ z ∈ keysO, z.size ≤ 2 := by decide
/-- what stands on the way of a draw behind the table's -/
structure Dz (a : Option Addr) (len cap : Nat) (w : World) (ys : List flP.Pr) (ks : List Rn) (ya : Option Addr) (yc : Nat) (ra : Option Addr) (rc : Nat) (W : World) : Prop where
  rb : W.heap[w.heap.size]? = some (.cells #[.slice none 0 0, .slice none 0 0] 27 (0, 0))
  cur : Cur W (w.heap.size + 1) a len cap
  bel : Below w.heap.size w W
  dr : Tb (w.heap.size + 2) W ys ks ya yc ra rc
section
variable {a : Option Addr} {len cap : Nat} {w W W' : World} {ys : List flP.Pr} {ks : List Rn} {ya : Option Addr} {yc : Nat} {ra : Option Addr} {rc : Nat}
theorem Dz.draw (h : Dz a len cap w ys ks ya yc ra rc W) (hc : Cur W' (w.heap.size + 1) a len cap) (hb : On (w.heap.size + 1) W W') : Dz a len cap w ys ks ya yc ra rc W' :=
  ⟨st_block h.rb hb (by omega), hc, h.bel.trans (hb.below (by omega) (by have := (Array.getElem?_eq_some_iff.1 h.rb).1; omega)), h.dr.on hb (by omega)⟩
theorem Dz.step (h : Dz a len cap w ys ks ya yc ra rc W) (hb : Below W.heap.size W W') : Dz a len cap w ys ks ya yc ra rc W' :=
  ⟨bstay h.rb hb (Array.getElem?_eq_some_iff.1 h.rb).1, h.cur.below hb, h.bel.trans (hb.mono h.bel.size), h.dr.below hb⟩
theorem Dz.done (h : Dz a len cap w ys ks ya yc ra rc W) (x0 x1 : Value) : Tb w.heap.size (res2 W w.heap.size x0 x1) ys ks ya yc ra rc ∧ Below w.heap.size w (res2 W w.heap.size x0 x1) :=
  ⟨(tb_res2 h.dr h.rb ..).low (by omega), ((h.bel.setCell (Nat.le_refl _) _).setCell (Nat.le_refl _) _)⟩
theorem code_at (hc : dw.Code w w.heap.size a len) : dw.Code (w.alloc (.cells #[.slice none 0 0, .slice none 0 0] 27)) (w.alloc (.cells #[.slice none 0 0, .slice none 0 0] 27)).heap.size a len := (hc.below ((Below.refl _ _).alloc (Nat.le_refl _) _) (Nat.le_refl _)).mono (by simp)
end
set_option maxRecDepth 100000 in
set_option maxHeartbeats 2000000 in
theorem draw_Put (a : Option Addr) (len cap : Nat) (w : World) (hlen : len ≤ 1048576) (hc : dw.Code w w.heap.size a len) :
    Calls Try.prog 6 #[.slice a len cap] w fun e w' => (∃ (ys : List flP.Pr) (ks : List Rn) (ya : Option Addr) (yc : Nat) (ra : Option Addr) (rc : Nat) (k v : ByteArray), e = .returned (.tuple #[.agg #[.slice ya ys.length yc, .slice ra ks.length rc], .string k, .string v]) ∧ Sm 500 ys (ks.map (·.l)) ∧ Tb w.heap.size w' ys ks ya yc ra rc ∧ k.size ≤ 101 ∧ v.size ≤ 4001) ∧ Below w.heap.size w w' ∧ w.heap.size < w'.heap.size := by
  have h1 := draw_new a len cap _ hlen (code_at hc)
  have HR0 : Hid ((w.alloc (.cells #[.slice none 0 0, .slice none 0 0] 27)).heap[w.heap.size]? = some (.cells #[.slice none 0 0, .slice none 0 0] 27 (0, 0))) := bnew w _ _
  have HB0 : Hid (Below w.heap.size w (w.alloc (.cells #[.slice none 0 0, .slice none 0 0] 27))) := (Below.refl _ _).alloc (Nat.le_refl _) _
  clear hc
  go_enter Try.func6, Try.ntmps6
  go_wp2_with (go_at_call 27; fail)
  refine h1.mono ?_
  rintro e w1 ⟨rfl, hc1, hb1⟩
  rw [World.size_alloc] at hc1 hb1
  have hR1 := bstay HR0.out hb1 (by omega)
  have hB1 := HB0.out.trans (hb1.mono (by omega))
  have h2 := draw_table (w.heap.size + 1) a len cap w1 hc1
  have hlt1 := hc1.lt
  have HR1 : Hid (w1.heap[w.heap.size]? = some (.cells #[.slice none 0 0, .slice none 0 0] 27 (0, 0))) := hR1
  have HB1 : Hid (Below w.heap.size w w1) := hB1
  clear h1 hc1 hb1 hR1 hB1 HR0 HB0
  go_wp2_with (go_at_call 28; fail)
  refine h2.mono ?_
  rintro e w2 ⟨⟨ys, ks, ya, yc, ra, rc, rfl, hsm, hdr⟩, hc2, hb2⟩
  have HD2 : Hid (Dz a len cap w ys ks ya yc ra rc w2) := ⟨st_block HR1.out hb2 (by omega), hc2, HB1.out.trans (hb2.below (by omega) (by omega)), hdr.low (by omega)⟩
  have HSM : Hid (Sm 500 ys (ks.map (·.l))) := hsm
  have hsz2 := hb2.size
  clear h2 hsm hdr hc2 hb2 HR1 HB1
  have HN2 : Hid ((w2.alloc (.cells #[.slice ya ys.length yc, .slice ra ks.length rc] 27)).heap[w2.heap.size]? = some (.cells #[.slice ya ys.length yc, .slice ra ks.length rc] 27 (0, 0))) := bnew w2 _ _
  have HD3 : Hid (Dz a len cap w ys ks ya yc ra rc (w2.alloc (.cells #[.slice ya ys.length yc, .slice ra ks.length rc] 27))) := HD2.out.step ((Below.refl _ _).alloc (Nat.le_refl _) _)
  have hne2 : w2.heap.size ≠ w.heap.size + 1 := by omega
  have g1 := dkt.draw_key (w.heap.size + 1) a len cap _ HD3.out.cur
  go_wp2_with (go_at_call 29; fail)
  refine g1.mono ?_
  rintro e w3 ⟨⟨kk, hkk, rfl⟩, hc3, hb3⟩
  have HD4 : Hid (Dz a len cap w ys ks ya yc ra rc w3) := HD3.out.draw hc3 hb3
  have HN4 : Hid (w3.heap[w2.heap.size]? = some (.cells #[.slice ya ys.length yc, .slice ra ks.length rc] 27 (0, 0))) := st_block HN2.out hb3 (by omega)
  have hsz3 : w2.heap.size < w3.heap.size := (Array.getElem?_eq_some_iff.1 HN4.out).1
  have g2 := draw_once (w.heap.size + 1) a len cap 30 w3 (by omega) HD4.out.cur
  clear g1 hc3 hb3 HD3 HN2 HD2
  go_wp2_with (go_at_call 30; fail)
  refine g2.mono ?_
  rintro e w4 ⟨⟨bo, rfl⟩, hc4, hb4⟩
  have HD8 : Hid (Dz a len cap w ys ks ya yc ra rc w4) := HD4.out.draw hc4 hb4
  have HN8 : Hid (w4.heap[w2.heap.size]? = some (.cells #[.slice ya ys.length yc, .slice ra ks.length rc] 27 (0, 0))) := st_block HN4.out hb4 (by omega)
  have hsz4 : w2.heap.size < w4.heap.size := (Array.getElem?_eq_some_iff.1 HN8.out).1
  clear g2 hc4 hb4 HD4 HN4
  cases bo with
  | true =>
    go_wp2
    refine cht.region (σ := G) (ws := (fun s : G => [(16, .agg #[.slice ya ys.length yc, .slice ra ks.length rc]), (17, .string kk), (18, .pointer (some ⟨w.heap.size + 1, 0, none⟩)), (19, .pointer (some ⟨w.heap.size + 1, 0, none⟩)), (20, .int .i64 s.x), (21, .int .i64 (4000 + (s.x : Int))), (22, .string s.t), (3, .string kk), (4, .string s.t)])) (js := [4, 6, 7]) (S := (fun g k W => (k ≤ 2 → Dz a len cap w ys ks ya yc ra rc W ∧ W.heap[w2.heap.size]? = some (.cells #[.slice ya ys.length yc, .slice ra ks.length rc] 27 (0, 0))) ∧ (g.x < 2 ∧ g.t.size ≤ 4001) ∧ (k = 3 → Tb w.heap.size W ys ks ya yc ra rc ∧ Below w.heap.size w W ∧ W.heap[w.heap.size]? = some (.cells #[.slice ya ys.length yc, .slice ra ks.length rc] 27 (0, 0))))) [16, 17, 18, 19, 20, 21, 22, 3, 4] ⟨0, 0, 0, ⟨#[]⟩, ⟨#[]⟩, undef, false⟩ (by kernel_rfl) (by kernel_rfl) (fun _ => rfl) (by kernel_rfl) (by decide) ⟨fun _ => ⟨HD8.out.step (Below.refl _ _).drew, bstay HN8.out (Below.refl _ _).drew (by have := (Array.getElem?_eq_some_iff.1 HN8.out).1; omega)⟩, ⟨by decide, by decide⟩, fun h => (by omega)⟩ ?each ?fin
    case each =>
      refine ⟨cht.quiet 2 rfl (by decide) (.inr ⟨7, _, rfl, rfl, ⟨0, .data⟩, by simp, rfl, rfl⟩) (by simp) (fun s => .agg #[.slice ya ys.length yc, .slice ra ks.length rc]) (by rintro s _ ⟨⟩; exact dk.sets_on _ (by simp) _ rfl) (fun s k' W hk' hS => by obtain ⟨hZ, hN⟩ := hS.1 hk'; have c0 : W.cell? ⟨w2.heap.size, 0, none⟩ = some (.slice ya ys.length yc) := bcell hN rfl; have c1 : W.cell? ⟨w2.heap.size, 1, none⟩ = some (.slice ra ks.length rc) := bcell hN rfl; simp [execOp, go_sem, Act.eval, dk.sets_get, List.lookup, c0, c1]), ?_⟩
      refine ⟨cht.quiet 3 rfl (by decide) (.inl rfl) (by simp) (fun s => .string kk) (by rintro s _ ⟨⟩; exact dk.sets_on _ (by simp) _ rfl) (fun s k' W hk' hS => by simp [execOp, go_sem, Act.eval, dk.sets_get, List.lookup]), ?_⟩
      refine ⟨cht.quiet 3 rfl (by decide) (.inl rfl) (by simp) (fun s => .pointer (some ⟨w.heap.size + 1, 0, none⟩)) (by rintro s _ ⟨⟩; exact dk.sets_on _ (by simp) _ rfl) (fun s k' W hk' hS => by simp [execOp, go_sem, Act.eval, dk.sets_get, List.lookup]), ?_⟩
      refine ⟨cht.quiet 3 rfl (by decide) (.inl rfl) (by simp) (fun s => .pointer (some ⟨w.heap.size + 1, 0, none⟩)) (by rintro s _ ⟨⟩; exact dk.sets_on _ (by simp) _ rfl) (fun s k' W hk' hS => by simp [execOp, go_sem, Act.eval, dk.sets_get, List.lookup]), ?_⟩
      refine ⟨chd.call 0 [4, 5, 6, 7, 8, 9] [20, 21] (by kernel_rfl) (by kernel_rfl) rfl (by decide) rfl (.inl rfl) (by simp) 32 (fun s => #[.pointer (some ⟨w.heap.size + 1, 0, none⟩), .int .i64 2]) (fun s W hS => by exact ⟨by simp [go_sem, Act.eval, dk.sets_get, List.lookup], (draw_below (w.heap.size + 1) a len cap 2 W (by omega) (hS.1 (by omega)).1.cur).mono fun e w9 hh => by obtain ⟨⟨z9, hz9, rfl⟩, k1, k2⟩ := hh; exact ⟨{ s with x := z9 }, _, rfl, (by simp [chd.But]), (by rintro _ ⟨⟩; exact dk.sets_on _ (by simp) _ rfl), fun h => ⟨(hS.1 (by omega)).1.draw k1 k2, st_block (hS.1 (by omega)).2 k2 (by omega)⟩, ⟨hz9, hS.2.1.2⟩, fun h => (by omega)⟩⟩), ?_⟩
      refine ⟨cht.quiet 3 rfl (by decide) (.inl rfl) (by simp) (fun s => .int .i64 (4000 + (s.x : Int))) (by rintro s _ ⟨⟩; exact dk.sets_on _ (by simp) _ rfl) (fun s k' W hk' hS => by have h9 := hS.2.1.1; have hwr : IntKind.i64.wrap (4000 + (s.x : Int)) = 4000 + (s.x : Int) := (by rw [IntKind.wrap_i64]; omega); simp [execOp, go_sem, Act.eval, dk.sets_get, List.lookup, hwr]), ?_⟩
      refine ⟨chd.call 1 [6, 7, 8, 9] [22, 4] (by kernel_rfl) (by kernel_rfl) rfl (by decide) rfl (.inr ⟨⟨4, .chain⟩, by simp, rfl, rfl⟩) (by simp) 31 (fun s => #[.pointer (some ⟨w.heap.size + 1, 0, none⟩), .int .i64 (4000 + (s.x : Int))]) (fun s W hS => by have h9 := draw_bytes (w.heap.size + 1) a len cap (4000 + s.x) W (by have := hS.2.1.1; omega) (hS.1 (by omega)).1.cur; rw [show (((4000 + s.x : Nat)) : Int) = 4000 + (s.x : Int) by omega] at h9; exact ⟨by simp [go_sem, Act.eval, dk.sets_get, List.lookup], h9.mono fun e w9 hh => by obtain ⟨⟨z9, hz9, rfl⟩, k1, k2⟩ := hh; exact ⟨{ s with t := z9 }, _, rfl, (by simp [chd.But]), (by rintro _ ⟨⟩; exact dk.sets_on _ (by simp) _ rfl), fun h => ⟨(hS.1 (by omega)).1.draw k1 k2, st_block (hS.1 (by omega)).2 k2 (by omega)⟩, ⟨hS.2.1.1, (by have h8 := hS.2.1.1; show z9.size ≤ 4001; omega)⟩, fun h => (by omega)⟩⟩), ?_⟩
      refine ⟨cht.sto 2 rfl (by decide) rfl (.inr ⟨⟨6, .chain⟩, by simp, rfl, rfl⟩) (by simp) rfl (fun s W hS => by obtain ⟨hZ, hN⟩ := hS.1 (by omega); have q0 : W.cell? ⟨w.heap.size, 0, none⟩ = some (.slice none 0 0) := bcell hZ.rb rfl; have q1 : W.cell? ⟨w.heap.size, 1, none⟩ = some (.slice none 0 0) := bcell hZ.rb rfl; have r0 := bfree hZ.rb 0; have r1 := bfree hZ.rb 1; exact ⟨res2 W w.heap.size (.slice ya ys.length yc) (.slice ra ks.length rc), by simp [execOp, go_sem, Act.eval, dk.sets_get, List.lookup, q0, q1, r0, r1, res2], fun h => (by omega), hS.2.1, fun _ => ⟨(hZ.done _ _).1, (hZ.done _ _).2, res2_at hZ.rb ..⟩⟩), ?_⟩
      refine ⟨cht.quiet 3 rfl (by decide) (.inl rfl) (by simp) (fun s => .string kk) (by rintro s _ ⟨⟩; exact dk.sets_on _ (by simp) _ rfl) (fun s k' W hk' hS => by simp [execOp, go_sem, Act.eval, dk.sets_get, List.lookup]), ?_⟩
      exact ⟨cht.quiet 3 rfl (by decide) (.inl rfl) (by simp) (fun s => .string s.t) (by rintro s _ ⟨⟩; exact dk.sets_on _ (by simp) _ rfl) (fun s k' W hk' hS => by simp [execOp, go_sem, Act.eval, dk.sets_get, List.lookup]), trivial⟩
    case fin =>
      intro s x5 hS
      have HST : s.t.size ≤ 4001 := hS.2.1.2
      obtain ⟨hd5, hb5, hr5⟩ := hS.2.2 rfl
      have q0 : x5.cell? ⟨w.heap.size, 0, none⟩ = some (.slice ya ys.length yc) := bcell hr5 rfl
      have q1 : x5.cell? ⟨w.heap.size, 1, none⟩ = some (.slice ra ks.length rc) := bcell hr5 rfl
      have HD5 : Hid (Tb w.heap.size x5 ys ks ya yc ra rc ∧ Below w.heap.size w x5 ∧ w.heap.size < x5.heap.size) := ⟨hd5, hb5, (Array.getElem?_eq_some_iff.1 hr5).1⟩
      obtain ⟨sx, sy, sA, sT, sU, sV, sB⟩ := s
      simp only [dk.sets]
      clear hS hd5 hb5 hr5
      go_wp2
      exact bodyPost_ret (v := .tuple #[.agg #[.slice ya ys.length yc, .slice ra ks.length rc], .string kk, .string sT]) (by simp [results, Try.results6, go_sem, q0, q1]) rfl ⟨⟨ys, ks, ya, yc, ra, rc, kk, sT, rfl, HSM.out, HD5.out.1, hkk, HST⟩, HD5.out.2⟩
  | false =>
    go_wp2
    refine cht.region (σ := G) (ws := (fun s : G => [(23, .agg #[.slice ya ys.length yc, .slice ra ks.length rc]), (24, .string kk), (25, .pointer (some ⟨w.heap.size + 1, 0, none⟩)), (26, .pointer (some ⟨w.heap.size + 1, 0, none⟩)), (27, .int .i64 s.x), (28, .string s.t), (3, .string kk), (4, .string s.t)])) (js := [4, 5, 6]) (S := (fun g k W => (k ≤ 2 → Dz a len cap w ys ks ya yc ra rc W ∧ W.heap[w2.heap.size]? = some (.cells #[.slice ya ys.length yc, .slice ra ks.length rc] 27 (0, 0))) ∧ (g.x < 4 ∧ g.t.size ≤ 4001) ∧ (k = 3 → Tb w.heap.size W ys ks ya yc ra rc ∧ Below w.heap.size w W ∧ W.heap[w.heap.size]? = some (.cells #[.slice ya ys.length yc, .slice ra ks.length rc] 27 (0, 0))))) [23, 24, 25, 26, 27, 28, 3, 4] ⟨0, 0, 0, ⟨#[]⟩, ⟨#[]⟩, undef, false⟩ (by kernel_rfl) (by kernel_rfl) (fun _ => rfl) (by kernel_rfl) (by decide) ⟨fun _ => ⟨HD8.out.step (Below.refl _ _).drew, bstay HN8.out (Below.refl _ _).drew (by have := (Array.getElem?_eq_some_iff.1 HN8.out).1; omega)⟩, ⟨by decide, by decide⟩, fun h => (by omega)⟩ ?each ?fin
    case each =>
      refine ⟨cht.quiet 2 rfl (by decide) (.inr ⟨6, _, rfl, rfl, ⟨0, .data⟩, by simp, rfl, rfl⟩) (by simp) (fun s => .agg #[.slice ya ys.length yc, .slice ra ks.length rc]) (by rintro s _ ⟨⟩; exact dk.sets_on _ (by simp) _ rfl) (fun s k' W hk' hS => by obtain ⟨hZ, hN⟩ := hS.1 hk'; have c0 : W.cell? ⟨w2.heap.size, 0, none⟩ = some (.slice ya ys.length yc) := bcell hN rfl; have c1 : W.cell? ⟨w2.heap.size, 1, none⟩ = some (.slice ra ks.length rc) := bcell hN rfl; simp [execOp, go_sem, Act.eval, dk.sets_get, List.lookup, c0, c1]), ?_⟩
      refine ⟨cht.quiet 3 rfl (by decide) (.inl rfl) (by simp) (fun s => .string kk) (by rintro s _ ⟨⟩; exact dk.sets_on _ (by simp) _ rfl) (fun s k' W hk' hS => by simp [execOp, go_sem, Act.eval, dk.sets_get, List.lookup]), ?_⟩
      refine ⟨cht.quiet 3 rfl (by decide) (.inl rfl) (by simp) (fun s => .pointer (some ⟨w.heap.size + 1, 0, none⟩)) (by rintro s _ ⟨⟩; exact dk.sets_on _ (by simp) _ rfl) (fun s k' W hk' hS => by simp [execOp, go_sem, Act.eval, dk.sets_get, List.lookup]), ?_⟩
      refine ⟨cht.quiet 3 rfl (by decide) (.inl rfl) (by simp) (fun s => .pointer (some ⟨w.heap.size + 1, 0, none⟩)) (by rintro s _ ⟨⟩; exact dk.sets_on _ (by simp) _ rfl) (fun s k' W hk' hS => by simp [execOp, go_sem, Act.eval, dk.sets_get, List.lookup]), ?_⟩
      refine ⟨chd.call 0 [4, 5, 6, 7, 8] [27] (by kernel_rfl) (by kernel_rfl) rfl (by decide) rfl (.inl rfl) (by simp) 32 (fun s => #[.pointer (some ⟨w.heap.size + 1, 0, none⟩), .int .i64 4]) (fun s W hS => by exact ⟨by simp [go_sem, Act.eval, dk.sets_get, List.lookup], (draw_below (w.heap.size + 1) a len cap 4 W (by omega) (hS.1 (by omega)).1.cur).mono fun e w9 hh => by obtain ⟨⟨z9, hz9, rfl⟩, k1, k2⟩ := hh; exact ⟨{ s with x := z9 }, _, rfl, (by simp [chd.But]), (by rintro _ ⟨⟩; exact dk.sets_on _ (by simp) _ rfl), fun h => ⟨(hS.1 (by omega)).1.draw k1 k2, st_block (hS.1 (by omega)).2 k2 (by omega)⟩, ⟨hz9, hS.2.1.2⟩, fun h => (by omega)⟩⟩), ?_⟩
      refine ⟨chd.call 1 [5, 6, 7, 8] [28, 4] (by kernel_rfl) (by kernel_rfl) rfl (by decide) rfl (.inr ⟨⟨4, .data⟩, by simp, rfl, rfl⟩) (by simp) 31 (fun s => #[.pointer (some ⟨w.heap.size + 1, 0, none⟩), .int .i64 s.x]) (fun s W hS => by have h9 := draw_bytes (w.heap.size + 1) a len cap (s.x) W (by have := hS.2.1.1; omega) (hS.1 (by omega)).1.cur; exact ⟨by simp [go_sem, Act.eval, dk.sets_get, List.lookup], h9.mono fun e w9 hh => by obtain ⟨⟨z9, hz9, rfl⟩, k1, k2⟩ := hh; exact ⟨{ s with t := z9 }, _, rfl, (by simp [chd.But]), (by rintro _ ⟨⟩; exact dk.sets_on _ (by simp) _ rfl), fun h => ⟨(hS.1 (by omega)).1.draw k1 k2, st_block (hS.1 (by omega)).2 k2 (by omega)⟩, ⟨hS.2.1.1, (by have h8 := hS.2.1.1; show z9.size ≤ 4001; omega)⟩, fun h => (by omega)⟩⟩), ?_⟩
      refine ⟨cht.sto 2 rfl (by decide) rfl (.inr ⟨⟨5, .chain⟩, by simp, rfl, rfl⟩) (by simp) rfl (fun s W hS => by obtain ⟨hZ, hN⟩ := hS.1 (by omega); have q0 : W.cell? ⟨w.heap.size, 0, none⟩ = some (.slice none 0 0) := bcell hZ.rb rfl; have q1 : W.cell? ⟨w.heap.size, 1, none⟩ = some (.slice none 0 0) := bcell hZ.rb rfl; have r0 := bfree hZ.rb 0; have r1 := bfree hZ.rb 1; exact ⟨res2 W w.heap.size (.slice ya ys.length yc) (.slice ra ks.length rc), by simp [execOp, go_sem, Act.eval, dk.sets_get, List.lookup, q0, q1, r0, r1, res2], fun h => (by omega), hS.2.1, fun _ => ⟨(hZ.done _ _).1, (hZ.done _ _).2, res2_at hZ.rb ..⟩⟩), ?_⟩
      refine ⟨cht.quiet 3 rfl (by decide) (.inl rfl) (by simp) (fun s => .string kk) (by rintro s _ ⟨⟩; exact dk.sets_on _ (by simp) _ rfl) (fun s k' W hk' hS => by simp [execOp, go_sem, Act.eval, dk.sets_get, List.lookup]), ?_⟩
      exact ⟨cht.quiet 3 rfl (by decide) (.inl rfl) (by simp) (fun s => .string s.t) (by rintro s _ ⟨⟩; exact dk.sets_on _ (by simp) _ rfl) (fun s k' W hk' hS => by simp [execOp, go_sem, Act.eval, dk.sets_get, List.lookup]), trivial⟩
    case fin =>
      intro s x5 hS
      have HST : s.t.size ≤ 4001 := hS.2.1.2
      obtain ⟨hd5, hb5, hr5⟩ := hS.2.2 rfl
      have q0 : x5.cell? ⟨w.heap.size, 0, none⟩ = some (.slice ya ys.length yc) := bcell hr5 rfl
      have q1 : x5.cell? ⟨w.heap.size, 1, none⟩ = some (.slice ra ks.length rc) := bcell hr5 rfl
      have HD5 : Hid (Tb w.heap.size x5 ys ks ya yc ra rc ∧ Below w.heap.size w x5 ∧ w.heap.size < x5.heap.size) := ⟨hd5, hb5, (Array.getElem?_eq_some_iff.1 hr5).1⟩
      obtain ⟨sx, sy, sA, sT, sU, sV, sB⟩ := s
      simp only [dk.sets]
      clear hS hd5 hb5 hr5
      go_wp2
      exact bodyPost_ret (v := .tuple #[.agg #[.slice ya ys.length yc, .slice ra ks.length rc], .string kk, .string sT]) (by simp [results, Try.results6, go_sem, q0, q1]) rfl ⟨⟨ys, ks, ya, yc, ra, rc, kk, sT, rfl, HSM.out, HD5.out.1, hkk, HST⟩, HD5.out.2⟩
set_option maxRecDepth 100000 in
set_option maxHeartbeats 2000000 in
theorem draw_Merge (a : Option Addr) (len cap : Nat) (w : World) (hlen : len ≤ 1048576) (hc : dw.Code w w.heap.size a len) :
    Calls Try.prog 18 #[.slice a len cap] w fun e w' => (∃ (ys : List flP.Pr) (ks : List Rn) (ya : Option Addr) (yc : Nat) (ra : Option Addr) (rc : Nat) (x : Int), e = .returned (.tuple #[.agg #[.slice ya ys.length yc, .slice ra ks.length rc], .int .i64 x]) ∧ Sm 500 ys (ks.map (·.l)) ∧ Tb w.heap.size w' ys ks ya yc ra rc ∧ -1 ≤ x ∧ x ≤ 3) ∧ Below w.heap.size w w' ∧ w.heap.size < w'.heap.size := by
  have h1 := draw_new a len cap _ hlen (code_at hc)
  have HR0 : Hid ((w.alloc (.cells #[.slice none 0 0, .slice none 0 0] 27)).heap[w.heap.size]? = some (.cells #[.slice none 0 0, .slice none 0 0] 27 (0, 0))) := bnew w _ _
  have HB0 : Hid (Below w.heap.size w (w.alloc (.cells #[.slice none 0 0, .slice none 0 0] 27))) := (Below.refl _ _).alloc (Nat.le_refl _) _
  clear hc
  go_enter Try.func18, Try.ntmps18
  go_wp2_with (go_at_call 27; fail)
  refine h1.mono ?_
  rintro e w1 ⟨rfl, hc1, hb1⟩
  rw [World.size_alloc] at hc1 hb1
  have hR1 := bstay HR0.out hb1 (by omega)
  have hB1 := HB0.out.trans (hb1.mono (by omega))
  have h2 := draw_table (w.heap.size + 1) a len cap w1 hc1
  have hlt1 := hc1.lt
  have HR1 : Hid (w1.heap[w.heap.size]? = some (.cells #[.slice none 0 0, .slice none 0 0] 27 (0, 0))) := hR1
  have HB1 : Hid (Below w.heap.size w w1) := hB1
  clear h1 hc1 hb1 hR1 hB1 HR0 HB0
  go_wp2_with (go_at_call 28; fail)
  refine h2.mono ?_
  rintro e w2 ⟨⟨ys, ks, ya, yc, ra, rc, rfl, hsm, hdr⟩, hc2, hb2⟩
  have HD2 : Hid (Dz a len cap w ys ks ya yc ra rc w2) := ⟨st_block HR1.out hb2 (by omega), hc2, HB1.out.trans (hb2.below (by omega) (by omega)), hdr.low (by omega)⟩
  have HSM : Hid (Sm 500 ys (ks.map (·.l))) := hsm
  have hsz2 := hb2.size
  clear h2 hsm hdr hc2 hb2 HR1 HB1
  have HN2 : Hid ((w2.alloc (.cells #[.slice ya ys.length yc, .slice ra ks.length rc] 27)).heap[w2.heap.size]? = some (.cells #[.slice ya ys.length yc, .slice ra ks.length rc] 27 (0, 0))) := bnew w2 _ _
  have HD3 : Hid (Dz a len cap w ys ks ya yc ra rc (w2.alloc (.cells #[.slice ya ys.length yc, .slice ra ks.length rc] 27))) := HD2.out.step ((Below.refl _ _).alloc (Nat.le_refl _) _)
  have hne2 : w2.heap.size ≠ w.heap.size + 1 := by omega
  go_wp2
  refine cht.region (σ := G) (ws := (fun s : G => [(10, .agg #[.slice ya ys.length yc, .slice ra ks.length rc]), (11, .pointer (some ⟨w.heap.size + 1, 0, none⟩)), (12, .int .i64 s.x), (13, .int .i64 ((s.x : Int) - 1)), (3, .int .i64 ((s.x : Int) - 1))])) (js := [2, 4]) (S := (fun g k W => (k ≤ 1 → Dz a len cap w ys ks ya yc ra rc W ∧ W.heap[w2.heap.size]? = some (.cells #[.slice ya ys.length yc, .slice ra ks.length rc] 27 (0, 0))) ∧ (g.x < 5) ∧ (k = 2 → Tb w.heap.size W ys ks ya yc ra rc ∧ Below w.heap.size w W ∧ W.heap[w.heap.size]? = some (.cells #[.slice ya ys.length yc, .slice ra ks.length rc] 27 (0, 0))))) [10, 11, 12, 13, 3] ⟨0, 0, 0, ⟨#[]⟩, ⟨#[]⟩, undef, false⟩ (by kernel_rfl) (by kernel_rfl) (fun _ => rfl) (by kernel_rfl) (by decide) ⟨fun _ => ⟨HD3.out.step (Below.refl _ _).drew, bstay HN2.out (Below.refl _ _).drew (by have := (Array.getElem?_eq_some_iff.1 HN2.out).1; omega)⟩, (by decide), fun h => (by omega)⟩ ?each ?fin
  case each =>
    refine ⟨cht.quiet 1 rfl (by decide) (.inr ⟨4, _, rfl, rfl, ⟨0, .data⟩, by simp, rfl, rfl⟩) (by simp) (fun s => .agg #[.slice ya ys.length yc, .slice ra ks.length rc]) (by rintro s _ ⟨⟩; exact dk.sets_on _ (by simp) _ rfl) (fun s k' W hk' hS => by obtain ⟨hZ, hN⟩ := hS.1 hk'; have c0 : W.cell? ⟨w2.heap.size, 0, none⟩ = some (.slice ya ys.length yc) := bcell hN rfl; have c1 : W.cell? ⟨w2.heap.size, 1, none⟩ = some (.slice ra ks.length rc) := bcell hN rfl; simp [execOp, go_sem, Act.eval, dk.sets_get, List.lookup, c0, c1]), ?_⟩
    refine ⟨cht.quiet 2 rfl (by decide) (.inl rfl) (by simp) (fun s => .pointer (some ⟨w.heap.size + 1, 0, none⟩)) (by rintro s _ ⟨⟩; exact dk.sets_on _ (by simp) _ rfl) (fun s k' W hk' hS => by simp [execOp, go_sem, Act.eval, dk.sets_get, List.lookup]), ?_⟩
    refine ⟨chd.call 0 [2, 3, 4, 5] [12, 13, 3] (by kernel_rfl) (by kernel_rfl) rfl (by decide) rfl (.inl rfl) (by simp) 32 (fun s => #[.pointer (some ⟨w.heap.size + 1, 0, none⟩), .int .i64 5]) (fun s W hS => by exact ⟨by simp [go_sem, Act.eval, dk.sets_get, List.lookup], (draw_below (w.heap.size + 1) a len cap 5 W (by omega) (hS.1 (by omega)).1.cur).mono fun e w9 hh => by obtain ⟨⟨z9, hz9, rfl⟩, k1, k2⟩ := hh; exact ⟨{ s with x := z9 }, _, rfl, (by simp [chd.But]), (by rintro _ ⟨⟩; exact dk.sets_on _ (by simp) _ rfl), fun h => ⟨(hS.1 (by omega)).1.draw k1 k2, st_block (hS.1 (by omega)).2 k2 (by omega)⟩, hz9, fun h => (by omega)⟩⟩), ?_⟩
    refine ⟨cht.quiet 2 rfl (by decide) (.inl rfl) (by simp) (fun s => .int .i64 ((s.x : Int) - 1)) (by rintro s _ ⟨⟩; exact dk.sets_on _ (by simp) _ rfl) (fun s k' W hk' hS => by have h9 := hS.2.1; have hwr : IntKind.i64.wrap ((s.x : Int) - 1) = (s.x : Int) - 1 := (by rw [IntKind.wrap_i64]; omega); simp [execOp, go_sem, Act.eval, dk.sets_get, List.lookup, hwr]), ?_⟩
    refine ⟨cht.sto 1 rfl (by decide) rfl (.inr ⟨⟨2, .chain⟩, by simp, rfl, rfl⟩) (by simp) rfl (fun s W hS => by obtain ⟨hZ, hN⟩ := hS.1 (by omega); have q0 : W.cell? ⟨w.heap.size, 0, none⟩ = some (.slice none 0 0) := bcell hZ.rb rfl; have q1 : W.cell? ⟨w.heap.size, 1, none⟩ = some (.slice none 0 0) := bcell hZ.rb rfl; have r0 := bfree hZ.rb 0; have r1 := bfree hZ.rb 1; exact ⟨res2 W w.heap.size (.slice ya ys.length yc) (.slice ra ks.length rc), by simp [execOp, go_sem, Act.eval, dk.sets_get, List.lookup, q0, q1, r0, r1, res2], fun h => (by omega), hS.2.1, fun _ => ⟨(hZ.done _ _).1, (hZ.done _ _).2, res2_at hZ.rb ..⟩⟩), ?_⟩
    exact ⟨cht.quiet 2 rfl (by decide) (.inl rfl) (by simp) (fun s => .int .i64 ((s.x : Int) - 1)) (by rintro s _ ⟨⟩; exact dk.sets_on _ (by simp) _ rfl) (fun s k' W hk' hS => by simp [execOp, go_sem, Act.eval, dk.sets_get, List.lookup]), trivial⟩
  case fin =>
    intro s x5 hS
    have hsx : s.x < 5 := hS.2.1
    obtain ⟨hd5, hb5, hr5⟩ := hS.2.2 rfl
    have q0 : x5.cell? ⟨w.heap.size, 0, none⟩ = some (.slice ya ys.length yc) := bcell hr5 rfl
    have q1 : x5.cell? ⟨w.heap.size, 1, none⟩ = some (.slice ra ks.length rc) := bcell hr5 rfl
    have HD5 : Hid (Tb w.heap.size x5 ys ks ya yc ra rc ∧ Below w.heap.size w x5 ∧ w.heap.size < x5.heap.size) := ⟨hd5, hb5, (Array.getElem?_eq_some_iff.1 hr5).1⟩
    obtain ⟨sx, sy, sA, sT, sU, sV, sB⟩ := s
    simp only [dk.sets]
    clear hS hd5 hb5 hr5
    go_wp2
    exact bodyPost_ret (v := .tuple #[.agg #[.slice ya ys.length yc, .slice ra ks.length rc], .int .i64 ((sx : Int) - 1)]) (by simp [results, Try.results18, go_sem, q0, q1]) rfl ⟨⟨ys, ks, ya, yc, ra, rc, (sx : Int) - 1, rfl, HSM.out, HD5.out.1, by omega, by omega⟩, HD5.out.2⟩
set_option maxRecDepth 100000 in
set_option maxHeartbeats 2000000 in
theorem draw_Scan (a : Option Addr) (len cap : Nat) (w : World) (hlen : len ≤ 1048576) (hc : dw.Code w w.heap.size a len) :
    Calls Try.prog 23 #[.slice a len cap] w fun e w' => (∃ (ys : List flP.Pr) (ks : List Rn) (ya : Option Addr) (yc : Nat) (ra : Option Addr) (rc : Nat) (f t : ByteArray), e = .returned (.tuple #[.agg #[.slice ya ys.length yc, .slice ra ks.length rc], .string f, .string t]) ∧ Sm 500 ys (ks.map (·.l)) ∧ Tb w.heap.size w' ys ks ya yc ra rc ∧ f.size ≤ 2 ∧ t.size ≤ 2) ∧ Below w.heap.size w w' ∧ w.heap.size < w'.heap.size := by
  have h1 := draw_new a len cap _ hlen (code_at hc)
  have HR0 : Hid ((w.alloc (.cells #[.slice none 0 0, .slice none 0 0] 27)).heap[w.heap.size]? = some (.cells #[.slice none 0 0, .slice none 0 0] 27 (0, 0))) := bnew w _ _
  have HB0 : Hid (Below w.heap.size w (w.alloc (.cells #[.slice none 0 0, .slice none 0 0] 27))) := (Below.refl _ _).alloc (Nat.le_refl _) _
  clear hc
  go_enter Try.func23, Try.ntmps23
  go_wp2_with (go_at_call 27; fail)
  refine h1.mono ?_
  rintro e w1 ⟨rfl, hc1, hb1⟩
  rw [World.size_alloc] at hc1 hb1
  have hR1 := bstay HR0.out hb1 (by omega)
  have hB1 := HB0.out.trans (hb1.mono (by omega))
  have h2 := draw_table (w.heap.size + 1) a len cap w1 hc1
  have hlt1 := hc1.lt
  have HR1 : Hid (w1.heap[w.heap.size]? = some (.cells #[.slice none 0 0, .slice none 0 0] 27 (0, 0))) := hR1
  have HB1 : Hid (Below w.heap.size w w1) := hB1
  clear h1 hc1 hb1 hR1 hB1 HR0 HB0
  go_wp2_with (go_at_call 28; fail)
  refine h2.mono ?_
  rintro e w2 ⟨⟨ys, ks, ya, yc, ra, rc, rfl, hsm, hdr⟩, hc2, hb2⟩
  have HD2 : Hid (Dz a len cap w ys ks ya yc ra rc w2) := ⟨st_block HR1.out hb2 (by omega), hc2, HB1.out.trans (hb2.below (by omega) (by omega)), hdr.low (by omega)⟩
  have HSM : Hid (Sm 500 ys (ks.map (·.l))) := hsm
  have hsz2 := hb2.size
  clear h2 hsm hdr hc2 hb2 HR1 HB1
  have HN2 : Hid ((w2.alloc (.cells #[.slice ya ys.length yc, .slice ra ks.length rc] 27)).heap[w2.heap.size]? = some (.cells #[.slice ya ys.length yc, .slice ra ks.length rc] 27 (0, 0))) := bnew w2 _ _
  have HD3 : Hid (Dz a len cap w ys ks ya yc ra rc (w2.alloc (.cells #[.slice ya ys.length yc, .slice ra ks.length rc] 27))) := HD2.out.step ((Below.refl _ _).alloc (Nat.le_refl _) _)
  have hne2 : w2.heap.size ≠ w.heap.size + 1 := by omega
  have g1 := draw_pick (w.heap.size + 1) a len cap (w2.alloc (.cells #[.slice ya ys.length yc, .slice ra ks.length rc] 27)).heap.size 4 keysF _ (by omega) (by rw [World.size_alloc]; omega) (at_texts (w2.alloc (.cells #[.slice ya ys.length yc, .slice ra ks.length rc] 27)) keysF 9) (HD3.out.step ((Below.refl _ _).alloc (Nat.le_refl _) _)).cur
  have HD4 : Hid (Dz a len cap w ys ks ya yc ra rc ((w2.alloc (.cells #[.slice ya ys.length yc, .slice ra ks.length rc] 27)).alloc (.cells (keysF.map Value.string).toArray 9))) := HD3.out.step ((Below.refl _ _).alloc (Nat.le_refl _) _)
  have HN4 : Hid (((w2.alloc (.cells #[.slice ya ys.length yc, .slice ra ks.length rc] 27)).alloc (.cells (keysF.map Value.string).toArray 9)).heap[w2.heap.size]? = some (.cells #[.slice ya ys.length yc, .slice ra ks.length rc] 27 (0, 0))) := bold HN2.out _
  rw [World.size_alloc] at g1
  go_wp2_with (go_at_call 51; fail)
  refine g1.mono ?_
  rintro e w3 ⟨⟨fr, hrr, rfl⟩, hc3, hb3⟩
  have hr4 := keysF_in fr hrr
  have HD5 : Hid (Dz a len cap w ys ks ya yc ra rc w3) := HD4.out.draw hc3 hb3
  have HN5 : Hid (w3.heap[w2.heap.size]? = some (.cells #[.slice ya ys.length yc, .slice ra ks.length rc] 27 (0, 0))) := st_block HN4.out hb3 (by omega)
  have hsz3 : w2.heap.size < w3.heap.size := (Array.getElem?_eq_some_iff.1 HN5.out).1
  clear g1 hc3 hb3 HD4 HN4 HD3 HN2 hrr
  go_wp2
  refine cht.region (σ := G) (ws := (fun s : G => [(15, .agg #[.slice ya ys.length yc, .slice ra ks.length rc]), (16, .string fr), (17, .pointer (some ⟨w.heap.size + 1, 0, none⟩)), (18, .slice (some ⟨s.a, 0, none⟩) 5 5), (19, .string s.t), (3, .string fr), (4, .string s.t)])) (js := [3, 4, 5]) (S := (fun g k W => (k ≤ 2 → Dz a len cap w ys ks ya yc ra rc W ∧ W.heap[w2.heap.size]? = some (.cells #[.slice ya ys.length yc, .slice ra ks.length rc] 27 (0, 0))) ∧ ((k = 1 → w.heap.size + 1 ≠ g.a ∧ ∀ i, i < 5 → ∃ z ∈ keysO, W.cell? ⟨g.a, i, none⟩ = some (.string z)) ∧ g.t.size ≤ 2) ∧ (k = 3 → Tb w.heap.size W ys ks ya yc ra rc ∧ Below w.heap.size w W ∧ W.heap[w.heap.size]? = some (.cells #[.slice ya ys.length yc, .slice ra ks.length rc] 27 (0, 0))))) [15, 16, 17, 18, 19, 3, 4] ⟨0, 0, 0, ⟨#[]⟩, ⟨#[]⟩, undef, false⟩ (by kernel_rfl) (by kernel_rfl) (fun _ => rfl) (by kernel_rfl) (by decide) ⟨fun _ => ⟨HD5.out.step (Below.refl _ _).drew, bstay HN5.out (Below.refl _ _).drew (by have := (Array.getElem?_eq_some_iff.1 HN5.out).1; omega)⟩, ⟨fun h => (by omega), by decide⟩, fun h => (by omega)⟩ ?each ?fin
  case each =>
    refine ⟨cht.quiet 2 rfl (by decide) (.inr ⟨5, _, rfl, rfl, ⟨0, .data⟩, by simp, rfl, rfl⟩) (by simp) (fun s => .agg #[.slice ya ys.length yc, .slice ra ks.length rc]) (by rintro s _ ⟨⟩; exact dk.sets_on _ (by simp) _ rfl) (fun s k' W hk' hS => by obtain ⟨hZ, hN⟩ := hS.1 hk'; have c0 : W.cell? ⟨w2.heap.size, 0, none⟩ = some (.slice ya ys.length yc) := bcell hN rfl; have c1 : W.cell? ⟨w2.heap.size, 1, none⟩ = some (.slice ra ks.length rc) := bcell hN rfl; simp [execOp, go_sem, Act.eval, dk.sets_get, List.lookup, c0, c1]), ?_⟩
    refine ⟨cht.quiet 3 rfl (by decide) (.inl rfl) (by simp) (fun s => .string fr) (by rintro s _ ⟨⟩; exact dk.sets_on _ (by simp) _ rfl) (fun s k' W hk' hS => by simp [execOp, go_sem, Act.eval, dk.sets_get, List.lookup]), ?_⟩
    refine ⟨cht.quiet 3 rfl (by decide) (.inl rfl) (by simp) (fun s => .pointer (some ⟨w.heap.size + 1, 0, none⟩)) (by rintro s _ ⟨⟩; exact dk.sets_on _ (by simp) _ rfl) (fun s k' W hk' hS => by simp [execOp, go_sem, Act.eval, dk.sets_get, List.lookup]), ?_⟩
    refine ⟨chd.eff 0 [3, 4, 5, 6, 7] [18] (by kernel_rfl) (by kernel_rfl) rfl (by decide) rfl (.inl rfl) (by simp) (fun s W hS => by exact ⟨{ s with a := W.heap.size }, .slice (some ⟨W.heap.size, 0, none⟩) 5 5, W.alloc (.cells (keysO.map Value.string).toArray 9), (by simp [chd.But]), (by rintro _ ⟨⟩; exact dk.sets_on _ (by simp) _ rfl), (by simp [execOp, go_sem, Act.eval, dk.sets_get, List.lookup, keysO]), fun h => ⟨(hS.1 (by omega)).1.step ((Below.refl _ _).alloc (Nat.le_refl _) _), bold (hS.1 (by omega)).2 _⟩, ⟨fun _ => ⟨(by have := (hS.1 (by omega)).1.cur.lt; show w.heap.size + 1 ≠ W.heap.size; omega), at_texts W keysO _⟩, hS.2.1.2⟩, fun h => (by omega)⟩), ?_⟩
    refine ⟨chd.call 1 [4, 5, 6, 7] [19, 4] (by kernel_rfl) (by kernel_rfl) rfl (by decide) rfl (.inr ⟨⟨3, .data⟩, by simp, rfl, rfl⟩) (by simp) 51 (fun s => #[.pointer (some ⟨w.heap.size + 1, 0, none⟩), .slice (some ⟨s.a, 0, none⟩) 5 5]) (fun s W hS => by exact ⟨by simp [go_sem, Act.eval, dk.sets_get, List.lookup], (draw_pick (w.heap.size + 1) a len cap s.a 5 keysO W (by omega) (Ne.symm (hS.2.1.1 rfl).1) (hS.2.1.1 rfl).2 (hS.1 (by omega)).1.cur).mono fun e w9 hh => by obtain ⟨⟨z9, hz9, rfl⟩, k1, k2⟩ := hh; exact ⟨{ s with t := z9 }, _, rfl, (by simp [chd.But]), (by rintro _ ⟨⟩; exact dk.sets_on _ (by simp) _ rfl), fun h => ⟨(hS.1 (by omega)).1.draw k1 k2, st_block (hS.1 (by omega)).2 k2 (by omega)⟩, ⟨fun h => (by omega), keysO_in z9 hz9⟩, fun h => (by omega)⟩⟩), ?_⟩
    refine ⟨cht.sto 2 rfl (by decide) rfl (.inr ⟨⟨4, .chain⟩, by simp, rfl, rfl⟩) (by simp) rfl (fun s W hS => by obtain ⟨hZ, hN⟩ := hS.1 (by omega); have q0 : W.cell? ⟨w.heap.size, 0, none⟩ = some (.slice none 0 0) := bcell hZ.rb rfl; have q1 : W.cell? ⟨w.heap.size, 1, none⟩ = some (.slice none 0 0) := bcell hZ.rb rfl; have r0 := bfree hZ.rb 0; have r1 := bfree hZ.rb 1; exact ⟨res2 W w.heap.size (.slice ya ys.length yc) (.slice ra ks.length rc), by simp [execOp, go_sem, Act.eval, dk.sets_get, List.lookup, q0, q1, r0, r1, res2], fun h => (by omega), ⟨fun h => (by omega), hS.2.1.2⟩, fun _ => ⟨(hZ.done _ _).1, (hZ.done _ _).2, res2_at hZ.rb ..⟩⟩), ?_⟩
    refine ⟨cht.quiet 3 rfl (by decide) (.inl rfl) (by simp) (fun s => .string fr) (by rintro s _ ⟨⟩; exact dk.sets_on _ (by simp) _ rfl) (fun s k' W hk' hS => by simp [execOp, go_sem, Act.eval, dk.sets_get, List.lookup]), ?_⟩
    exact ⟨cht.quiet 3 rfl (by decide) (.inl rfl) (by simp) (fun s => .string s.t) (by rintro s _ ⟨⟩; exact dk.sets_on _ (by simp) _ rfl) (fun s k' W hk' hS => by simp [execOp, go_sem, Act.eval, dk.sets_get, List.lookup]), trivial⟩
  case fin =>
    intro s x5 hS
    clear HD5
    have HST : s.t.size ≤ 2 := hS.2.1.2
    obtain ⟨hd5, hb5, hr5⟩ := hS.2.2 rfl
    have q0 : x5.cell? ⟨w.heap.size, 0, none⟩ = some (.slice ya ys.length yc) := bcell hr5 rfl
    have q1 : x5.cell? ⟨w.heap.size, 1, none⟩ = some (.slice ra ks.length rc) := bcell hr5 rfl
    have HD5 : Hid (Tb w.heap.size x5 ys ks ya yc ra rc ∧ Below w.heap.size w x5 ∧ w.heap.size < x5.heap.size) := ⟨hd5, hb5, (Array.getElem?_eq_some_iff.1 hr5).1⟩
    obtain ⟨sx, sy, sA, sT, sU, sV, sB⟩ := s
    simp only [dk.sets]
    clear hS hd5 hb5 hr5
    go_wp2
    exact bodyPost_ret (v := .tuple #[.agg #[.slice ya ys.length yc, .slice ra ks.length rc], .string fr, .string sT]) (by simp [results, Try.results23, go_sem, q0, q1]) rfl ⟨⟨ys, ks, ya, yc, ra, rc, fr, sT, rfl, HSM.out, HD5.out.1, hr4, HST⟩, HD5.out.2⟩
set_option maxRecDepth 100000 in
set_option maxHeartbeats 2000000 in
theorem draw_Get (a : Option Addr) (len cap : Nat) (w : World) (hlen : len ≤ 1048576) (hc : dw.Code w w.heap.size a len) :
    Calls Try.prog 26 #[.slice a len cap] w fun e w' => (∃ (ys : List flP.Pr) (ks : List Rn) (ya : Option Addr) (yc : Nat) (ra : Option Addr) (rc : Nat) (k : ByteArray), e = .returned (.tuple #[.agg #[.slice ya ys.length yc, .slice ra ks.length rc], .string k]) ∧ Sm 500 ys (ks.map (·.l)) ∧ Tb w.heap.size w' ys ks ya yc ra rc ∧ k.size ≤ 101) ∧ Below w.heap.size w w' ∧ w.heap.size < w'.heap.size := by
  have h1 := draw_new a len cap _ hlen (code_at hc)
  have HR0 : Hid ((w.alloc (.cells #[.slice none 0 0, .slice none 0 0] 27)).heap[w.heap.size]? = some (.cells #[.slice none 0 0, .slice none 0 0] 27 (0, 0))) := bnew w _ _
  have HB0 : Hid (Below w.heap.size w (w.alloc (.cells #[.slice none 0 0, .slice none 0 0] 27))) := (Below.refl _ _).alloc (Nat.le_refl _) _
  clear hc
  go_enter Try.func26, Try.ntmps26
  go_wp2_with (go_at_call 27; fail)
  refine h1.mono ?_
  rintro e w1 ⟨rfl, hc1, hb1⟩
  rw [World.size_alloc] at hc1 hb1
  have hR1 := bstay HR0.out hb1 (by omega)
  have hB1 := HB0.out.trans (hb1.mono (by omega))
  have h2 := draw_table (w.heap.size + 1) a len cap w1 hc1
  have hlt1 := hc1.lt
  have HR1 : Hid (w1.heap[w.heap.size]? = some (.cells #[.slice none 0 0, .slice none 0 0] 27 (0, 0))) := hR1
  have HB1 : Hid (Below w.heap.size w w1) := hB1
  clear h1 hc1 hb1 hR1 hB1 HR0 HB0
  go_wp2_with (go_at_call 28; fail)
  refine h2.mono ?_
  rintro e w2 ⟨⟨ys, ks, ya, yc, ra, rc, rfl, hsm, hdr⟩, hc2, hb2⟩
  have HD2 : Hid (Dz a len cap w ys ks ya yc ra rc w2) := ⟨st_block HR1.out hb2 (by omega), hc2, HB1.out.trans (hb2.below (by omega) (by omega)), hdr.low (by omega)⟩
  have HSM : Hid (Sm 500 ys (ks.map (·.l))) := hsm
  have hsz2 := hb2.size
  clear h2 hsm hdr hc2 hb2 HR1 HB1
  have HN2 : Hid ((w2.alloc (.cells #[.slice ya ys.length yc, .slice ra ks.length rc] 27)).heap[w2.heap.size]? = some (.cells #[.slice ya ys.length yc, .slice ra ks.length rc] 27 (0, 0))) := bnew w2 _ _
  have HD3 : Hid (Dz a len cap w ys ks ya yc ra rc (w2.alloc (.cells #[.slice ya ys.length yc, .slice ra ks.length rc] 27))) := HD2.out.step ((Below.refl _ _).alloc (Nat.le_refl _) _)
  have hne2 : w2.heap.size ≠ w.heap.size + 1 := by omega
  go_wp2
  refine cht.region (σ := G) (ws := (fun s : G => [(10, .agg #[.slice ya ys.length yc, .slice ra ks.length rc]), (11, .pointer (some ⟨w.heap.size + 1, 0, none⟩)), (12, .string s.t), (3, .string s.t)])) (js := [2, 3]) (S := (fun g k W => (k ≤ 1 → Dz a len cap w ys ks ya yc ra rc W ∧ W.heap[w2.heap.size]? = some (.cells #[.slice ya ys.length yc, .slice ra ks.length rc] 27 (0, 0))) ∧ (g.t.size ≤ 101) ∧ (k = 2 → Tb w.heap.size W ys ks ya yc ra rc ∧ Below w.heap.size w W ∧ W.heap[w.heap.size]? = some (.cells #[.slice ya ys.length yc, .slice ra ks.length rc] 27 (0, 0))))) [10, 11, 12, 3] ⟨0, 0, 0, ⟨#[]⟩, ⟨#[]⟩, undef, false⟩ (by kernel_rfl) (by kernel_rfl) (fun _ => rfl) (by kernel_rfl) (by decide) ⟨fun _ => ⟨HD3.out.step (Below.refl _ _).drew, bstay HN2.out (Below.refl _ _).drew (by have := (Array.getElem?_eq_some_iff.1 HN2.out).1; omega)⟩, (by decide), fun h => (by omega)⟩ ?each ?fin
  case each =>
    refine ⟨cht.quiet 1 rfl (by decide) (.inr ⟨3, _, rfl, rfl, ⟨0, .data⟩, by simp, rfl, rfl⟩) (by simp) (fun s => .agg #[.slice ya ys.length yc, .slice ra ks.length rc]) (by rintro s _ ⟨⟩; exact dk.sets_on _ (by simp) _ rfl) (fun s k' W hk' hS => by obtain ⟨hZ, hN⟩ := hS.1 hk'; have c0 : W.cell? ⟨w2.heap.size, 0, none⟩ = some (.slice ya ys.length yc) := bcell hN rfl; have c1 : W.cell? ⟨w2.heap.size, 1, none⟩ = some (.slice ra ks.length rc) := bcell hN rfl; simp [execOp, go_sem, Act.eval, dk.sets_get, List.lookup, c0, c1]), ?_⟩
    refine ⟨cht.quiet 2 rfl (by decide) (.inl rfl) (by simp) (fun s => .pointer (some ⟨w.heap.size + 1, 0, none⟩)) (by rintro s _ ⟨⟩; exact dk.sets_on _ (by simp) _ rfl) (fun s k' W hk' hS => by simp [execOp, go_sem, Act.eval, dk.sets_get, List.lookup]), ?_⟩
    refine ⟨chd.call 0 [2, 3, 4] [12, 3] (by kernel_rfl) (by kernel_rfl) rfl (by decide) rfl (.inl rfl) (by simp) 29 (fun s => #[.pointer (some ⟨w.heap.size + 1, 0, none⟩)]) (fun s W hS => by exact ⟨by simp [go_sem, Act.eval, dk.sets_get, List.lookup], (dkt.draw_key (w.heap.size + 1) a len cap W (hS.1 (by omega)).1.cur).mono fun e w9 hh => by obtain ⟨⟨z9, hz9, rfl⟩, k1, k2⟩ := hh; exact ⟨{ s with t := z9 }, _, rfl, (by simp [chd.But]), (by rintro _ ⟨⟩; exact dk.sets_on _ (by simp) _ rfl), fun h => ⟨(hS.1 (by omega)).1.draw k1 k2, st_block (hS.1 (by omega)).2 k2 (by omega)⟩, hz9, fun h => (by omega)⟩⟩), ?_⟩
    refine ⟨cht.sto 1 rfl (by decide) rfl (.inr ⟨⟨2, .chain⟩, by simp, rfl, rfl⟩) (by simp) rfl (fun s W hS => by obtain ⟨hZ, hN⟩ := hS.1 (by omega); have q0 : W.cell? ⟨w.heap.size, 0, none⟩ = some (.slice none 0 0) := bcell hZ.rb rfl; have q1 : W.cell? ⟨w.heap.size, 1, none⟩ = some (.slice none 0 0) := bcell hZ.rb rfl; have r0 := bfree hZ.rb 0; have r1 := bfree hZ.rb 1; exact ⟨res2 W w.heap.size (.slice ya ys.length yc) (.slice ra ks.length rc), by simp [execOp, go_sem, Act.eval, dk.sets_get, List.lookup, q0, q1, r0, r1, res2], fun h => (by omega), hS.2.1, fun _ => ⟨(hZ.done _ _).1, (hZ.done _ _).2, res2_at hZ.rb ..⟩⟩), ?_⟩
    exact ⟨cht.quiet 2 rfl (by decide) (.inl rfl) (by simp) (fun s => .string s.t) (by rintro s _ ⟨⟩; exact dk.sets_on _ (by simp) _ rfl) (fun s k' W hk' hS => by simp [execOp, go_sem, Act.eval, dk.sets_get, List.lookup]), trivial⟩
  case fin =>
    intro s x5 hS
    have HST : s.t.size ≤ 101 := hS.2.1
    obtain ⟨hd5, hb5, hr5⟩ := hS.2.2 rfl
    have q0 : x5.cell? ⟨w.heap.size, 0, none⟩ = some (.slice ya ys.length yc) := bcell hr5 rfl
    have q1 : x5.cell? ⟨w.heap.size, 1, none⟩ = some (.slice ra ks.length rc) := bcell hr5 rfl
    have HD5 : Hid (Tb w.heap.size x5 ys ks ya yc ra rc ∧ Below w.heap.size w x5 ∧ w.heap.size < x5.heap.size) := ⟨hd5, hb5, (Array.getElem?_eq_some_iff.1 hr5).1⟩
    obtain ⟨sx, sy, sA, sT, sU, sV, sB⟩ := s
    simp only [dk.sets]
    clear hS hd5 hb5 hr5
    go_wp2
    exact bodyPost_ret (v := .tuple #[.agg #[.slice ya ys.length yc, .slice ra ks.length rc], .string sT]) (by simp [results, Try.results26, go_sem, q0, q1]) rfl ⟨⟨ys, ks, ya, yc, ra, rc, sT, rfl, HSM.out, HD5.out.1, HST⟩, HD5.out.2⟩
end Go.Proofs.Ytokaoafbgebelaa.dts

/- FnTable, walked: what comes on the way is as it is told, at every code. -/
namespace Go.Proofs.Ytokaoafbgebelaa.twk
open Go.ChangeShapes Go.WideShapes Go.ChangeAt Go.RowKit Go.Proofs.Ytokaoafbgebelaa.fl Go.Proofs.Ytokaoafbgebelaa.fo Go.Proofs.Ytokaoafbgebelaa.dw Go.Proofs.Ytokaoafbgebelaa.rn Go.Proofs.Ytokaoafbgebelaa.rc Go.Proofs.Ytokaoafbgebelaa.ro Go.Proofs.Ytokaoafbgebelaa.tk Go.Proofs.Ytokaoafbgebelaa.tko Go.Proofs.Ytokaoafbgebelaa.tan Go.Proofs.Ytokaoafbgebelaa.ptp Go.Proofs.Ytokaoafbgebelaa.dlt Go.Proofs.Ytokaoafbgebelaa.tgi Go.Proofs.Ytokaoafbgebelaa.sci Go.Proofs.Ytokaoafbgebelaa.ttp
set_option linter.unusedVariables false

theorem not_back {a b : ByteArray} (h : lt a b = true) : Op.bytesLess b.toList a.toList = false := by
  cases hb : Op.bytesLess b.toList a.toList with
  | false => rfl
  | true =>
    have h2 : lt b a = true := hb
    have := lt_trans h h2
    rw [lt_irrefl] at this
    cases this
theorem not_same {a b : ByteArray} (h : lt a b = true) : (b.toList == a.toList) = false := by
  rw [beq_eq_false_iff_ne]
  intro e
  unfold lt at h
  rw [e] at h
  have := lt_irrefl a
  unfold lt at this
  rw [this] at h
  cases h
theorem tl_of {a b : ByteArray} (h : a.toList = b.toList) : a = b := by
  rw [Lib.toList_data, Lib.toList_data] at h
  exact ByteArray.ext (Array.toList_inj.1 h)
set_option maxRecDepth 100000 in
set_option maxHeartbeats 8000000 in
theorem walk (a0 : Option Addr) (len0 cap0 : Nat) (w : World) (hcode : dw.Code w w.heap.size a0 len0) :
    Calls Try.prog 3 #[.slice a0 len0 cap0] w fun e w' => e = .returned (.bool true) ∧ Below w.heap.size w w' := by
  by_cases hbig : (1048576 : Int) < len0
  · clear hcode
    go_enter Try.func3, Try.ntmps3
    go_wp2
    go_ret
    exact ⟨rfl, Below.refl _ _⟩
  have hlen : len0 ≤ 1048576 := by omega
  have h1 := dts.draw_Put a0 len0 cap0 w hlen hcode
  clear hcode
  go_enter Try.func3, Try.ntmps3
  go_wp2_with (first | (go_at_call 5; go_in) | (go_at_call 6; fail))
  refine h1.mono ?_
  rintro e w1 ⟨⟨ys, ks, ya, yc, ra, rc, key, val, rfl, hsm, hdr, hkz, hvz⟩, hb1, hz1⟩
  have HSM : Hid (Sm 500 ys (ks.map (·.l))) := hsm
  have HB : Hid (Below w.heap.size w w1) := hb1
  have HS : Hid (It w1 ys ks ya yc ra rc) := tb_it hdr
  clear h1 hsm hdr hb1 hz1
  have hal : Below w1.heap.size w1 (w1.alloc (.cells #[.slice ya ys.length yc, .slice ra ks.length rc] 27)) := (Below.refl _ _).alloc (Nat.le_refl _) _
  have HB_ : Hid (Below w.heap.size w (w1.alloc (.cells #[.slice ya ys.length yc, .slice ra ks.length rc] 27))) := HB.out.trans (Below.mono hal (Below.size HB.out))
  have HS_ : Hid (It (w1.alloc (.cells #[.slice ya ys.length yc, .slice ra ks.length rc] 27)) ys ks ya yc ra rc) := HS.out.below hal
  clear HB HS
  have HB := HB_
  have HS := HS_
  clear HB_ HS_
  have BS : Hid ((w1.alloc (.cells #[.slice ya ys.length yc, .slice ra ks.length rc] 27)).heap[w1.heap.size]? = some (.cells #[.slice ya ys.length yc, .slice ra ks.length rc] 27 (0, 0))) := bnew w1 _ _
  clear hal
  have h2 := t_put HS.out HSM.out key val hkz hvz
  have h3' := fun (W : World) (h : It W ys ks ya yc ra rc) => s_put h HSM.out key val hkz hvz
  have h4' := fun (W : World) (h : It W ys ks ya yc ra rc) => t_drop h HSM.out key hkz
  have h5' := fun (W : World) (h : It W ys ks ya yc ra rc) => s_drop h HSM.out key hkz
  obtain ⟨U, hU⟩ : ∃ x, putY ys (ks.map (·.l)) key val = x := ⟨_, rfl⟩
  obtain ⟨pb, hpb⟩ : ∃ x, putB ys (ks.map (·.l)) key val = x := ⟨_, rfl⟩
  obtain ⟨D, hD⟩ : ∃ x, dropY ys (ks.map (·.l)) key = x := ⟨_, rfl⟩
  obtain ⟨db, hdb⟩ : ∃ x, dropB ys (ks.map (·.l)) key = x := ⟨_, rfl⟩
  have HU_E : Hid (putY ys (ks.map (·.l)) key val = U ∧ putB ys (ks.map (·.l)) key val = pb) := ⟨hU, hpb⟩
  have HD_E : Hid (dropY ys (ks.map (·.l)) key = D ∧ dropB ys (ks.map (·.l)) key = db) := ⟨hD, hdb⟩
  simp only [hU, hpb] at h2 h3'
  simp only [hD, hdb] at h4' h5'
  clear hU hpb hD hdb
  go_wp2_with (go_at_call 7; fail)
  refine h2.mono ?_
  rintro e w2 ⟨sa1, sc1, ta1, tc1, K1, rfl, hm1, hi2, hb2⟩
  have HB_ : Hid (Below w.heap.size w w2) := HB.out.trans (Below.mono hb2 (Below.size HB.out))
  have HS_ : Hid (It w2 ys ks ya yc ra rc) := HS.out.below hb2
  have BS_ : Hid (w2.heap[w1.heap.size]? = some (.cells #[.slice ya ys.length yc, .slice ra ks.length rc] 27 (0, 0))) := bstay BS.out hb2 (Array.getElem?_eq_some_iff.1 BS.out).1
  clear HB HS BS
  have HB := HB_
  have HS := HS_
  have BS := BS_
  clear HB_ HS_ BS_
  clear h2 hb2 
  have HU : Hid (Iu w2 U K1 sa1 ta1 tc1) := hi2
  have HK1 : Hid (K1.map (·.l) = ks.map (·.l)) := hm1
  have HFU : Hid (tb.Fit U K1) := by rw [← HU_E.out.1]; exact fit_put (e := ⟨key, val, false⟩) HSM.out HK1.out ⟨hkz, hvz⟩
  clear hi2 hm1
  have hal : Below w2.heap.size w2 (w2.alloc (.cells #[.slice sa1 U.length sc1, .slice ta1 ks.length tc1] 27)) := (Below.refl _ _).alloc (Nat.le_refl _) _
  have HB_ : Hid (Below w.heap.size w (w2.alloc (.cells #[.slice sa1 U.length sc1, .slice ta1 ks.length tc1] 27))) := HB.out.trans (Below.mono hal (Below.size HB.out))
  have HS_ : Hid (It (w2.alloc (.cells #[.slice sa1 U.length sc1, .slice ta1 ks.length tc1] 27)) ys ks ya yc ra rc) := HS.out.below hal
  have BS_ : Hid ((w2.alloc (.cells #[.slice sa1 U.length sc1, .slice ta1 ks.length tc1] 27)).heap[w1.heap.size]? = some (.cells #[.slice ya ys.length yc, .slice ra ks.length rc] 27 (0, 0))) := bstay BS.out hal (Array.getElem?_eq_some_iff.1 BS.out).1
  have HU_ : Hid (Iu (w2.alloc (.cells #[.slice sa1 U.length sc1, .slice ta1 ks.length tc1] 27)) U K1 sa1 ta1 tc1) := HU.out.below hal
  clear HB HS BS HU
  have HB := HB_
  have HS := HS_
  have BS := BS_
  have HU := HU_
  clear HB_ HS_ BS_ HU_
  have BU : Hid ((w2.alloc (.cells #[.slice sa1 U.length sc1, .slice ta1 ks.length tc1] 27)).heap[w2.heap.size]? = some (.cells #[.slice sa1 U.length sc1, .slice ta1 ks.length tc1] 27 (0, 0))) := bnew w2 _ _
  clear hal
  have x0 : (w2.alloc (.cells #[.slice sa1 U.length sc1, .slice ta1 ks.length tc1] 27)).cell? ⟨w1.heap.size, 0, none⟩ = some (.slice ya ys.length yc) := bcell BS.out rfl
  have x1 : (w2.alloc (.cells #[.slice sa1 U.length sc1, .slice ta1 ks.length tc1] 27)).cell? ⟨w1.heap.size, 1, none⟩ = some (.slice ra ks.length rc) := bcell BS.out rfl
  have h3 := h3' _ HS.out
  clear h3'
  go_wp2_with (go_at_call 8; fail)
  refine h3.mono ?_
  rintro e w3 ⟨sa2, sc2, ta2, tc2, K2, rfl, hm2, hi3, hb3⟩
  have HB_ : Hid (Below w.heap.size w w3) := HB.out.trans (Below.mono hb3 (Below.size HB.out))
  have HS_ : Hid (It w3 ys ks ya yc ra rc) := HS.out.below hb3
  have BS_ : Hid (w3.heap[w1.heap.size]? = some (.cells #[.slice ya ys.length yc, .slice ra ks.length rc] 27 (0, 0))) := bstay BS.out hb3 (Array.getElem?_eq_some_iff.1 BS.out).1
  have HU_ : Hid (Iu w3 U K1 sa1 ta1 tc1) := HU.out.below hb3
  have BU_ : Hid (w3.heap[w2.heap.size]? = some (.cells #[.slice sa1 U.length sc1, .slice ta1 ks.length tc1] 27 (0, 0))) := bstay BU.out hb3 (Array.getElem?_eq_some_iff.1 BU.out).1
  clear HB HS BS HU BU
  have HB := HB_
  have HS := HS_
  have BS := BS_
  have HU := HU_
  have BU := BU_
  clear HB_ HS_ BS_ HU_ BU_
  clear h3 hb3 x0 x1
  have HW : Hid (Ir w3 U K2 sa2 ta2) := hi3
  have HK2 : Hid (K2.map (·.l) = ks.map (·.l)) := hm2
  clear hi3 hm2
  have hal : Below w3.heap.size w3 (w3.alloc (.cells #[.slice sa2 U.length sc2, .slice ta2 ks.length tc2] 27)) := (Below.refl _ _).alloc (Nat.le_refl _) _
  have HB_ : Hid (Below w.heap.size w (w3.alloc (.cells #[.slice sa2 U.length sc2, .slice ta2 ks.length tc2] 27))) := HB.out.trans (Below.mono hal (Below.size HB.out))
  have HS_ : Hid (It (w3.alloc (.cells #[.slice sa2 U.length sc2, .slice ta2 ks.length tc2] 27)) ys ks ya yc ra rc) := HS.out.below hal
  have BS_ : Hid ((w3.alloc (.cells #[.slice sa2 U.length sc2, .slice ta2 ks.length tc2] 27)).heap[w1.heap.size]? = some (.cells #[.slice ya ys.length yc, .slice ra ks.length rc] 27 (0, 0))) := bstay BS.out hal (Array.getElem?_eq_some_iff.1 BS.out).1
  have HU_ : Hid (Iu (w3.alloc (.cells #[.slice sa2 U.length sc2, .slice ta2 ks.length tc2] 27)) U K1 sa1 ta1 tc1) := HU.out.below hal
  have BU_ : Hid ((w3.alloc (.cells #[.slice sa2 U.length sc2, .slice ta2 ks.length tc2] 27)).heap[w2.heap.size]? = some (.cells #[.slice sa1 U.length sc1, .slice ta1 ks.length tc1] 27 (0, 0))) := bstay BU.out hal (Array.getElem?_eq_some_iff.1 BU.out).1
  have HW_ : Hid (Ir (w3.alloc (.cells #[.slice sa2 U.length sc2, .slice ta2 ks.length tc2] 27)) U K2 sa2 ta2) := HW.out.below hal
  clear HB HS BS HU BU HW
  have HB := HB_
  have HS := HS_
  have BS := BS_
  have HU := HU_
  have BU := BU_
  have HW := HW_
  clear HB_ HS_ BS_ HU_ BU_ HW_
  have BW : Hid ((w3.alloc (.cells #[.slice sa2 U.length sc2, .slice ta2 ks.length tc2] 27)).heap[w3.heap.size]? = some (.cells #[.slice sa2 U.length sc2, .slice ta2 ks.length tc2] 27 (0, 0))) := bnew w3 _ _
  clear hal
  have x0 : (w3.alloc (.cells #[.slice sa2 U.length sc2, .slice ta2 ks.length tc2] 27)).cell? ⟨w1.heap.size, 0, none⟩ = some (.slice ya ys.length yc) := bcell BS.out rfl
  have x1 : (w3.alloc (.cells #[.slice sa2 U.length sc2, .slice ta2 ks.length tc2] 27)).cell? ⟨w1.heap.size, 1, none⟩ = some (.slice ra ks.length rc) := bcell BS.out rfl
  have h4 := h4' _ HS.out
  clear h4'
  go_wp2_with (go_at_call 9; fail)
  refine h4.mono ?_
  rintro e w4 ⟨sa3, sc3, ta3, tc3, K3, rfl, hm3, hi4, hb4⟩
  have HB_ : Hid (Below w.heap.size w w4) := HB.out.trans (Below.mono hb4 (Below.size HB.out))
  have HS_ : Hid (It w4 ys ks ya yc ra rc) := HS.out.below hb4
  have BS_ : Hid (w4.heap[w1.heap.size]? = some (.cells #[.slice ya ys.length yc, .slice ra ks.length rc] 27 (0, 0))) := bstay BS.out hb4 (Array.getElem?_eq_some_iff.1 BS.out).1
  have HU_ : Hid (Iu w4 U K1 sa1 ta1 tc1) := HU.out.below hb4
  have BU_ : Hid (w4.heap[w2.heap.size]? = some (.cells #[.slice sa1 U.length sc1, .slice ta1 ks.length tc1] 27 (0, 0))) := bstay BU.out hb4 (Array.getElem?_eq_some_iff.1 BU.out).1
  have HW_ : Hid (Ir w4 U K2 sa2 ta2) := HW.out.below hb4
  have BW_ : Hid (w4.heap[w3.heap.size]? = some (.cells #[.slice sa2 U.length sc2, .slice ta2 ks.length tc2] 27 (0, 0))) := bstay BW.out hb4 (Array.getElem?_eq_some_iff.1 BW.out).1
  clear HB HS BS HU BU HW BW
  have HB := HB_
  have HS := HS_
  have BS := BS_
  have HU := HU_
  have BU := BU_
  have HW := HW_
  have BW := BW_
  clear HB_ HS_ BS_ HU_ BU_ HW_ BW_
  clear h4 hb4 x0 x1
  have HD : Hid (Iu w4 D K3 sa3 ta3 tc3) := hi4
  have HK3 : Hid (K3.map (·.l) = ks.map (·.l)) := hm3
  have HFD : Hid (tb.Fit D K3) := by rw [← HD_E.out.1]; exact fit_put (e := ⟨key, ⟨#[]⟩, true⟩) HSM.out HK3.out ⟨hkz, Nat.zero_le _⟩
  clear hi4 hm3
  have hal : Below w4.heap.size w4 (w4.alloc (.cells #[.slice sa3 D.length sc3, .slice ta3 ks.length tc3] 27)) := (Below.refl _ _).alloc (Nat.le_refl _) _
  have HB_ : Hid (Below w.heap.size w (w4.alloc (.cells #[.slice sa3 D.length sc3, .slice ta3 ks.length tc3] 27))) := HB.out.trans (Below.mono hal (Below.size HB.out))
  have HS_ : Hid (It (w4.alloc (.cells #[.slice sa3 D.length sc3, .slice ta3 ks.length tc3] 27)) ys ks ya yc ra rc) := HS.out.below hal
  have BS_ : Hid ((w4.alloc (.cells #[.slice sa3 D.length sc3, .slice ta3 ks.length tc3] 27)).heap[w1.heap.size]? = some (.cells #[.slice ya ys.length yc, .slice ra ks.length rc] 27 (0, 0))) := bstay BS.out hal (Array.getElem?_eq_some_iff.1 BS.out).1
  have HU_ : Hid (Iu (w4.alloc (.cells #[.slice sa3 D.length sc3, .slice ta3 ks.length tc3] 27)) U K1 sa1 ta1 tc1) := HU.out.below hal
  have BU_ : Hid ((w4.alloc (.cells #[.slice sa3 D.length sc3, .slice ta3 ks.length tc3] 27)).heap[w2.heap.size]? = some (.cells #[.slice sa1 U.length sc1, .slice ta1 ks.length tc1] 27 (0, 0))) := bstay BU.out hal (Array.getElem?_eq_some_iff.1 BU.out).1
  have HW_ : Hid (Ir (w4.alloc (.cells #[.slice sa3 D.length sc3, .slice ta3 ks.length tc3] 27)) U K2 sa2 ta2) := HW.out.below hal
  have BW_ : Hid ((w4.alloc (.cells #[.slice sa3 D.length sc3, .slice ta3 ks.length tc3] 27)).heap[w3.heap.size]? = some (.cells #[.slice sa2 U.length sc2, .slice ta2 ks.length tc2] 27 (0, 0))) := bstay BW.out hal (Array.getElem?_eq_some_iff.1 BW.out).1
  have HD_ : Hid (Iu (w4.alloc (.cells #[.slice sa3 D.length sc3, .slice ta3 ks.length tc3] 27)) D K3 sa3 ta3 tc3) := HD.out.below hal
  clear HB HS BS HU BU HW BW HD
  have HB := HB_
  have HS := HS_
  have BS := BS_
  have HU := HU_
  have BU := BU_
  have HW := HW_
  have BW := BW_
  have HD := HD_
  clear HB_ HS_ BS_ HU_ BU_ HW_ BW_ HD_
  have BD : Hid ((w4.alloc (.cells #[.slice sa3 D.length sc3, .slice ta3 ks.length tc3] 27)).heap[w4.heap.size]? = some (.cells #[.slice sa3 D.length sc3, .slice ta3 ks.length tc3] 27 (0, 0))) := bnew w4 _ _
  clear hal
  have x0 : (w4.alloc (.cells #[.slice sa3 D.length sc3, .slice ta3 ks.length tc3] 27)).cell? ⟨w1.heap.size, 0, none⟩ = some (.slice ya ys.length yc) := bcell BS.out rfl
  have x1 : (w4.alloc (.cells #[.slice sa3 D.length sc3, .slice ta3 ks.length tc3] 27)).cell? ⟨w1.heap.size, 1, none⟩ = some (.slice ra ks.length rc) := bcell BS.out rfl
  have h5 := h5' _ HS.out
  clear h5'
  go_wp2_with (go_at_call 10; fail)
  refine h5.mono ?_
  rintro e w5 ⟨sa4, sc4, ta4, tc4, K4, rfl, hm4, hi5, hb5⟩
  have HB_ : Hid (Below w.heap.size w w5) := HB.out.trans (Below.mono hb5 (Below.size HB.out))
  have HS_ : Hid (It w5 ys ks ya yc ra rc) := HS.out.below hb5
  have BS_ : Hid (w5.heap[w1.heap.size]? = some (.cells #[.slice ya ys.length yc, .slice ra ks.length rc] 27 (0, 0))) := bstay BS.out hb5 (Array.getElem?_eq_some_iff.1 BS.out).1
  have HU_ : Hid (Iu w5 U K1 sa1 ta1 tc1) := HU.out.below hb5
  have BU_ : Hid (w5.heap[w2.heap.size]? = some (.cells #[.slice sa1 U.length sc1, .slice ta1 ks.length tc1] 27 (0, 0))) := bstay BU.out hb5 (Array.getElem?_eq_some_iff.1 BU.out).1
  have HW_ : Hid (Ir w5 U K2 sa2 ta2) := HW.out.below hb5
  have BW_ : Hid (w5.heap[w3.heap.size]? = some (.cells #[.slice sa2 U.length sc2, .slice ta2 ks.length tc2] 27 (0, 0))) := bstay BW.out hb5 (Array.getElem?_eq_some_iff.1 BW.out).1
  have HD_ : Hid (Iu w5 D K3 sa3 ta3 tc3) := HD.out.below hb5
  have BD_ : Hid (w5.heap[w4.heap.size]? = some (.cells #[.slice sa3 D.length sc3, .slice ta3 ks.length tc3] 27 (0, 0))) := bstay BD.out hb5 (Array.getElem?_eq_some_iff.1 BD.out).1
  clear HB HS BS HU BU HW BW HD BD
  have HB := HB_
  have HS := HS_
  have BS := BS_
  have HU := HU_
  have BU := BU_
  have HW := HW_
  have BW := BW_
  have HD := HD_
  have BD := BD_
  clear HB_ HS_ BS_ HU_ BU_ HW_ BW_ HD_ BD_
  clear h5 hb5 x0 x1
  have HM : Hid (Ir w5 D K4 sa4 ta4) := hi5
  have HK4 : Hid (K4.map (·.l) = ks.map (·.l)) := hm4
  clear hi5 hm4
  have hal : Below w5.heap.size w5 (w5.alloc (.cells #[.slice sa4 D.length sc4, .slice ta4 ks.length tc4] 27)) := (Below.refl _ _).alloc (Nat.le_refl _) _
  have HB_ : Hid (Below w.heap.size w (w5.alloc (.cells #[.slice sa4 D.length sc4, .slice ta4 ks.length tc4] 27))) := HB.out.trans (Below.mono hal (Below.size HB.out))
  have HS_ : Hid (It (w5.alloc (.cells #[.slice sa4 D.length sc4, .slice ta4 ks.length tc4] 27)) ys ks ya yc ra rc) := HS.out.below hal
  have BS_ : Hid ((w5.alloc (.cells #[.slice sa4 D.length sc4, .slice ta4 ks.length tc4] 27)).heap[w1.heap.size]? = some (.cells #[.slice ya ys.length yc, .slice ra ks.length rc] 27 (0, 0))) := bstay BS.out hal (Array.getElem?_eq_some_iff.1 BS.out).1
  have HU_ : Hid (Iu (w5.alloc (.cells #[.slice sa4 D.length sc4, .slice ta4 ks.length tc4] 27)) U K1 sa1 ta1 tc1) := HU.out.below hal
  have BU_ : Hid ((w5.alloc (.cells #[.slice sa4 D.length sc4, .slice ta4 ks.length tc4] 27)).heap[w2.heap.size]? = some (.cells #[.slice sa1 U.length sc1, .slice ta1 ks.length tc1] 27 (0, 0))) := bstay BU.out hal (Array.getElem?_eq_some_iff.1 BU.out).1
  have HW_ : Hid (Ir (w5.alloc (.cells #[.slice sa4 D.length sc4, .slice ta4 ks.length tc4] 27)) U K2 sa2 ta2) := HW.out.below hal
  have BW_ : Hid ((w5.alloc (.cells #[.slice sa4 D.length sc4, .slice ta4 ks.length tc4] 27)).heap[w3.heap.size]? = some (.cells #[.slice sa2 U.length sc2, .slice ta2 ks.length tc2] 27 (0, 0))) := bstay BW.out hal (Array.getElem?_eq_some_iff.1 BW.out).1
  have HD_ : Hid (Iu (w5.alloc (.cells #[.slice sa4 D.length sc4, .slice ta4 ks.length tc4] 27)) D K3 sa3 ta3 tc3) := HD.out.below hal
  have BD_ : Hid ((w5.alloc (.cells #[.slice sa4 D.length sc4, .slice ta4 ks.length tc4] 27)).heap[w4.heap.size]? = some (.cells #[.slice sa3 D.length sc3, .slice ta3 ks.length tc3] 27 (0, 0))) := bstay BD.out hal (Array.getElem?_eq_some_iff.1 BD.out).1
  have HM_ : Hid (Ir (w5.alloc (.cells #[.slice sa4 D.length sc4, .slice ta4 ks.length tc4] 27)) D K4 sa4 ta4) := HM.out.below hal
  clear HB HS BS HU BU HW BW HD BD HM
  have HB := HB_
  have HS := HS_
  have BS := BS_
  have HU := HU_
  have BU := BU_
  have HW := HW_
  have BW := BW_
  have HD := HD_
  have BD := BD_
  have HM := HM_
  clear HB_ HS_ BS_ HU_ BU_ HW_ BW_ HD_ BD_ HM_
  have BM : Hid ((w5.alloc (.cells #[.slice sa4 D.length sc4, .slice ta4 ks.length tc4] 27)).heap[w5.heap.size]? = some (.cells #[.slice sa4 D.length sc4, .slice ta4 ks.length tc4] 27 (0, 0))) := bnew w5 _ _
  clear hal
  go_wp2
  obtain ⟨w6, hw6⟩ : ∃ x, (w5.alloc (.cells #[.slice sa4 D.length sc4, .slice ta4 ks.length tc4] 27)) = x := ⟨_, rfl⟩
  rw [hw6] at HB HS BS HU BU HW BW HD BD HM BM ⊢
  obtain ⟨ob, hob⟩ : ∃ x, okB ys (ks.map (·.l)) = x := ⟨_, rfl⟩
  obtain ⟨sz, hsz⟩ : ∃ x, tsz.szT ys (ks.map (·.l)) = x := ⟨_, rfl⟩
  have x0 : ∀ N : qi.Cls w6, N.x.cell? ⟨w1.heap.size, 0, none⟩ = some (.slice ya ys.length yc) := fun N => bcell (bstay BS.out N.h (Array.getElem?_eq_some_iff.1 BS.out).1) rfl
  have x1 : ∀ N : qi.Cls w6, N.x.cell? ⟨w1.heap.size, 1, none⟩ = some (.slice ra ks.length rc) := fun N => bcell (bstay BS.out N.h (Array.getElem?_eq_some_iff.1 BS.out).1) rfl
  have y0 : ∀ N : qi.Cls w6, N.x.cell? ⟨w2.heap.size, 0, none⟩ = some (.slice sa1 U.length sc1) := fun N => bcell (bstay BU.out N.h (Array.getElem?_eq_some_iff.1 BU.out).1) rfl
  have y1 : ∀ N : qi.Cls w6, N.x.cell? ⟨w2.heap.size, 1, none⟩ = some (.slice ta1 ks.length tc1) := fun N => bcell (bstay BU.out N.h (Array.getElem?_eq_some_iff.1 BU.out).1) rfl
  have z0 : ∀ N : qi.Cls w6, N.x.cell? ⟨w3.heap.size, 0, none⟩ = some (.slice sa2 U.length sc2) := fun N => bcell (bstay BW.out N.h (Array.getElem?_eq_some_iff.1 BW.out).1) rfl
  have z1 : ∀ N : qi.Cls w6, N.x.cell? ⟨w3.heap.size, 1, none⟩ = some (.slice ta2 ks.length tc2) := fun N => bcell (bstay BW.out N.h (Array.getElem?_eq_some_iff.1 BW.out).1) rfl
  have u0 : ∀ N : qi.Cls w6, N.x.cell? ⟨w4.heap.size, 0, none⟩ = some (.slice sa3 D.length sc3) := fun N => bcell (bstay BD.out N.h (Array.getElem?_eq_some_iff.1 BD.out).1) rfl
  have u1 : ∀ N : qi.Cls w6, N.x.cell? ⟨w4.heap.size, 1, none⟩ = some (.slice ta3 ks.length tc3) := fun N => bcell (bstay BD.out N.h (Array.getElem?_eq_some_iff.1 BD.out).1) rfl
  have m0 : ∀ N : qi.Cls w6, N.x.cell? ⟨w5.heap.size, 0, none⟩ = some (.slice sa4 D.length sc4) := fun N => bcell (bstay BM.out N.h (Array.getElem?_eq_some_iff.1 BM.out).1) rfl
  have m1 : ∀ N : qi.Cls w6, N.x.cell? ⟨w5.heap.size, 1, none⟩ = some (.slice ta4 ks.length tc4) := fun N => bcell (bstay BM.out N.h (Array.getElem?_eq_some_iff.1 BM.out).1) rfl
  have k1 : ∀ N : qi.Cls w6, Calls Try.prog 11 #[.agg #[.slice sa1 U.length sc1, .slice ta1 ks.length tc1], .agg #[.slice sa2 U.length sc2, .slice ta2 ks.length tc2]] N.x fun e w' => e = .returned (.bool true) ∧ qi.T w6 w' := fun N => (same (R := ks.map (·.l)) (HU.out.below N.h).ir (HW.out.below N.h) HFU.out HK1.out HK2.out (List.length_map _).symm).mono fun e w' ⟨h1, h2⟩ => ⟨h1, Below.trans N.h (Below.mono h2 (Below.size N.h))⟩
  have k2 : ∀ N : qi.Cls w6, Calls Try.prog 11 #[.agg #[.slice sa3 D.length sc3, .slice ta3 ks.length tc3], .agg #[.slice sa4 D.length sc4, .slice ta4 ks.length tc4]] N.x fun e w' => e = .returned (.bool true) ∧ qi.T w6 w' := fun N => (same (R := ks.map (·.l)) (HD.out.below N.h).ir (HM.out.below N.h) HFD.out HK3.out HK4.out (List.length_map _).symm).mono fun e w' ⟨h1, h2⟩ => ⟨h1, Below.trans N.h (Below.mono h2 (Below.size N.h))⟩
  have k3' : ∀ N : qi.Cls w6, Calls Try.prog 12 #[.agg #[.slice ya ys.length yc, .slice ra ks.length rc]] N.x fun e w' => e = .returned (.bool ob) ∧ Below N.x.heap.size N.x w' := fun N => by rw [← hob]; exact t_ok (HS.out.below N.h) HSM.out
  have k3 : ∀ N : qi.Cls w6, Calls Try.prog 12 #[.agg #[.slice ya ys.length yc, .slice ra ks.length rc]] N.x fun e w' => e = .returned (.bool ob) ∧ qi.T w6 w' := fun N => (k3' N).mono fun e w' ⟨h1, h2⟩ => ⟨h1, Below.trans N.h (Below.mono h2 (Below.size N.h))⟩
  have k4' : ∀ N : qi.Cls w6, Calls Try.prog 13 #[.agg #[.slice ya ys.length yc, .slice ra ks.length rc]] N.x fun e w' => e = .returned (.bool ob) ∧ Below N.x.heap.size N.x w' := fun N => by rw [← hob]; exact s_ok (HS.out.below N.h) HSM.out
  have k4 : ∀ N : qi.Cls w6, Calls Try.prog 13 #[.agg #[.slice ya ys.length yc, .slice ra ks.length rc]] N.x fun e w' => e = .returned (.bool ob) ∧ qi.T w6 w' := fun N => (k4' N).mono fun e w' ⟨h1, h2⟩ => ⟨h1, Below.trans N.h (Below.mono h2 (Below.size N.h))⟩
  have k5' : ∀ N : qi.Cls w6, Calls Try.prog 14 #[.agg #[.slice ya ys.length yc, .slice ra ks.length rc]] N.x fun e w' => e = .returned (.int .i64 sz) ∧ Below N.x.heap.size N.x w' := fun N => by rw [← hsz]; exact t_size (HS.out.below N.h).iu (HSM.out.fit (by omega))
  have k6' : ∀ N : qi.Cls w6, Calls Try.prog 15 #[.agg #[.slice ya ys.length yc, .slice ra ks.length rc]] N.x fun e w' => e = .returned (.int .i64 sz) ∧ Below N.x.heap.size N.x w' := fun N => by rw [← hsz]; exact s_size (HS.out.below N.h) HSM.out
  have k5 : ∀ N : qi.Cls w6, Calls Try.prog 14 #[.agg #[.slice ya ys.length yc, .slice ra ks.length rc]] N.x fun e w' => e = .returned (.int .i64 sz) ∧ qi.T w6 w' := fun N => (k5' N).mono fun e w' ⟨h1, h2⟩ => ⟨h1, Below.trans N.h (Below.mono h2 (Below.size N.h))⟩
  have k6 : ∀ N : qi.Cls w6, Calls Try.prog 15 #[.agg #[.slice ya ys.length yc, .slice ra ks.length rc]] N.x fun e w' => e = .returned (.int .i64 sz) ∧ qi.T w6 w' := fun N => (k6' N).mono fun e w' ⟨h1, h2⟩ => ⟨h1, Below.trans N.h (Below.mono h2 (Below.size N.h))⟩
  clear k3' k4' k5' k6' hob hsz hw6
  refine qi.region_in w6 (qi.T.refl w6) (by kernel_rfl) (by kernel_rfl) ?_
  repeat (go_big_quiet_step (first | (go_at_call 11; with_reducible refine (k1 _).mono ?_; rintro e wx ⟨rfl, hTx⟩; exact ⟨rfl, ⟨wx, hTx⟩, rfl⟩) | (go_at_call 11; with_reducible refine (k2 _).mono ?_; rintro e wx ⟨rfl, hTx⟩; exact ⟨rfl, ⟨wx, hTx⟩, rfl⟩) | (go_at_call 12; with_reducible refine (k3 _).mono ?_; rintro e wx ⟨rfl, hTx⟩; exact ⟨rfl, ⟨wx, hTx⟩, rfl⟩) | (go_at_call 13; with_reducible refine (k4 _).mono ?_; rintro e wx ⟨rfl, hTx⟩; exact ⟨rfl, ⟨wx, hTx⟩, rfl⟩) | (go_at_call 14; with_reducible refine (k5 _).mono ?_; rintro e wx ⟨rfl, hTx⟩; exact ⟨rfl, ⟨wx, hTx⟩, rfl⟩) | (go_at_call 15; with_reducible refine (k6 _).mono ?_; rintro e wx ⟨rfl, hTx⟩; exact ⟨rfl, ⟨wx, hTx⟩, rfl⟩)))
  refine wpQuiet_nil ?_
  rintro _ ⟨N, rfl⟩
  have hN := N.h
  generalize N.x = v1 at hN ⊢
  clear N k1 k2 k3 k4 k5 k6 x0 x1 y0 y1 z0 z1 u0 u1 m0 m1
  have hbN : Below w6.heap.size w6 v1 := hN
  have HB_ : Hid (Below w.heap.size w v1) := HB.out.trans (Below.mono hbN (Below.size HB.out))
  have HS_ : Hid (It v1 ys ks ya yc ra rc) := HS.out.below hbN
  have BS_ : Hid (v1.heap[w1.heap.size]? = some (.cells #[.slice ya ys.length yc, .slice ra ks.length rc] 27 (0, 0))) := bstay BS.out hbN (Array.getElem?_eq_some_iff.1 BS.out).1
  have HU_ : Hid (Iu v1 U K1 sa1 ta1 tc1) := HU.out.below hbN
  have BU_ : Hid (v1.heap[w2.heap.size]? = some (.cells #[.slice sa1 U.length sc1, .slice ta1 ks.length tc1] 27 (0, 0))) := bstay BU.out hbN (Array.getElem?_eq_some_iff.1 BU.out).1
  have HW_ : Hid (Ir v1 U K2 sa2 ta2) := HW.out.below hbN
  have BW_ : Hid (v1.heap[w3.heap.size]? = some (.cells #[.slice sa2 U.length sc2, .slice ta2 ks.length tc2] 27 (0, 0))) := bstay BW.out hbN (Array.getElem?_eq_some_iff.1 BW.out).1
  have HD_ : Hid (Iu v1 D K3 sa3 ta3 tc3) := HD.out.below hbN
  have BD_ : Hid (v1.heap[w4.heap.size]? = some (.cells #[.slice sa3 D.length sc3, .slice ta3 ks.length tc3] 27 (0, 0))) := bstay BD.out hbN (Array.getElem?_eq_some_iff.1 BD.out).1
  have HM_ : Hid (Ir v1 D K4 sa4 ta4) := HM.out.below hbN
  have BM_ : Hid (v1.heap[w5.heap.size]? = some (.cells #[.slice sa4 D.length sc4, .slice ta4 ks.length tc4] 27 (0, 0))) := bstay BM.out hbN (Array.getElem?_eq_some_iff.1 BM.out).1
  clear HB HS BS HU BU HW BW HD BD HM BM
  have HB := HB_
  have HS := HS_
  have BS := BS_
  have HU := HU_
  have BU := BU_
  have HW := HW_
  have BW := BW_
  have HD := HD_
  have BD := BD_
  have HM := HM_
  have BM := BM_
  clear HB_ HS_ BS_ HU_ BU_ HW_ BW_ HD_ BD_ HM_ BM_
  clear hN hbN
  have x0 : v1.cell? ⟨w1.heap.size, 0, none⟩ = some (.slice ya ys.length yc) := bcell BS.out rfl
  have x1 : v1.cell? ⟨w1.heap.size, 1, none⟩ = some (.slice ra ks.length rc) := bcell BS.out rfl
  have h6 := t_scan HS.out HSM.out ⟨#[]⟩ ⟨#[]⟩
  obtain ⟨AL, hAL⟩ : ∃ x, scan ys (ks.map (·.l)) ⟨#[]⟩ ⟨#[]⟩ = x := ⟨_, rfl⟩
  have HAL : Hid (scan ys (ks.map (·.l)) ⟨#[]⟩ ⟨#[]⟩ = AL) := hAL
  rw [hAL] at h6
  clear hAL
  go_wp2_with (go_at_call 16; fail)
  refine h6.mono ?_
  rintro e v2 ⟨la, lca, rfl, hl6, hr6, hb6⟩
  have HB_ : Hid (Below w.heap.size w v2) := HB.out.trans (Below.mono hb6 (Below.size HB.out))
  have HS_ : Hid (It v2 ys ks ya yc ra rc) := HS.out.below hb6
  have BS_ : Hid (v2.heap[w1.heap.size]? = some (.cells #[.slice ya ys.length yc, .slice ra ks.length rc] 27 (0, 0))) := bstay BS.out hb6 (Array.getElem?_eq_some_iff.1 BS.out).1
  have HU_ : Hid (Iu v2 U K1 sa1 ta1 tc1) := HU.out.below hb6
  have BU_ : Hid (v2.heap[w2.heap.size]? = some (.cells #[.slice sa1 U.length sc1, .slice ta1 ks.length tc1] 27 (0, 0))) := bstay BU.out hb6 (Array.getElem?_eq_some_iff.1 BU.out).1
  have HW_ : Hid (Ir v2 U K2 sa2 ta2) := HW.out.below hb6
  have BW_ : Hid (v2.heap[w3.heap.size]? = some (.cells #[.slice sa2 U.length sc2, .slice ta2 ks.length tc2] 27 (0, 0))) := bstay BW.out hb6 (Array.getElem?_eq_some_iff.1 BW.out).1
  have HD_ : Hid (Iu v2 D K3 sa3 ta3 tc3) := HD.out.below hb6
  have BD_ : Hid (v2.heap[w4.heap.size]? = some (.cells #[.slice sa3 D.length sc3, .slice ta3 ks.length tc3] 27 (0, 0))) := bstay BD.out hb6 (Array.getElem?_eq_some_iff.1 BD.out).1
  have HM_ : Hid (Ir v2 D K4 sa4 ta4) := HM.out.below hb6
  have BM_ : Hid (v2.heap[w5.heap.size]? = some (.cells #[.slice sa4 D.length sc4, .slice ta4 ks.length tc4] 27 (0, 0))) := bstay BM.out hb6 (Array.getElem?_eq_some_iff.1 BM.out).1
  clear HB HS BS HU BU HW BW HD BD HM BM
  have HB := HB_
  have HS := HS_
  have BS := BS_
  have HU := HU_
  have BU := BU_
  have HW := HW_
  have BW := BW_
  have HD := HD_
  have BD := BD_
  have HM := HM_
  have BM := BM_
  clear HB_ HS_ BS_ HU_ BU_ HW_ BW_ HD_ BD_ HM_ BM_
  clear h6 hb6 x0 x1
  have HRA : Hid (Row flP.c 3 v2 v2.heap.size la AL) := hr6
  have HKL : Hid (K1.length = ks.length ∧ K3.length = ks.length) := ⟨by have := congrArg List.length HK1.out; simpa using this, by have := congrArg List.length HK3.out; simpa using this⟩
  have HGT : Hid (∀ (W : World) (k : ByteArray), It W ys ks ya yc ra rc → k.size ≤ 101 → Calls Try.prog 17 #[.agg #[.slice ya ys.length yc, .slice ra ks.length rc], .string k] W fun e w' => e = .returned (.tuple #[.string (getV ys (ks.map (·.l)) k), .bool (getO ys (ks.map (·.l)) k)]) ∧ Below W.heap.size W w') := fun W k h hk => t_get h.iu (HSM.out.fit (by omega)) k (by omega)
  have HGU : Hid (∀ (W : World) (k : ByteArray), Iu W U K1 sa1 ta1 tc1 → k.size ≤ 101 → Calls Try.prog 17 #[.agg #[.slice sa1 U.length sc1, .slice ta1 ks.length tc1], .string k] W fun e w' => e = .returned (.tuple #[.string (getV U (ks.map (·.l)) k), .bool (getO U (ks.map (·.l)) k)]) ∧ Below W.heap.size W w') := fun W k h hk => by
    have h9 := t_get (yc := sc1) h HFU.out k (by omega)
    rwa [HKL.out.1, HK1.out] at h9
  have HGD : Hid (∀ (W : World) (k : ByteArray), Iu W D K3 sa3 ta3 tc3 → k.size ≤ 101 → Calls Try.prog 17 #[.agg #[.slice sa3 D.length sc3, .slice ta3 ks.length tc3], .string k] W fun e w' => e = .returned (.tuple #[.string (getV D (ks.map (·.l)) k), .bool (getO D (ks.map (·.l)) k)]) ∧ Below W.heap.size W w') := fun W k h hk => by
    have h9 := t_get (yc := sc3) h HFD.out k (by omega)
    rwa [HKL.out.2, HK3.out] at h9
  clear hr6
  go_wp2
  go_loopw [15] (fun x wr => ∃ k : Nat, k ≤ AL.length ∧ x = .int .i64 k ∧ Hid (Below v2.heap.size v2 wr)) (fun x _ => AL.length - (intOf x).toNat)
  case' atStart => exact ⟨0, Nat.zero_le _, rfl, by first | exact Below.refl _ _ | exact (Below.refl _ _).drew⟩
  case' round =>
    obtain ⟨k, hk, rfl, hbr⟩ := hrel
    by_cases hkl : k < AL.length
    case' pos =>
      have i2 : (k : Int) < (AL.length : Int) := by omega
      have HG : Hid (AL[k]? = some AL[k]) := List.getElem?_eq_getElem hkl
      obtain ⟨⟨ek, ev, eg⟩, he⟩ : ∃ e, AL[k] = e := ⟨_, rfl⟩
      rw [he] at HG
      have hmem : (⟨ek, ev, eg⟩ : flP.Pr) ∈ scan ys (ks.map (·.l)) ⟨#[]⟩ ⟨#[]⟩ := by rw [HAL.out]; exact List.mem_of_getElem? HG.out
      obtain ⟨s1, s2, s3, s4, s5⟩ := tpu.scan_get hmem
      have hez : ek.size ≤ 101 := (tpu.scan_size (n := 101) hmem (fun e he => ⟨(HSM.out.yo e he).1, by have := (HSM.out.yo e he).2; omega⟩) (fun l hl e he => ⟨(HSM.out.ro l hl e he).1, by have := (HSM.out.ro l hl e he).2; omega⟩)).1
      simp only at s2 s3 s4 s5
      subst s2
      have HOT : Hid (ek ≠ key → (getV U (ks.map (·.l)) ek = ev ∧ getO U (ks.map (·.l)) ek = true) ∧ (getV D (ks.map (·.l)) ek = ev ∧ getO D (ks.map (·.l)) ek = true)) := fun hne => by
        rw [← HU_E.out.1, ← HD_E.out.1]
        have a1 := tpu.with_other (e := ⟨key, val, false⟩) s1 hne
        have a2 := tpu.with_other (e := ⟨key, ⟨#[]⟩, true⟩) s1 hne
        rw [s4, s5] at a1 a2
        exact ⟨a1, a2⟩
      obtain ⟨g1, o1, rfl, hlt1, hcl1⟩ := HRA.out.resolve_left (by rintro rfl; simp at hkl)
      have HBR := hbr
      have HP : Hid (∀ (W : World), Below v2.heap.size v2 W → W.cell? ⟨g1, o1 + k * 3, none⟩ = some (.string ek) ∧ W.cell? ⟨g1, o1 + k * 3 + 1, none⟩ = some (.string ev) ∧ W.cell? ⟨g1, o1 + k * 3 + 2, none⟩ = some (.bool false)) := fun W hW => ⟨(hW.cell (p := ⟨g1, o1 + k * 3, none⟩) hlt1).trans (hcl1 k _ HG.out 0 _ rfl), (hW.cell (p := ⟨g1, o1 + k * 3 + 1, none⟩) hlt1).trans (hcl1 k _ HG.out 1 _ rfl), (hW.cell (p := ⟨g1, o1 + k * 3 + 2, none⟩) hlt1).trans (hcl1 k _ HG.out 2 _ rfl)⟩
      have HPV : Hid (0 < k → ∃ mk, lt mk ek = true ∧ ∀ (W : World), Below v2.heap.size v2 W → W.cell? ⟨g1, o1 + (k - 1) * 3, none⟩ = some (.string mk)) := fun h0 => by
        obtain ⟨m, rfl⟩ : ∃ m, k = m + 1 := ⟨k - 1, by omega⟩
        have g9 : AL[m]? = some AL[m] := List.getElem?_eq_getElem (by omega)
        have hlt := tpu.scan_up (ys := ys) (R := ks.map (·.l)) (fr := ⟨#[]⟩) (to := ⟨#[]⟩) (by rw [HAL.out]; exact g9) (by rw [HAL.out]; exact HG.out)
        exact ⟨_, hlt, fun W hW => (hW.cell (p := ⟨g1, o1 + m * 3, none⟩) hlt1).trans (hcl1 m _ g9 0 _ rfl)⟩
      have HEZ : Hid (ek.size ≤ 101) := hez
      have HGE : Hid (getV ys (ks.map (·.l)) ek = ev ∧ getO ys (ks.map (·.l)) ek = true) := ⟨s4, s5⟩
      clear he hmem s1 s3 s4 s5 hez hlt1 hcl1 hbr HG
      have x0 : ∀ N : qi.Cls wr, N.x.cell? ⟨w1.heap.size, 0, none⟩ = some (.slice ya ys.length yc) := fun N => bcell (bstay BS.out (HBR.out.trans (Below.mono N.h (Below.size HBR.out))) (Array.getElem?_eq_some_iff.1 BS.out).1) rfl
      have x1 : ∀ N : qi.Cls wr, N.x.cell? ⟨w1.heap.size, 1, none⟩ = some (.slice ra ks.length rc) := fun N => bcell (bstay BS.out (HBR.out.trans (Below.mono N.h (Below.size HBR.out))) (Array.getElem?_eq_some_iff.1 BS.out).1) rfl
      have p0 : ∀ N : qi.Cls wr, N.x.cell? ⟨g1, o1 + k * 3, none⟩ = some (.string ek) := fun N => (HP.out N.x (HBR.out.trans (Below.mono N.h (Below.size HBR.out)))).1
      have p1 : ∀ N : qi.Cls wr, N.x.cell? ⟨g1, o1 + k * 3 + 1, none⟩ = some (.string ev) := fun N => (HP.out N.x (HBR.out.trans (Below.mono N.h (Below.size HBR.out)))).2.1
      have p2 : ∀ N : qi.Cls wr, N.x.cell? ⟨g1, o1 + k * 3 + 2, none⟩ = some (.bool false) := fun N => (HP.out N.x (HBR.out.trans (Below.mono N.h (Below.size HBR.out)))).2.2
      have k1' : ∀ N : qi.Cls wr, Calls Try.prog 17 #[.agg #[.slice ya ys.length yc, .slice ra ks.length rc], .string ek] N.x fun e w' => e = .returned (.tuple #[.string ev, .bool true]) ∧ Below N.x.heap.size N.x w' := fun N => by
        have h9 := HGT.out N.x ek (HS.out.below (HBR.out.trans (Below.mono N.h (Below.size HBR.out)))) HEZ.out
        rwa [HGE.out.1, HGE.out.2] at h9
      have k1 : ∀ N : qi.Cls wr, Calls Try.prog 17 #[.agg #[.slice ya ys.length yc, .slice ra ks.length rc], .string ek] N.x fun e w' => e = .returned (.tuple #[.string ev, .bool true]) ∧ qi.T wr w' := fun N => (k1' N).mono fun e w' ⟨h1, h2⟩ => ⟨h1, Below.trans N.h (Below.mono h2 (Below.size N.h))⟩
      clear k1'
      go_wp2
      refine qi.region_in wr (qi.T.refl wr) (by kernel_rfl) (by kernel_rfl) ?_
      repeat (go_big_quiet_step (first | (go_at_call 17; with_reducible refine (k1 _).mono ?_; rintro e wx ⟨rfl, hTx⟩; exact ⟨rfl, ⟨wx, hTx⟩, rfl⟩)))
      refine wpQuiet_nil ?_
      rintro _ ⟨N, rfl⟩
      have hN := N.h
      generalize N.x = X1 at hN ⊢
      clear N k1 p0 p1 p2 x0 x1
      have HB1 : Hid (Below v2.heap.size v2 X1) := HBR.out.trans (Below.mono hN (Below.size HBR.out))
      clear hN
      have p0 : ∀ N : qi.Cls X1, N.x.cell? ⟨g1, o1 + k * 3, none⟩ = some (.string ek) := fun N => (HP.out N.x (HB1.out.trans (Below.mono N.h (Below.size HB1.out)))).1
      have p1 : ∀ N : qi.Cls X1, N.x.cell? ⟨g1, o1 + k * 3 + 1, none⟩ = some (.string ev) := fun N => (HP.out N.x (HB1.out.trans (Below.mono N.h (Below.size HB1.out)))).2.1
      have p2 : ∀ N : qi.Cls X1, N.x.cell? ⟨g1, o1 + k * 3 + 2, none⟩ = some (.bool false) := fun N => (HP.out N.x (HB1.out.trans (Below.mono N.h (Below.size HB1.out)))).2.2
      by_cases hk0 : 0 < k
      case' pos =>
        obtain ⟨mk, hlt, hpv⟩ := HPV.out hk0
        have r0 : ∀ N : qi.Cls X1, N.x.cell? ⟨g1, o1 + (k - 1) * 3, none⟩ = some (.string mk) := fun N => hpv N.x (HB1.out.trans (Below.mono N.h (Below.size HB1.out)))
        have hlt2 : Op.bytesLess ek.toList mk.toList = false := not_back hlt
        have hlt3 : (ek.toList == mk.toList) = false := not_same hlt
        have j2 : ((k - 1 : Nat) : Int) < (AL.length : Int) := by omega
        clear hlt hpv
      all_goals
        go_wp2
        refine qi.region_in X1 (qi.T.refl X1) (by kernel_rfl) (by kernel_rfl) ?_
        repeat (go_big_quiet_step (fail))
        refine wpQuiet_nil ?_
        rintro _ ⟨N, rfl⟩
        have hN := N.h
        generalize N.x = X2 at hN ⊢
        clear N p0 p1 p2
        have HB2 : Hid (Below v2.heap.size v2 X2) := HB1.out.trans (Below.mono hN (Below.size HB1.out))
        clear hN
        clear hk0
        try clear r0 hlt2 hlt3 j2
        obtain ⟨uv, huv⟩ : ∃ x, getV U (ks.map (·.l)) ek = x := ⟨_, rfl⟩
        obtain ⟨uo, huo⟩ : ∃ x, getO U (ks.map (·.l)) ek = x := ⟨_, rfl⟩
        obtain ⟨dv, hdv⟩ : ∃ x, getV D (ks.map (·.l)) ek = x := ⟨_, rfl⟩
        obtain ⟨dd, hdo⟩ : ∃ x, getO D (ks.map (·.l)) ek = x := ⟨_, rfl⟩
        have HEU : Hid (getV U (ks.map (·.l)) ek = uv ∧ getO U (ks.map (·.l)) ek = uo) := ⟨huv, huo⟩
        have HED : Hid (getV D (ks.map (·.l)) ek = dv ∧ getO D (ks.map (·.l)) ek = dd) := ⟨hdv, hdo⟩
        have HOT2 : Hid (ek ≠ key → (uv = ev ∧ uo = true) ∧ (dv = ev ∧ dd = true)) := fun h => by have := HOT.out h; rwa [huv, huo, hdv, hdo] at this
        clear huv huo hdv hdo
        have x0 : ∀ N : qi.Cls X2, N.x.cell? ⟨w2.heap.size, 0, none⟩ = some (.slice sa1 U.length sc1) := fun N => bcell (bstay BU.out (HB2.out.trans (Below.mono N.h (Below.size HB2.out))) (Array.getElem?_eq_some_iff.1 BU.out).1) rfl
        have x1 : ∀ N : qi.Cls X2, N.x.cell? ⟨w2.heap.size, 1, none⟩ = some (.slice ta1 ks.length tc1) := fun N => bcell (bstay BU.out (HB2.out.trans (Below.mono N.h (Below.size HB2.out))) (Array.getElem?_eq_some_iff.1 BU.out).1) rfl
        have p0 : ∀ N : qi.Cls X2, N.x.cell? ⟨g1, o1 + k * 3, none⟩ = some (.string ek) := fun N => (HP.out N.x (HB2.out.trans (Below.mono N.h (Below.size HB2.out)))).1
        have p1 : ∀ N : qi.Cls X2, N.x.cell? ⟨g1, o1 + k * 3 + 1, none⟩ = some (.string ev) := fun N => (HP.out N.x (HB2.out.trans (Below.mono N.h (Below.size HB2.out)))).2.1
        have p2 : ∀ N : qi.Cls X2, N.x.cell? ⟨g1, o1 + k * 3 + 2, none⟩ = some (.bool false) := fun N => (HP.out N.x (HB2.out.trans (Below.mono N.h (Below.size HB2.out)))).2.2
        have k1' : ∀ N : qi.Cls X2, Calls Try.prog 17 #[.agg #[.slice sa1 U.length sc1, .slice ta1 ks.length tc1], .string ek] N.x fun e w' => e = .returned (.tuple #[.string uv, .bool uo]) ∧ Below N.x.heap.size N.x w' := fun N => by
          have h9 := HGU.out N.x ek (HU.out.below (HB2.out.trans (Below.mono N.h (Below.size HB2.out)))) HEZ.out
          rwa [HEU.out.1, HEU.out.2] at h9
        have k1 : ∀ N : qi.Cls X2, Calls Try.prog 17 #[.agg #[.slice sa1 U.length sc1, .slice ta1 ks.length tc1], .string ek] N.x fun e w' => e = .returned (.tuple #[.string uv, .bool uo]) ∧ qi.T X2 w' := fun N => (k1' N).mono fun e w' ⟨h1, h2⟩ => ⟨h1, Below.trans N.h (Below.mono h2 (Below.size N.h))⟩
        clear k1'
        go_wp2
        refine qi.region_in X2 (qi.T.refl X2) (by kernel_rfl) (by kernel_rfl) ?_
        repeat (go_big_quiet_step (first | (go_at_call 17; with_reducible refine (k1 _).mono ?_; rintro e wx ⟨rfl, hTx⟩; exact ⟨rfl, ⟨wx, hTx⟩, rfl⟩)))
        refine wpQuiet_nil ?_
        rintro _ ⟨N, rfl⟩
        have hN := N.h
        generalize N.x = X3 at hN ⊢
        clear N k1 p0 p1 p2 x0 x1
        have HB3 : Hid (Below v2.heap.size v2 X3) := HB2.out.trans (Below.mono hN (Below.size HB2.out))
        clear hN
        have x0 : ∀ N : qi.Cls X3, N.x.cell? ⟨w4.heap.size, 0, none⟩ = some (.slice sa3 D.length sc3) := fun N => bcell (bstay BD.out (HB3.out.trans (Below.mono N.h (Below.size HB3.out))) (Array.getElem?_eq_some_iff.1 BD.out).1) rfl
        have x1 : ∀ N : qi.Cls X3, N.x.cell? ⟨w4.heap.size, 1, none⟩ = some (.slice ta3 ks.length tc3) := fun N => bcell (bstay BD.out (HB3.out.trans (Below.mono N.h (Below.size HB3.out))) (Array.getElem?_eq_some_iff.1 BD.out).1) rfl
        have p0 : ∀ N : qi.Cls X3, N.x.cell? ⟨g1, o1 + k * 3, none⟩ = some (.string ek) := fun N => (HP.out N.x (HB3.out.trans (Below.mono N.h (Below.size HB3.out)))).1
        have p1 : ∀ N : qi.Cls X3, N.x.cell? ⟨g1, o1 + k * 3 + 1, none⟩ = some (.string ev) := fun N => (HP.out N.x (HB3.out.trans (Below.mono N.h (Below.size HB3.out)))).2.1
        have p2 : ∀ N : qi.Cls X3, N.x.cell? ⟨g1, o1 + k * 3 + 2, none⟩ = some (.bool false) := fun N => (HP.out N.x (HB3.out.trans (Below.mono N.h (Below.size HB3.out)))).2.2
        have k1' : ∀ N : qi.Cls X3, Calls Try.prog 17 #[.agg #[.slice sa3 D.length sc3, .slice ta3 ks.length tc3], .string ek] N.x fun e w' => e = .returned (.tuple #[.string dv, .bool dd]) ∧ Below N.x.heap.size N.x w' := fun N => by
          have h9 := HGD.out N.x ek (HD.out.below (HB3.out.trans (Below.mono N.h (Below.size HB3.out)))) HEZ.out
          rwa [HED.out.1, HED.out.2] at h9
        have k1 : ∀ N : qi.Cls X3, Calls Try.prog 17 #[.agg #[.slice sa3 D.length sc3, .slice ta3 ks.length tc3], .string ek] N.x fun e w' => e = .returned (.tuple #[.string dv, .bool dd]) ∧ qi.T X3 w' := fun N => (k1' N).mono fun e w' ⟨h1, h2⟩ => ⟨h1, Below.trans N.h (Below.mono h2 (Below.size N.h))⟩
        clear k1'
        go_wp2
        refine qi.region_in X3 (qi.T.refl X3) (by kernel_rfl) (by kernel_rfl) ?_
        repeat (go_big_quiet_step (first | (go_at_call 17; with_reducible refine (k1 _).mono ?_; rintro e wx ⟨rfl, hTx⟩; exact ⟨rfl, ⟨wx, hTx⟩, rfl⟩)))
        refine wpQuiet_nil ?_
        rintro _ ⟨N, rfl⟩
        have hN := N.h
        generalize N.x = X4 at hN ⊢
        clear N k1 p0 p1 p2 x0 x1
        have HB4 : Hid (Below v2.heap.size v2 X4) := HB3.out.trans (Below.mono hN (Below.size HB3.out))
        clear hN
        have q0 := (HP.out X4 HB4.out).1
        by_cases heq : ek = key
        · subst heq
          have hqe : (ek.toList == ek.toList) = true := by simp
          go_wp2
          clear q0 hqe
          go_roundw
          case rel => exact ⟨k + 1, by omega, by go_num, HB4⟩
          case measure => simp [intOf]; omega
        · have hqe : (ek.toList == key.toList) = false := by rw [beq_eq_false_iff_ne]; exact fun h => heq (tl_of h)
          obtain ⟨⟨rfl, rfl⟩, ⟨rfl, rfl⟩⟩ := HOT2.out heq
          go_wp2
          clear q0 hqe
          go_roundw
          case rel => exact ⟨k + 1, by omega, by go_num, HB4⟩
          case measure => simp [intOf]; omega
    case' neg =>
      obtain rfl : k = AL.length := by omega
      have i2 : ¬ (AL.length : Int) < (AL.length : Int) := by omega
      have hbw := hbr.out
      clear hbr hkl hk
      obtain ⟨v3, hv3⟩ : ∃ v, v = wr := ⟨_, rfl⟩
      subst hv3
      have HB_ : Hid (Below w.heap.size w v3) := HB.out.trans (Below.mono hbw (Below.size HB.out))
      have HS_ : Hid (It v3 ys ks ya yc ra rc) := HS.out.below hbw
      have BS_ : Hid (v3.heap[w1.heap.size]? = some (.cells #[.slice ya ys.length yc, .slice ra ks.length rc] 27 (0, 0))) := bstay BS.out hbw (Array.getElem?_eq_some_iff.1 BS.out).1
      have HU_ : Hid (Iu v3 U K1 sa1 ta1 tc1) := HU.out.below hbw
      have BU_ : Hid (v3.heap[w2.heap.size]? = some (.cells #[.slice sa1 U.length sc1, .slice ta1 ks.length tc1] 27 (0, 0))) := bstay BU.out hbw (Array.getElem?_eq_some_iff.1 BU.out).1
      have HW_ : Hid (Ir v3 U K2 sa2 ta2) := HW.out.below hbw
      have BW_ : Hid (v3.heap[w3.heap.size]? = some (.cells #[.slice sa2 U.length sc2, .slice ta2 ks.length tc2] 27 (0, 0))) := bstay BW.out hbw (Array.getElem?_eq_some_iff.1 BW.out).1
      have HD_ : Hid (Iu v3 D K3 sa3 ta3 tc3) := HD.out.below hbw
      have BD_ : Hid (v3.heap[w4.heap.size]? = some (.cells #[.slice sa3 D.length sc3, .slice ta3 ks.length tc3] 27 (0, 0))) := bstay BD.out hbw (Array.getElem?_eq_some_iff.1 BD.out).1
      have HM_ : Hid (Ir v3 D K4 sa4 ta4) := HM.out.below hbw
      have BM_ : Hid (v3.heap[w5.heap.size]? = some (.cells #[.slice sa4 D.length sc4, .slice ta4 ks.length tc4] 27 (0, 0))) := bstay BM.out hbw (Array.getElem?_eq_some_iff.1 BM.out).1
      have HRA_ : Hid (Row flP.c 3 v3 v3.heap.size la AL) := HRA.out.inn hbw
      clear HB HS BS HU BU HW BW HD BD HM BM HRA
      have HB := HB_
      have HS := HS_
      have BS := BS_
      have HU := HU_
      have BU := BU_
      have HW := HW_
      have BW := BW_
      have HD := HD_
      have BD := BD_
      have HM := HM_
      have BM := BM_
      have HRA := HRA_
      clear HB_ HS_ BS_ HU_ BU_ HW_ BW_ HD_ BD_ HM_ BM_ HRA_
      clear hbw
      have h7 := HGU.out v3 key HU.out hkz
      have h8' := fun (W : World) (h : Iu W D K3 sa3 ta3 tc3) => HGD.out W key h hkz
      obtain ⟨so, hso⟩ : ∃ x, getO D (ks.map (·.l)) key = x := ⟨_, rfl⟩
      obtain ⟨sv, hsv⟩ : ∃ x, getV D (ks.map (·.l)) key = x := ⟨_, rfl⟩
      have HSO : Hid (db = true → so = false) := fun h => by rw [← hso, ← HD_E.out.1]; exact tpu.drop_own (HD_E.out.2.trans h)
      rw [hso, hsv] at h8'
      clear hso hsv
      have x0 : v3.cell? ⟨w2.heap.size, 0, none⟩ = some (.slice sa1 U.length sc1) := bcell BU.out rfl
      have x1 : v3.cell? ⟨w2.heap.size, 1, none⟩ = some (.slice ta1 ks.length tc1) := bcell BU.out rfl
      have y0 : v3.cell? ⟨w4.heap.size, 0, none⟩ = some (.slice sa3 D.length sc3) := bcell BD.out rfl
      have y1 : v3.cell? ⟨w4.heap.size, 1, none⟩ = some (.slice ta3 ks.length tc3) := bcell BD.out rfl
      cases pb
      case' true =>
        have hpo : getV U (ks.map (·.l)) key = val ∧ getO U (ks.map (·.l)) key = true := by
          have := tpu.put_own HU_E.out.2
          rwa [HU_E.out.1] at this
        rw [hpo.1, hpo.2] at h7
        clear hpo
        go_wp2_with (go_at_call 17; fail)
        refine h7.mono ?_
        rintro e v4 ⟨rfl, hb7⟩
        have h8 := h8' v4 (HD.out.below hb7)
        have HB4 : Hid (Below w.heap.size w v4) := HB.out.trans (Below.mono hb7 (Below.size HB.out))
        have y0 : v4.cell? ⟨w4.heap.size, 0, none⟩ = some (.slice sa3 D.length sc3) := bcell (bstay BD.out hb7 (Array.getElem?_eq_some_iff.1 BD.out).1) rfl
        have y1 : v4.cell? ⟨w4.heap.size, 1, none⟩ = some (.slice ta3 ks.length tc3) := bcell (bstay BD.out hb7 (Array.getElem?_eq_some_iff.1 BD.out).1) rfl
        clear h7 hb7 x0 x1
        go_wp2_with (go_at_call 17; fail)
      case' false =>
        have h8 := h8' v3 HD.out
        have HB4 : Hid (Below w.heap.size w v3) := HB
        clear h7 x0 x1
        go_wp2_with (go_at_call 17; fail)
      all_goals
        clear h8'
        refine h8.mono ?_
        rintro e v5 ⟨rfl, hb8⟩
        have HBF : Hid (Below w.heap.size w v5) := HB4.out.trans (Below.mono hb8 (Below.size HB4.out))
        clear h8 hb8 y0 y1 i2
        cases db
        case' true => obtain rfl := HSO.out rfl
        all_goals
          go_wp2
          go_ret
          exact ⟨rfl, HBF.out⟩
end Go.Proofs.Ytokaoafbgebelaa.twk
