/- As ChainDraw, with one operation more that makes memory wherever it comes: it waits for none of those with an effect, and one of them waits for it. -/
import Derived.Test.YtlfhfcgcfggjcaaDoorMw09
import Derived.Test.YtlfhfcgcfggjcaaDoorMw04
import Derived.Deep.RegionWith
import Derived.Test.YtlfhfcgcfggjcaaDoorDrawBase

/- The specification's draw of a stream. -/
namespace Go.Proofs.YtlfhfcgcfggjcaaDoor.dst
open Go.ChangeShapes Go.WideShapes Go.ChangeAt Go.RowKit Go.Proofs.YtlfhfcgcfggjcaaDoor.fl Go.Proofs.YtlfhfcgcfggjcaaDoor.dw Go.Proofs.YtlfhfcgcfggjcaaDoor.rr Go.Proofs.YtlfhfcgcfggjcaaDoor.st Go.Proofs.YtlfhfcgcfggjcaaDoor.scp Go.Proofs.YtlfhfcgcfggjcaaDoor.spw Go.Proofs.YtlfhfcgcfggjcaaDoor.dsl
set_option linter.unusedVariables false

def keys3 : List ByteArray := [⟨#[114]⟩, ⟨#[116]⟩, ⟨#[117]⟩]
def keys4 : List ByteArray := [⟨#[97]⟩, ⟨#[122, 122]⟩, ⟨#[]⟩]
theorem keys4_in : ∀ z ∈ keys4, z.size ≤ 2 := by decide
theorem keys3_in : ∀ z ∈ keys3, z.size ≤ 2 := by decide
set_option maxRecDepth 100000 in
set_option maxHeartbeats 8000000 in
theorem draw_stream (p : Nat) (a : Option Addr) (len cap : Nat) (w : World) (hc : Cur w p a len cap) :
    Calls Tryd.prog 19 #[.pointer (some ⟨p, 0, none⟩)] w fun e w' => (∃ (lo nx : Int) (es : List flY.En) (ms : List Ex) (ga : Option Addr) (cg : Nat) (ha : Option Addr) (ch : Nat), e = .returned (.agg #[.string ⟨#[115]⟩, .int .i64 lo, .int .i64 nx, .slice ga es.length cg, .slice ha ms.length ch]) ∧ Sm 500 nx es ms ∧ Dr w.heap.size w' es ms ga cg ha ch) ∧ Cur w' p a len cap ∧ On p w w' := by
  have hs0 := st_0 hc
  have h1 := draw_below p a len cap 14 _ (by omega) hs0.cur
  have HS0 : Hid (St p a len cap w 0 0 [] [] none 0 none 0 ((w.alloc (.cells #[.string ⟨#[]⟩, .int .i64 0, .int .i64 0, .slice none 0 0, .slice none 0 0] 27)).alloc (.cells #[.string ⟨#[115]⟩, .int .i64 0, .int .i64 0, .slice none 0 0, .slice none 0 0] 27))) := hs0
  have hp := hc.lt
  clear hc hs0
  go_enter Tryd.func19, Tryd.ntmps19
  go_wp2_with (go_at_call 21; fail)
  refine h1.mono ?_
  rintro e w1 ⟨⟨n, hn, rfl⟩, hc1, hb1⟩
  have h2 := draw_below p a len cap 50 w1 (by omega) hc1
  have HS1 : Hid (St p a len cap w 0 0 [] [] none 0 none 0 w1) := HS0.out.draw hc1 hb1
  clear h1 hc1 hb1 HS0
  go_wp2_with (go_at_call 21; fail)
  refine h2.mono ?_
  rintro e w2 ⟨⟨t0, ht0, rfl⟩, hc2, hb2⟩
  have HS2 : Hid (St p a len cap w 0 0 [] [] none 0 none 0 w2) := HS1.out.draw hc2 hb2
  clear h2 hc2 hb2 HS1
  go_wp2
  go_loopw [5, 6] (fun t x wr => ∃ (tm : Int) (j : Nat) (lo nx : Int) (es : List flY.En) (ms : List Ex) (ga : Option Addr) (cg : Nat) (ha : Option Addr) (ch : Nat), j ≤ n ∧ x = .int .i64 j ∧ t = .int .i64 tm ∧ 0 ≤ tm ∧ tm ≤ 50 + 3 * j ∧ Hid (Sm j nx es ms) ∧ Hid (St p a len cap w lo nx es ms ga cg ha ch wr)) (fun _ x _ => n - (intOf x).toNat)
  case atStart => exact ⟨t0, 0, 0, 0, [], [], none, 0, none, 0, Nat.zero_le _, rfl, rfl, by omega, by omega, sm_nil, HS2⟩
  case round =>
    obtain ⟨tm, j, lo, nx, es, ms, ga, cg, ha, ch, hj, rfl, rfl, htm0, htm1, HSM, hst⟩ := hrel
    clear HS2
    by_cases hjn : j < n
    · have i2 : (j : Int) < (n : Int) := by omega
      have c0 : wr.cell? ⟨w.heap.size + 1, 0, none⟩ = some (.string ⟨#[115]⟩) := bcell hst.out.sb rfl
      have c1 : wr.cell? ⟨w.heap.size + 1, 1, none⟩ = some (.int .i64 lo) := bcell hst.out.sb rfl
      have c2 : wr.cell? ⟨w.heap.size + 1, 2, none⟩ = some (.int .i64 nx) := bcell hst.out.sb rfl
      have c3 : wr.cell? ⟨w.heap.size + 1, 3, none⟩ = some (.slice ga es.length cg) := bcell hst.out.sb rfl
      have c4 : wr.cell? ⟨w.heap.size + 1, 4, none⟩ = some (.slice ha ms.length ch) := bcell hst.out.sb rfl
      have hsb := hst.out.size
      have HN0 : Hid ((wr.alloc (.cells #[.string ⟨#[115]⟩, .int .i64 lo, .int .i64 nx, .slice ga es.length cg, .slice ha ms.length ch] 27)).heap[wr.heap.size]? = some (.cells #[.string ⟨#[115]⟩, .int .i64 lo, .int .i64 nx, .slice ga es.length cg, .slice ha ms.length ch] 27 (0, 0))) := bnew _ _ _
      have HT0 : Hid (St p a len cap w lo nx es ms ga cg ha ch (wr.alloc (.cells #[.string ⟨#[115]⟩, .int .i64 lo, .int .i64 nx, .slice ga es.length cg, .slice ha ms.length ch] 27))) := hst.out.alloc _
      have g1 := draw_below p a len cap 6 _ (by omega) HT0.out.cur
      go_wp2_with (go_at_call 21; fail)
      clear c0 c1 c2 c3 c4 hst
      refine g1.mono ?_
      rintro e x1 ⟨⟨z, hz, rfl⟩, hd1, hf1⟩
      have HT1 : Hid (St p a len cap w lo nx es ms ga cg ha ch x1) := HT0.out.draw hd1 hf1
      have HN1 : Hid (x1.heap[wr.heap.size]? = some (.cells #[.string ⟨#[115]⟩, .int .i64 lo, .int .i64 nx, .slice ga es.length cg, .slice ha ms.length ch] 27 (0, 0))) := st_block HN0.out hf1 (by omega)
      have hs1 := HT1.out.size
      clear g1 hd1 hf1 HN0 HT0
      by_cases z0 : z = 0
      · subst z0
        go_wp2
        refine cht.region (σ := G) (ws := (fun s : G => [(37, .agg #[.string ⟨#[115]⟩, .int .i64 lo, .int .i64 nx, .slice ga es.length cg, .slice ha ms.length ch]), (38, .pointer (some ⟨p, 0, none⟩)), (39, .int .i64 s.x), (40, .int .i64 tm), (41, .pointer (some ⟨p, 0, none⟩)), (42, .int .i64 s.y), (43, .int .i64 s.u), (44, s.v)])) (js := [2, 5, 6, 7, 8]) (S := (fun g k W => Sx p a len cap w lo nx es ms ga cg ha ch wr.heap.size j 4 (fun g k W => True) g k W)) [37, 38, 39, 40, 41, 42, 43, 44] ⟨0, 0, 0, ⟨#[]⟩, 0, undef, false⟩ (by kernel_rfl) (by kernel_rfl) (fun _ => rfl) (by kernel_rfl) (by decide) ⟨HT1.out.step (Below.refl _ _).drew, trivial, fun _ => bstay HN1.out (Below.refl _ _).drew (by have := (Array.getElem?_eq_some_iff.1 HN1.out).1; omega), fun e => (by omega), fun e => (by omega)⟩ ?each ?fin
        case each =>
          refine ⟨cht.quiet 5 rfl (by decide) (.inl rfl) (by simp) (fun s => .agg #[.string ⟨#[115]⟩, .int .i64 lo, .int .i64 nx, .slice ga es.length cg, .slice ha ms.length ch]) (by rintro s _ ⟨⟩; exact dk.sets_on _ (by simp) _ rfl) (fun s k' W hk' hS => by have c0 : W.cell? ⟨w.heap.size + 1, 0, none⟩ = some (.string ⟨#[115]⟩) := bcell hS.st.sb rfl; have c1 : W.cell? ⟨w.heap.size + 1, 1, none⟩ = some (.int .i64 lo) := bcell hS.st.sb rfl; have c2 : W.cell? ⟨w.heap.size + 1, 2, none⟩ = some (.int .i64 nx) := bcell hS.st.sb rfl; have c3 : W.cell? ⟨w.heap.size + 1, 3, none⟩ = some (.slice ga es.length cg) := bcell hS.st.sb rfl; have c4 : W.cell? ⟨w.heap.size + 1, 4, none⟩ = some (.slice ha ms.length ch) := bcell hS.st.sb rfl; simp [execOp, go_sem, Act.eval, dk.sets_get, List.lookup, c0, c1, c2, c3, c4]), ?_⟩
          refine ⟨cht.quiet 5 rfl (by decide) (.inl rfl) (by simp) (fun s => .pointer (some ⟨p, 0, none⟩)) (by rintro s _ ⟨⟩; exact dk.sets_on _ (by simp) _ rfl) (fun s k' W hk' hS => by simp [execOp, go_sem, Act.eval, dk.sets_get, List.lookup]), ?_⟩
          refine ⟨chd.call 0 [2, 5, 6, 7, 8] [39] (by kernel_rfl) (by kernel_rfl) rfl (by decide) rfl (.inl rfl) (by simp) 21 (fun s => #[.pointer (some ⟨p, 0, none⟩), .int .i64 6]) (fun s W hS => by exact ⟨by simp [go_sem, Act.eval, dk.sets_get, List.lookup], (draw_below p a len cap 6 W (by omega) hS.st.cur).mono fun e w9 hh => by obtain ⟨⟨z9, hz9, rfl⟩, k1, k2⟩ := hh; exact ⟨{ s with x := z9 }, _, rfl, (by simp [chd.But]), (by rintro _ ⟨⟩; exact dk.sets_on _ (by simp) _ rfl), hS.draw (by decide) (by omega) k1 k2 (trivial)⟩⟩), ?_⟩
          refine ⟨cht.quiet 5 rfl (by decide) (.inl rfl) (by simp) (fun s => .int .i64 tm) (by rintro s _ ⟨⟩; exact dk.sets_on _ (by simp) _ rfl) (fun s k' W hk' hS => by simp [execOp, go_sem, Act.eval, dk.sets_get, List.lookup]), ?_⟩
          refine ⟨cht.quiet 5 rfl (by decide) (.inl rfl) (by simp) (fun s => .pointer (some ⟨p, 0, none⟩)) (by rintro s _ ⟨⟩; exact dk.sets_on _ (by simp) _ rfl) (fun s k' W hk' hS => by simp [execOp, go_sem, Act.eval, dk.sets_get, List.lookup]), ?_⟩
          refine ⟨chd.call 1 [5, 6, 7, 8] [42] (by kernel_rfl) (by kernel_rfl) rfl (by decide) rfl (.inr ⟨⟨2, .chain⟩, by simp, rfl, rfl⟩) (by simp) 21 (fun s => #[.pointer (some ⟨p, 0, none⟩), .int .i64 10]) (fun s W hS => by exact ⟨by simp [go_sem, Act.eval, dk.sets_get, List.lookup], (draw_below p a len cap 10 W (by omega) hS.st.cur).mono fun e w9 hh => by obtain ⟨⟨z9, hz9, rfl⟩, k1, k2⟩ := hh; exact ⟨{ s with y := z9 }, _, rfl, (by simp [chd.But]), (by rintro _ ⟨⟩; exact dk.sets_on _ (by simp) _ rfl), hS.draw (by decide) (by omega) k1 k2 (trivial)⟩⟩), ?_⟩
          refine ⟨chd.eff 2 [6, 7, 8] [43] (by kernel_rfl) (by kernel_rfl) rfl (by decide) rfl (.inr ⟨⟨5, .data⟩, by simp, rfl, rfl⟩) (by simp) (fun s W hS => by exact ⟨{ s with u := IntKind.i64.wrap (tm - s.y) }, .int .i64 (IntKind.i64.wrap (tm - s.y)), W, (by simp [chd.But]), (by rintro _ ⟨⟩; exact dk.sets_on _ (by simp) _ rfl), (by simp [execOp, go_sem, Act.eval, dk.sets_get, List.lookup]), hS.step (by decide) (Below.refl _ _) trivial⟩), ?_⟩
          refine ⟨chd.call 3 [7, 8] [44] (by kernel_rfl) (by kernel_rfl) rfl (by decide) rfl (.inr ⟨⟨6, .data⟩, by simp, rfl, rfl⟩) (by simp) 39 (fun s => #[.agg #[.string ⟨#[115]⟩, .int .i64 lo, .int .i64 nx, .slice ga es.length cg, .slice ha ms.length ch], .int .i64 s.x, .int .i64 s.u]) (fun s W hS => by exact ⟨by simp [go_sem, Act.eval, dk.sets_get, List.lookup], (hS.st.trim HSM.out (by omega) s.x s.u).mono fun e w9 hh => by obtain ⟨⟨v9, rfl, n9⟩, k1⟩ := hh; exact ⟨{ s with v := v9 }, _, rfl, (by simp [chd.But]), (by rintro _ ⟨⟩; exact dk.sets_on _ (by simp) _ rfl), hS.last (by decide) k1 n9 (trivial)⟩⟩), ?_⟩
          exact ⟨cht.sto 4 rfl (by decide) rfl (.inr ⟨⟨7, .data⟩, by simp, rfl, rfl⟩) (by simp) rfl (fun s W hS => by obtain ⟨lo', nx', es', ms', ga', cg', ha', ch', hv, ⟨c0, c1, c2, c3, c4⟩, hf, hS'⟩ := hS.sto (by omega) (fun _ => trivial); have f0 := hf 0; have f1 := hf 1; have f2 := hf 2; have f3 := hf 3; have f4 := hf 4; exact ⟨res5 W wr.heap.size (.string ⟨#[115]⟩) (.int .i64 lo') (.int .i64 nx') (.slice ga' es'.length cg') (.slice ha' ms'.length ch'), by simp [execOp, go_sem, Act.eval, dk.sets_get, List.lookup, hv, c0, c1, c2, c3, c4, f0, f1, f2, f3, f4, res5], hS'⟩), trivial⟩
        case fin =>
          intro s x5 hS
          have HT5 : Hid (St p a len cap w lo nx es ms ga cg ha ch x5) := hS.st
          obtain ⟨lo', nx', es', ms', ga', cg', ha', ch', hb5, hsm5, hd5⟩ := hS.fin rfl
          have HSM5 : Hid (Sm (j + 1) nx' es' ms') := hsm5
          have HD5 : Hid (Dr (w.heap.size + 2) x5 es' ms' ga' cg' ha' ch') := hd5
          have b0 : x5.cell? ⟨wr.heap.size, 0, none⟩ = some (.string ⟨#[115]⟩) := bcell hb5 rfl
          have b1 : x5.cell? ⟨wr.heap.size, 1, none⟩ = some (.int .i64 lo') := bcell hb5 rfl
          have b2 : x5.cell? ⟨wr.heap.size, 2, none⟩ = some (.int .i64 nx') := bcell hb5 rfl
          have b3 : x5.cell? ⟨wr.heap.size, 3, none⟩ = some (.slice ga' es'.length cg') := bcell hb5 rfl
          have b4 : x5.cell? ⟨wr.heap.size, 4, none⟩ = some (.slice ha' ms'.length ch') := bcell hb5 rfl
          have c0 : x5.cell? ⟨w.heap.size + 1, 0, none⟩ = some (.string ⟨#[115]⟩) := bcell HT5.out.sb rfl
          have c1 : x5.cell? ⟨w.heap.size + 1, 1, none⟩ = some (.int .i64 lo) := bcell HT5.out.sb rfl
          have c2 : x5.cell? ⟨w.heap.size + 1, 2, none⟩ = some (.int .i64 nx) := bcell HT5.out.sb rfl
          have c3 : x5.cell? ⟨w.heap.size + 1, 3, none⟩ = some (.slice ga es.length cg) := bcell HT5.out.sb rfl
          have c4 : x5.cell? ⟨w.heap.size + 1, 4, none⟩ = some (.slice ha ms.length ch) := bcell HT5.out.sb rfl
          have e0 := bfree HT5.out.sb 0
          have e1 := bfree HT5.out.sb 1
          have e2 := bfree HT5.out.sb 2
          have e3 := bfree HT5.out.sb 3
          have e4 := bfree HT5.out.sb 4
          obtain ⟨sx, sy, sA, sT, sU, sV, sB⟩ := s
          clear hS hb5 hsm5 hd5
          simp only [dk.sets]
          go_wp2
          go_roundw
          case rel => exact ⟨tm, j + 1, lo', nx', es', ms', ga', cg', ha', ch', by omega, by go_num, rfl, by omega, by omega, HSM5.out, St.put HT5.out HD5.out⟩
          case measure => simp [intOf]; omega
      · by_cases z1 : z = 1
        · subst z1
          have hn0 := HSM.out.n0
          have hn1 := HSM.out.n1
          have hwr : IntKind.i64.wrap (nx + 1) = nx + 1 := by rw [IntKind.wrap_i64]; omega
          have HDB : Hid (∀ W, Cur W p a len cap → Calls Tryd.prog 21 #[.pointer (some ⟨p, 0, none⟩), .int .i64 (nx + 1)] W fun e w' => (∃ x : Nat, x < nx.toNat + 1 ∧ e = .returned (.int .i64 x)) ∧ Cur w' p a len cap ∧ On p W w') := fun W h => by
            have h9 := draw_below p a len cap (nx.toNat + 1) W (by omega) h
            rwa [show ((nx.toNat + 1 : Nat) : Int) = nx + 1 by omega] at h9
          go_wp2
          refine cht.region (σ := G) (ws := (fun s : G => [(48, .agg #[.string ⟨#[115]⟩, .int .i64 lo, .int .i64 nx, .slice ga es.length cg, .slice ha ms.length ch]), (49, .pointer (some ⟨p, 0, none⟩)), (50, .slice (some ⟨s.a, 0, none⟩) 3 3), (51, .string s.t), (52, .pointer (some ⟨p, 0, none⟩)), (53, .pointer (some ⟨w.heap.size + 1, 2, none⟩)), (54, .int .i64 nx), (55, .int .i64 (nx + 1)), (56, .int .i64 s.y), (57, .tuple #[s.v, .bool s.b]), (47, .tuple #[s.v, .bool s.b]), (58, s.v), (59, .bool s.b)])) (js := [2, 3, 8, 9, 13]) (S := (fun g k W => Sx p a len cap w lo nx es ms ga cg ha ch wr.heap.size j 4 (fun g k W => (k = 1 → p < g.a ∧ ∀ i, i < 3 → ∃ z ∈ keys3, W.cell? ⟨g.a, i, none⟩ = some (.string z)) ∧ (2 ≤ k → g.t.size ≤ 2)) g k W)) [48, 49, 50, 51, 52, 53, 54, 55, 56, 57, 47, 58, 59] ⟨0, 0, 0, ⟨#[]⟩, 0, undef, false⟩ (by kernel_rfl) (by kernel_rfl) (fun _ => rfl) (by kernel_rfl) (by decide) ⟨HT1.out.step (Below.refl _ _).drew, ⟨fun h => (by omega), fun h => (by omega)⟩, fun _ => bstay HN1.out (Below.refl _ _).drew (by have := (Array.getElem?_eq_some_iff.1 HN1.out).1; omega), fun e => (by omega), fun e => (by omega)⟩ ?each ?fin
          case each =>
            refine ⟨cht.quiet 5 rfl (by decide) (.inl rfl) (by simp) (fun s => .agg #[.string ⟨#[115]⟩, .int .i64 lo, .int .i64 nx, .slice ga es.length cg, .slice ha ms.length ch]) (by rintro s _ ⟨⟩; exact dk.sets_on _ (by simp) _ rfl) (fun s k' W hk' hS => by have c0 : W.cell? ⟨w.heap.size + 1, 0, none⟩ = some (.string ⟨#[115]⟩) := bcell hS.st.sb rfl; have c1 : W.cell? ⟨w.heap.size + 1, 1, none⟩ = some (.int .i64 lo) := bcell hS.st.sb rfl; have c2 : W.cell? ⟨w.heap.size + 1, 2, none⟩ = some (.int .i64 nx) := bcell hS.st.sb rfl; have c3 : W.cell? ⟨w.heap.size + 1, 3, none⟩ = some (.slice ga es.length cg) := bcell hS.st.sb rfl; have c4 : W.cell? ⟨w.heap.size + 1, 4, none⟩ = some (.slice ha ms.length ch) := bcell hS.st.sb rfl; simp [execOp, go_sem, Act.eval, dk.sets_get, List.lookup, c0, c1, c2, c3, c4]), ?_⟩
            refine ⟨cht.quiet 5 rfl (by decide) (.inl rfl) (by simp) (fun s => .pointer (some ⟨p, 0, none⟩)) (by rintro s _ ⟨⟩; exact dk.sets_on _ (by simp) _ rfl) (fun s k' W hk' hS => by simp [execOp, go_sem, Act.eval, dk.sets_get, List.lookup]), ?_⟩
            refine ⟨chd.eff 0 [2, 3, 8, 9, 10, 11, 12, 13] [50] (by kernel_rfl) (by kernel_rfl) rfl (by decide) rfl (.inl rfl) (by simp) (fun s W hS => by exact ⟨{ s with a := W.heap.size }, .slice (some ⟨W.heap.size, 0, none⟩) 3 3, W.alloc (.cells #[.string ⟨#[114]⟩, .string ⟨#[116]⟩, .string ⟨#[117]⟩] 9), (by simp [chd.But]), (by rintro _ ⟨⟩; exact dk.sets_on _ (by simp) _ rfl), (by simp [execOp, go_sem, Act.eval, dk.sets_get, List.lookup]), hS.step (by decide) ((Below.refl _ _).alloc (Nat.le_refl _) _) ⟨fun _ => ⟨(by have := hS.st.size; show p < W.heap.size; omega), at_texts W keys3 _⟩, fun h => (by omega)⟩⟩), ?_⟩
            refine ⟨chd.call 1 [3, 8, 9, 10, 11, 12, 13] [51] (by kernel_rfl) (by kernel_rfl) rfl (by decide) rfl (.inr ⟨⟨2, .data⟩, by simp, rfl, rfl⟩) (by simp) 20 (fun s => #[.pointer (some ⟨p, 0, none⟩), .slice (some ⟨s.a, 0, none⟩) 3 3]) (fun s W hS => by exact ⟨by simp [go_sem, Act.eval, dk.sets_get, List.lookup], (draw_pick p a len cap s.a 3 keys3 W (by omega) (by have := (hS.pre.1 rfl).1; omega) (hS.pre.1 rfl).2 hS.st.cur).mono fun e w9 hh => by obtain ⟨⟨z9, hz9, rfl⟩, k1, k2⟩ := hh; exact ⟨{ s with t := z9 }, _, rfl, (by simp [chd.But]), (by rintro _ ⟨⟩; exact dk.sets_on _ (by simp) _ rfl), hS.draw (by decide) (by omega) k1 k2 ⟨fun h => (by omega), fun _ => keys3_in z9 hz9⟩⟩⟩), ?_⟩
            refine ⟨cht.quiet 5 rfl (by decide) (.inl rfl) (by simp) (fun s => .pointer (some ⟨p, 0, none⟩)) (by rintro s _ ⟨⟩; exact dk.sets_on _ (by simp) _ rfl) (fun s k' W hk' hS => by simp [execOp, go_sem, Act.eval, dk.sets_get, List.lookup]), ?_⟩
            refine ⟨cht.quiet 5 rfl (by decide) (.inl rfl) (by simp) (fun s => .pointer (some ⟨w.heap.size + 1, 2, none⟩)) (by rintro s _ ⟨⟩; exact dk.sets_on _ (by simp) _ rfl) (fun s k' W hk' hS => by simp [execOp, go_sem, Act.eval, dk.sets_get, List.lookup]), ?_⟩
            refine ⟨cht.quiet 5 rfl (by decide) (.inl rfl) (by simp) (fun s => .int .i64 nx) (by rintro s _ ⟨⟩; exact dk.sets_on _ (by simp) _ rfl) (fun s k' W hk' hS => by have c0 : W.cell? ⟨w.heap.size + 1, 0, none⟩ = some (.string ⟨#[115]⟩) := bcell hS.st.sb rfl; have c1 : W.cell? ⟨w.heap.size + 1, 1, none⟩ = some (.int .i64 lo) := bcell hS.st.sb rfl; have c2 : W.cell? ⟨w.heap.size + 1, 2, none⟩ = some (.int .i64 nx) := bcell hS.st.sb rfl; have c3 : W.cell? ⟨w.heap.size + 1, 3, none⟩ = some (.slice ga es.length cg) := bcell hS.st.sb rfl; have c4 : W.cell? ⟨w.heap.size + 1, 4, none⟩ = some (.slice ha ms.length ch) := bcell hS.st.sb rfl; simp [execOp, go_sem, Act.eval, dk.sets_get, List.lookup, c2]), ?_⟩
            refine ⟨cht.quiet 5 rfl (by decide) (.inl rfl) (by simp) (fun s => .int .i64 (nx + 1)) (by rintro s _ ⟨⟩; exact dk.sets_on _ (by simp) _ rfl) (fun s k' W hk' hS => by simp [execOp, go_sem, Act.eval, dk.sets_get, List.lookup, hwr]), ?_⟩
            refine ⟨chd.call 2 [8, 9, 10, 11, 12, 13] [56] (by kernel_rfl) (by kernel_rfl) rfl (by decide) rfl (.inr ⟨⟨3, .chain⟩, by simp, rfl, rfl⟩) (by simp) 21 (fun s => #[.pointer (some ⟨p, 0, none⟩), .int .i64 (nx + 1)]) (fun s W hS => by exact ⟨by simp [go_sem, Act.eval, dk.sets_get, List.lookup], (HDB.out W hS.st.cur).mono fun e w9 hh => by obtain ⟨⟨z9, hz9, rfl⟩, k1, k2⟩ := hh; exact ⟨{ s with y := z9 }, _, rfl, (by simp [chd.But]), (by rintro _ ⟨⟩; exact dk.sets_on _ (by simp) _ rfl), hS.draw (by decide) (by omega) k1 k2 ⟨fun h => (by omega), fun _ => hS.pre.2 (by omega)⟩⟩⟩), ?_⟩
            refine ⟨chd.call 3 [9, 10, 11, 12, 13] [57, 47, 58, 59] (by kernel_rfl) (by kernel_rfl) rfl (by decide) rfl (.inr ⟨⟨8, .data⟩, by simp, rfl, rfl⟩) (by simp) 7 (fun s => #[.agg #[.string ⟨#[115]⟩, .int .i64 lo, .int .i64 nx, .slice ga es.length cg, .slice ha ms.length ch], .string s.t, .int .i64 s.y]) (fun s W hS => by exact ⟨by simp [go_sem, Act.eval, dk.sets_get, List.lookup], (hS.st.mark HSM.out (by omega) s.t (hS.pre.2 (by omega)) s.y).mono fun e w9 hh => by obtain ⟨⟨v9, b9, rfl, n9⟩, k1⟩ := hh; exact ⟨{ s with v := v9, b := b9 }, _, rfl, (by simp [chd.But]), (by rintro _ ⟨⟩; exact dk.sets_on _ (by simp) _ rfl), hS.last (by decide) k1 n9 (⟨fun h => (by omega), fun _ => hS.pre.2 (by omega)⟩)⟩⟩), ?_⟩
            refine ⟨cht.quiet 5 rfl (by decide) (.inl rfl) (by simp) (fun s => .tuple #[s.v, .bool s.b]) (by rintro s _ ⟨⟩; exact dk.sets_on _ (by simp) _ rfl) (fun s k' W hk' hS => by simp [execOp, go_sem, Act.eval, dk.sets_get, List.lookup]), ?_⟩
            refine ⟨cht.quiet 5 rfl (by decide) (.inl rfl) (by simp) (fun s => s.v) (by rintro s _ ⟨⟩; exact dk.sets_on _ (by simp) _ rfl) (fun s k' W hk' hS => by simp [execOp, go_sem, Act.eval, dk.sets_get, List.lookup]), ?_⟩
            refine ⟨cht.quiet 5 rfl (by decide) (.inl rfl) (by simp) (fun s => .bool s.b) (by rintro s _ ⟨⟩; exact dk.sets_on _ (by simp) _ rfl) (fun s k' W hk' hS => by simp [execOp, go_sem, Act.eval, dk.sets_get, List.lookup]), ?_⟩
            exact ⟨cht.sto 4 rfl (by decide) rfl (.inr ⟨⟨9, .chain⟩, by simp, rfl, rfl⟩) (by simp) rfl (fun s W hS => by obtain ⟨lo', nx', es', ms', ga', cg', ha', ch', hv, ⟨c0, c1, c2, c3, c4⟩, hf, hS'⟩ := hS.sto (by omega) (fun _ => ⟨fun h => (by omega), fun _ => hS.pre.2 (by omega)⟩); have f0 := hf 0; have f1 := hf 1; have f2 := hf 2; have f3 := hf 3; have f4 := hf 4; exact ⟨res5 W wr.heap.size (.string ⟨#[115]⟩) (.int .i64 lo') (.int .i64 nx') (.slice ga' es'.length cg') (.slice ha' ms'.length ch'), by simp [execOp, go_sem, Act.eval, dk.sets_get, List.lookup, hv, c0, c1, c2, c3, c4, f0, f1, f2, f3, f4, res5], hS'⟩), trivial⟩
          case fin =>
            intro s x5 hS
            have HT5 : Hid (St p a len cap w lo nx es ms ga cg ha ch x5) := hS.st
            obtain ⟨lo', nx', es', ms', ga', cg', ha', ch', hb5, hsm5, hd5⟩ := hS.fin rfl
            have HSM5 : Hid (Sm (j + 1) nx' es' ms') := hsm5
            have HD5 : Hid (Dr (w.heap.size + 2) x5 es' ms' ga' cg' ha' ch') := hd5
            have b0 : x5.cell? ⟨wr.heap.size, 0, none⟩ = some (.string ⟨#[115]⟩) := bcell hb5 rfl
            have b1 : x5.cell? ⟨wr.heap.size, 1, none⟩ = some (.int .i64 lo') := bcell hb5 rfl
            have b2 : x5.cell? ⟨wr.heap.size, 2, none⟩ = some (.int .i64 nx') := bcell hb5 rfl
            have b3 : x5.cell? ⟨wr.heap.size, 3, none⟩ = some (.slice ga' es'.length cg') := bcell hb5 rfl
            have b4 : x5.cell? ⟨wr.heap.size, 4, none⟩ = some (.slice ha' ms'.length ch') := bcell hb5 rfl
            have c0 : x5.cell? ⟨w.heap.size + 1, 0, none⟩ = some (.string ⟨#[115]⟩) := bcell HT5.out.sb rfl
            have c1 : x5.cell? ⟨w.heap.size + 1, 1, none⟩ = some (.int .i64 lo) := bcell HT5.out.sb rfl
            have c2 : x5.cell? ⟨w.heap.size + 1, 2, none⟩ = some (.int .i64 nx) := bcell HT5.out.sb rfl
            have c3 : x5.cell? ⟨w.heap.size + 1, 3, none⟩ = some (.slice ga es.length cg) := bcell HT5.out.sb rfl
            have c4 : x5.cell? ⟨w.heap.size + 1, 4, none⟩ = some (.slice ha ms.length ch) := bcell HT5.out.sb rfl
            have e0 := bfree HT5.out.sb 0
            have e1 := bfree HT5.out.sb 1
            have e2 := bfree HT5.out.sb 2
            have e3 := bfree HT5.out.sb 3
            have e4 := bfree HT5.out.sb 4
            obtain ⟨sx, sy, sA, sT, sU, sV, sB⟩ := s
            clear hS hb5 hsm5 hd5
            simp only [dk.sets]
            go_wp2
            go_roundw
            case rel => exact ⟨tm, j + 1, lo', nx', es', ms', ga', cg', ha', ch', by omega, by go_num, rfl, by omega, by omega, HSM5.out, St.put HT5.out HD5.out⟩
            case measure => simp [intOf]; omega
        · have f0 : ((z : Int) == 0) = false := by simp; omega
          have f1 : ((z : Int) == 1) = false := by simp; omega
          have g2 := draw_below p a len cap 4 x1 (by omega) HT1.out.cur
          go_wp2_with (go_at_call 21; fail)
          refine g2.mono ?_
          rintro e x2 ⟨⟨dt, hdt, rfl⟩, hd2, hf2⟩
          have HT2 : Hid (St p a len cap w lo nx es ms ga cg ha ch x2) := HT1.out.draw hd2 hf2
          have HN2 : Hid (x2.heap[wr.heap.size]? = some (.cells #[.string ⟨#[115]⟩, .int .i64 lo, .int .i64 nx, .slice ga es.length cg, .slice ha ms.length ch] 27 (0, 0))) := st_block HN1.out hf2 (by omega)
          clear g2 hd2 hf2 HT1 HN1
          go_wp2
          refine cht.region (σ := G) (ws := (fun s : G => [(26, .agg #[.string ⟨#[115]⟩, .int .i64 lo, .int .i64 nx, .slice ga es.length cg, .slice ha ms.length ch]), (27, .int .i64 (tm + dt)), (28, .pointer (some ⟨p, 0, none⟩)), (29, .pointer (some ⟨p, 0, none⟩)), (30, .int .i64 s.x), (31, .string s.t), (32, .tuple #[s.v, .bool s.b]), (25, .tuple #[s.v, .bool s.b]), (33, s.v), (34, .bool s.b)])) (js := [4, 5, 6, 10]) (S := (fun g k W => Sx p a len cap w lo nx es ms ga cg ha ch wr.heap.size j 3 (fun g k W => (k = 1 → g.x < 4) ∧ (2 ≤ k → g.t.size ≤ 3)) g k W)) [26, 27, 28, 29, 30, 31, 32, 25, 33, 34] ⟨0, 0, 0, ⟨#[]⟩, 0, undef, false⟩ (by kernel_rfl) (by kernel_rfl) (fun _ => rfl) (by kernel_rfl) (by decide) ⟨HT2.out.step (Below.refl _ _).drew, ⟨fun h => (by omega), fun h => (by omega)⟩, fun _ => bstay HN2.out (Below.refl _ _).drew (by have := (Array.getElem?_eq_some_iff.1 HN2.out).1; omega), fun e => (by omega), fun e => (by omega)⟩ ?each ?fin
          case each =>
            refine ⟨cht.quiet 4 rfl (by decide) (.inl rfl) (by simp) (fun s => .agg #[.string ⟨#[115]⟩, .int .i64 lo, .int .i64 nx, .slice ga es.length cg, .slice ha ms.length ch]) (by rintro s _ ⟨⟩; exact dk.sets_on _ (by simp) _ rfl) (fun s k' W hk' hS => by have c0 : W.cell? ⟨w.heap.size + 1, 0, none⟩ = some (.string ⟨#[115]⟩) := bcell hS.st.sb rfl; have c1 : W.cell? ⟨w.heap.size + 1, 1, none⟩ = some (.int .i64 lo) := bcell hS.st.sb rfl; have c2 : W.cell? ⟨w.heap.size + 1, 2, none⟩ = some (.int .i64 nx) := bcell hS.st.sb rfl; have c3 : W.cell? ⟨w.heap.size + 1, 3, none⟩ = some (.slice ga es.length cg) := bcell hS.st.sb rfl; have c4 : W.cell? ⟨w.heap.size + 1, 4, none⟩ = some (.slice ha ms.length ch) := bcell hS.st.sb rfl; simp [execOp, go_sem, Act.eval, dk.sets_get, List.lookup, c0, c1, c2, c3, c4]), ?_⟩
            refine ⟨cht.quiet 4 rfl (by decide) (.inl rfl) (by simp) (fun s => .int .i64 (tm + dt)) (by rintro s _ ⟨⟩; exact dk.sets_on _ (by simp) _ rfl) (fun s k' W hk' hS => by simp [execOp, go_sem, Act.eval, dk.sets_get, List.lookup]), ?_⟩
            refine ⟨cht.quiet 4 rfl (by decide) (.inl rfl) (by simp) (fun s => .pointer (some ⟨p, 0, none⟩)) (by rintro s _ ⟨⟩; exact dk.sets_on _ (by simp) _ rfl) (fun s k' W hk' hS => by simp [execOp, go_sem, Act.eval, dk.sets_get, List.lookup]), ?_⟩
            refine ⟨cht.quiet 4 rfl (by decide) (.inl rfl) (by simp) (fun s => .pointer (some ⟨p, 0, none⟩)) (by rintro s _ ⟨⟩; exact dk.sets_on _ (by simp) _ rfl) (fun s k' W hk' hS => by simp [execOp, go_sem, Act.eval, dk.sets_get, List.lookup]), ?_⟩
            refine ⟨chd.call 0 [4, 5, 6, 7, 8, 9, 10] [30] (by kernel_rfl) (by kernel_rfl) rfl (by decide) rfl (.inl rfl) (by simp) 21 (fun s => #[.pointer (some ⟨p, 0, none⟩), .int .i64 4]) (fun s W hS => by exact ⟨by simp [go_sem, Act.eval, dk.sets_get, List.lookup], (draw_below p a len cap 4 W (by omega) hS.st.cur).mono fun e w9 hh => by obtain ⟨⟨z9, hz9, rfl⟩, k1, k2⟩ := hh; exact ⟨{ s with x := z9 }, _, rfl, (by simp [chd.But]), (by rintro _ ⟨⟩; exact dk.sets_on _ (by simp) _ rfl), hS.draw (by decide) (by omega) k1 k2 (⟨fun _ => hz9, fun h => (by omega)⟩)⟩⟩), ?_⟩
            refine ⟨chd.call 1 [5, 6, 7, 8, 9, 10] [31] (by kernel_rfl) (by kernel_rfl) rfl (by decide) rfl (.inr ⟨⟨4, .data⟩, by simp, rfl, rfl⟩) (by simp) 41 (fun s => #[.pointer (some ⟨p, 0, none⟩), .int .i64 s.x]) (fun s W hS => by exact ⟨by simp [go_sem, Act.eval, dk.sets_get, List.lookup], (draw_bytes p a len cap s.x W (by have := hS.pre.1 rfl; omega) hS.st.cur).mono fun e w9 hh => by obtain ⟨⟨z9, hz9, rfl⟩, k1, k2⟩ := hh; exact ⟨{ s with t := z9 }, _, rfl, (by simp [chd.But]), (by rintro _ ⟨⟩; exact dk.sets_on _ (by simp) _ rfl), hS.draw (by decide) (by omega) k1 k2 ⟨fun h => (by omega), fun _ => (by have h9 := hS.pre.1 rfl; show z9.size ≤ 3; omega)⟩⟩⟩), ?_⟩
            refine ⟨chd.call 2 [6, 7, 8, 9, 10] [32, 25, 33, 34] (by kernel_rfl) (by kernel_rfl) rfl (by decide) rfl (.inr ⟨⟨5, .data⟩, by simp, rfl, rfl⟩) (by simp) 40 (fun s => #[.agg #[.string ⟨#[115]⟩, .int .i64 lo, .int .i64 nx, .slice ga es.length cg, .slice ha ms.length ch], .int .i64 (tm + dt), .string s.t]) (fun s W hS => by exact ⟨by simp [go_sem, Act.eval, dk.sets_get, List.lookup], (hS.st.putS HSM.out (by omega) (tm + dt) s.t (hS.pre.2 (by omega))).mono fun e w9 hh => by obtain ⟨⟨v9, b9, rfl, n9⟩, k1⟩ := hh; exact ⟨{ s with v := v9, b := b9 }, _, rfl, (by simp [chd.But]), (by rintro _ ⟨⟩; exact dk.sets_on _ (by simp) _ rfl), hS.last (by decide) k1 n9 (⟨fun h => (by omega), fun _ => hS.pre.2 (by omega)⟩)⟩⟩), ?_⟩
            refine ⟨cht.quiet 4 rfl (by decide) (.inl rfl) (by simp) (fun s => .tuple #[s.v, .bool s.b]) (by rintro s _ ⟨⟩; exact dk.sets_on _ (by simp) _ rfl) (fun s k' W hk' hS => by simp [execOp, go_sem, Act.eval, dk.sets_get, List.lookup]), ?_⟩
            refine ⟨cht.quiet 4 rfl (by decide) (.inl rfl) (by simp) (fun s => s.v) (by rintro s _ ⟨⟩; exact dk.sets_on _ (by simp) _ rfl) (fun s k' W hk' hS => by simp [execOp, go_sem, Act.eval, dk.sets_get, List.lookup]), ?_⟩
            refine ⟨cht.quiet 4 rfl (by decide) (.inl rfl) (by simp) (fun s => .bool s.b) (by rintro s _ ⟨⟩; exact dk.sets_on _ (by simp) _ rfl) (fun s k' W hk' hS => by simp [execOp, go_sem, Act.eval, dk.sets_get, List.lookup]), ?_⟩
            exact ⟨cht.sto 3 rfl (by decide) rfl (.inr ⟨⟨6, .chain⟩, by simp, rfl, rfl⟩) (by simp) rfl (fun s W hS => by obtain ⟨lo', nx', es', ms', ga', cg', ha', ch', hv, ⟨c0, c1, c2, c3, c4⟩, hf, hS'⟩ := hS.sto (by omega) (fun _ => ⟨fun h => (by omega), fun _ => hS.pre.2 (by omega)⟩); have f0 := hf 0; have f1 := hf 1; have f2 := hf 2; have f3 := hf 3; have f4 := hf 4; exact ⟨res5 W wr.heap.size (.string ⟨#[115]⟩) (.int .i64 lo') (.int .i64 nx') (.slice ga' es'.length cg') (.slice ha' ms'.length ch'), by simp [execOp, go_sem, Act.eval, dk.sets_get, List.lookup, hv, c0, c1, c2, c3, c4, f0, f1, f2, f3, f4, res5], hS'⟩), trivial⟩
          case fin =>
            intro s x5 hS
            have HT5 : Hid (St p a len cap w lo nx es ms ga cg ha ch x5) := hS.st
            obtain ⟨lo', nx', es', ms', ga', cg', ha', ch', hb5, hsm5, hd5⟩ := hS.fin rfl
            have HSM5 : Hid (Sm (j + 1) nx' es' ms') := hsm5
            have HD5 : Hid (Dr (w.heap.size + 2) x5 es' ms' ga' cg' ha' ch') := hd5
            have b0 : x5.cell? ⟨wr.heap.size, 0, none⟩ = some (.string ⟨#[115]⟩) := bcell hb5 rfl
            have b1 : x5.cell? ⟨wr.heap.size, 1, none⟩ = some (.int .i64 lo') := bcell hb5 rfl
            have b2 : x5.cell? ⟨wr.heap.size, 2, none⟩ = some (.int .i64 nx') := bcell hb5 rfl
            have b3 : x5.cell? ⟨wr.heap.size, 3, none⟩ = some (.slice ga' es'.length cg') := bcell hb5 rfl
            have b4 : x5.cell? ⟨wr.heap.size, 4, none⟩ = some (.slice ha' ms'.length ch') := bcell hb5 rfl
            have c0 : x5.cell? ⟨w.heap.size + 1, 0, none⟩ = some (.string ⟨#[115]⟩) := bcell HT5.out.sb rfl
            have c1 : x5.cell? ⟨w.heap.size + 1, 1, none⟩ = some (.int .i64 lo) := bcell HT5.out.sb rfl
            have c2 : x5.cell? ⟨w.heap.size + 1, 2, none⟩ = some (.int .i64 nx) := bcell HT5.out.sb rfl
            have c3 : x5.cell? ⟨w.heap.size + 1, 3, none⟩ = some (.slice ga es.length cg) := bcell HT5.out.sb rfl
            have c4 : x5.cell? ⟨w.heap.size + 1, 4, none⟩ = some (.slice ha ms.length ch) := bcell HT5.out.sb rfl
            have e0 := bfree HT5.out.sb 0
            have e1 := bfree HT5.out.sb 1
            have e2 := bfree HT5.out.sb 2
            have e3 := bfree HT5.out.sb 3
            have e4 := bfree HT5.out.sb 4
            obtain ⟨sx, sy, sA, sT, sU, sV, sB⟩ := s
            clear hS hb5 hsm5 hd5
            simp only [dk.sets]
            go_wp2
            go_roundw
            case rel => exact ⟨tm + dt, j + 1, lo', nx', es', ms', ga', cg', ha', ch', by omega, by go_num, rfl, by omega, by omega, HSM5.out, St.put HT5.out HD5.out⟩
            case measure => simp [intOf]; omega
    · obtain rfl : j = n := by omega
      have hsb := hst.out.size
      have g1 := draw_below p a len cap 20 wr (by omega) hst.out.cur
      go_wp2_with (go_at_call 21; fail)
      refine g1.mono ?_
      rintro e x1 ⟨⟨z, hz, rfl⟩, hd1, hf1⟩
      have HT1 : Hid (St p a len cap w lo nx es ms ga cg ha ch x1) := hst.out.draw hd1 hf1
      have hs1 := HT1.out.size
      have c0 : x1.cell? ⟨w.heap.size + 1, 0, none⟩ = some (.string ⟨#[115]⟩) := bcell HT1.out.sb rfl
      have c1 : x1.cell? ⟨w.heap.size + 1, 1, none⟩ = some (.int .i64 lo) := bcell HT1.out.sb rfl
      have c2 : x1.cell? ⟨w.heap.size + 1, 2, none⟩ = some (.int .i64 nx) := bcell HT1.out.sb rfl
      have c3 : x1.cell? ⟨w.heap.size + 1, 3, none⟩ = some (.slice ga es.length cg) := bcell HT1.out.sb rfl
      have c4 : x1.cell? ⟨w.heap.size + 1, 4, none⟩ = some (.slice ha ms.length ch) := bcell HT1.out.sb rfl
      have e0 := bfree HT1.out.sb 0
      have e1 := bfree HT1.out.sb 1
      have e2 := bfree HT1.out.sb 2
      have e3 := bfree HT1.out.sb 3
      have e4 := bfree HT1.out.sb 4
      have q0 : x1.cell? ⟨w.heap.size, 0, none⟩ = some (.string ⟨#[]⟩) := bcell HT1.out.rb rfl
      have q1 : x1.cell? ⟨w.heap.size, 1, none⟩ = some (.int .i64 0) := bcell HT1.out.rb rfl
      have q2 : x1.cell? ⟨w.heap.size, 2, none⟩ = some (.int .i64 0) := bcell HT1.out.rb rfl
      have q3 : x1.cell? ⟨w.heap.size, 3, none⟩ = some (.slice none 0 0) := bcell HT1.out.rb rfl
      have q4 : x1.cell? ⟨w.heap.size, 4, none⟩ = some (.slice none 0 0) := bcell HT1.out.rb rfl
      have r0 := bfree HT1.out.rb 0
      have r1 := bfree HT1.out.rb 1
      have r2 := bfree HT1.out.rb 2
      have r3 := bfree HT1.out.rb 3
      have r4 := bfree HT1.out.rb 4
      clear g1 hd1 hf1 hst
      have hn0 := HSM.out.n0
      have hn1 := HSM.out.n1
      by_cases z0 : z = 0
      · subst z0
        have g2 := draw_pick_int p a len cap x1.heap.size 3 [-1, wrap64 (lo + 1), nx + 1] _ (by omega) (by omega) (at_list x1 [-1, wrap64 (lo + 1), nx + 1] 3) (HT1.out.alloc _).cur
        go_wp2_with (go_at_call 31; fail)
        refine g2.mono ?_
        rintro e x2 ⟨⟨v, hv, rfl⟩, hd2, hf2⟩
        have HT2 : Hid (St p a len cap w lo nx es ms ga cg ha ch x2) := (HT1.out.alloc _).draw hd2 hf2
        have k1 : x2.cell? ⟨w.heap.size + 1, 1, none⟩ = some (.int .i64 lo) := bcell HT2.out.sb rfl
        have k1f := bfree HT2.out.sb 1
        have HT3 := HT2.out.low v
        obtain ⟨x3, hx3⟩ : ∃ x3, x2.setCell ⟨w.heap.size + 1, 1, none⟩ (.int .i64 v) = x3 := ⟨_, rfl⟩
        rw [hx3] at HT3
        have HSM2 : Hid (Sm 500 nx es ms) := HSM.out.more (by omega)
        have HTT : Hid (St p a len cap w v nx es ms ga cg ha ch x3) := HT3
        clear g2 hd2 hf2 hv HT2 HT3 HT1 c0 c1 c2 c3 c4 e0 e1 e2 e3 e4 q0 q1 q2 q3 q4 r0 r1 r2 r3 r4
        have c0 : x3.cell? ⟨w.heap.size + 1, 0, none⟩ = some (.string ⟨#[115]⟩) := bcell HTT.out.sb rfl
        have c1 : x3.cell? ⟨w.heap.size + 1, 1, none⟩ = some (.int .i64 v) := bcell HTT.out.sb rfl
        have c2 : x3.cell? ⟨w.heap.size + 1, 2, none⟩ = some (.int .i64 nx) := bcell HTT.out.sb rfl
        have c3 : x3.cell? ⟨w.heap.size + 1, 3, none⟩ = some (.slice ga es.length cg) := bcell HTT.out.sb rfl
        have c4 : x3.cell? ⟨w.heap.size + 1, 4, none⟩ = some (.slice ha ms.length ch) := bcell HTT.out.sb rfl
        have q0 : x3.cell? ⟨w.heap.size, 0, none⟩ = some (.string ⟨#[]⟩) := bcell HTT.out.rb rfl
        have q1 : x3.cell? ⟨w.heap.size, 1, none⟩ = some (.int .i64 0) := bcell HTT.out.rb rfl
        have q2 : x3.cell? ⟨w.heap.size, 2, none⟩ = some (.int .i64 0) := bcell HTT.out.rb rfl
        have q3 : x3.cell? ⟨w.heap.size, 3, none⟩ = some (.slice none 0 0) := bcell HTT.out.rb rfl
        have q4 : x3.cell? ⟨w.heap.size, 4, none⟩ = some (.slice none 0 0) := bcell HTT.out.rb rfl
        have r0 := bfree HTT.out.rb 0
        have r1 := bfree HTT.out.rb 1
        have r2 := bfree HTT.out.rb 2
        have r3 := bfree HTT.out.rb 3
        have r4 := bfree HTT.out.rb 4
        have HDN : Hid (∀ y0 y1 y2 y3 y4, Dr w.heap.size (res5 x3 w.heap.size y0 y1 y2 y3 y4) es ms ga cg ha ch ∧ Cur (res5 x3 w.heap.size y0 y1 y2 y3 y4) p a len cap ∧ On p w (res5 x3 w.heap.size y0 y1 y2 y3 y4)) := fun y0 y1 y2 y3 y4 => HTT.out.done y0 y1 y2 y3 y4
        clear HTT
        go_wp2_with (fail)
        clear hx3
        exact bodyPost_ret (v := .agg #[.string ⟨#[115]⟩, .int .i64 v, .int .i64 nx, .slice ga es.length cg, .slice ha ms.length ch]) (by simp [results, Tryd.results19, go_sem, q0, q1, q2, q3, q4]) rfl ⟨⟨v, nx, es, ms, ga, cg, ha, ch, rfl, HSM2.out, (HDN.out _ _ _ _ _).1⟩, (HDN.out _ _ _ _ _).2⟩
      by_cases z1 : z = 1
      · subst z1
        clear c0 c1 c2 c3 c4 e0 e1 e2 e3 e4 q0 q1 q2 q3 q4 r0 r1 r2 r3 r4
        go_wp2
        refine cht.region (σ := G) (ws := (fun s : G => [(77, .pointer (some ⟨w.heap.size + 1, 4, none⟩)), (78, .slice ha ms.length ch), (79, .pointer (some ⟨p, 0, none⟩)), (80, .slice (some ⟨s.a, 0, none⟩) 3 3), (81, .string s.t), (82, .pointer (some ⟨w.heap.size + 1, 2, none⟩)), (83, .int .i64 nx), (84, .agg #[.string s.t, .int .i64 nx]), (85, .slice (some ⟨s.y, 0, none⟩) 1 1), (86, s.v), (87, .pointer (some ⟨w.heap.size + 1, 4, none⟩))])) (js := [3, 4, 7, 8, 9, 11]) (S := (fun g k W => (k ≤ 4 → St p a len cap w lo nx es ms ga cg ha ch W) ∧ (k = 1 → p < g.a ∧ ∀ i, i < 3 → ∃ z ∈ keys4, W.cell? ⟨g.a, i, none⟩ = some (.string z)) ∧ (2 ≤ k → g.t.size ≤ 2) ∧ (k = 4 → W.heap[g.y]? = some (.cells #[.string g.t, .int .i64 nx] 45 (0, 0))) ∧ (k = 5 → ∃ ha' ch', g.v = .slice ha' (ms.length + 1) ch' ∧ W.cell? ⟨w.heap.size + 1, 4, none⟩ = some (.slice ha ms.length ch) ∧ W.frozen? ⟨w.heap.size + 1, 4, none⟩ = false ∧ St p a len cap w lo nx es (ms ++ [⟨g.t, nx⟩]) ga cg ha' ch' (W.setCell ⟨w.heap.size + 1, 4, none⟩ (.slice ha' (ms.length + 1) ch'))) ∧ (k = 6 → ∃ ha' ch', St p a len cap w lo nx es (ms ++ [⟨g.t, nx⟩]) ga cg ha' ch' W))) [77, 78, 79, 80, 81, 82, 83, 84, 85, 86, 87] ⟨0, 0, 0, ⟨#[]⟩, 0, undef, false⟩ (by kernel_rfl) (by kernel_rfl) (fun _ => rfl) (by kernel_rfl) (by decide) ⟨fun _ => HT1.out.step (Below.refl _ _).drew, fun h => (by omega), fun h => (by omega), fun h => (by omega), fun h => (by omega), fun h => (by omega)⟩ ?each ?fin
        case each =>
          refine ⟨cht.quiet 6 rfl (by decide) (.inl rfl) (by simp) (fun s => .pointer (some ⟨w.heap.size + 1, 4, none⟩)) (by rintro s _ ⟨⟩; exact dk.sets_on _ (by simp) _ rfl) (fun s k' W hk' hS => by simp [execOp, go_sem, Act.eval, dk.sets_get, List.lookup]), ?_⟩
          refine ⟨cht.quiet 4 rfl (by decide) (.inr ⟨9, _, rfl, rfl, ⟨1, .data⟩, by simp, rfl, rfl⟩) (by simp) (fun s => .slice ha ms.length ch) (by rintro s _ ⟨⟩; exact dk.sets_on _ (by simp) _ rfl) (fun s k' W hk' hS => by have hst := hS.1 hk'; have c4 : W.cell? ⟨w.heap.size + 1, 4, none⟩ = some (.slice ha ms.length ch) := bcell hst.sb rfl; simp [execOp, go_sem, Act.eval, dk.sets_get, List.lookup, c4]), ?_⟩
          refine ⟨cht.quiet 6 rfl (by decide) (.inl rfl) (by simp) (fun s => .pointer (some ⟨p, 0, none⟩)) (by rintro s _ ⟨⟩; exact dk.sets_on _ (by simp) _ rfl) (fun s k' W hk' hS => by simp [execOp, go_sem, Act.eval, dk.sets_get, List.lookup]), ?_⟩
          refine ⟨chd.eff 0 [3, 4, 7, 8, 9, 10, 11] [80] (by kernel_rfl) (by kernel_rfl) rfl (by decide) rfl (.inl rfl) (by simp) (fun s W hS => by exact ⟨{ s with a := W.heap.size }, .slice (some ⟨W.heap.size, 0, none⟩) 3 3, W.alloc (.cells #[.string ⟨#[97]⟩, .string ⟨#[122, 122]⟩, .string ⟨#[]⟩] 9), (by simp [chd.But]), (by rintro _ ⟨⟩; exact dk.sets_on _ (by simp) _ rfl), (by simp [execOp, go_sem, Act.eval, dk.sets_get, List.lookup]), fun _ => (hS.1 (by omega)).alloc _, fun _ => ⟨(by have := (hS.1 (by omega)).size; show p < W.heap.size; omega), at_texts W keys4 _⟩, fun h => (by omega), fun h => (by omega), fun h => (by omega), fun h => (by omega)⟩), ?_⟩
          refine ⟨chd.call 1 [4, 7, 8, 9, 10, 11] [81, 84] (by kernel_rfl) (by kernel_rfl) rfl (by decide) rfl (.inr ⟨⟨3, .data⟩, by simp, rfl, rfl⟩) (by simp) 20 (fun s => #[.pointer (some ⟨p, 0, none⟩), .slice (some ⟨s.a, 0, none⟩) 3 3]) (fun s W hS => by exact ⟨by simp [go_sem, Act.eval, dk.sets_get, List.lookup], (draw_pick p a len cap s.a 3 keys4 W (by omega) (by have := (hS.2.1 rfl).1; omega) (hS.2.1 rfl).2 (hS.1 (by omega)).cur).mono fun e w9 hh => by obtain ⟨⟨z9, hz9, rfl⟩, k1, k2⟩ := hh; exact ⟨{ s with t := z9 }, _, rfl, (by simp [chd.But]), (by rintro _ ⟨⟩; exact dk.sets_on _ (by simp) _ rfl), fun _ => (hS.1 (by omega)).draw k1 k2, fun h => (by omega), fun _ => keys4_in z9 hz9, fun h => (by omega), fun h => (by omega), fun h => (by omega)⟩⟩), ?_⟩
          refine ⟨cht.quiet 6 rfl (by decide) (.inl rfl) (by simp) (fun s => .pointer (some ⟨w.heap.size + 1, 2, none⟩)) (by rintro s _ ⟨⟩; exact dk.sets_on _ (by simp) _ rfl) (fun s k' W hk' hS => by simp [execOp, go_sem, Act.eval, dk.sets_get, List.lookup]), ?_⟩
          refine ⟨cht.quiet 2 rfl (by decide) (.inr ⟨7, _, rfl, rfl, ⟨6, .data⟩, by simp, rfl, rfl⟩) (by simp) (fun s => .int .i64 nx) (by rintro s _ ⟨⟩; exact dk.sets_on _ (by simp) _ rfl) (fun s k' W hk' hS => by have hst := hS.1 (by omega); have c2 : W.cell? ⟨w.heap.size + 1, 2, none⟩ = some (.int .i64 nx) := bcell hst.sb rfl; simp [execOp, go_sem, Act.eval, dk.sets_get, List.lookup, c2]), ?_⟩
          refine ⟨chd.eff 2 [7, 8, 9, 10, 11] [84] (by kernel_rfl) (by kernel_rfl) rfl (by decide) rfl (.inr ⟨⟨4, .data⟩, by simp, rfl, rfl⟩) (by simp) (fun s W hS => by exact ⟨s, .agg #[.string s.t, .int .i64 nx], W, (by simp [chd.But]), (by rintro _ ⟨⟩; exact dk.sets_on _ (by simp) _ rfl), (by simp [execOp, go_sem, Act.eval, dk.sets_get, List.lookup]), fun _ => hS.1 (by omega), fun h => (by omega), fun _ => hS.2.2.1 (by omega), fun h => (by omega), fun h => (by omega), fun h => (by omega)⟩), ?_⟩
          refine ⟨chd.eff 3 [8, 9, 10, 11] [85] (by kernel_rfl) (by kernel_rfl) rfl (by decide) rfl (.inr ⟨⟨7, .data⟩, by simp, rfl, rfl⟩) (by simp) (fun s W hS => by exact ⟨{ s with y := W.heap.size }, .slice (some ⟨W.heap.size, 0, none⟩) 1 1, W.alloc (.cells #[.string s.t, .int .i64 nx] 45), (by simp [chd.But]), (by rintro _ ⟨⟩; exact dk.sets_on _ (by simp) _ rfl), (by simp [execOp, go_sem, Act.eval, dk.sets_get, List.lookup]), fun _ => (hS.1 (by omega)).alloc _, fun h => (by omega), fun _ => hS.2.2.1 (by omega), fun _ => bnew W _ _, fun h => (by omega), fun h => (by omega)⟩), ?_⟩
          refine ⟨chd.eff 4 [9, 10, 11] [86] (by kernel_rfl) (by kernel_rfl) rfl (by decide) rfl (.inr ⟨⟨8, .data⟩, by simp, rfl, rfl⟩) (by simp) (fun s W hS => by obtain ⟨ha', ch', Y, hr, n1, n2, hst⟩ := (hS.1 (by omega)).appM (hS.2.2.2.1 rfl) (by have := HSM.out.ml; omega) 25; exact ⟨{ s with v := .slice ha' (ms.length + 1) ch' }, .slice ha' (ms.length + 1) ch', Y, (by simp [chd.But]), (by rintro _ ⟨⟩; exact dk.sets_on _ (by simp) _ rfl), chd.app_run rfl (by simp [Act.eval, dk.sets_get, List.lookup]) (by simp [Act.eval, dk.sets_get, List.lookup]) hr, fun h => (by omega), fun h => (by omega), fun _ => hS.2.2.1 (by omega), fun h => (by omega), fun _ => ⟨ha', ch', rfl, n1, n2, hst⟩, fun h => (by omega)⟩), ?_⟩
          refine ⟨cht.quiet 6 rfl (by decide) (.inl rfl) (by simp) (fun s => .pointer (some ⟨w.heap.size + 1, 4, none⟩)) (by rintro s _ ⟨⟩; exact dk.sets_on _ (by simp) _ rfl) (fun s k' W hk' hS => by simp [execOp, go_sem, Act.eval, dk.sets_get, List.lookup]), ?_⟩
          exact ⟨cht.sto 5 rfl (by decide) rfl (.inr ⟨⟨9, .data⟩, by simp, rfl, rfl⟩) (by simp) rfl (fun s W hS => by obtain ⟨ha', ch', hv, n1, n2, hst⟩ := hS.2.2.2.2.1 rfl; exact ⟨W.setCell ⟨w.heap.size + 1, 4, none⟩ (.slice ha' (ms.length + 1) ch'), by simp [execOp, go_sem, Act.eval, dk.sets_get, List.lookup, hv, n1, n2], fun h => (by omega), fun h => (by omega), fun _ => hS.2.2.1 (by omega), fun h => (by omega), fun h => (by omega), fun _ => ⟨ha', ch', hst⟩⟩), trivial⟩
        case fin =>
          intro s x3 hS
          obtain ⟨ha', ch', hst3⟩ := hS.2.2.2.2.2 rfl
          have hms := HSM.out
          have HTT : Hid (St p a len cap w lo nx es (ms ++ [⟨s.t, nx⟩]) ga cg ha' ch' x3) := hst3
          have HSM2 : Hid (Sm 500 nx es (ms ++ [⟨s.t, nx⟩])) := ⟨by have := hms.el; omega, by have := hms.ml; simp; omega, hms.n0, by omega, hms.eb, fun e he => by
            rcases List.mem_append.1 he with he | he
            · exact hms.mb e he
            · rw [List.mem_singleton.1 he]; exact hS.2.2.1 (by decide)⟩
          simp only [dk.sets]
          clear hS hst3 hms HT1
          have c0 : x3.cell? ⟨w.heap.size + 1, 0, none⟩ = some (.string ⟨#[115]⟩) := bcell HTT.out.sb rfl
          have c1 : x3.cell? ⟨w.heap.size + 1, 1, none⟩ = some (.int .i64 lo) := bcell HTT.out.sb rfl
          have c2 : x3.cell? ⟨w.heap.size + 1, 2, none⟩ = some (.int .i64 nx) := bcell HTT.out.sb rfl
          have c3 : x3.cell? ⟨w.heap.size + 1, 3, none⟩ = some (.slice ga es.length cg) := bcell HTT.out.sb rfl
          have c4 : x3.cell? ⟨w.heap.size + 1, 4, none⟩ = some (.slice ha' (ms.length + 1) ch') := (by have h9 := HTT.out.sb; rw [List.length_append] at h9; exact bcell h9 rfl)
          have q0 : x3.cell? ⟨w.heap.size, 0, none⟩ = some (.string ⟨#[]⟩) := bcell HTT.out.rb rfl
          have q1 : x3.cell? ⟨w.heap.size, 1, none⟩ = some (.int .i64 0) := bcell HTT.out.rb rfl
          have q2 : x3.cell? ⟨w.heap.size, 2, none⟩ = some (.int .i64 0) := bcell HTT.out.rb rfl
          have q3 : x3.cell? ⟨w.heap.size, 3, none⟩ = some (.slice none 0 0) := bcell HTT.out.rb rfl
          have q4 : x3.cell? ⟨w.heap.size, 4, none⟩ = some (.slice none 0 0) := bcell HTT.out.rb rfl
          have r0 := bfree HTT.out.rb 0
          have r1 := bfree HTT.out.rb 1
          have r2 := bfree HTT.out.rb 2
          have r3 := bfree HTT.out.rb 3
          have r4 := bfree HTT.out.rb 4
          have HDN : Hid (∀ y0 y1 y2 y3 y4, Dr w.heap.size (res5 x3 w.heap.size y0 y1 y2 y3 y4) es (ms ++ [({ n := s.t, k := nx } : Ex)]) ga cg ha' ch' ∧ Cur (res5 x3 w.heap.size y0 y1 y2 y3 y4) p a len cap ∧ On p w (res5 x3 w.heap.size y0 y1 y2 y3 y4)) := fun y0 y1 y2 y3 y4 => HTT.out.done y0 y1 y2 y3 y4
          clear HTT
          go_wp2
          exact bodyPost_ret (v := .agg #[.string ⟨#[115]⟩, .int .i64 lo, .int .i64 nx, .slice ga es.length cg, .slice ha' (ms.length + 1) ch']) (by simp [results, Tryd.results19, go_sem, q0, q1, q2, q3, q4]) rfl ⟨⟨lo, nx, es, (ms ++ [({ n := s.t, k := nx } : Ex)]), ga, cg, ha', ch', (by rw [List.length_append]; rfl), HSM2.out, (HDN.out _ _ _ _ _).1⟩, (HDN.out _ _ _ _ _).2⟩
      by_cases z2 : z = 2
      · subst z2
        have hel0 := HSM.out.el
        have HSM0 : Hid (Sm 500 nx es ms) := HSM.out.more (by omega)
        clear c0 c1 c2 c3 c4 e0 e1 e2 e3 e4 q0 q1 q2 q3 q4 r0 r1 r2 r3 r4
        go_wp2
        go_loopw [96] (fun _ wr => ∃ (nn : Int) (E : List flY.En) (gg : Option Addr) (gc : Nat), E.length ≤ 401 ∧ nn ≤ 13 + E.length ∧ Hid (Sm 500 nn E ms) ∧ Hid (St p a len cap w lo nn E ms gg gc ha ch wr)) (fun _ wr => 402 - strm.lenAt (w.heap.size + 1) wr)
        case atStart => exact ⟨nx, es, ga, cg, by omega, by omega, HSM0, HT1⟩
        case round =>
          obtain ⟨nn, E, gg, gc, hE, hnn, HSM3, hst2⟩ := hrel
          clear HT1 HSM0
          have d3 := bcell (j := 3) (v := .slice gg E.length gc) hst2.out.sb rfl
          have hlz : strm.lenAt (w.heap.size + 1) wr = E.length := strm.lenAt_eq d3
          have HLZ : Hid (strm.lenAt (w.heap.size + 1) wr = E.length) := hlz
          have hsz2 := hst2.out.size
          have hnn0 := HSM3.out.n0
          clear d3 hlz
          go_wp2
          refine cht.region (σ := G) (ws := (fun s : G => [(90, .pointer (some ⟨w.heap.size + 1, 3, none⟩)), (91, .slice gg E.length gc), (92, .int .i64 E.length), (93, .pointer (some ⟨p, 0, none⟩)), (94, .int .i64 s.x), (95, .int .i64 (400 + s.x)), (96, .bool (decide ((E.length : Int) < 400 + s.x)))])) (js := [4]) (S := (fun g k W => St p a len cap w lo nn E ms gg gc ha ch W ∧ g.x < 2)) [90, 91, 92, 93, 94, 95, 96] ⟨0, 0, 0, ⟨#[]⟩, 0, undef, false⟩ (by kernel_rfl) (by kernel_rfl) (fun _ => rfl) (by kernel_rfl) (by decide) ⟨hst2.out.step (Below.refl _ _).drew, by decide⟩ ?each ?fin
          case each =>
            refine ⟨cht.quiet 1 rfl (by decide) (.inl rfl) (by simp) (fun s => .pointer (some ⟨w.heap.size + 1, 3, none⟩)) (by rintro s _ ⟨⟩; exact dk.sets_on _ (by simp) _ rfl) (fun s k' W hk' hS => by simp [execOp, go_sem, Act.eval, dk.sets_get, List.lookup]), ?_⟩
            refine ⟨cht.quiet 1 rfl (by decide) (.inl rfl) (by simp) (fun s => .slice gg E.length gc) (by rintro s _ ⟨⟩; exact dk.sets_on _ (by simp) _ rfl) (fun s k' W hk' hS => by have c3 : W.cell? ⟨w.heap.size + 1, 3, none⟩ = some (.slice gg E.length gc) := bcell hS.1.sb rfl; simp [execOp, go_sem, Act.eval, dk.sets_get, List.lookup, c3]), ?_⟩
            refine ⟨cht.quiet 1 rfl (by decide) (.inl rfl) (by simp) (fun s => .int .i64 E.length) (by rintro s _ ⟨⟩; exact dk.sets_on _ (by simp) _ rfl) (fun s k' W hk' hS => by simp [go_sem, Act.eval, dk.sets_get, List.lookup]), ?_⟩
            refine ⟨cht.quiet 1 rfl (by decide) (.inl rfl) (by simp) (fun s => .pointer (some ⟨p, 0, none⟩)) (by rintro s _ ⟨⟩; exact dk.sets_on _ (by simp) _ rfl) (fun s k' W hk' hS => by simp [execOp, go_sem, Act.eval, dk.sets_get, List.lookup]), ?_⟩
            refine ⟨chd.call 0 [4, 5, 6] [94, 95, 96] (by kernel_rfl) (by kernel_rfl) rfl (by decide) rfl (.inl rfl) (by simp) 21 (fun s => #[.pointer (some ⟨p, 0, none⟩), .int .i64 2]) (fun s W hS => by exact ⟨by simp [go_sem, Act.eval, dk.sets_get, List.lookup], (draw_below p a len cap 2 W (by omega) hS.1.cur).mono fun e w9 hh => by obtain ⟨⟨z9, hz9, rfl⟩, k1, k2⟩ := hh; exact ⟨{ s with x := z9 }, _, rfl, (by simp [chd.But]), (by rintro _ ⟨⟩; exact dk.sets_on _ (by simp) _ rfl), hS.1.draw k1 k2, hz9⟩⟩), ?_⟩
            refine ⟨cht.quiet 1 rfl (by decide) (.inl rfl) (by simp) (fun s => .int .i64 (400 + s.x)) (by rintro s _ ⟨⟩; exact dk.sets_on _ (by simp) _ rfl) (fun s k' W hk' hS => by have h9 := hS.2; have hwr : IntKind.i64.wrap (400 + (s.x : Int)) = 400 + s.x := (by rw [IntKind.wrap_i64]; omega); simp [execOp, go_sem, Act.eval, dk.sets_get, List.lookup, hwr]), ?_⟩
            exact ⟨cht.quiet 1 rfl (by decide) (.inl rfl) (by simp) (fun s => .bool (decide ((E.length : Int) < 400 + s.x))) (by rintro s _ ⟨⟩; exact dk.sets_on _ (by simp) _ rfl) (fun s k' W hk' hS => by simp [execOp, go_sem, Act.eval, dk.sets_get, List.lookup]), trivial⟩
          case fin =>
            intro s x3 hS
            obtain ⟨hs3, hsx⟩ := hS
            have d2 : x3.cell? ⟨w.heap.size + 1, 2, none⟩ = some (.int .i64 nn) := bcell hs3.sb rfl
            have d3 : x3.cell? ⟨w.heap.size + 1, 3, none⟩ = some (.slice gg E.length gc) := bcell hs3.sb rfl
            have hs3z := hs3.size
            have HS3 : Hid (St p a len cap w lo nn E ms gg gc ha ch x3) := hs3
            clear hs3
            obtain ⟨sx, sy, sA, sT, sU, sV, sB⟩ := s
            simp only at hsx
            simp only [dk.sets, Act.put, List.setIfInBounds_toArray, List.set_cons_succ, List.set_cons_zero]
            cases hcb : decide ((E.length : Int) < 400 + (sx : Int)) with
            | true =>
              have hlt0 := of_decide_eq_true hcb
              have hle4 : E.length ≤ 400 := by omega
              clear hcb hlt0
              obtain ⟨ga', cg', Y, hr, ⟨k3, k2, k3f, k2f⟩, hst5⟩ := (HS3.out.alloc (.cells #[.int .i64 nn, .int .i64 5000, .string ⟨#[]⟩] 43)).appE (bnew x3 _ _) (by omega) 24
              have hst6 := hst5.next (nn + 1)
              have hms := HSM3.out
              have HSM6 : Hid (Sm 500 (nn + 1) (E ++ [⟨nn, 5000, ⟨#[]⟩⟩]) ms) := ⟨by simp; omega, hms.ml, by omega, by omega, fun e he => by
                rcases List.mem_append.1 he with he | he
                · exact hms.eb e he
                · rw [List.mem_singleton.1 he]; exact Nat.zero_le _, hms.mb⟩
              have HLE : Hid ((E ++ [⟨nn, 5000, ⟨#[]⟩⟩] : List flY.En).length = E.length + 1) := by unfold Hid; simp
              have k2g : (Y.setCell ⟨w.heap.size + 1, 3, none⟩ (.slice ga' (E.length + 1) cg')).cell? ⟨w.heap.size + 1, 2, none⟩ = some (.int .i64 nn) := bcell hst5.sb rfl
              have hlz2 : strm.lenAt (w.heap.size + 1) ((Y.setCell ⟨w.heap.size + 1, 3, none⟩ (.slice ga' (E.length + 1) cg')).setCell ⟨w.heap.size + 1, 2, none⟩ (.int .i64 (nn + 1))) = E.length + 1 := by
                have h9 := hst6.sb
                rw [HLE.out] at h9
                exact strm.lenAt_eq (bcell h9 rfl)
              have HLZ2 : Hid (strm.lenAt (w.heap.size + 1) ((Y.setCell ⟨w.heap.size + 1, 3, none⟩ (.slice ga' (E.length + 1) cg')).setCell ⟨w.heap.size + 1, 2, none⟩ (.int .i64 (nn + 1))) = E.length + 1) := hlz2
              have HST6 : Hid (St p a len cap w lo (nn + 1) (E ++ [⟨nn, 5000, ⟨#[]⟩⟩]) ms ga' cg' ha ch ((Y.setCell ⟨w.heap.size + 1, 3, none⟩ (.slice ga' (E.length + 1) cg')).setCell ⟨w.heap.size + 1, 2, none⟩ (.int .i64 (nn + 1)))) := hst6
              clear hlz2 hst5 hst6 hms k2g
              go_wp2_with (at_builtin; refine cpr.wpList_append_run rfl _ _ _ _ rfl _ _ _ rfl rfl hr ?_)
              clear hr d2 d3
              go_wp2
              go_roundw
              case rel => exact ⟨nn + 1, _, ga', cg', by rw [HLE.out]; omega, by rw [HLE.out]; omega, HSM6, HST6⟩
              case measure => rw [HLZ.out, HLZ2.out]; omega
            | false =>
              clear hcb
              have HSM2 : Hid (Sm 500 nn E ms) := HSM3
              have HTT : Hid (St p a len cap w lo nn E ms gg gc ha ch x3) := HS3
              clear HS3 d2 d3
              have c0 : x3.cell? ⟨w.heap.size + 1, 0, none⟩ = some (.string ⟨#[115]⟩) := bcell HTT.out.sb rfl
              have c1 : x3.cell? ⟨w.heap.size + 1, 1, none⟩ = some (.int .i64 lo) := bcell HTT.out.sb rfl
              have c2 : x3.cell? ⟨w.heap.size + 1, 2, none⟩ = some (.int .i64 nn) := bcell HTT.out.sb rfl
              have c3 : x3.cell? ⟨w.heap.size + 1, 3, none⟩ = some (.slice gg E.length gc) := bcell HTT.out.sb rfl
              have c4 : x3.cell? ⟨w.heap.size + 1, 4, none⟩ = some (.slice ha ms.length ch) := bcell HTT.out.sb rfl
              have q0 : x3.cell? ⟨w.heap.size, 0, none⟩ = some (.string ⟨#[]⟩) := bcell HTT.out.rb rfl
              have q1 : x3.cell? ⟨w.heap.size, 1, none⟩ = some (.int .i64 0) := bcell HTT.out.rb rfl
              have q2 : x3.cell? ⟨w.heap.size, 2, none⟩ = some (.int .i64 0) := bcell HTT.out.rb rfl
              have q3 : x3.cell? ⟨w.heap.size, 3, none⟩ = some (.slice none 0 0) := bcell HTT.out.rb rfl
              have q4 : x3.cell? ⟨w.heap.size, 4, none⟩ = some (.slice none 0 0) := bcell HTT.out.rb rfl
              have r0 := bfree HTT.out.rb 0
              have r1 := bfree HTT.out.rb 1
              have r2 := bfree HTT.out.rb 2
              have r3 := bfree HTT.out.rb 3
              have r4 := bfree HTT.out.rb 4
              have HDN : Hid (∀ y0 y1 y2 y3 y4, Dr w.heap.size (res5 x3 w.heap.size y0 y1 y2 y3 y4) E ms gg gc ha ch ∧ Cur (res5 x3 w.heap.size y0 y1 y2 y3 y4) p a len cap ∧ On p w (res5 x3 w.heap.size y0 y1 y2 y3 y4)) := fun y0 y1 y2 y3 y4 => HTT.out.done y0 y1 y2 y3 y4
              clear HTT
              go_wp2
              exact bodyPost_ret (v := .agg #[.string ⟨#[115]⟩, .int .i64 lo, .int .i64 nn, .slice gg E.length gc, .slice ha ms.length ch]) (by simp [results, Tryd.results19, go_sem, q0, q1, q2, q3, q4]) rfl ⟨⟨lo, nn, E, ms, gg, gc, ha, ch, rfl, HSM2.out, (HDN.out _ _ _ _ _).1⟩, (HDN.out _ _ _ _ _).2⟩
      by_cases z3 : z = 3
      · subst z3
        cases es with
        | nil =>
          have HSM2 : Hid (Sm 500 nx [] ms) := HSM.out.more (by omega)
          have HTT : Hid (St p a len cap w lo nx [] ms ga cg ha ch x1) := HT1
          clear HT1 c0 c1 c2 c3 c4 e0 e1 e2 e3 e4 q0 q1 q2 q3 q4 r0 r1 r2 r3 r4
          have c0 : x1.cell? ⟨w.heap.size + 1, 0, none⟩ = some (.string ⟨#[115]⟩) := bcell HTT.out.sb rfl
          have c1 : x1.cell? ⟨w.heap.size + 1, 1, none⟩ = some (.int .i64 lo) := bcell HTT.out.sb rfl
          have c2 : x1.cell? ⟨w.heap.size + 1, 2, none⟩ = some (.int .i64 nx) := bcell HTT.out.sb rfl
          have c3 : x1.cell? ⟨w.heap.size + 1, 3, none⟩ = some (.slice ga ([] : List flY.En).length cg) := bcell HTT.out.sb rfl
          have c4 : x1.cell? ⟨w.heap.size + 1, 4, none⟩ = some (.slice ha ms.length ch) := bcell HTT.out.sb rfl
          have q0 : x1.cell? ⟨w.heap.size, 0, none⟩ = some (.string ⟨#[]⟩) := bcell HTT.out.rb rfl
          have q1 : x1.cell? ⟨w.heap.size, 1, none⟩ = some (.int .i64 0) := bcell HTT.out.rb rfl
          have q2 : x1.cell? ⟨w.heap.size, 2, none⟩ = some (.int .i64 0) := bcell HTT.out.rb rfl
          have q3 : x1.cell? ⟨w.heap.size, 3, none⟩ = some (.slice none 0 0) := bcell HTT.out.rb rfl
          have q4 : x1.cell? ⟨w.heap.size, 4, none⟩ = some (.slice none 0 0) := bcell HTT.out.rb rfl
          have r0 := bfree HTT.out.rb 0
          have r1 := bfree HTT.out.rb 1
          have r2 := bfree HTT.out.rb 2
          have r3 := bfree HTT.out.rb 3
          have r4 := bfree HTT.out.rb 4
          have HDN : Hid (∀ y0 y1 y2 y3 y4, Dr w.heap.size (res5 x1 w.heap.size y0 y1 y2 y3 y4) [] ms ga cg ha ch ∧ Cur (res5 x1 w.heap.size y0 y1 y2 y3 y4) p a len cap ∧ On p w (res5 x1 w.heap.size y0 y1 y2 y3 y4)) := fun y0 y1 y2 y3 y4 => HTT.out.done y0 y1 y2 y3 y4
          clear HTT
          go_wp2
          exact bodyPost_ret (v := .agg #[.string ⟨#[115]⟩, .int .i64 lo, .int .i64 nx, .slice ga ([] : List flY.En).length cg, .slice ha ms.length ch]) (by simp [results, Tryd.results19, go_sem, q0, q1, q2, q3, q4]) rfl ⟨⟨lo, nx, [], ms, ga, cg, ha, ch, rfl, HSM2.out, (HDN.out _ _ _ _ _).1⟩, (HDN.out _ _ _ _ _).2⟩
        | cons e0' r0' =>
          obtain ⟨gg, gc, hgv⟩ := srd.own_form HT1.out.dr.oe
          obtain ⟨rfl, rfl⟩ : ga = some ⟨gg, 0, none⟩ ∧ cg = gc := by cases hgv; exact ⟨rfl, rfl⟩
          obtain ⟨k1, k1f, hst3⟩ := HT1.out.time (e := e0') 900000
          have hlen : 0 < r0'.length + 1 := by omega
          have hms := HSM.out
          have HSM2 : Hid (Sm 500 nx (⟨e0'.o, 900000, e0'.b⟩ :: r0') ms) := ⟨by have := hms.el; simp at this ⊢; omega, by have := hms.ml; omega, hms.n0, by omega, fun e he => by
            rcases List.mem_cons.1 he with rfl | he
            · exact hms.eb e0' (List.mem_cons_self ..)
            · exact hms.eb e (List.mem_cons_of_mem _ he), hms.mb⟩
          obtain ⟨x3, hx3⟩ : ∃ x3, x1.setCell ⟨gg, 1, none⟩ (.int .i64 900000) = x3 := ⟨_, rfl⟩
          rw [hx3] at hst3
          have HTT : Hid (St p a len cap w lo nx (⟨e0'.o, 900000, e0'.b⟩ :: r0') ms (some ⟨gg, 0, none⟩) cg ha ch x3) := hst3
          clear hst3 hms hgv q0 q1 q2 q3 q4 r0 r1 r2 r3 r4 c0 c1 c2 c4 e0 e1 e2 e3 e4
          have c0 : x3.cell? ⟨w.heap.size + 1, 0, none⟩ = some (.string ⟨#[115]⟩) := bcell HTT.out.sb rfl
          have c1 : x3.cell? ⟨w.heap.size + 1, 1, none⟩ = some (.int .i64 lo) := bcell HTT.out.sb rfl
          have c2 : x3.cell? ⟨w.heap.size + 1, 2, none⟩ = some (.int .i64 nx) := bcell HTT.out.sb rfl
          have c3 : x3.cell? ⟨w.heap.size + 1, 3, none⟩ = some (.slice (some ⟨gg, 0, none⟩) ((⟨e0'.o, 900000, e0'.b⟩ :: r0') : List flY.En).length cg) := bcell HTT.out.sb rfl
          have c4 : x3.cell? ⟨w.heap.size + 1, 4, none⟩ = some (.slice ha ms.length ch) := bcell HTT.out.sb rfl
          have q0 : x3.cell? ⟨w.heap.size, 0, none⟩ = some (.string ⟨#[]⟩) := bcell HTT.out.rb rfl
          have q1 : x3.cell? ⟨w.heap.size, 1, none⟩ = some (.int .i64 0) := bcell HTT.out.rb rfl
          have q2 : x3.cell? ⟨w.heap.size, 2, none⟩ = some (.int .i64 0) := bcell HTT.out.rb rfl
          have q3 : x3.cell? ⟨w.heap.size, 3, none⟩ = some (.slice none 0 0) := bcell HTT.out.rb rfl
          have q4 : x3.cell? ⟨w.heap.size, 4, none⟩ = some (.slice none 0 0) := bcell HTT.out.rb rfl
          have r0 := bfree HTT.out.rb 0
          have r1 := bfree HTT.out.rb 1
          have r2 := bfree HTT.out.rb 2
          have r3 := bfree HTT.out.rb 3
          have r4 := bfree HTT.out.rb 4
          have HDN : Hid (∀ y0 y1 y2 y3 y4, Dr w.heap.size (res5 x3 w.heap.size y0 y1 y2 y3 y4) (⟨e0'.o, 900000, e0'.b⟩ :: r0') ms (some ⟨gg, 0, none⟩) cg ha ch ∧ Cur (res5 x3 w.heap.size y0 y1 y2 y3 y4) p a len cap ∧ On p w (res5 x3 w.heap.size y0 y1 y2 y3 y4)) := fun y0 y1 y2 y3 y4 => HTT.out.done y0 y1 y2 y3 y4
          clear HTT
          go_wp2
          exact bodyPost_ret (v := .agg #[.string ⟨#[115]⟩, .int .i64 lo, .int .i64 nx, .slice (some ⟨gg, 0, none⟩) ((⟨e0'.o, 900000, e0'.b⟩ :: r0') : List flY.En).length cg, .slice ha ms.length ch]) (by simp [results, Tryd.results19, go_sem, q0, q1, q2, q3, q4]) rfl ⟨⟨lo, nx, (⟨e0'.o, 900000, e0'.b⟩ :: r0'), ms, (some ⟨gg, 0, none⟩), cg, ha, ch, rfl, HSM2.out, (HDN.out _ _ _ _ _).1⟩, (HDN.out _ _ _ _ _).2⟩
      have f0 : ((z : Int) == 0) = false := by simp; omega
      have f1 : ((z : Int) == 1) = false := by simp; omega
      have f2 : ((z : Int) == 2) = false := by simp; omega
      have f3 : ((z : Int) == 3) = false := by simp; omega
      have HSM2 : Hid (Sm 500 nx es ms) := HSM.out.more (by omega)
      have HTT : Hid (St p a len cap w lo nx es ms ga cg ha ch x1) := HT1
      clear HT1 c0 c1 c2 c3 c4 e0 e1 e2 e3 e4 q0 q1 q2 q3 q4 r0 r1 r2 r3 r4
      have c0 : x1.cell? ⟨w.heap.size + 1, 0, none⟩ = some (.string ⟨#[115]⟩) := bcell HTT.out.sb rfl
      have c1 : x1.cell? ⟨w.heap.size + 1, 1, none⟩ = some (.int .i64 lo) := bcell HTT.out.sb rfl
      have c2 : x1.cell? ⟨w.heap.size + 1, 2, none⟩ = some (.int .i64 nx) := bcell HTT.out.sb rfl
      have c3 : x1.cell? ⟨w.heap.size + 1, 3, none⟩ = some (.slice ga es.length cg) := bcell HTT.out.sb rfl
      have c4 : x1.cell? ⟨w.heap.size + 1, 4, none⟩ = some (.slice ha ms.length ch) := bcell HTT.out.sb rfl
      have q0 : x1.cell? ⟨w.heap.size, 0, none⟩ = some (.string ⟨#[]⟩) := bcell HTT.out.rb rfl
      have q1 : x1.cell? ⟨w.heap.size, 1, none⟩ = some (.int .i64 0) := bcell HTT.out.rb rfl
      have q2 : x1.cell? ⟨w.heap.size, 2, none⟩ = some (.int .i64 0) := bcell HTT.out.rb rfl
      have q3 : x1.cell? ⟨w.heap.size, 3, none⟩ = some (.slice none 0 0) := bcell HTT.out.rb rfl
      have q4 : x1.cell? ⟨w.heap.size, 4, none⟩ = some (.slice none 0 0) := bcell HTT.out.rb rfl
      have r0 := bfree HTT.out.rb 0
      have r1 := bfree HTT.out.rb 1
      have r2 := bfree HTT.out.rb 2
      have r3 := bfree HTT.out.rb 3
      have r4 := bfree HTT.out.rb 4
      have HDN : Hid (∀ y0 y1 y2 y3 y4, Dr w.heap.size (res5 x1 w.heap.size y0 y1 y2 y3 y4) es ms ga cg ha ch ∧ Cur (res5 x1 w.heap.size y0 y1 y2 y3 y4) p a len cap ∧ On p w (res5 x1 w.heap.size y0 y1 y2 y3 y4)) := fun y0 y1 y2 y3 y4 => HTT.out.done y0 y1 y2 y3 y4
      clear HTT
      go_wp2
      exact bodyPost_ret (v := .agg #[.string ⟨#[115]⟩, .int .i64 lo, .int .i64 nx, .slice ga es.length cg, .slice ha ms.length ch]) (by simp [results, Tryd.results19, go_sem, q0, q1, q2, q3, q4]) rfl ⟨⟨lo, nx, es, ms, ga, cg, ha, ch, rfl, HSM2.out, (HDN.out _ _ _ _ _).1⟩, (HDN.out _ _ _ _ _).2⟩
end Go.Proofs.YtlfhfcgcfggjcaaDoor.dst

/- The specification's draw of a key. -/
namespace Go.Proofs.YtlfhfcgcfggjcaaDoor.dp
set_option linter.unusedVariables false
open Go.ChangeShapes Go.WideShapes Go.ChangeAt Go.RowKit Go.Proofs.YtlfhfcgcfggjcaaDoor.dw

def abc : List ByteArray := [⟨#[97]⟩, ⟨#[98]⟩, ⟨#[99]⟩]
theorem abc_in : ∀ z ∈ abc, z.size ≤ 1 := by decide
def five : List ByteArray := [⟨#[97]⟩, ⟨#[98]⟩, ⟨#[42]⟩, ⟨#[35]⟩, ⟨#[]⟩]
theorem five_in : ∀ z ∈ five, z.size ≤ 1 := by decide
def six : List ByteArray := [⟨#[97]⟩, ⟨#[98]⟩, ⟨#[42]⟩, ⟨#[35]⟩, ⟨#[]⟩, ⟨#[99]⟩]
theorem six_in : ∀ z ∈ six, z.size ≤ 1 := by decide

set_option maxRecDepth 100000 in
set_option maxHeartbeats 1000000 in
theorem draw_key (p : Nat) (a : Option Addr) (len cap : Nat) (w : World) (hc : Cur w p a len cap) :
    Calls Tryd.prog 33 #[.pointer (some ⟨p, 0, none⟩)] w fun e w' => (∃ s : ByteArray, s.size ≤ 100 ∧ e = .returned (.string s)) ∧ Cur w' p a len cap ∧ On p w w' := by
  have hp := hc.lt
  have h1 := draw_pick p a len cap w.heap.size 5 five _ (by omega) (by omega) (at_texts w five 9) (hc.alloc _)
  clear hc
  go_enter Tryd.func33, Tryd.ntmps33
  have t1 : True := trivial
  go_wp2_with (first | (go_at_call 20; refine h1.mono ?_; rintro e w1 ⟨⟨z, hz, rfl⟩, hc1, hb1⟩) | (go_at_call 21; have _t := t1; refine (draw_below p a len cap 4 w1 (by omega) hc1).mono ?_; rintro e w2 ⟨⟨n, hn, rfl⟩, hc2, hb2⟩; clear t1))
  have hz1 := five_in z hz
  have hon : On p w w2 := (((On.refl p w).alloc _).trans hb1).trans hb2
  have HC2 : Hid (Cur w2 p a len cap) := hc2
  clear h1 hc1 hb1 hc2 hb2 hz
  go_loopw [3, 5] (fun y x wr => ∃ (j : Nat) (s : ByteArray), j ≤ n ∧ x = .int .i64 j ∧ y = .string s ∧ s.size ≤ 1 + 2 * j ∧ Hid (Cur wr p a len cap) ∧ On p w wr) (fun _ x _ => n - (intOf x).toNat)
  case atStart => exact ⟨0, z, Nat.zero_le _, rfl, rfl, by omega, HC2, hon⟩
  case round =>
    obtain ⟨j, s, hj, rfl, rfl, hs, hcur, honr⟩ := hrel
    have hpr := hcur.out.lt
    by_cases hjn : j < n
    · have g1 := draw_pick p a len cap wr.heap.size 6 six _ (by omega) (by omega) (at_texts wr six 9) (hcur.out.alloc _)
      have hs9 : s.size ≤ 1000 := by omega
      have HS : Hid (s.size ≤ 1 + 2 * j) := hs
      clear hs
      go_wp2_with (go_at_call 20; refine g1.mono ?_; rintro e x1 ⟨⟨y, hy, rfl⟩, hd1, hf1⟩; have hy1 := six_in y hy; clear hy)
      have HD1 : Hid (Cur x1 p a len cap) := hd1
      have hf2 := (honr.alloc (.cells (six.map Value.string).toArray 9)).trans hf1
      clear g1 hd1 hf1 hcur
      go_roundw
      case rel => exact ⟨j + 1, _, by omega, by go_num, rfl, by rw [ByteArray.size_append, ByteArray.size_append]; have := HS.out; have : (⟨#[46]⟩ : ByteArray).size = 1 := rfl; omega, HD1, hf2⟩
      case measure => simp [intOf]; omega
    · obtain rfl : j = n := by omega
      have g2 := draw_below p a len cap 30 wr (by omega) hcur.out
      have hs7 : s.size ≤ 7 := by omega
      clear hs hcur
      go_wp2_with (go_at_call 21; fail)
      refine g2.mono ?_
      rintro e x1 ⟨⟨c, hcc, rfl⟩, hd1, hf1⟩
      have hon1 := honr.trans hf1
      have HD1 : Hid (Cur x1 p a len cap) := hd1
      clear g2 hd1 hf1
      by_cases hc0 : c = 0
      · subst hc0
        go_wp2
        go_ret
        exact ⟨⟨_, by rw [ByteArray.size_append]; have : (⟨#[32]⟩ : ByteArray).size = 1 := rfl; omega, rfl⟩, HD1.out, hon1⟩
      · by_cases hc1 : c = 1
        · subst hc1
          go_wp2
          go_loopw [3] (fun y wq => ∃ (s : ByteArray), y = .string s ∧ s.size ≤ 61 ∧ Hid (Cur wq p a len cap) ∧ On p w wq) (fun y _ => 70 - (match y with | .string s => s.size | _ => 0))
          case atStart => exact ⟨s, rfl, by omega, HD1, hon1⟩
          case round =>
            obtain ⟨s2, rfl, hs2, hcur2, honr2⟩ := hrel
            have g3 := draw_below p a len cap 2 wr (by omega) hcur2.out
            clear hcur2
            go_wp2_with (go_at_call 21; fail)
            refine g3.mono ?_
            rintro e x2 ⟨⟨d, hd, rfl⟩, hd2, hf2⟩
            have HD2 : Hid (Cur x2 p a len cap) := hd2
            have hon2 := honr2.trans hf2
            clear g3 hd2 hf2
            by_cases hlt : s2.size < 60 + d
            · have hlt2 : (s2.size : Int) < 60 + (d : Int) := by omega
              go_wp2
              go_roundw
              case rel => exact ⟨s2 ++ ⟨#[120]⟩, rfl, by rw [ByteArray.size_append]; show s2.size + 1 ≤ 61; omega, HD2, hon2⟩
              case measure => show 70 - (s2 ++ (⟨#[120]⟩ : ByteArray)).size < 70 - s2.size; rw [ByteArray.size_append]; show 70 - (s2.size + 1) < _; omega
            · have hlt2 : ¬ (s2.size : Int) < 60 + (d : Int) := by omega
              go_wp2
              go_ret
              exact ⟨⟨s2, by omega, rfl⟩, HD2.out, hon2⟩
        · have e0 : ((c : Int) == 0) = false := by simp only [beq_eq_false_iff_ne]; omega
          have e1 : ((c : Int) == 1) = false := by simp only [beq_eq_false_iff_ne]; omega
          go_wp2
          go_ret
          exact ⟨⟨s, by omega, rfl⟩, HD1.out, hon1⟩

end Go.Proofs.YtlfhfcgcfggjcaaDoor.dp

/- As ChainDraw, with one operation more that makes memory wherever it comes: it waits for none of those with an effect, and one of them waits for it. -/
namespace Go.Proofs.YtlfhfcgcfggjcaaDoor.chf
open Go.Proofs.YtlfhfcgcfggjcaaDoor.dn
open Go.Proofs.YtlfhfcgcfggjcaaDoor.chn (on off up shut at_m next_m)
open Go.Proofs.YtlfhfcgcfggjcaaDoor.chd (But but_lookup)
set_option linter.unusedVariables false

/-- of the operations js the first k are done, j0 is done or not, and the world is as S says -/
def Cf {σ : Type} (l : List Oper) (js : List Nat) (j0 : Nat) (S : σ → Nat → Bool → World → Prop) (s : σ) (L : Nat → Bool) (w : World) : Prop :=
  (∀ (i : Nat) (o : Oper), l[i]? = some o → L i = true → ∀ e ∈ o.after, Region.binds .any e = true → L e.on = true) ∧
  ∃ k, k ≤ js.length ∧ (∀ (m j : Nat), js[m]? = some j → L j = decide (m < k)) ∧ S s k (L j0) w
section
variable {σ : Type} {P : Program} {act : Act} {ws : σ → List (Nat × Value)} {l : List Oper} {js : List Nat} {j0 : Nat} {S : σ → Nat → Bool → World → Prop} {Q : Exit → Act → World → Prop} {i : Nat} {o : Oper}
theorem k_le {L : Nat → Bool} {k m : Nat} (hc : ∀ (i : Nat) (o : Oper), l[i]? = some o → L i = true → ∀ e ∈ o.after, Region.binds .any e = true → L e.on = true) (hk : k ≤ js.length) (hL : ∀ (m j : Nat), js[m]? = some j → L j = decide (m < k)) (h0 : L i = false)
    (hm : m = js.length ∨ ∃ j oj, js[m]? = some j ∧ l[j]? = some oj ∧ ∃ e ∈ oj.after, Region.binds .any e = true ∧ e.on = i) : k ≤ m := by
  rcases hm with rfl | ⟨j, oj, hj, hoj, e, he, hb, hon⟩
  · exact hk
  · rcases Nat.lt_or_ge m k with h | h
    · have h1 : L j = true := by rw [hL m j hj]; simpa using h
      have := hc j oj hoj h1 e he hb
      rw [hon, h0] at this
      cases this
    · exact h
theorem quiet (m : Nat) (hl : l[i]? = some o) (hi : i ∉ js) (hi0 : i ≠ j0) (hm : m = js.length ∨ ∃ j oj, js[m]? = some j ∧ l[j]? = some oj ∧ ∃ e ∈ oj.after, Region.binds .any e = true ∧ e.on = i) (hsel : ∀ cs b, o.op ≠ .select cs b) (u : σ → Value)
    (hd : ∀ s d, o.dst = some d → (dk.sets act (ws s)).tmps[d]? = some (u s)) (hrun : ∀ s k b W, k ≤ m → S s k b W → (execOp (dk.sets act (ws s)).eval o).run P W = .ok (.value (u s)) W) : gt.Step P l.toArray (fun s => dk.sets act (ws s)) (Cf l js j0 S) Q i o := by
  refine gt.step_val hsel fun s L W hdp h0 hC => ⟨s, u s, gt.Turn.refl _ _ _, hd s, ?_⟩
  obtain ⟨hc, k, hk, hL, hS⟩ := hC
  rw [hrun s k _ W (k_le hc hk hL h0 hm) hS]
  refine ⟨rfl, shut hl hdp hc, k, hk, fun m' j hj => ?_, by rw [off L (Ne.symm hi0)]; exact hS⟩
  rw [off L (fun e => hi (by rw [← e]; exact List.mem_of_getElem? hj))]
  exact hL m' j hj
/-- the operation that makes memory wherever it comes -/
theorem free (m : Nat) (hl : l[i]? = some o) (hi : i ∉ js) (hi0 : i = j0) (hm : m = js.length ∨ ∃ j oj, js[m]? = some j ∧ l[j]? = some oj ∧ ∃ e ∈ oj.after, Region.binds .any e = true ∧ e.on = i) (zs qz : List Nat) (hz : cht.waitB l i [] zs = true) (hq : cht.slotB l zs qz = true) (hsel : ∀ cs b, o.op ≠ .select cs b)
    (h : ∀ s k W, k ≤ m → S s k false W → ∃ s' v w', But qz (ws s) (ws s') ∧ (∀ d, o.dst = some d → (dk.sets act (ws s')).tmps[d]? = some v) ∧ (execOp (dk.sets act (ws s)).eval o).run P W = .ok (.value v) w' ∧ S s' k true w') : gt.Step P l.toArray (fun s => dk.sets act (ws s)) (Cf l js j0 S) Q i o := by
  subst hi0
  refine gt.step_val hsel fun s L W hdp h0 hC => ?_
  obtain ⟨hc, k, hk, hL, hS⟩ := hC
  rw [h0] at hS
  obtain ⟨s', v, w', h1, h2, h3, h4⟩ := h s k W (k_le hc hk hL h0 hm) hS
  refine ⟨s', v, cht.turn_of (cht.wait_not hc h0 zs [] (fun y hy => by cases hy) hz) hq (but_lookup _ _ h1), h2, ?_⟩
  rw [h3]
  refine ⟨rfl, shut hl hdp hc, k, hk, fun m' j hj => ?_, by rw [on]; exact h4⟩
  rw [off L (fun e => hi (by rw [← e]; exact List.mem_of_getElem? hj))]
  exact hL m' j hj
theorem call (m : Nat) (zs qz : List Nat) (hz : cht.waitB l i [] zs = true) (hq : cht.slotB l zs qz = true) (hl : l[i]? = some o) (hnd : js.Nodup) (hi0 : i ≠ j0) (hm : js[m]? = some i) (hdep : m = 0 ∨ ∃ e ∈ o.after, Region.binds .any e = true ∧ js[m - 1]? = some e.on) (hsel : ∀ cs b, o.op ≠ .select cs b) (f : FuncId) (args : σ → Array Value)
    (h : ∀ s b W, ((∃ e ∈ o.after, Region.binds .any e = true ∧ e.on = j0) → b = true) → S s m b W → (execOp (dk.sets act (ws s)).eval o).run P W = .ok (.enter f (args s)) W ∧ Calls P f (args s) W fun e w' => ∃ s' v, e = .returned v ∧ But qz (ws s) (ws s') ∧ (∀ d, o.dst = some d → (dk.sets act (ws s')).tmps[d]? = some v) ∧ S s' (m + 1) b w') : gt.Step P l.toArray (fun s => dk.sets act (ws s)) (Cf l js j0 S) Q i o := by
  intro s L w a ha hdp h0 hC K hK
  obtain ⟨hc, k, hk, hL, hS⟩ := hC
  obtain rfl := at_m hL hm h0 hdep hdp
  obtain ⟨h1, h2⟩ := h s (L j0) w (fun ⟨e, he, hb, hon⟩ => by rw [← hon]; exact hdp e he hb) hS
  have hlt := (List.getElem?_eq_some_iff.1 hm).1
  unfold Oper.wp
  rw [execOp_congr o hsel ha, h1]
  simp only [Oper.upon]
  exact h2.mono fun e w' ⟨s', v, he, ht, hv, hS'⟩ => by
    subst he
    exact hK s' _ _ (cht.turn_of (cht.wait_not hc h0 zs [] (fun y hy => by cases hy) hz) hq (but_lookup _ _ ht)) hv ⟨shut hl hdp hc, k + 1, hlt, next_m hnd hm hL, by rw [off L (Ne.symm hi0)]; exact hS'⟩
theorem eff (m : Nat) (zs qz : List Nat) (hz : cht.waitB l i [] zs = true) (hq : cht.slotB l zs qz = true) (hl : l[i]? = some o) (hnd : js.Nodup) (hi0 : i ≠ j0) (hm : js[m]? = some i) (hdep : m = 0 ∨ ∃ e ∈ o.after, Region.binds .any e = true ∧ js[m - 1]? = some e.on) (hsel : ∀ cs b, o.op ≠ .select cs b)
    (h : ∀ s b W, S s m b W → ∃ s' v w', But qz (ws s) (ws s') ∧ (∀ d, o.dst = some d → (dk.sets act (ws s')).tmps[d]? = some v) ∧ (execOp (dk.sets act (ws s)).eval o).run P W = .ok (.value v) w' ∧ S s' (m + 1) b w') : gt.Step P l.toArray (fun s => dk.sets act (ws s)) (Cf l js j0 S) Q i o := by
  refine gt.step_val hsel fun s L W hdp h0 hC => ?_
  obtain ⟨hc, k, hk, hL, hS⟩ := hC
  obtain rfl := at_m hL hm h0 hdep hdp
  obtain ⟨s', v, w', h1, h2, h3, h4⟩ := h s _ W hS
  have hlt := (List.getElem?_eq_some_iff.1 hm).1
  refine ⟨s', v, cht.turn_of (cht.wait_not hc h0 zs [] (fun y hy => by cases hy) hz) hq (but_lookup _ _ h1), h2, ?_⟩
  rw [h3]
  exact ⟨rfl, shut hl hdp hc, k + 1, hlt, next_m hnd hm hL, by rw [off L (Ne.symm hi0)]; exact h4⟩
theorem sto (m : Nat) (hl : l[i]? = some o) (hnd : js.Nodup) (hi0 : i ≠ j0) (hm : js[m]? = some i) (hdep : m = 0 ∨ ∃ e ∈ o.after, Region.binds .any e = true ∧ js[m - 1]? = some e.on) (hsel : ∀ cs b, o.op ≠ .select cs b) (hdst : o.dst = none)
    (h : ∀ s b W, S s m b W → ∃ w', (execOp (dk.sets act (ws s)).eval o).run P W = .ok .skip w' ∧ S s (m + 1) b w') : gt.Step P l.toArray (fun s => dk.sets act (ws s)) (Cf l js j0 S) Q i o := by
  refine gt.step_val hsel fun s L W hdp h0 hC => ?_
  obtain ⟨hc, k, hk, hL, hS⟩ := hC
  obtain rfl := at_m hL hm h0 hdep hdp
  obtain ⟨w', h1, h2⟩ := h s _ W hS
  have hlt := (List.getElem?_eq_some_iff.1 hm).1
  refine ⟨s, undef, gt.Turn.refl _ _ _, fun d hd => (by rw [hdst] at hd; cases hd), ?_⟩
  rw [h1]
  exact ⟨rfl, shut hl hdp hc, k + 1, hlt, next_m hnd hm hL, by rw [off L (Ne.symm hi0)]; exact h2⟩
theorem region {id : Nat} {w : World} (ks : List Nat) (s0 : σ) (hm : P.follows .mixedOrders = true) (hok : okB l.toArray = true) (hw : ∀ g, (ws g).map (·.1) = ks) (hks : (ks.all fun t => keepB l t) = true) (hjs : ∀ j ∈ js, j < l.length) (hj0 : j0 < l.length) (hS : S s0 0 false w.drew)
    (hstep : gt.Each P l.toArray (fun g => dk.sets act (ws g)) (Cf l js j0 S) Q 0 l) (hend : ∀ s w', S s js.length true w' → Q .normal (dk.sets act (ws s)) w') : (Code.region id l.toArray true).wp P Q act w := by
  refine gt.region_ghost (fun g => dk.sets act (ws g)) (Cf l js j0 S) s0 hm hok (dk.sets_defers act _).symm (fun s => (dk.sets_size act (ws s)).symm) _ rfl (fun g => dk.kept_of _ (dk.keeps (ws g) (hw g) hks)) ⟨fun i o _ h => (by cases h), 0, Nat.zero_le _, fun m j _ => by simp, hS⟩ hstep fun s L w' hL hC => ?_
  obtain ⟨_, k, hk, hLk, hS'⟩ := hC
  rw [hL _ hj0] at hS'
  have : k = js.length := by
    rcases Nat.lt_or_ge k js.length with h | h
    · have h1 := hLk k js[k] (List.getElem?_eq_getElem h)
      rw [hL _ (hjs _ (List.getElem_mem h))] at h1
      simp at h1
    · omega
  subst this
  exact hend s w' hS'
end
end Go.Proofs.YtlfhfcgcfggjcaaDoor.chf
