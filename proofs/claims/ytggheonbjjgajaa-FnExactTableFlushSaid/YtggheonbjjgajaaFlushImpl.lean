/- The program's TableFlush. -/
import Derived.Test.YtggheonbjjgajaaFlushSpec
import Derived.Test.YtggheonbjjgajaaInsertRun
import Derived.Test.YtggheonbjjgajaaCopyTable
namespace Go.Proofs.Ytggheonbjjgajaa.fli
open Go.ChangeShapes Go.WideShapes Go.ChangeAt Go.RowKit Go.Proofs.Ytggheonbjjgajaa.fl Go.Proofs.Ytggheonbjjgajaa.fo Go.Proofs.Ytggheonbjjgajaa.rn Go.Proofs.Ytggheonbjjgajaa.tko Go.Proofs.Ytggheonbjjgajaa.fls Go.Proofs.Ytggheonbjjgajaa.tan
set_option linter.unusedVariables false

set_option maxRecDepth 100000 in
set_option maxHeartbeats 4000000 in
theorem impl_flush (ys : List flP.Pr) (rs : List Rn) (ya ra : Option Addr) (yc rc : Nat) (w : World) (F : tb.Fit ys rs) (hY : Row flP.c 3 w w.heap.size ya ys) (hR : VR w w.heap.size ra rs) :
    Calls Try.prog 29 #[.agg #[.slice ya ys.length yc, .slice ra rs.length rc]] w fun e w' => ∃ sa sc ta tc ks, e = .returned (.tuple #[.agg #[.slice sa (ansY ys (rs.map (·.l))).length sc, .slice ta (ansR ys (rs.map (·.l))).length tc], .bool (can ys (rs.map (·.l)))]) ∧ ks.map (·.l) = ansR ys (rs.map (·.l)) ∧ TA w' w.heap.size sa ta (ansY ys (rs.map (·.l))) ks ∧ Below w.heap.size w w' := by
  have hb : Below w.heap.size w ((w.alloc (.cells #[.slice ya ys.length yc, .slice ra rs.length rc] 27)).alloc (.cells #[.slice none 0 0, .slice none 0 0] 27)) := ((Below.refl _ _).alloc (Nat.le_refl _) _).alloc (by simp) _
  have hA := bold (bnew w #[.slice ya ys.length yc, .slice ra rs.length rc] 27) (.cells #[.slice none 0 0, .slice none 0 0] 27)
  have hRs := bnew (w.alloc (.cells #[.slice ya ys.length yc, .slice ra rs.length rc] 27)) #[.slice none 0 0, .slice none 0 0] 27
  rw [World.size_alloc] at hRs
  obtain ⟨W, hW⟩ : ∃ W, ((w.alloc (.cells #[.slice ya ys.length yc, .slice ra rs.length rc] 27)).alloc (.cells #[.slice none 0 0, .slice none 0 0] 27)) = W := ⟨_, rfl⟩
  rw [hW] at hb hA hRs
  have hcp := cpt.copy_table ys rs ya ra yc rc W F (hY.inn hb) (hR.inn hb)
  have HF : Hid (tb.Fit ys rs) := F
  have hrl := F.rl
  have HY : Hid (Row flP.c 3 w w.heap.size ya ys) := hY
  have HR : Hid (VR w w.heap.size ra rs) := hR
  have HA : Hid (W.heap[w.heap.size]? = some (.cells #[.slice ya ys.length yc, .slice ra rs.length rc] 27 (0, 0))) := hA
  have HRS : Hid (W.heap[w.heap.size + 1]? = some (.cells #[.slice none 0 0, .slice none 0 0] 27 (0, 0))) := hRs
  have hWs := (Array.getElem?_eq_some_iff.1 hRs).1
  have p0 : W.cell? ⟨w.heap.size, 0, none⟩ = some (.slice ya ys.length yc) := bcell hA rfl
  have p1 : W.cell? ⟨w.heap.size, 1, none⟩ = some (.slice ra rs.length rc) := bcell hA rfl
  clear hY hR hA hRs F
  go_enter Try.func29, Try.ntmps29
  go_wp2_with (go_at_call 60; fail)
  clear hW p0 p1
  refine hcp.mono ?_
  rintro e w2 ⟨g, h, ks, rfl, m2, hg2, hh2, ho2, hor2, hne2, hb2⟩
  have l2 : rs.length = ks.length := by have := congrArg List.length m2; simpa using this.symm
  have hal : Below w2.heap.size w2 (w2.alloc (.cells #[.slice (some ⟨g, 0, none⟩) ys.length ys.length, .slice (some ⟨h, 0, none⟩) rs.length rs.length] 27)) := (Below.refl _ _).alloc (Nat.le_refl _) _
  have hO := bnew w2 #[.slice (some ⟨g, 0, none⟩) ys.length ys.length, .slice (some ⟨h, 0, none⟩) rs.length rs.length] 27
  have of3 := ho2.below hal ho2.lt
  have or3 := hor2.on hal
  have hs2 := hb2.size
  have hgl := ho2.lt
  have hhl := hor2.lt
  obtain ⟨W3, hW3⟩ : ∃ W3, w2.alloc (.cells #[.slice (some ⟨g, 0, none⟩) ys.length ys.length, .slice (some ⟨h, 0, none⟩) rs.length rs.length] 27) = W3 := ⟨_, rfl⟩
  rw [hW3] at hal hO of3 or3
  have hB3 : Below W.heap.size W W3 := hb2.trans (hal.mono hs2)
  have hBw3 : Below w.heap.size w W3 := hb.trans (hB3.mono hb.size)
  have hok := impl_okb ys rs ya ra yc rc W3 HF.out (HY.out.inn hBw3) (HR.out.inn hBw3)
  have b3 := bstay HA.out hB3 (by omega)
  have c0 : W3.cell? ⟨w.heap.size, 0, none⟩ = some (.slice ya ys.length yc) := bcell b3 rfl
  have c1' : W3.cell? ⟨w.heap.size, 1, none⟩ = some (.slice ra rs.length rc) := bcell b3 rfl
  have HO : Hid (W3.heap[w2.heap.size]? = some (.cells #[.slice (some ⟨g, 0, none⟩) ys.length ys.length, .slice (some ⟨h, 0, none⟩) rs.length rs.length] 27 (0, 0))) := hO
  have HOF : Hid (Own flP.c 3 40 W3 g ys ys.length) := of3
  have HOR : Hid (OR W3 (W.heap.size + 2) h rs.length ks) := or3
  have HNE : Hid (∀ (i : Nat) (r : Rn), ks[i]? = some r → r.a ≠ some ⟨g, 0, none⟩) := hne2
  have HM : Hid (ks.map (·.l) = rs.map (·.l)) := m2
  have HL : Hid (rs.length = ks.length) := l2
  have hlt3 := (Array.getElem?_eq_some_iff.1 hO).1
  clear hcp ho2 hor2 hne2 hO of3 or3 m2 l2 hal b3
  go_wp2_with (go_at_call 20; fail)
  clear hW3
  refine hok.mono ?_
  rintro e w4 ⟨rfl, hb4⟩
  have b4 := bstay (bstay HA.out hB3 (by omega)) hb4 (by omega)
  have r4 := bstay (bstay HRS.out hB3 (by omega)) hb4 (by omega)
  have o4 := bstay HO.out hb4 hlt3
  have x0 : w4.cell? ⟨w.heap.size, 0, none⟩ = some (.slice ya ys.length yc) := bcell b4 rfl
  have x1 : w4.cell? ⟨w.heap.size, 1, none⟩ = some (.slice ra rs.length rc) := bcell b4 rfl
  have r0 : w4.cell? ⟨w.heap.size + 1, 0, none⟩ = some (.slice none 0 0) := bcell r4 rfl
  have r1 : w4.cell? ⟨w.heap.size + 1, 1, none⟩ = some (.slice none 0 0) := bcell r4 rfl
  have f0 := bfree r4 0
  have f1 := bfree r4 1
  have u0 : w4.cell? ⟨w2.heap.size, 0, none⟩ = some (.slice (some ⟨g, 0, none⟩) ys.length ys.length) := bcell o4 rfl
  have u1 : w4.cell? ⟨w2.heap.size, 1, none⟩ = some (.slice (some ⟨h, 0, none⟩) rs.length rs.length) := bcell o4 rfl
  have HOF4 : Hid (Own flP.c 3 40 w4 g ys ys.length) := HOF.out.below hb4 HOF.out.lt
  have HOR4 : Hid (OR w4 (W.heap.size + 2) h rs.length ks) := HOR.out.on hb4
  have hBw4 : Below w.heap.size w w4 := hBw3.trans (hb4.mono hBw3.size)
  have HR4 : Hid (w4.heap[w.heap.size + 1]? = some (.cells #[.slice none 0 0, .slice none 0 0] 27 (0, 0))) := r4
  obtain ⟨ob, hob⟩ : ∃ ob, okB ys (rs.map (·.l)) = ob := ⟨_, rfl⟩
  have HOB : Hid (okB ys (rs.map (·.l)) = ob) := hob
  rw [hob]
  have hWs4 : W.heap.size ≤ w4.heap.size := Nat.le_trans hB3.size hb4.size
  have hs34 : w2.heap.size < w4.heap.size := Nat.lt_of_lt_of_le hlt3 hb4.size
  clear hok c0 c1' b4 r4 o4 hob HOF HOR HO HA HRS hb4
  by_cases hc : ob = true ∧ ys.length ≠ 0 ∧ rs.length < 8
  · obtain ⟨rfl, hy0, hr8⟩ := hc
    have HC : Hid (can ys (rs.map (·.l)) = true) := can_true HOB.out hy0 (by simpa using hr8)
    have hy1 : ¬ (ys.length : Int) = 0 := by omega
    have hy2 : ((ys.length : Int) == 0) = false := by simp; exact (fun e => hy0 (by rw [e]; rfl))
    have hr9 : ((rs.length : Int) == 8) = false := by simp; omega
    have HOX : Hid (OR (w4.alloc (.cells #[.slice (some ⟨g, 0, none⟩) ys.length ys.length] 24)) (W.heap.size + 2) h rs.length ks) := HOR4.out.on ((Below.refl _ _).alloc (Nat.le_refl _) _)
    have hins := insr.insert_run ks h 0 (W.heap.size + 2) (some ⟨g, 0, none⟩) ys.length ys w4.heap.size (w4.alloc (.cells #[.slice (some ⟨g, 0, none⟩) ys.length ys.length] 24)) (Nat.zero_le _) (by rw [← HL.out]; omega) (by simp; omega) (or_owns (by rw [← HL.out]; exact HOX.out) hh2 (by rw [← HL.out]; unfold maxLen; omega)) (bnew w4 _ _)
    rw [← HL.out] at hins
    have u1' : (w4.alloc (.cells #[.slice (some ⟨g, 0, none⟩) ys.length ys.length] 24)).cell? ⟨w2.heap.size, 1, none⟩ = some (.slice (some ⟨h, 0, none⟩) rs.length rs.length) := by
      rw [World.cell?_of_block (a := ⟨w2.heap.size, 1, none⟩) (Below.heap_alloc w4 _ w2.heap.size (by omega))]
      exact u1
    go_wp2_with (go_at_call 67; fail)
    clear u0 u1 u1' x0 x1 r0 r1 f0 f1
    refine hins.mono ?_
    rintro e w5 ⟨g5, c5, rfl, hown5, hgr5⟩
    have hs5 : w4.heap.size + 1 ≤ w5.heap.size := by have := hgr5.size; simpa using this
    have hk5 : ∀ k, k < w4.heap.size → k ≠ h → w5.heap[k]? = w4.heap[k]? := fun k hk hkh => (hgr5.block k (by simp; omega) (fun e => hkh (Option.some.inj e))).trans (Below.heap_alloc w4 _ k hk)
    have r5 : w5.heap[w.heap.size + 1]? = some (.cells #[.slice none 0 0, .slice none 0 0] 27 (0, 0)) := (hk5 _ (by omega) (by omega)).trans HR4.out
    have q0 : w5.cell? ⟨w.heap.size + 1, 0, none⟩ = some (.slice none 0 0) := bcell r5 rfl
    have q1 : w5.cell? ⟨w.heap.size + 1, 1, none⟩ = some (.slice none 0 0) := bcell r5 rfl
    have e0 := bfree r5 0
    have e1 := bfree r5 1
    have HOWN : Hid (w5.ownsRow (W.heap.size + 2) 24 1 (.slice (some ⟨g5, 0, none⟩) (rs.length + 1) c5) (rs.length + 1) ((ks.take 0 ++ ⟨some ⟨g, 0, none⟩, ys.length, ys⟩ :: ks.drop 0).flatMap cR)) := hown5
    have HK5 : Hid (∀ k, k < w4.heap.size → k ≠ h → w5.heap[k]? = w4.heap[k]?) := hk5
    have HG5 : Hid ((w4.alloc (.cells #[.slice (some ⟨g, 0, none⟩) ys.length ys.length] 24)).grownBy w5 (some h)) := hgr5
    clear hins hown5 hgr5 hk5 r5
    go_wp2
    have hgk : ∀ (k : Nat), w5.heap[k]? = w4.heap[k]? → k ≠ w.heap.size + 1 → ((w5.setCell ⟨w.heap.size + 1, 0, none⟩ (.slice none 0 0)).setCell ⟨w.heap.size + 1, 1, none⟩ (.slice (some ⟨g5, 0, none⟩) (rs.length + 1) c5)).heap[k]? = w4.heap[k]? := fun k h1 h2 => ((Below.heap_setCell _ _ _ _ h2).trans (Below.heap_setCell _ _ _ _ h2)).trans h1
    have hk : w5.ownsRow (W.heap.size + 2) 24 1 (.slice (some ⟨g5, 0, none⟩) (rs.length + 1) c5) (rs.length + 1) ((⟨some ⟨g, 0, none⟩, ys.length, ys⟩ :: ks).flatMap cR) := HOWN.out
    have hk2 := sct.own_set (j := 1) (u := .slice (some ⟨g5, 0, none⟩) (rs.length + 1) c5) (sct.own_set (j := 0) (u := .slice none 0 0) hk (show w.heap.size + 1 < W.heap.size + 2 by omega)) (show w.heap.size + 1 < W.heap.size + 2 by omega)
    obtain ⟨cur5, hc5⟩ := sct.typed hk2 rfl
    have hg5l := (hk.lt g5 rfl).1
    have hrw := row_of cR_len (by simp [HL.out]) hk2
    have hgh : g ≠ h := by
      obtain ⟨cu, hcu, _⟩ := HOR4.out.blk
      exact own_ne (by decide) HOF4.out hcu
    refine bodyPost_ret (v := .tuple #[.agg #[.slice none 0 0, .slice (some ⟨g5, 0, none⟩) (rs.length + 1) c5], .bool true]) (by simp [results, Try.results29, go_sem, q0, q1]) rfl ⟨none, 0, some ⟨g5, 0, none⟩, c5, ⟨some ⟨g, 0, none⟩, ys.length, ys⟩ :: ks, ?_, ?_, ?_, ?_⟩
    · rw [(ans_yes HC.out).1, (ans_yes HC.out).2, HC.out]
      simp
    · rw [(ans_yes HC.out).2, ← HM.out]
      rfl
    · rw [(ans_yes HC.out).1]
      refine of_runs (.inl rfl) (by omega) hc5 hrw (fun i r hr => ?_) (fun i j r s hij hr hs => ?_) (fun i r hr k hk => absurd rfl hk.1)
      · cases i with
        | zero =>
          cases hr
          exact ⟨g, rfl, by omega, (of_own HOF4.out).kept (hgk g (HK5.out g (by omega) hgh) (by omega))⟩
        | succ i =>
          obtain ⟨h', e, _, hB', ho'⟩ := HOR4.out.own i r hr
          have hne : h' ≠ h := by
            obtain ⟨cu, hcu, _⟩ := HOR4.out.blk
            exact own_ne (by decide) ho' hcu
          exact ⟨h', e, by omega, (of_own ho').kept (hgk h' (HK5.out h' ho'.lt hne) (by omega))⟩
      · cases j with
        | zero => omega
        | succ j =>
          cases i with
          | zero =>
            cases hr
            exact (HNE.out j s hs).symm
          | succ i => exact HOR4.out.nd i j r s (by omega) hr hs
    · have hb5 : Below w.heap.size w w5 := ⟨HG5.out.os.trans hBw4.os, HG5.out.tape.trans hBw4.tape, HG5.out.output.trans hBw4.output, by have := hBw4.size; omega, fun k hk => (HK5.out k (by omega) (by omega)).trans (hBw4.block k hk)⟩
      exact (hb5.setCell (Nat.le_succ _) _).setCell (Nat.le_succ _) _
  · have HC : Hid (can ys (rs.map (·.l)) = false) := can_false HOB.out (by simpa using hc)
    have fin : ∀ w', w' = (w4.setCell ⟨w.heap.size + 1, 0, none⟩ (.slice (some ⟨g, 0, none⟩) ys.length ys.length)).setCell ⟨w.heap.size + 1, 1, none⟩ (.slice (some ⟨h, 0, none⟩) rs.length rs.length) → ks.map (·.l) = ansR ys (rs.map (·.l)) ∧ TA w' w.heap.size (some ⟨g, 0, none⟩) (some ⟨h, 0, none⟩) (ansY ys (rs.map (·.l))) ks ∧ Below w.heap.size w w' := fun w' hw' => by
      subst hw'
      refine ⟨by rw [HM.out, (ans_no HC.out).2], ?_, (hBw4.setCell (Nat.le_succ _) _).setCell (Nat.le_succ _) _⟩
      rw [(ans_no HC.out).1]
      refine of_own_runs (B' := W.heap.size + 2) ((HOF4.out.kept (Below.heap_setCell _ _ _ _ (show g ≠ w.heap.size + 1 by omega))).kept (Below.heap_setCell _ _ _ _ (show g ≠ w.heap.size + 1 by omega))) ?_ (by omega) (by omega) (by omega) HNE.out
      rw [← HL.out]
      exact (HOR4.out.set (by omega) (by omega) _ _).set (by omega) (by omega) _ _
    have HFN : Hid (∀ w', w' = (w4.setCell ⟨w.heap.size + 1, 0, none⟩ (.slice (some ⟨g, 0, none⟩) ys.length ys.length)).setCell ⟨w.heap.size + 1, 1, none⟩ (.slice (some ⟨h, 0, none⟩) rs.length rs.length) → ks.map (·.l) = ansR ys (rs.map (·.l)) ∧ TA w' w.heap.size (some ⟨g, 0, none⟩) (some ⟨h, 0, none⟩) (ansY ys (rs.map (·.l))) ks ∧ Below w.heap.size w w') := fin
    have HQ : Hid ((ansY ys (rs.map (·.l))).length = ys.length ∧ (ansR ys (rs.map (·.l))).length = rs.length) := by
      rw [(ans_no HC.out).1, (ans_no HC.out).2]
      exact ⟨rfl, by simp⟩
    clear fin
    cases ob
    · clear hc
      go_wp2
      refine bodyPost_ret (v := .tuple #[.agg #[.slice (some ⟨g, 0, none⟩) ys.length ys.length, .slice (some ⟨h, 0, none⟩) rs.length rs.length], .bool false]) (by simp [results, Try.results29, go_sem, r0, r1]) rfl ⟨some ⟨g, 0, none⟩, ys.length, some ⟨h, 0, none⟩, rs.length, ks, ?_, HFN.out _ rfl⟩
      rw [HQ.out.1, HQ.out.2, HC.out]
    · by_cases hy0 : ys.length = 0
      · obtain rfl : ys = [] := List.eq_nil_of_length_eq_zero hy0
        clear hy0 hc
        go_wp2
        refine bodyPost_ret (v := .tuple #[.agg #[.slice (some ⟨g, 0, none⟩) 0 0, .slice (some ⟨h, 0, none⟩) rs.length rs.length], .bool false]) (by simp [results, Try.results29, go_sem, r0, r1]) rfl ⟨some ⟨g, 0, none⟩, 0, some ⟨h, 0, none⟩, rs.length, ks, ?_, HFN.out _ rfl⟩
        rw [HQ.out.1, HQ.out.2, HC.out]
        rfl
      · have hy1 : ¬ (ys.length : Int) = 0 := by omega
        have hr8 : rs.length = 8 := by
          have h8 := (okB_true.1 HOB.out).rl
          simp at h8
          by_cases h : rs.length < 8
          · exact absurd ⟨rfl, hy0, h⟩ hc
          · omega
        have hr9 : ((rs.length : Int) == 8) = true := by simp; omega
        have hr10 : decide ((rs.length : Int) = 8) = true := by simp; omega
        clear hc hr8
        go_wp2
        refine bodyPost_ret (v := .tuple #[.agg #[.slice (some ⟨g, 0, none⟩) ys.length ys.length, .slice (some ⟨h, 0, none⟩) rs.length rs.length], .bool false]) (by simp [results, Try.results29, go_sem, r0, r1]) rfl ⟨some ⟨g, 0, none⟩, ys.length, some ⟨h, 0, none⟩, rs.length, ks, ?_, HFN.out _ rfl⟩
        rw [HQ.out.1, HQ.out.2, HC.out]
end Go.Proofs.Ytggheonbjjgajaa.fli
