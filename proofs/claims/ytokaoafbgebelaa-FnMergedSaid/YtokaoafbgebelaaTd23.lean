/- slices.Replace of two neighbours by one run that are not the last ones, in a row of runs that has no spare room. -/
import Derived.Test.YtokaoafbgebelaaTd04
import Derived.Test.YtokaoafbgebelaaTd22
import Derived.Test.YtokaoafbgebelaaTd17
import Derived.Deep.QuietTactic
import Derived.BigQuiet

/- The program's TableFlush. -/
namespace Go.Proofs.Ytokaoafbgebelaa.fli
open Go.ChangeShapes Go.WideShapes Go.ChangeAt Go.RowKit Go.Proofs.Ytokaoafbgebelaa.fl Go.Proofs.Ytokaoafbgebelaa.fo Go.Proofs.Ytokaoafbgebelaa.rn Go.Proofs.Ytokaoafbgebelaa.tko Go.Proofs.Ytokaoafbgebelaa.fls Go.Proofs.Ytokaoafbgebelaa.tan
set_option linter.unusedVariables false

set_option maxRecDepth 100000 in
set_option maxHeartbeats 4000000 in
theorem impl_flush (ys : List flP.Pr) (rs : List Rn) (ya ra : Option Addr) (yc rc : Nat) (w : World) (F : tb.Fit ys rs) (hY : Row flP.c 3 w w.heap.size ya ys) (hR : VR w w.heap.size ra rs) :
    Calls Try.prog 21 #[.agg #[.slice ya ys.length yc, .slice ra rs.length rc]] w fun e w' => ∃ sa sc ta tc ks, e = .returned (.tuple #[.agg #[.slice sa (ansY ys (rs.map (·.l))).length sc, .slice ta (ansR ys (rs.map (·.l))).length tc], .bool (can ys (rs.map (·.l)))]) ∧ (((ansY ys (rs.map (·.l))).length ≤ sc ∧ ta.isSome = true ∧ ∀ r ∈ ks, r.l.length ≤ r.c) ∧ ks.map (·.l) = ansR ys (rs.map (·.l))) ∧ TA w' w.heap.size sa ta (ansY ys (rs.map (·.l))) ks ∧ Below w.heap.size w w' := by
  have hb : Below w.heap.size w ((w.alloc (.cells #[.slice ya ys.length yc, .slice ra rs.length rc] 27)).alloc (.cells #[.slice none 0 0, .slice none 0 0] 27)) := ((Below.refl _ _).alloc (Nat.le_refl _) _).alloc (by simp) _
  have hA := bold (bnew w #[.slice ya ys.length yc, .slice ra rs.length rc] 27) (.cells #[.slice none 0 0, .slice none 0 0] 27)
  have hRs := bnew (w.alloc (.cells #[.slice ya ys.length yc, .slice ra rs.length rc] 27)) #[.slice none 0 0, .slice none 0 0] 27
  rw [World.size_alloc] at hRs
  obtain ⟨W, hW⟩ : ∃ W, ((w.alloc (.cells #[.slice ya ys.length yc, .slice ra rs.length rc] 27)).alloc (.cells #[.slice none 0 0, .slice none 0 0] 27)) = W := ⟨_, rfl⟩
  rw [hW] at hb hA hRs
  have hcp := cpt.copy_table ys rs ya ra yc rc W F (hY.inn hb) (hR.inn hb)
  have HF : Hid (tb.Fit ys rs) := F
  have hrl := F.rl
  have HY : Hid (Row flP.c 3 w w.heap.size ya ys) := hY
  have HR : Hid (VR w w.heap.size ra rs) := hR
  have HA : Hid (W.heap[w.heap.size]? = some (.cells #[.slice ya ys.length yc, .slice ra rs.length rc] 27 (0, 0))) := hA
  have HRS : Hid (W.heap[w.heap.size + 1]? = some (.cells #[.slice none 0 0, .slice none 0 0] 27 (0, 0))) := hRs
  have hWs := (Array.getElem?_eq_some_iff.1 hRs).1
  have p0 : W.cell? ⟨w.heap.size, 0, none⟩ = some (.slice ya ys.length yc) := bcell hA rfl
  have p1 : W.cell? ⟨w.heap.size, 1, none⟩ = some (.slice ra rs.length rc) := bcell hA rfl
  clear hY hR hA hRs F
  go_enter Try.func21, Try.ntmps21
  go_wp2_with (go_at_call 43; fail)
  clear hW p0 p1
  refine hcp.mono ?_
  rintro e w2 ⟨g, h, ks, rfl, m2, hg2, hh2, ho2, hor2, hne2, hb2⟩
  have l2 : rs.length = ks.length := by have := congrArg List.length m2; simpa using this.symm
  have hal : Below w2.heap.size w2 (w2.alloc (.cells #[.slice (some ⟨g, 0, none⟩) ys.length ys.length, .slice (some ⟨h, 0, none⟩) rs.length rs.length] 27)) := (Below.refl _ _).alloc (Nat.le_refl _) _
  have hO := bnew w2 #[.slice (some ⟨g, 0, none⟩) ys.length ys.length, .slice (some ⟨h, 0, none⟩) rs.length rs.length] 27
  have of3 := ho2.below hal ho2.lt
  have or3 := hor2.on hal
  have hs2 := hb2.size
  have hgl := ho2.lt
  have hhl := hor2.lt
  obtain ⟨W3, hW3⟩ : ∃ W3, w2.alloc (.cells #[.slice (some ⟨g, 0, none⟩) ys.length ys.length, .slice (some ⟨h, 0, none⟩) rs.length rs.length] 27) = W3 := ⟨_, rfl⟩
  rw [hW3] at hal hO of3 or3
  have hB3 : Below W.heap.size W W3 := hb2.trans (hal.mono hs2)
  have hBw3 : Below w.heap.size w W3 := hb.trans (hB3.mono hb.size)
  have hok := impl_okb ys rs ya ra yc rc W3 HF.out (HY.out.inn hBw3) (HR.out.inn hBw3)
  have b3 := bstay HA.out hB3 (by omega)
  have c0 : W3.cell? ⟨w.heap.size, 0, none⟩ = some (.slice ya ys.length yc) := bcell b3 rfl
  have c1' : W3.cell? ⟨w.heap.size, 1, none⟩ = some (.slice ra rs.length rc) := bcell b3 rfl
  have HO : Hid (W3.heap[w2.heap.size]? = some (.cells #[.slice (some ⟨g, 0, none⟩) ys.length ys.length, .slice (some ⟨h, 0, none⟩) rs.length rs.length] 27 (0, 0))) := hO
  have HCK : Hid (∀ r ∈ ks, r.l.length ≤ r.c) := fun k hk => by obtain ⟨j, hj⟩ := List.getElem?_of_mem hk; obtain ⟨_, _, hc, _⟩ := or3.own j k hj; omega
  have HOF : Hid (Own flP.c 3 40 W3 g ys ys.length) := of3
  have HOR : Hid (OR W3 (W.heap.size + 2) h rs.length ks) := or3
  have HNE : Hid (∀ (i : Nat) (r : Rn), ks[i]? = some r → r.a ≠ some ⟨g, 0, none⟩) := hne2
  have HM : Hid (ks.map (·.l) = rs.map (·.l)) := m2
  have HL : Hid (rs.length = ks.length) := l2
  have hlt3 := (Array.getElem?_eq_some_iff.1 hO).1
  clear hcp ho2 hor2 hne2 hO of3 or3 m2 l2 hal b3
  go_wp2_with (go_at_call 12; fail)
  clear hW3
  refine hok.mono ?_
  rintro e w4 ⟨rfl, hb4⟩
  have b4 := bstay (bstay HA.out hB3 (by omega)) hb4 (by omega)
  have r4 := bstay (bstay HRS.out hB3 (by omega)) hb4 (by omega)
  have o4 := bstay HO.out hb4 hlt3
  have x0 : w4.cell? ⟨w.heap.size, 0, none⟩ = some (.slice ya ys.length yc) := bcell b4 rfl
  have x1 : w4.cell? ⟨w.heap.size, 1, none⟩ = some (.slice ra rs.length rc) := bcell b4 rfl
  have r0 : w4.cell? ⟨w.heap.size + 1, 0, none⟩ = some (.slice none 0 0) := bcell r4 rfl
  have r1 : w4.cell? ⟨w.heap.size + 1, 1, none⟩ = some (.slice none 0 0) := bcell r4 rfl
  have f0 := bfree r4 0
  have f1 := bfree r4 1
  have u0 : w4.cell? ⟨w2.heap.size, 0, none⟩ = some (.slice (some ⟨g, 0, none⟩) ys.length ys.length) := bcell o4 rfl
  have u1 : w4.cell? ⟨w2.heap.size, 1, none⟩ = some (.slice (some ⟨h, 0, none⟩) rs.length rs.length) := bcell o4 rfl
  have HOF4 : Hid (Own flP.c 3 40 w4 g ys ys.length) := HOF.out.below hb4 HOF.out.lt
  have HOR4 : Hid (OR w4 (W.heap.size + 2) h rs.length ks) := HOR.out.on hb4
  have hBw4 : Below w.heap.size w w4 := hBw3.trans (hb4.mono hBw3.size)
  have HR4 : Hid (w4.heap[w.heap.size + 1]? = some (.cells #[.slice none 0 0, .slice none 0 0] 27 (0, 0))) := r4
  obtain ⟨ob, hob⟩ : ∃ ob, okB ys (rs.map (·.l)) = ob := ⟨_, rfl⟩
  have HOB : Hid (okB ys (rs.map (·.l)) = ob) := hob
  rw [hob]
  have hWs4 : W.heap.size ≤ w4.heap.size := Nat.le_trans hB3.size hb4.size
  have hs34 : w2.heap.size < w4.heap.size := Nat.lt_of_lt_of_le hlt3 hb4.size
  clear hok c0 c1' b4 r4 o4 hob HOF HOR HO HA HRS hb4
  by_cases hc : ob = true ∧ ys.length ≠ 0 ∧ rs.length < 8
  · obtain ⟨rfl, hy0, hr8⟩ := hc
    have HC : Hid (can ys (rs.map (·.l)) = true) := can_true HOB.out hy0 (by simpa using hr8)
    have hy1 : ¬ (ys.length : Int) = 0 := by omega
    have hy2 : ((ys.length : Int) == 0) = false := by simp; exact (fun e => hy0 (by rw [e]; rfl))
    have hr9 : ((rs.length : Int) == 8) = false := by simp; omega
    have HOX : Hid (OR (w4.alloc (.cells #[.slice (some ⟨g, 0, none⟩) ys.length ys.length] 24)) (W.heap.size + 2) h rs.length ks) := HOR4.out.on ((Below.refl _ _).alloc (Nat.le_refl _) _)
    have hins := insr.insert_run ks h 0 (W.heap.size + 2) (some ⟨g, 0, none⟩) ys.length ys w4.heap.size (w4.alloc (.cells #[.slice (some ⟨g, 0, none⟩) ys.length ys.length] 24)) (Nat.zero_le _) (by rw [← HL.out]; omega) (by simp; omega) (or_owns (by rw [← HL.out]; exact HOX.out) hh2 (by rw [← HL.out]; unfold maxLen; omega)) (bnew w4 _ _)
    rw [← HL.out] at hins
    have u1' : (w4.alloc (.cells #[.slice (some ⟨g, 0, none⟩) ys.length ys.length] 24)).cell? ⟨w2.heap.size, 1, none⟩ = some (.slice (some ⟨h, 0, none⟩) rs.length rs.length) := by
      rw [World.cell?_of_block (a := ⟨w2.heap.size, 1, none⟩) (Below.heap_alloc w4 _ w2.heap.size (by omega))]
      exact u1
    go_wp2_with (go_at_call 50; fail)
    clear u0 u1 u1' x0 x1 r0 r1 f0 f1
    refine hins.mono ?_
    rintro e w5 ⟨g5, c5, rfl, hown5, hgr5⟩
    have hs5 : w4.heap.size + 1 ≤ w5.heap.size := by have := hgr5.size; simpa using this
    have hk5 : ∀ k, k < w4.heap.size → k ≠ h → w5.heap[k]? = w4.heap[k]? := fun k hk hkh => (hgr5.block k (by simp; omega) (fun e => hkh (Option.some.inj e))).trans (Below.heap_alloc w4 _ k hk)
    have r5 : w5.heap[w.heap.size + 1]? = some (.cells #[.slice none 0 0, .slice none 0 0] 27 (0, 0)) := (hk5 _ (by omega) (by omega)).trans HR4.out
    have q0 : w5.cell? ⟨w.heap.size + 1, 0, none⟩ = some (.slice none 0 0) := bcell r5 rfl
    have q1 : w5.cell? ⟨w.heap.size + 1, 1, none⟩ = some (.slice none 0 0) := bcell r5 rfl
    have e0 := bfree r5 0
    have e1 := bfree r5 1
    have HOWN : Hid (w5.ownsRow (W.heap.size + 2) 24 1 (.slice (some ⟨g5, 0, none⟩) (rs.length + 1) c5) (rs.length + 1) ((ks.take 0 ++ ⟨some ⟨g, 0, none⟩, ys.length, ys⟩ :: ks.drop 0).flatMap cR)) := hown5
    have HK5 : Hid (∀ k, k < w4.heap.size → k ≠ h → w5.heap[k]? = w4.heap[k]?) := hk5
    have HG5 : Hid ((w4.alloc (.cells #[.slice (some ⟨g, 0, none⟩) ys.length ys.length] 24)).grownBy w5 (some h)) := hgr5
    clear hins hown5 hgr5 hk5 r5
    go_wp2
    have hgk : ∀ (k : Nat), w5.heap[k]? = w4.heap[k]? → k ≠ w.heap.size + 1 → ((w5.setCell ⟨w.heap.size + 1, 0, none⟩ (.slice none 0 0)).setCell ⟨w.heap.size + 1, 1, none⟩ (.slice (some ⟨g5, 0, none⟩) (rs.length + 1) c5)).heap[k]? = w4.heap[k]? := fun k h1 h2 => ((Below.heap_setCell _ _ _ _ h2).trans (Below.heap_setCell _ _ _ _ h2)).trans h1
    have hk : w5.ownsRow (W.heap.size + 2) 24 1 (.slice (some ⟨g5, 0, none⟩) (rs.length + 1) c5) (rs.length + 1) ((⟨some ⟨g, 0, none⟩, ys.length, ys⟩ :: ks).flatMap cR) := HOWN.out
    have hk2 := sct.own_set (j := 1) (u := .slice (some ⟨g5, 0, none⟩) (rs.length + 1) c5) (sct.own_set (j := 0) (u := .slice none 0 0) hk (show w.heap.size + 1 < W.heap.size + 2 by omega)) (show w.heap.size + 1 < W.heap.size + 2 by omega)
    obtain ⟨cur5, hc5⟩ := sct.typed hk2 rfl
    have hg5l := (hk.lt g5 rfl).1
    have hrw := row_of cR_len (by simp [HL.out]) hk2
    have hgh : g ≠ h := by
      obtain ⟨cu, hcu, _⟩ := HOR4.out.blk
      exact own_ne (by decide) HOF4.out hcu
    refine bodyPost_ret (v := .tuple #[.agg #[.slice none 0 0, .slice (some ⟨g5, 0, none⟩) (rs.length + 1) c5], .bool true]) (by simp [results, Try.results21, go_sem, q0, q1]) rfl ⟨none, 0, some ⟨g5, 0, none⟩, c5, ⟨some ⟨g, 0, none⟩, ys.length, ys⟩ :: ks, ?_, ?_, ?_, ?_⟩
    · rw [(ans_yes HC.out).1, (ans_yes HC.out).2, HC.out]
      simp
    · refine ⟨⟨by rw [(ans_yes HC.out).1]; exact Nat.le_refl _, rfl, fun r hr => ?_⟩, ?_⟩
      · rcases List.mem_cons.1 hr with rfl | hr
        · exact Nat.le_refl _
        · exact HCK.out r hr
      · rw [(ans_yes HC.out).2, ← HM.out]
        rfl
    · rw [(ans_yes HC.out).1]
      refine of_runs (.inl rfl) (by omega) hc5 hrw (fun i r hr => ?_) (fun i j r s hij hr hs => ?_) (fun i r hr k hk => absurd rfl hk.1)
      · cases i with
        | zero =>
          cases hr
          exact ⟨g, rfl, by omega, (of_own HOF4.out).kept (hgk g (HK5.out g (by omega) hgh) (by omega))⟩
        | succ i =>
          obtain ⟨h', e, _, hB', ho'⟩ := HOR4.out.own i r hr
          have hne : h' ≠ h := by
            obtain ⟨cu, hcu, _⟩ := HOR4.out.blk
            exact own_ne (by decide) ho' hcu
          exact ⟨h', e, by omega, (of_own ho').kept (hgk h' (HK5.out h' ho'.lt hne) (by omega))⟩
      · cases j with
        | zero => omega
        | succ j =>
          cases i with
          | zero =>
            cases hr
            exact (HNE.out j s hs).symm
          | succ i => exact HOR4.out.nd i j r s (by omega) hr hs
    · have hb5 : Below w.heap.size w w5 := ⟨HG5.out.os.trans hBw4.os, HG5.out.tape.trans hBw4.tape, HG5.out.output.trans hBw4.output, by have := hBw4.size; omega, fun k hk => (HK5.out k (by omega) (by omega)).trans (hBw4.block k hk)⟩
      exact (hb5.setCell (Nat.le_succ _) _).setCell (Nat.le_succ _) _
  · have HC : Hid (can ys (rs.map (·.l)) = false) := can_false HOB.out (by simpa using hc)
    have fin : ∀ w', w' = (w4.setCell ⟨w.heap.size + 1, 0, none⟩ (.slice (some ⟨g, 0, none⟩) ys.length ys.length)).setCell ⟨w.heap.size + 1, 1, none⟩ (.slice (some ⟨h, 0, none⟩) rs.length rs.length) → (((ansY ys (rs.map (·.l))).length ≤ ys.length ∧ (some (⟨h, 0, none⟩ : Addr)).isSome = true ∧ ∀ r ∈ ks, r.l.length ≤ r.c) ∧ ks.map (·.l) = ansR ys (rs.map (·.l))) ∧ TA w' w.heap.size (some ⟨g, 0, none⟩) (some ⟨h, 0, none⟩) (ansY ys (rs.map (·.l))) ks ∧ Below w.heap.size w w' := fun w' hw' => by
      subst hw'
      refine ⟨⟨⟨by rw [(ans_no HC.out).1]; exact Nat.le_refl _, rfl, HCK.out⟩, by rw [HM.out, (ans_no HC.out).2]⟩, ?_, (hBw4.setCell (Nat.le_succ _) _).setCell (Nat.le_succ _) _⟩
      rw [(ans_no HC.out).1]
      refine of_own_runs (B' := W.heap.size + 2) ((HOF4.out.kept (Below.heap_setCell _ _ _ _ (show g ≠ w.heap.size + 1 by omega))).kept (Below.heap_setCell _ _ _ _ (show g ≠ w.heap.size + 1 by omega))) ?_ (by omega) (by omega) (by omega) HNE.out
      rw [← HL.out]
      exact (HOR4.out.set (by omega) (by omega) _ _).set (by omega) (by omega) _ _
    have HFN : Hid (∀ w', w' = (w4.setCell ⟨w.heap.size + 1, 0, none⟩ (.slice (some ⟨g, 0, none⟩) ys.length ys.length)).setCell ⟨w.heap.size + 1, 1, none⟩ (.slice (some ⟨h, 0, none⟩) rs.length rs.length) → (((ansY ys (rs.map (·.l))).length ≤ ys.length ∧ (some (⟨h, 0, none⟩ : Addr)).isSome = true ∧ ∀ r ∈ ks, r.l.length ≤ r.c) ∧ ks.map (·.l) = ansR ys (rs.map (·.l))) ∧ TA w' w.heap.size (some ⟨g, 0, none⟩) (some ⟨h, 0, none⟩) (ansY ys (rs.map (·.l))) ks ∧ Below w.heap.size w w') := fin
    have HQ : Hid ((ansY ys (rs.map (·.l))).length = ys.length ∧ (ansR ys (rs.map (·.l))).length = rs.length) := by
      rw [(ans_no HC.out).1, (ans_no HC.out).2]
      exact ⟨rfl, by simp⟩
    clear fin
    cases ob
    · clear hc
      go_wp2
      refine bodyPost_ret (v := .tuple #[.agg #[.slice (some ⟨g, 0, none⟩) ys.length ys.length, .slice (some ⟨h, 0, none⟩) rs.length rs.length], .bool false]) (by simp [results, Try.results21, go_sem, r0, r1]) rfl ⟨some ⟨g, 0, none⟩, ys.length, some ⟨h, 0, none⟩, rs.length, ks, ?_, HFN.out _ rfl⟩
      rw [HQ.out.1, HQ.out.2, HC.out]
    · by_cases hy0 : ys.length = 0
      · obtain rfl : ys = [] := List.eq_nil_of_length_eq_zero hy0
        clear hy0 hc
        go_wp2
        refine bodyPost_ret (v := .tuple #[.agg #[.slice (some ⟨g, 0, none⟩) 0 0, .slice (some ⟨h, 0, none⟩) rs.length rs.length], .bool false]) (by simp [results, Try.results21, go_sem, r0, r1]) rfl ⟨some ⟨g, 0, none⟩, 0, some ⟨h, 0, none⟩, rs.length, ks, ?_, HFN.out _ rfl⟩
        rw [HQ.out.1, HQ.out.2, HC.out]
        rfl
      · have hy1 : ¬ (ys.length : Int) = 0 := by omega
        have hr8 : rs.length = 8 := by
          have h8 := (okB_true.1 HOB.out).rl
          simp at h8
          by_cases h : rs.length < 8
          · exact absurd ⟨rfl, hy0, h⟩ hc
          · omega
        have hr9 : ((rs.length : Int) == 8) = true := by simp; omega
        have hr10 : decide ((rs.length : Int) = 8) = true := by simp; omega
        clear hc hr8
        go_wp2
        refine bodyPost_ret (v := .tuple #[.agg #[.slice (some ⟨g, 0, none⟩) ys.length ys.length, .slice (some ⟨h, 0, none⟩) rs.length rs.length], .bool false]) (by simp [results, Try.results21, go_sem, r0, r1]) rfl ⟨some ⟨g, 0, none⟩, ys.length, some ⟨h, 0, none⟩, rs.length, ks, ?_, HFN.out _ rfl⟩
        rw [HQ.out.1, HQ.out.2, HC.out]
end Go.Proofs.Ytokaoafbgebelaa.fli

/- slices.Replace of two neighbours by one run, in a row of runs that has no spare room. -/
namespace Go.Proofs.Ytokaoafbgebelaa.rpl
open Go.ChangeShapes Go.WideShapes Go.ChangeAt Go.RowKit Go.Proofs.Ytokaoafbgebelaa.rn Go.Proofs.Ytokaoafbgebelaa.fl Go.Proofs.Ytokaoafbgebelaa.insr
set_option linter.unusedVariables false

/-- clear of one run's place -/
theorem run_clear (W : World) (g c o : Nat) (cur : Array Value) (ty : TypeId) (hg : W.heap[g]? = some (.cells cur 24 (0, 0))) (ho : o < cur.size) :
    (Builtin.clear_ #[25] ty #[.slice (some ⟨g, o, none⟩) 1 c]).run Try.prog W = .ok (.tuple #[]) (W.setRow g (cur.toList.take o ++ [Value.slice none 0 0] ++ cur.toList.drop (o + 1)).toArray) := by
  have hst := run_storeCells_at Try.prog g o 24 [Value.slice none 0 0] 0 cur W hg (by simp; omega) (by simp [Value.oneCell'])
  simp only [Nat.add_zero] at hst
  have hz := Try.zeroValue24
  simp only [Builtin.clear_]
  simp [run_underlying Try.underlying25, hz]
  rw [show (Builtin.zeroCells (Value.slice none 0 0).cells 1).toList = [Value.slice none 0 0] from by simp [Builtin.zeroCells, Value.cells], hst]
  simp
/-- what an owned row with no spare room is -/
theorem whole {w : World} {B n g : Nat} {U : TypeId} {xs : List Value} (h : w.ownsRow B U 1 (.slice (some ⟨g, 0, none⟩) n n) n xs) : B ≤ g ∧ n ≤ maxLen ∧ xs.length = n ∧ w.heap[g]? = some (.cells xs.toArray U (0, 0)) := by
  obtain ⟨h0, ⟨h1, _⟩ | ⟨g', cap', cur, h1, h2, h3, h4, h5, h6, h7⟩⟩ := h
  · cases h1
  cases h1
  have e : cur.toList = xs := by rw [← h7, List.take_of_length_le (by simp [h6])]
  refine ⟨h2, h5, by omega, ?_⟩
  rw [h3, ← e]
theorem gb_row {w w1 : World} {g : Nat} (h : w.grownBy w1 (some g)) (cs : Array Value) : w.grownBy (w1.setRow g cs) (some g) := h.trans ⟨rfl, rfl, rfl, by simp, fun k _ hk => setRow_other w1 g k _ (fun e => hk (by rw [e]))⟩

set_option maxRecDepth 100000 in
set_option maxHeartbeats 4000000 in
theorem replace_end (l : List Rn) (g i B : Nat) (xa : Option Addr) (xc : Nat) (xl : List flP.Pr) (ga : Nat) (w : World) (hi : i + 2 = l.length) (hl : l.length ≤ 1048576) (ho : w.ownsRow B 24 1 (.slice (some ⟨g, 0, none⟩) l.length l.length) l.length (l.flatMap cR)) (ha : w.heap[ga]? = some (.cells #[.slice xa xl.length xc] 24 (0, 0))) :
    Calls Try.prog 46 #[.slice (some ⟨g, 0, none⟩) l.length l.length, .int .i64 i, .int .i64 (i + 2 : Nat), .slice (some ⟨ga, 0, none⟩) 1 1] w fun r w' => r = .returned (.slice (some ⟨g, 0, none⟩) (i + 1) l.length) ∧ w'.ownsRow B 24 1 (.slice (some ⟨g, 0, none⟩) (i + 1) l.length) (i + 1) ((l.take i ++ [(⟨xa, xc, xl⟩ : Rn)]).flatMap cR) ∧ w.grownBy w' (some g) := by
  obtain ⟨i1, ki, kz0, kz1, kz2⟩ := infoX
  obtain ⟨hBg, hmx, hxl, hcur⟩ := whole ho
  have hnw : ∀ (j : Nat) (u : Value), [Value.slice xa xl.length xc][j]? = some u → w.cell? ((⟨ga, 0, none⟩ : Addr).add j) = some u := fun j u hu => by
    rw [add_at, Nat.zero_add]
    match j, hu with
    | 0, hu => cases hu; exact bcell ha rfl
    | j + 1, hu => simp at hu
  have hap := fun ty => run_append_room (P := Try.prog) w 25 ty 24 i1 Try.underlying25 ki g i l.length _ hcur ⟨ga, 0, none⟩ 1 1 [Value.slice xa xl.length xc] (by rw [kz1]; rfl) hnw (by simp [Value.oneCell']) (by omega) (by rw [kz1]; show i * 1 + 1 ≤ (l.flatMap cR).toArray.size; rw [List.size_toArray, hxl]; omega)
  rw [kz1] at hap
  simp only [Nat.mul_one, List.length_singleton] at hap
  obtain ⟨xs, hxs⟩ : ∃ xs, l.flatMap cR = xs := ⟨_, rfl⟩
  have htk : (l.take i).flatMap cR = xs.take i := by
    rw [← hxs, ← flat_take l i]
    have : ((l.take i).flatMap cR).length = i := by rw [flat_len cR_len, List.length_take]; omega
    rw [List.take_append_of_le_length (Nat.le_of_eq this.symm), List.take_of_length_le (Nat.le_of_eq this)]
  rw [hxs] at hap hxl hcur
  obtain ⟨n, hn⟩ : ∃ n, l.length = n := ⟨_, rfl⟩
  rw [hn] at hap hxl hi hl hmx
  simp only [hn]
  have hg1 := setRow_heap w g _ (xs.take i ++ [Value.slice xa xl.length xc] ++ xs.drop (i + 1)).toArray 24 _ hcur
  obtain ⟨W1, hW1⟩ : ∃ W1, w.setRow g (xs.take i ++ [Value.slice xa xl.length xc] ++ xs.drop (i + 1)).toArray = W1 := ⟨_, rfl⟩
  have hgr1 : w.grownBy W1 (some g) := by rw [← hW1]; exact gb_row (World.grownBy.refl _ _) _
  rw [hW1] at hap hg1
  have hcl := fun ty => run_clear W1 g 1 (i + 1) _ ty hg1 (by simp; omega)
  have hg2 := setRow_heap W1 g _ ((xs.take i ++ [Value.slice xa xl.length xc] ++ xs.drop (i + 1)).toArray.toList.take (i + 1) ++ [Value.slice none 0 0] ++ (xs.take i ++ [Value.slice xa xl.length xc] ++ xs.drop (i + 1)).toArray.toList.drop (i + 1 + 1)).toArray 24 _ hg1
  have hown : (W1.setRow g ((xs.take i ++ [Value.slice xa xl.length xc] ++ xs.drop (i + 1)).toArray.toList.take (i + 1) ++ [Value.slice none 0 0] ++ (xs.take i ++ [Value.slice xa xl.length xc] ++ xs.drop (i + 1)).toArray.toList.drop (i + 1 + 1)).toArray).ownsRow B 24 1 (.slice (some ⟨g, 0, none⟩) (i + 1) n) (i + 1) (xs.take i ++ [Value.slice xa xl.length xc]) := by
    refine owns_new (tl := [.slice none 0 0]) hg2 hBg ?_ (by simp; omega) (by omega) hmx (by simp; omega)
    have h1 : (xs.take i ++ [Value.slice xa xl.length xc]).length = i + 1 := by simp; omega
    show ((xs.take i ++ [Value.slice xa xl.length xc] ++ xs.drop (i + 1)).take (i + 1) ++ [Value.slice none 0 0] ++ (xs.take i ++ [Value.slice xa xl.length xc] ++ xs.drop (i + 1)).drop (i + 1 + 1)) = _
    rw [← h1, List.take_left, List.drop_eq_nil_of_le (by simp; omega), List.append_nil]
  have hgr2 := gb_row hgr1 ((xs.take i ++ [Value.slice xa xl.length xc] ++ xs.drop (i + 1)).toArray.toList.take (i + 1) ++ [Value.slice none 0 0] ++ (xs.take i ++ [Value.slice xa xl.length xc] ++ xs.drop (i + 1)).toArray.toList.drop (i + 1 + 1)).toArray
  obtain ⟨W2, hW2⟩ : ∃ W2, W1.setRow g ((xs.take i ++ [Value.slice xa xl.length xc] ++ xs.drop (i + 1)).toArray.toList.take (i + 1) ++ [Value.slice none 0 0] ++ (xs.take i ++ [Value.slice xa xl.length xc] ++ xs.drop (i + 1)).toArray.toList.drop (i + 1 + 1)).toArray = W2 := ⟨_, rfl⟩
  rw [hW2] at hcl hown hgr2
  have HFN : Hid (W2.ownsRow B 24 1 (.slice (some ⟨g, 0, none⟩) (i + 1) n) (i + 1) ((l.take i ++ [(⟨xa, xc, xl⟩ : Rn)]).flatMap cR) ∧ w.grownBy W2 (some g)) := by
    unfold Hid
    rw [List.flatMap_append, htk]
    exact ⟨by simpa [cR] using hown, hgr2⟩
  subst hi
  have hcl0 := hcl 0
  clear hown hgr2 hgr1 hg1 hg2 hW1 hW2 hcl htk hnw ho ha hcur
  go_enter Try.func46, Try.ntmps46
  go_wp2_with (at_builtin; refine cpr.wpList_append_run rfl _ _ 25 25 rfl _ _ _ rfl rfl (hap _) ?_)
  go_ret
  exact ⟨rfl, HFN.out⟩
end Go.Proofs.Ytokaoafbgebelaa.rpl

/- slices.Replace of two neighbours by one run that are not the last ones, in a row of runs that has no spare room. -/
namespace Go.Proofs.Ytokaoafbgebelaa.rpl
open Go.ChangeShapes Go.WideShapes Go.ChangeAt Go.RowKit Go.Proofs.Ytokaoafbgebelaa.rn Go.Proofs.Ytokaoafbgebelaa.fl Go.Proofs.Ytokaoafbgebelaa.insr
set_option linter.unusedVariables false

theorem gb_drew {w w1 : World} {g : Nat} (h : w.grownBy w1 (some g)) : w.grownBy w1.drew (some g) := by
  have hb : Below w1.heap.size w1 w1.drew := (Below.refl _ _).drew
  exact h.trans ⟨hb.os, hb.tape, hb.output, hb.size, fun k hk _ => hb.block k hk⟩
theorem gb_drewN {w : World} (g n : Nat) : w.grownBy (w.drewN n) (some g) := ⟨rfl, rfl, rfl, Nat.le_refl _, fun _ _ _ => rfl⟩
/-- the two copies and the clear, one behind the other -/
structure Mid (n i g ga : Nat) (xa : Option Addr) (xm xc B : Nat) (v : List Value) (w W0 W1 W2 W3 : World) : Prop where
  c1 : ∀ ty, (Builtin.copy_ #[25, 25] ty #[.slice (some ⟨g, i, none⟩) (n - 1 - i) (n - i), .slice (some ⟨ga, 0, none⟩) 1 1]).run Try.prog W0 = .ok (goInt 1) W1
  c2 : ∀ ty, (Builtin.copy_ #[25, 25] ty #[.slice (some ⟨g, i + 1, none⟩) (n - 1 - (i + 1)) (n - (i + 1)), .slice (some ⟨g, i + 2, none⟩) (n - (i + 2)) (n - (i + 2))]).run Try.prog W1.drew = .ok (goInt ((n - i - 2 : Nat) : Int)) W2
  c3 : ∀ ty, (Builtin.clear_ #[25] ty #[.slice (some ⟨g, n - 1, none⟩) 1 1]).run Try.prog W2 = .ok (.tuple #[]) W3
  own : W3.ownsRow B 24 1 (.slice (some ⟨g, 0, none⟩) (n - 1) n) (n - 1) v
  gr : w.grownBy W3 (some g)
set_option maxRecDepth 100000 in
set_option maxHeartbeats 4000000 in
theorem mid_way (l : List Rn) (g i B : Nat) (xa : Option Addr) (xc : Nat) (xl : List flP.Pr) (ga : Nat) (w W0 : World) (h0 : W0.heap = w.heap) (hgr0 : w.grownBy W0 (some g)) (hi : i + 2 < l.length) (hl : l.length ≤ 1048576) (hga : ga ≠ g) (ho : w.ownsRow B 24 1 (.slice (some ⟨g, 0, none⟩) l.length l.length) l.length (l.flatMap cR)) (ha : w.heap[ga]? = some (.cells #[.slice xa xl.length xc] 24 (0, 0))) :
    ∃ W1 W2 W3, Mid l.length i g ga xa xl.length xc B ((l.take i ++ (⟨xa, xc, xl⟩ : Rn) :: l.drop (i + 2)).flatMap cR) w W0 W1 W2 W3 := by
  obtain ⟨i1, ki, kz0, kz1, kz2⟩ := infoX
  obtain ⟨hBg, hmx, hxl, hcur⟩ := whole ho
  have hnw : ∀ (j : Nat) (u : Value), [Value.slice xa xl.length xc][j]? = some u → W0.cell? ((⟨ga, 0, none⟩ : Addr).add j) = some u := fun j u hu => by
    rw [add_at, Nat.zero_add]
    match j, hu with
    | 0, hu => cases hu; exact bcell (by rw [h0]; exact ha) rfl
    | j + 1, hu => simp at hu
  obtain ⟨n, hn⟩ : ∃ n, l.length = n := ⟨_, rfl⟩
  have hx1l : ((l.take i).flatMap cR).length = i := by rw [flat_len cR_len, List.length_take]; omega
  have hrl : ((l.drop i).flatMap cR).length = n - i := by rw [flat_len cR_len, List.length_drop]; omega
  have hcl : ((l.drop (i + 2)).flatMap cR).length = n - i - 2 := by rw [flat_len cR_len, List.length_drop]; omega
  have hrd : ((l.drop i).flatMap cR).drop 2 = (l.drop (i + 2)).flatMap cR := by
    have h1 : l.drop i = l[i]'(by omega) :: l[i + 1]'(by omega) :: l.drop (i + 2) := by
      rw [List.drop_eq_getElem_cons (show i < l.length by omega), List.drop_eq_getElem_cons (show i + 1 < l.length by omega)]
    have h2 : (l.drop i).flatMap cR = (l[i]'(by omega) :: l[i + 1]'(by omega) :: l.drop (i + 2)).flatMap cR := congrArg (List.flatMap cR) h1
    rw [h2, List.flatMap_cons, List.flatMap_cons]
    rfl
  have hone : ∀ u ∈ (l.drop (i + 2)).flatMap cR, u.oneCell' = true := oneX _
  rw [← flat_take l i] at hcur
  have hfl : (l.take i ++ (⟨xa, xc, xl⟩ : Rn) :: l.drop (i + 2)).flatMap cR = (l.take i).flatMap cR ++ [Value.slice xa xl.length xc] ++ (l.drop (i + 2)).flatMap cR := by simp [cR]
  rw [hfl]
  obtain ⟨xs, hxs⟩ : ∃ xs, (l.take i).flatMap cR = xs := ⟨_, rfl⟩
  obtain ⟨rest, hrest⟩ : ∃ rest, (l.drop i).flatMap cR = rest := ⟨_, rfl⟩
  obtain ⟨cs, hcs⟩ : ∃ cs, (l.drop (i + 2)).flatMap cR = cs := ⟨_, rfl⟩
  rw [hxs] at hx1l hcur ⊢
  rw [hrest] at hrl hcur hrd
  rw [hcs] at hcl hrd hone ⊢
  rw [hn] at hi hl hmx
  simp only [hn]
  have hmin1 : Nat.min 1 (n - 1 - i) = 1 := Nat.min_eq_left (by omega)
  have hmin2 : Nat.min (n - (i + 2)) (n - 1 - (i + 1)) = n - i - 2 := by rw [show n - 1 - (i + 1) = n - (i + 2) by omega]; exact (Nat.min_self _).trans (by omega)
  have hcurd : W0.heap[g]? = some (.cells (xs ++ rest).toArray 24 (0, 0)) := by rw [h0]; exact hcur
  have hc1 := fun ty => cpr.run_copy_rows (P := Try.prog) W0 25 25 ty 24 i1 g i (n - 1 - i) (n - i) ⟨ga, 0, none⟩ 1 1 (xs ++ rest).toArray 24 [Value.slice xa xl.length xc] Try.underlying25 ki hcurd (by rw [kz1, hmin1]; rfl) hnw (by simp; omega) (by simp [Value.oneCell'])
  rw [hmin1] at hc1
  simp only [show ([Value.slice xa xl.length xc] : List Value).length = 1 from rfl] at hc1
  obtain ⟨A1, hA1⟩ : ∃ A1 : List Value, (xs ++ rest).take i ++ [Value.slice xa xl.length xc] ++ (xs ++ rest).drop (i + 1) = A1 := ⟨_, rfl⟩
  have hc1 : ∀ ty, (Builtin.copy_ #[25, 25] ty #[.slice (some ⟨g, i, none⟩) (n - 1 - i) (n - i), .slice (some ⟨ga, 0, none⟩) 1 1]).run Try.prog W0 = .ok (goInt 1) (W0.setRow g A1.toArray) := fun ty => by rw [← hA1]; exact hc1 ty
  have hA1l : A1.length = n := by rw [← hA1]; simp; omega
  have hg1 := setRow_heap W0 g _ A1.toArray 24 _ hcurd
  have hgr1 : w.grownBy (W0.setRow g A1.toArray) (some g) := gb_row hgr0 _
  obtain ⟨W1, hW1⟩ : ∃ W1, W0.setRow g A1.toArray = W1 := ⟨_, rfl⟩
  rw [hW1] at hc1 hg1 hgr1
  have hA1d : A1.drop (i + 2) = cs := by
    rw [← hA1, ← hrd]
    have h1 : (xs ++ rest).take i = xs := by rw [← hx1l, List.take_left]
    have h2 : (xs ++ rest).drop (i + 1) = rest.drop 1 := by rw [← hx1l, List.drop_append, List.drop_eq_nil_of_le (by omega), List.nil_append]; congr 1; omega
    rw [h1, h2, List.drop_append, List.drop_eq_nil_of_le (by simp; omega), List.nil_append, List.drop_drop]
    congr 1
    simp
    omega
  have hc2 := fun ty => cpr.run_copy_rows (P := Try.prog) W1.drew 25 25 ty 24 i1 g (i + 1) (n - 1 - (i + 1)) (n - (i + 1)) ⟨g, i + 2, none⟩ (n - (i + 2)) (n - (i + 2)) A1.toArray 24 cs Try.underlying25 ki hg1 (by rw [kz1, hmin2, hcl]; omega) (fun j u hu => by
    rw [add_at]
    have hg1' : W1.drew.heap[g]? = some (.cells A1.toArray 24 (0, 0)) := hg1
    refine bcell hg1' ?_
    rw [← hA1d, List.getElem?_drop] at hu
    simpa using hu) (by simp; omega) hone
  rw [hmin2] at hc2
  have htwo : A1.take (i + 1) ++ cs ++ A1.drop (i + 1 + cs.length) = xs ++ [Value.slice xa xl.length xc] ++ cs ++ rest.drop (1 + cs.length) := by
    rw [← hA1]
    exact two_copies (v := [Value.slice xa xl.length xc]) hx1l rfl (by show 1 + cs.length ≤ rest.length; omega)
  obtain ⟨A2, hA2⟩ : ∃ A2 : List Value, xs ++ [Value.slice xa xl.length xc] ++ cs ++ rest.drop (1 + cs.length) = A2 := ⟨_, rfl⟩
  have hc2 : ∀ ty, (Builtin.copy_ #[25, 25] ty #[.slice (some ⟨g, i + 1, none⟩) (n - 1 - (i + 1)) (n - (i + 1)), .slice (some ⟨g, i + 2, none⟩) (n - (i + 2)) (n - (i + 2))]).run Try.prog W1.drew = .ok (goInt ((n - i - 2 : Nat) : Int)) (W1.drew.setRow g A2.toArray) := fun ty => by rw [← hA2, ← htwo]; exact hc2 ty
  have hA2l : A2.length = n := by rw [← hA2]; simp; omega
  have hg2 := setRow_heap W1.drew g _ A2.toArray 24 _ hg1
  have hgr2 : w.grownBy (W1.drew.setRow g A2.toArray) (some g) := gb_row (gb_drew hgr1) _
  obtain ⟨W2, hW2⟩ : ∃ W2, W1.drew.setRow g A2.toArray = W2 := ⟨_, rfl⟩
  rw [hW2] at hc2 hg2 hgr2
  have hcr := fun ty => run_clear W2 g 1 (n - 1) _ ty hg2 (by simp; omega)
  have hg3 := setRow_heap W2 g _ (A2.take (n - 1) ++ [Value.slice none 0 0] ++ A2.drop (n - 1 + 1)).toArray 24 _ hg2
  have hgr3 := gb_row hgr2 (A2.take (n - 1) ++ [Value.slice none 0 0] ++ A2.drop (n - 1 + 1)).toArray
  refine ⟨W1, W2, _, hc1, hc2, hcr, ?_, hgr3⟩
  refine owns_new (tl := [Value.slice none 0 0]) hg3 hBg ?_ (by simp; omega) (by omega) hmx (by simp; omega)
  have h1 : (xs ++ [Value.slice xa xl.length xc] ++ cs).length = n - 1 := by simp; omega
  have h2 : A2.take (n - 1) = xs ++ [Value.slice xa xl.length xc] ++ cs := by rw [← hA2, ← h1, List.take_left]
  rw [h2, List.drop_eq_nil_of_le (by omega), List.append_nil]
def wsM (g ga i n : Nat) : List (Nat × Value) := [(98, .slice (some ⟨g, 0, none⟩) (n - 1) n), (99, .int .i64 i), (100, .slice (some ⟨ga, 0, none⟩) 1 1), (101, .int .i64 1), (102, .int .i64 ((i : Int) + 1)), (103, .slice (some ⟨g, i + 1, none⟩) (n - 1 - (i + 1)) (n - (i + 1))), (104, .slice (some ⟨g, 0, none⟩) n n), (105, .int .i64 ((i : Int) + 2)), (106, .slice (some ⟨g, i + 2, none⟩) (n - (i + 2)) (n - (i + 2))), (107, .int .i64 ((n - i - 2 : Nat) : Int))]
set_option maxRecDepth 100000 in
set_option maxHeartbeats 4000000 in
theorem replace_mid (l : List Rn) (g i B : Nat) (xa : Option Addr) (xc : Nat) (xl : List flP.Pr) (ga : Nat) (w : World) (hi : i + 2 < l.length) (hl : l.length ≤ 1048576) (hga : ga ≠ g) (ho : w.ownsRow B 24 1 (.slice (some ⟨g, 0, none⟩) l.length l.length) l.length (l.flatMap cR)) (ha : w.heap[ga]? = some (.cells #[.slice xa xl.length xc] 24 (0, 0))) :
    Calls Try.prog 46 #[.slice (some ⟨g, 0, none⟩) l.length l.length, .int .i64 i, .int .i64 (i + 2 : Nat), .slice (some ⟨ga, 0, none⟩) 1 1] w fun r w' => r = .returned (.slice (some ⟨g, 0, none⟩) (l.length - 1) l.length) ∧ w'.ownsRow B 24 1 (.slice (some ⟨g, 0, none⟩) (l.length - 1) l.length) (l.length - 1) ((l.take i ++ (⟨xa, xc, xl⟩ : Rn) :: l.drop (i + 2)).flatMap cR) ∧ w.grownBy w' (some g) := by
  have hmid := fun nq => mid_way l g i B xa xc xl ga w (w.drewN nq) rfl (gb_drewN g nq) hi hl hga ho ha
  have HM : Hid (∀ nq, ∃ W1 W2 W3, Mid l.length i g ga xa xl.length xc B ((l.take i ++ (⟨xa, xc, xl⟩ : Rn) :: l.drop (i + 2)).flatMap cR) w (w.drewN nq) W1 W2 W3) := hmid
  obtain ⟨n, hn⟩ : ∃ n, l.length = n := ⟨_, rfl⟩
  rw [hn] at HM hi hl
  simp only [hn]
  clear hmid ho ha hn hga
  go_enter Try.func46, Try.ntmps46
  go_wp2
  go_quiet (fail)
  obtain ⟨W1, W2, W3, hm⟩ := HM.out nq
  have etot : (i : Int) + 1 + ((n - (i + 2) : Nat) : Int) = ((n - 1 : Nat) : Int) := by omega
  rw [etot]
  obtain ⟨W0, hW0⟩ : ∃ W0, w.drewN nq = W0 := ⟨_, rfl⟩
  rw [hW0] at hm ⊢
  have hc1 := hm.c1
  have hc3 : (Builtin.clear_ #[25] 0 #[.slice (some ⟨g, n - 1, none⟩) (n - (n - 1)) (n - (n - 1))]).run Try.prog W2 = .ok (.tuple #[]) W3 := by rw [show n - (n - 1) = 1 by omega]; exact hm.c3 0
  have r6 : ¬ n = n - 1 := by omega
  have HMM : Hid (Mid n i g ga xa xl.length xc B (List.flatMap cR (List.take i l ++ { a := xa, c := xc, l := xl } :: List.drop (i + 2) l)) w W0 W1 W2 W3) := hm
  have r1 : n - 1 ≤ n := by omega
  have r2 : i ≤ n - 1 := by omega
  have r3 : ¬ n = i := by omega
  have r4 : ¬ ((n : Int) < ((n - 1 : Nat) : Int)) := by omega
  have r5 : (i : Int) + 1 ≤ (i : Int) + 2 := by omega
  clear hW0 HM hm etot
  go_wp2_with (at_builtin; refine cpr.wpList_copy_run rfl _ _ 25 25 rfl _ _ _ rfl rfl (hc1 _) ?_)
  have i9 : IntKind.i64.wrap ((i : Int) + 1) = (i : Int) + 1 := by rw [IntKind.wrap_i64]; omega
  have s1 : (0 : Int) ≤ (i : Int) + 1 := by omega
  have s2 : i + 1 ≤ n - 1 := by omega
  have s3 : ¬ n = i + 1 := by omega
  have s4 : (0 : Int) ≤ (i : Int) + 2 := by omega
  have s9 : (i : Int) + 2 ≤ (n : Int) := by omega
  have s5 : i + 2 ≤ n := by omega
  have s6 : ¬ n = i + 2 := by omega
  have s7 : ((i : Int) + 1).toNat = i + 1 := by omega
  have s8 : ((i : Int) + 2).toNat = i + 2 := by omega
  have hc2 := HMM.out.c2
  refine dk.region_sets (wsM g ga i n) [98, 99, 100, 101, 102, 103, 104, 105, 106, 107] (dk.Cl (fun b W => W = if b then W2 else W1.drew) 9) (by kernel_rfl) (by kernel_rfl) rfl (by kernel_rfl) rfl ?each ?fin
  case each =>
    refine ⟨dk.q (by decide) (.slice (some ⟨g, 0, none⟩) (n - 1) n) (by rintro _ ⟨⟩; exact dk.sets_on _ (by simp) _ rfl) (fun b W h => by simp [execOp, go_sem, Act.eval, dk.sets_get, wsM, List.lookup]), ?_⟩
    refine ⟨dk.q (by decide) (.int .i64 i) (by rintro _ ⟨⟩; exact dk.sets_on _ (by simp) _ rfl) (fun b W h => by simp [execOp, go_sem, Act.eval, dk.sets_get, wsM, List.lookup]), ?_⟩
    refine ⟨dk.q (by decide) (.slice (some ⟨ga, 0, none⟩) 1 1) (by rintro _ ⟨⟩; exact dk.sets_on _ (by simp) _ rfl) (fun b W h => by simp [execOp, go_sem, Act.eval, dk.sets_get, wsM, List.lookup]), ?_⟩
    refine ⟨dk.q (by decide) (.int .i64 1) (by rintro _ ⟨⟩; exact dk.sets_on _ (by simp) _ rfl) (fun b W h => by simp [go_sem, Act.eval, dk.sets_get, wsM, List.lookup]), ?_⟩
    refine ⟨dk.q (by decide) (.int .i64 ((i : Int) + 1)) (by rintro _ ⟨⟩; exact dk.sets_on _ (by simp) _ rfl) (fun b W h => by simp [execOp, go_sem, Act.eval, dk.sets_get, wsM, List.lookup, i9]), ?_⟩
    refine ⟨dk.q (by decide) (.slice (some ⟨g, i + 1, none⟩) (n - 1 - (i + 1)) (n - (i + 1))) (by rintro _ ⟨⟩; exact dk.sets_on _ (by simp) _ rfl) (fun b W h => by simp [execOp, go_sem, Act.eval, dk.sets_get, wsM, List.lookup, s1, s3]; intro h'; omega), ?_⟩
    refine ⟨dk.q (by decide) (.slice (some ⟨g, 0, none⟩) n n) (by rintro _ ⟨⟩; exact dk.sets_on _ (by simp) _ rfl) (fun b W h => by simp [execOp, go_sem, Act.eval, dk.sets_get, wsM, List.lookup]), ?_⟩
    refine ⟨dk.q (by decide) (.int .i64 ((i : Int) + 2)) (by rintro _ ⟨⟩; exact dk.sets_on _ (by simp) _ rfl) (fun b W h => by simp [execOp, go_sem, Act.eval, dk.sets_get, wsM, List.lookup]), ?_⟩
    refine ⟨dk.q (by decide) (.slice (some ⟨g, i + 2, none⟩) (n - (i + 2)) (n - (i + 2))) (by rintro _ ⟨⟩; exact dk.sets_on _ (by simp) _ rfl) (fun b W h => by simp [execOp, go_sem, Act.eval, dk.sets_get, wsM, List.lookup, s9, s4, s8, s6]), ?_⟩
    refine ⟨cpr.lastv (.int .i64 ((n - i - 2 : Nat) : Int)) (by rintro _ ⟨⟩; exact dk.sets_on _ (by simp) _ rfl) (fun W h => ?_), trivial⟩
    obtain rfl : W = W1.drew := h
    refine ⟨W2, ?_, rfl⟩
    simp [execOp, resolve, invoke, builtin, Act.eval, dk.sets_get, wsM, List.lookup, hc2]
    rfl
  case fin =>
    intro L W hL hC
    obtain rfl : W = W2 := by
      have h9 := hL 9 (by decide)
      unfold dk.Cl at hC
      rw [h9] at hC
      exact hC
    simp only [dk.sets, wsM]
    clear hc2 hC hL i9 s1 s2 s3 s4 s9 s5 s6 s7 s8
    go_wp2
    go_ret
    exact ⟨rfl, HMM.out.own, HMM.out.gr⟩
/-- either way -/
theorem replace_run (l : List Rn) (g i B : Nat) (xa : Option Addr) (xc : Nat) (xl : List flP.Pr) (ga : Nat) (w : World) (hi : i + 2 ≤ l.length) (hl : l.length ≤ 1048576) (hga : ga ≠ g) (ho : w.ownsRow B 24 1 (.slice (some ⟨g, 0, none⟩) l.length l.length) l.length (l.flatMap cR)) (ha : w.heap[ga]? = some (.cells #[.slice xa xl.length xc] 24 (0, 0))) :
    Calls Try.prog 46 #[.slice (some ⟨g, 0, none⟩) l.length l.length, .int .i64 i, .int .i64 (i + 2 : Nat), .slice (some ⟨ga, 0, none⟩) 1 1] w fun r w' => r = .returned (.slice (some ⟨g, 0, none⟩) (l.length - 1) l.length) ∧ w'.ownsRow B 24 1 (.slice (some ⟨g, 0, none⟩) (l.length - 1) l.length) (l.length - 1) ((l.take i ++ (⟨xa, xc, xl⟩ : Rn) :: l.drop (i + 2)).flatMap cR) ∧ w.grownBy w' (some g) := by
  by_cases h : i + 2 < l.length
  · exact replace_mid l g i B xa xc xl ga w h hl hga ho ha
  · have h2 : i + 2 = l.length := by omega
    rw [List.drop_eq_nil_of_le (by omega), show l.length - 1 = i + 1 by omega]
    exact replace_end l g i B xa xc xl ga w h2 hl ho ha
end Go.Proofs.Ytokaoafbgebelaa.rpl
