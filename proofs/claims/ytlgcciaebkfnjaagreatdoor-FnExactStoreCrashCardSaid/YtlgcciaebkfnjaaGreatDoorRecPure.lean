/- Records: what is read, on bytes: the records one behind the other, each from where the one ahead ended. -/
import Derived.Test.YtlgcciaebkfnjaaGreatDoorGotBatchPure
import Derived.Test.YtlgcciaebkfnjaaGreatDoorCheckSumWalks
namespace Go.Proofs.YtlgcciaebkfnjaaGreatDoor.rcp
open Go.ChangeShapes Go.WideShapes Go.ChangeAt Go.RowKit Go.Proofs.YtlgcciaebkfnjaaGreatDoor.fl Go.Proofs.YtlgcciaebkfnjaaGreatDoor.gbp
set_option linter.unusedVariables false

theorem rn_len (s : ByteArray) : ∀ (k : Nat) (i : Int) (l : List flP.Pr) (e : Int), rn s k i = some (l, e) → l.length = k := by
  intro k
  induction k with
  | zero => intro i l e h; simp [rn] at h; rw [h.1]; rfl
  | succ k ih =>
    intro i l e h
    unfold rn at h
    cases h1 : stp s i with
    | none => rw [h1] at h; simp at h
    | some x =>
      obtain ⟨p, j⟩ := x
      rw [h1] at h
      simp only at h
      cases h2 : rn s k j with
      | none => rw [h2] at h; simp at h
      | some y =>
        obtain ⟨m, z⟩ := y
        rw [h2] at h
        simp only [Option.some.injEq, Prod.mk.injEq] at h
        rw [← h.1, List.length_cons, ih j m z h2]
theorem gotL_len (s : ByteArray) : (gotL s).length ≤ 60 := by
  unfold gotL got
  split
  · rename_i h
    simp only [Bool.and_eq_true, decide_eq_true_eq] at h
    cases h1 : rn s (gi.num s 0 1).toNat 1 with
    | none => simp
    | some x =>
      obtain ⟨l, e⟩ := x
      have := rn_len s _ _ _ _ h1
      simp only
      split
      · simp only [Option.getD_some]; omega
      · simp
  · simp
theorem stop4 {s : ByteArray} {i : Int} (h : gi.okAt s i 4 = true) : gi.stop s i 4 = i + 4 := by
  unfold gi.stop
  rw [if_pos h]
theorem at4 {s : ByteArray} {i : Int} (h : gi.okAt s i 4 = true) : 0 ≤ i ∧ i + 4 ≤ s.size ∧ 0 ≤ gi.num s i 4 ∧ gi.num s i 4 ≤ 4294967295 := by
  have h1 := gl.parts s i h
  unfold gi.okAt at h
  simp only [Bool.and_eq_true, decide_eq_true_eq] at h
  omega
theorem stp_far {s : ByteArray} {i j : Int} {p : flP.Pr} (h : stp s i = some (p, j)) : i + 1 ≤ j := by
  unfold stp at h
  split at h
  · rename_i hc
    simp only [Bool.and_eq_true, decide_eq_true_eq] at hc
    obtain ⟨_, hh, _⟩ := hc
    have hb : i + 2 ≤ gs.behind s (i + 1) := by
      unfold gs.behind
      rw [if_pos hh]
      unfold gs.here at hh
      simp only [Bool.and_eq_true, decide_eq_true_eq] at hh
      have h1 := stop_at (s := s) (i := i + 1) hh.1.1
      have h2 := at_in (s := s) (i := i + 1) hh.1.1
      omega
    split at h
    · have h3 := (Prod.mk.inj (Option.some.inj h)).2
      omega
    · split at h
      · rename_i hl
        have h3 := (Prod.mk.inj (Option.some.inj h)).2
        have h4 : gs.behind s (i + 1) + 4 ≤ gl.behind s (gs.behind s (i + 1)) := by
          generalize gs.behind s (i + 1) = q at hl ⊢
          unfold gl.behind
          rw [if_pos hl]
          unfold gl.here at hl
          simp only [Bool.and_eq_true, decide_eq_true_eq] at hl
          have h1 := stop4 (s := s) (i := q) hl.1.1
          have h2 := at4 (s := s) (i := q) hl.1.1
          omega
        omega
      · cases h
  · cases h
theorem rn_far (s : ByteArray) : ∀ (k : Nat) (i : Int) (l : List flP.Pr) (e : Int), rn s k i = some (l, e) → i + k ≤ e := by
  intro k
  induction k with
  | zero => intro i l e h; simp [rn] at h; omega
  | succ k ih =>
    intro i l e h
    unfold rn at h
    cases h1 : stp s i with
    | none => rw [h1] at h; simp at h
    | some x =>
      obtain ⟨p, j⟩ := x
      rw [h1] at h
      simp only at h
      cases h2 : rn s k j with
      | none => rw [h2] at h; simp at h
      | some y =>
        obtain ⟨m, z⟩ := y
        rw [h2] at h
        simp only [Option.some.injEq, Prod.mk.injEq] at h
        have h3 := stp_far h1
        have h4 := ih j m z h2
        omega
theorem gotL_in (s : ByteArray) : (gotL s).length ≤ s.size := by
  unfold gotL got
  split
  · cases h1 : rn s (gi.num s 0 1).toNat 1 with
    | none => simp
    | some x =>
      obtain ⟨l, e⟩ := x
      have h2 := rn_len s _ _ _ _ h1
      have h3 := rn_far s _ _ _ _ h1
      simp only
      split
      · rename_i h4
        simp only [Bool.and_eq_true, decide_eq_true_eq] at h4
        simp only [Option.getD_some]
        omega
      · simp
  · simp
theorem gotL_ok (s : ByteArray) : ∀ e ∈ gotL s, bo.okP e := by
  unfold gotL got
  split
  · cases h1 : rn s (gi.num s 0 1).toNat 1 with
    | none => intro e he; simp at he
    | some x =>
      obtain ⟨l, z⟩ := x
      simp only
      split
      · rename_i h4
        simp only [Bool.and_eq_true] at h4
        intro e he
        simp only [Option.getD_some] at he
        obtain ⟨i, hi⟩ := List.getElem?_of_mem he
        exact ((bo.okb_iff l).1 h4.2).2 i e hi
      · intro e he; simp at he
  · intro e he; simp at he
/-- whether a record stands at a place -/
noncomputable def isR (s : ByteArray) (i : Int) : Bool := gi.okAt s i 4 && (gl.here s (i + 4) && (decide (gi.num s i 4 = (cs.sum (gl.text s (i + 4)) : Int)) && gotB (gl.text s (i + 4))))
/-- its batch, and the place behind it -/
noncomputable def bat (s : ByteArray) (i : Int) : List flP.Pr := gotL (gl.text s (i + 4))
def nxt (s : ByteArray) (i : Int) : Int := gl.behind s (i + 4)
theorem isR_in {s : ByteArray} {i : Int} (h : isR s i = true) : 0 ≤ i ∧ i + 8 ≤ nxt s i ∧ nxt s i ≤ s.size := by
  unfold isR at h
  simp only [Bool.and_eq_true] at h
  obtain ⟨h1, h2, _⟩ := h
  have h3 := at4 h1
  have h4 := long_in h2
  unfold nxt
  refine ⟨h3.1, ?_, h4.2⟩
  unfold gl.behind
  rw [if_pos h2]
  unfold gl.here at h2
  simp only [Bool.and_eq_true, decide_eq_true_eq] at h2
  have h5 := stop4 (s := s) (i := i + 4) h2.1.1
  have h6 := at4 (s := s) (i := i + 4) h2.1.1
  omega
theorem bat_far {s : ByteArray} {i : Int} (h : isR s i = true) : i + 8 + (bat s i).length ≤ nxt s i := by
  unfold isR at h
  simp only [Bool.and_eq_true] at h
  obtain ⟨h1, h2, _⟩ := h
  have h0 := gotL_in (gl.text s (i + 4))
  have hb : (gl.text s (i + 4)).size + (i + 8) ≤ gl.behind s (i + 4) := by
    unfold gl.behind gl.text
    rw [if_pos h2, if_pos h2]
    unfold gl.here at h2
    simp only [Bool.and_eq_true, decide_eq_true_eq] at h2
    have h5 := stop4 (s := s) (i := i + 4) h2.1.1
    have h6 := at4 (s := s) (i := i + 4) h2.1.1
    rw [ByteArray.size_extract]
    omega
  unfold bat nxt
  omega
/-- at most so many records from a place on, and the place behind them -/
noncomputable def rcs (s : ByteArray) : Nat → Int → List (List flP.Pr) × Int
  | 0, i => ([], i)
  | k + 1, i => if isR s i = true then (bat s i :: (rcs s k (nxt s i)).1, (rcs s k (nxt s i)).2) else ([], i)
noncomputable def recs (s : ByteArray) : List (List flP.Pr) × Int := if s.size ≤ 200000 then rcs s (s.size + 1) 0 else ([], 0)
/-- behind some records -/
structure Left (s : ByteArray) (R : List (List flP.Pr)) (i : Int) : Prop where
  eq : rcs s (s.size + 1) 0 = (R ++ (rcs s (s.size + 1 - R.length) i).1, (rcs s (s.size + 1 - R.length) i).2)
  far : (8 * R.length : Nat) ≤ i
  hi : i ≤ s.size
  few : ∀ l ∈ R, l.length ≤ 60
  tot : (R.flatten.length : Int) ≤ i
  oks : ∀ l ∈ R, ∀ e ∈ l, bo.okP e
theorem left_0 (s : ByteArray) : Left s [] 0 := ⟨by simp, by simp, by omega, fun l h => (by cases h), by simp, fun l h => by cases h⟩
theorem left_yes {s : ByteArray} {R : List (List flP.Pr)} {i : Int} (h : Left s R i) (hr : isR s i = true) : Left s (R ++ [bat s i]) (nxt s i) := by
  have hin := isR_in hr
  have h1 := h.far
  have h2 := h.hi
  refine ⟨?_, by rw [List.length_append, List.length_singleton]; omega, hin.2.2, fun l hl => ?_, ?_, fun l hl => ?_⟩
  · rw [h.eq, show s.size + 1 - R.length = (s.size - R.length) + 1 by omega, show s.size + 1 - (R ++ [bat s i]).length = s.size - R.length by rw [List.length_append, List.length_singleton]; omega]
    simp only [rcs, if_pos hr, List.append_assoc, List.singleton_append]
  · rcases List.mem_append.1 hl with hl | hl
    · exact h.few l hl
    · rw [List.mem_singleton.1 hl]
      exact gotL_len _
  · have h3 := bat_far hr
    have h4 := h.tot
    simp only [List.flatten_append, List.length_append, List.flatten_cons, List.flatten_nil, List.append_nil]
    omega
  · rcases List.mem_append.1 hl with hl | hl
    · exact h.oks l hl
    · rw [List.mem_singleton.1 hl]
      exact gotL_ok _
theorem left_end {s : ByteArray} {R : List (List flP.Pr)} {i : Int} (hs : s.size ≤ 200000) (h : Left s R i) (hr : isR s i = false) : recs s = (R, i) := by
  have h1 := h.far
  have h2 := h.hi
  unfold recs
  rw [if_pos hs, h.eq, show s.size + 1 - R.length = (s.size - R.length) + 1 by omega]
  simp [rcs, hr]
theorem isR_end {s : ByteArray} {i : Int} (h : (s.size : Int) ≤ i) : isR s i = false := by
  cases hr : isR s i with
  | false => rfl
  | true => have := isR_in hr; omega
theorem recs_big {s : ByteArray} (h : 200000 < s.size) : recs s = ([], 0) := by
  unfold recs
  rw [if_neg (by omega)]
theorem left_len {s : ByteArray} {R : List (List flP.Pr)} {i : Int} (hs : s.size ≤ 200000) (h : Left s R i) : R.length ≤ 25000 := by
  have h1 := h.far
  have h2 := h.hi
  omega
theorem left_ex (s : ByteArray) (hs : s.size ≤ 200000) : ∃ i, Left s (recs s).1 i ∧ (recs s).2 = i := by
  suffices h : ∀ (d : Nat) (R : List (List flP.Pr)) (i : Int), Left s R i → s.size - i.toNat ≤ d → ∃ j, Left s (recs s).1 j ∧ (recs s).2 = j from h (s.size + 1) [] 0 (left_0 s) (by omega)
  intro d
  induction d with
  | zero =>
    intro R i h hd
    have h1 := h.far
    have h2 := left_end hs h (isR_end (by omega))
    rw [h2]
    exact ⟨i, h, rfl⟩
  | succ d ih =>
    intro R i h hd
    cases hr : isR s i with
    | false =>
      rw [left_end hs h hr]
      exact ⟨i, h, rfl⟩
    | true =>
      have h1 := isR_in hr
      exact ih _ _ (left_yes h hr) (by omega)
end Go.Proofs.YtlgcciaebkfnjaaGreatDoor.rcp
