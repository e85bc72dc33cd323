/- GetBatch: what is read, on bytes: the pairs one behind the other, each from where the one ahead ended. -/
import Derived.Test.YtlgcciaebkfnjaaGreatDoorGetShortWalks
import Derived.Test.YtlgcciaebkfnjaaGreatDoorGetLongWalks
import Derived.Test.YtlgcciaebkfnjaaGreatDoorBatchOk
namespace Go.Proofs.YtlgcciaebkfnjaaGreatDoor.gbp
open Go.ChangeShapes Go.WideShapes Go.ChangeAt Go.RowKit Go.Proofs.YtlgcciaebkfnjaaGreatDoor.fl
set_option linter.unusedVariables false

/-- the pair at a place, and the place behind it -/
def stp (s : ByteArray) (i : Int) : Option (flP.Pr × Int) :=
  if (gi.okAt s i 1 && (gs.here s (i + 1) && decide (gi.num s i 1 ≤ 1))) = true then
    (if gi.num s i 1 = 1 then some (⟨gs.text s (i + 1), ⟨#[]⟩, true⟩, gs.behind s (i + 1))
     else if gl.here s (gs.behind s (i + 1)) = true then some (⟨gs.text s (i + 1), gl.text s (gs.behind s (i + 1)), false⟩, gl.behind s (gs.behind s (i + 1))) else none)
  else none
/-- so many pairs from a place on, and the place behind them -/
def rn (s : ByteArray) : Nat → Int → Option (List flP.Pr × Int)
  | 0, i => some ([], i)
  | k + 1, i => match stp s i with
    | none => none
    | some (p, j) => match rn s k j with
      | none => none
      | some (l, e) => some (p :: l, e)
/-- the batch of all bytes -/
noncomputable def got (s : ByteArray) : Option (List flP.Pr) :=
  if (gi.okAt s 0 1 && decide (gi.num s 0 1 ≤ 60)) = true then
    match rn s (gi.num s 0 1).toNat 1 with
    | none => none
    | some (l, e) => if (decide (e = s.size) && bo.okb l) = true then some l else none
  else none
noncomputable def gotL (s : ByteArray) : List flP.Pr := (got s).getD []
noncomputable def gotB (s : ByteArray) : Bool := (got s).isSome
theorem got_none {s : ByteArray} (h : got s = none) : gotL s = [] ∧ gotB s = false := by
  unfold gotL gotB
  rw [h]
  exact ⟨rfl, rfl⟩
theorem got_some {s : ByteArray} {l : List flP.Pr} (h : got s = some l) : gotL s = l ∧ gotB s = true := by
  unfold gotL gotB
  rw [h]
  exact ⟨rfl, rfl⟩
/-- what is still to be read behind some pairs -/
def Left (s : ByteArray) (n : Nat) (l : List flP.Pr) (k : Nat) (i : Int) : Prop := rn s n 1 = match rn s k i with | none => none | some (m, e) => some (l ++ m, e)
theorem left_0 (s : ByteArray) (n : Nat) : Left s n [] n 1 := by
  unfold Left
  cases rn s n 1 with
  | none => rfl
  | some x => rfl
theorem left_no {s : ByteArray} {n : Nat} {l : List flP.Pr} {k : Nat} {i : Int} (h : Left s n l (k + 1) i) (hs : stp s i = none) : rn s n 1 = none := by
  unfold Left at h
  rw [h]
  unfold rn
  rw [hs]
theorem left_yes {s : ByteArray} {n : Nat} {l : List flP.Pr} {k : Nat} {i j : Int} {p : flP.Pr} (h : Left s n l (k + 1) i) (hs : stp s i = some (p, j)) : Left s n (l ++ [p]) k j := by
  unfold Left at h ⊢
  rw [h]
  simp only [rn, hs]
  cases hh : rn s k j with
  | none => simp
  | some x => simp
theorem left_end {s : ByteArray} {n : Nat} {l : List flP.Pr} {i : Int} (h : Left s n l 0 i) : rn s n 1 = some (l, i) := by
  unfold Left at h
  rw [h]
  simp [rn]
/-- a place behind a part lies in the text -/
theorem short_in {s : ByteArray} {i : Int} (h : gs.here s i = true) : 0 ≤ gs.behind s i ∧ gs.behind s i ≤ s.size := by
  unfold gs.behind
  rw [if_pos h]
  unfold gs.here at h
  simp only [Bool.and_eq_true, decide_eq_true_eq] at h
  have := gs.parts s i h.1.1
  omega
theorem long_in {s : ByteArray} {i : Int} (h : gl.here s i = true) : 0 ≤ gl.behind s i ∧ gl.behind s i ≤ s.size := by
  unfold gl.behind
  rw [if_pos h]
  unfold gl.here at h
  simp only [Bool.and_eq_true, decide_eq_true_eq] at h
  have := gl.parts s i h.1.1
  omega
theorem stop_at {s : ByteArray} {i : Int} (h : gi.okAt s i 1 = true) : gi.stop s i 1 = i + 1 := by
  unfold gi.stop
  rw [if_pos h]
theorem stop_no {s : ByteArray} {i : Int} (h : gi.okAt s i 1 = false) : gi.stop s i 1 = -1 ∧ gi.num s i 1 = 0 := by
  have := gs.none s i h
  exact ⟨this.2, this.1⟩
theorem short_no {s : ByteArray} {i : Int} (h : gs.here s i = false) : gs.behind s i = -1 := by
  unfold gs.behind
  rw [h]
  rfl
theorem long_no {s : ByteArray} {i : Int} (h : gl.here s i = false) : gl.behind s i = -1 := by
  unfold gl.behind
  rw [h]
  rfl
theorem at_in {s : ByteArray} {i : Int} (h : gi.okAt s i 1 = true) : 0 ≤ i ∧ i + 1 ≤ s.size ∧ 0 ≤ gi.num s i 1 ∧ gi.num s i 1 ≤ 255 := by
  have h1 := gs.parts s i h
  unfold gi.okAt at h
  simp only [Bool.and_eq_true, decide_eq_true_eq] at h
  omega
theorem text_small {s : ByteArray} {i : Int} (hs : s.size ≤ 1048576) : (gs.text s i).size ≤ 1048576 ∧ (gl.text s i).size ≤ 1048576 := by
  constructor
  · unfold gs.text
    split
    · rw [ByteArray.size_extract]; omega
    · simp
  · unfold gl.text
    split
    · rw [ByteArray.size_extract]; omega
    · simp
theorem stp_in {s : ByteArray} {i j : Int} {p : flP.Pr} (hs : s.size ≤ 1048576) (h : stp s i = some (p, j)) : 0 ≤ j ∧ j ≤ s.size ∧ p.k.size ≤ 1048576 ∧ p.v.size ≤ 1048576 := by
  unfold stp at h
  split at h
  · rename_i h1
    simp only [Bool.and_eq_true] at h1
    have a1 := short_in h1.2.1
    split at h
    · cases h
      exact ⟨a1.1, a1.2, (text_small hs).1, by show (0 : Nat) ≤ _; omega⟩
    · split at h
      · rename_i h3
        cases h
        have a2 := long_in h3
        exact ⟨a2.1, a2.2, (text_small hs).1, (text_small hs).2⟩
      · cases h
  · cases h
end Go.Proofs.YtlgcciaebkfnjaaGreatDoor.gbp
