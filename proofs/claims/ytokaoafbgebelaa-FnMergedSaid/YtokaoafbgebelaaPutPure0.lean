/- Where a pair goes in a run, and the run behind it. -/
import Derived.Test.YtokaoafbgebelaaFlPair
import Derived.Test.YtokaoafbgebelaaTextOrd
namespace Go.Proofs.Ytokaoafbgebelaa.ptp
open Go.ChangeShapes Go.WideShapes Go.ChangeAt Go.RowKit Go.Proofs.Ytokaoafbgebelaa.fl Go.Proofs.Ytokaoafbgebelaa.rc Go.Proofs.Ytokaoafbgebelaa.ro
set_option linter.unusedVariables false

def posP : List flP.Pr → ByteArray → Nat
  | [], _ => 0
  | e :: l, r => if lt e.k r then posP l r + 1 else 0
theorem posP_le : ∀ (l : List flP.Pr) (r : ByteArray), posP l r ≤ l.length
  | [], _ => Nat.le_refl _
  | e :: l, r => by
    unfold posP
    have := posP_le l r
    split
    · simp; omega
    · omega
theorem posP_eq : ∀ (l : List flP.Pr) (r : ByteArray) (p : Nat), p ≤ l.length → (∀ (i : Nat) a, i < p → l[i]? = some a → lt a.k r = true) → (∀ a, l[p]? = some a → lt a.k r = false) → posP l r = p
  | [], r, p, h, _, _ => by simp at h; subst h; rfl
  | e :: l, r, 0, _, _, h3 => by
    unfold posP
    rw [h3 e rfl]
    rfl
  | e :: l, r, p + 1, h1, h2, h3 => by
    unfold posP
    rw [h2 0 e (by omega) rfl, if_pos rfl, posP_eq l r p (by simp at h1; omega) (fun i a hi ha => h2 (i + 1) a (by omega) ha) (fun a ha => h3 a ha)]
def isP (l : List flP.Pr) (p : Nat) (r : ByteArray) : Bool := match l[p]? with | some a => decide (a.k = r) | none => false
def restP (l : List flP.Pr) (r : ByteArray) : List flP.Pr := if isP l (posP l r) r = true then l.drop (posP l r + 1) else l.drop (posP l r)
def setP (l : List flP.Pr) (e : flP.Pr) : List flP.Pr := l.take (posP l e.k) ++ e :: restP l e.k
theorem setP_le (l : List flP.Pr) (e : flP.Pr) : (setP l e).length ≤ l.length + 1 := by
  have := posP_le l e.k
  unfold setP restP
  split <;> simp <;> omega
theorem setP_mem {l : List flP.Pr} {e f : flP.Pr} (h : f ∈ setP l e) : f ∈ l ∨ f = e := by
  unfold setP restP at h
  rcases List.mem_append.1 h with h | h
  · exact .inl (List.mem_of_mem_take h)
  · rcases List.mem_cons.1 h with h | h
    · exact .inr h
    · split at h <;> exact .inl (List.mem_of_mem_drop h)
theorem isP_true {l : List flP.Pr} {p : Nat} {r : ByteArray} : isP l p r = true ↔ ∃ a, l[p]? = some a ∧ cmpT a.k r = 0 := by
  unfold isP
  cases h : l[p]? with
  | none => simp
  | some a => simp [cmp_zero]
theorem setP_there {l : List flP.Pr} {e : flP.Pr} {p : Nat} (h : posP l e.k = p) (hm : isP l p e.k = true) : setP l e = l.set p e := by
  subst h
  have hp : posP l e.k < l.length := by
    obtain ⟨a, ha, _⟩ := isP_true.1 hm
    exact (List.getElem?_eq_some_iff.1 ha).1
  unfold setP restP
  rw [if_pos hm, List.set_eq_take_append_cons_drop, if_pos hp]
theorem setP_new {l : List flP.Pr} {e : flP.Pr} {p : Nat} (h : posP l e.k = p) (hm : isP l p e.k = false) : setP l e = l.take p ++ e :: l.drop p := by
  subst h
  unfold setP restP
  rw [if_neg (by rw [hm]; simp)]
end Go.Proofs.Ytokaoafbgebelaa.ptp
