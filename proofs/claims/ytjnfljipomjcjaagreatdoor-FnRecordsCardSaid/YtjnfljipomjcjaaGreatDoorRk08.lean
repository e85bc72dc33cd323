/- The laws' marks in a row of pairs of its own that may be nothing: laid, and held; a row of its own, and where it lies. -/
import Derived.Test.YtjnfljipomjcjaaGreatDoorFlPair
import Derived.Test.YtjnfljipomjcjaaGreatDoorRk07
import Derived.Test.YtjnfljipomjcjaaGreatDoorRk03

/- Lists of lists of pairs as they lie; the laws' look at two of them beside each other. -/
namespace Go.Proofs.YtjnfljipomjcjaaGreatDoor.rn
open Go.ChangeShapes Go.WideShapes Go.ChangeAt Go.RowKit Go.Proofs.YtjnfljipomjcjaaGreatDoor.fl
set_option linter.unusedVariables false

/-- a run as it lies: where, its room, its pairs -/
structure Rn where
  a : Option Addr
  c : Nat
  l : List flP.Pr
def cR (r : Rn) : List Value := [.slice r.a r.l.length r.c]
theorem cR_len (r : Rn) : (cR r).length = 1 := rfl
/-- a list of runs as it lies -/
def VR (w : World) (B : Nat) (a : Option Addr) (rs : List Rn) : Prop := Row cR 1 w B a rs ∧ ∀ r ∈ rs, Row flP.c 3 w B r.a r.l
theorem VR.inn {w w' : World} {a : Option Addr} {rs : List Rn} (h : VR w w.heap.size a rs) (hb : Below w.heap.size w w') : VR w' w'.heap.size a rs := ⟨h.1.inn hb, fun r hr => (h.2 r hr).inn hb⟩
end Go.Proofs.YtjnfljipomjcjaaGreatDoor.rn

/- The laws' marks in lists of runs: laid, and held. -/
namespace Go.Proofs.YtjnfljipomjcjaaGreatDoor.mrR
open Go.ChangeShapes Go.WideShapes Go.ChangeAt Go.RowKit Go.Proofs.YtjnfljipomjcjaaGreatDoor.fl Go.Proofs.YtjnfljipomjcjaaGreatDoor.fo Go.Proofs.YtjnfljipomjcjaaGreatDoor.rn
set_option linter.unusedVariables false

/-- a row of pairs of its own, or none -/
def MP (w : World) (B : Nat) (a : Option Addr) (l : List flP.Pr) : Prop := Mine flP.c 3 61 w B a l

/-- the blocks of the runs -/
def bks (rs : List Rn) : Nat → Prop := fun k => ∃ r ∈ rs, blk r.a r.l k
/-- no block is of two runs -/
def Apart (rs : List Rn) : Prop := ∀ (i j : Nat) (r s : Rn), rs[i]? = some r → rs[j]? = some s → i ≠ j → ∀ k, blk r.a r.l k → ¬ blk s.a s.l k
end Go.Proofs.YtjnfljipomjcjaaGreatDoor.mrR

/- The laws' marks in a row of pairs of its own that may be nothing: laid, and held; a row of its own, and where it lies. -/
namespace Go.Proofs.YtjnfljipomjcjaaGreatDoor.pmk
open Go.ChangeShapes Go.WideShapes Go.ChangeAt Go.RowKit Go.Proofs.YtjnfljipomjcjaaGreatDoor.fl Go.Proofs.YtjnfljipomjcjaaGreatDoor.fo
set_option linter.unusedVariables false

/-- a row of its own, and where it lies -/
theorem mine_of {α : Type} {c : α → List Value} {n B : Nat} {U : TypeId} {l : List α} {w : World} {v : Value} (hn : ∀ e, (c e).length = n) (ho : w.ownsRow B U n v l.length (l.flatMap c)) : ∃ a cap, v = .slice a l.length cap ∧ Mine c n U w B a l := by
  obtain ⟨_, ⟨h1, h0⟩ | ⟨g, cap, cur, h1, h2, h3, h4, h5, h6, h7⟩⟩ := ho
  · have e : l = [] := List.eq_nil_of_length_eq_zero h0
    subst e
    exact ⟨none, 0, h1, .inl rfl⟩
  · refine ⟨_, cap, h1, .inr ⟨g, 0, rfl, h2, cur, h3, by rw [h6, Nat.zero_add]; exact Nat.mul_le_mul_right n h4, fun i e hi he j v hv => ?_⟩⟩
    have hf := fl.flat_at hn l i e he j v hv
    rw [← h7] at hf
    have hlt := (List.getElem?_eq_some_iff.1 hf).1
    rw [List.length_take] at hlt
    rw [List.getElem?_take_of_lt (by omega)] at hf
    rw [Nat.zero_add]
    simpa using hf
end Go.Proofs.YtjnfljipomjcjaaGreatDoor.pmk
