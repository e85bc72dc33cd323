/- What a right run and a right table are, and the specification's TableOk. -/
import Derived.Test.YtoemkbooomgieaaGreatDoorTabLib
import Derived.Test.YtoemkbooomgieaaGreatDoorPairBase
namespace Go.Proofs.YtoemkbooomgieaaGreatDoor.tk
open Go.ChangeShapes Go.WideShapes Go.ChangeAt Go.RowKit Go.Proofs.YtoemkbooomgieaaGreatDoor.fl Go.Proofs.YtoemkbooomgieaaGreatDoor.rn Go.Proofs.YtoemkbooomgieaaGreatDoor.rc Go.Proofs.YtoemkbooomgieaaGreatDoor.ro Go.Proofs.YtoemkbooomgieaaGreatDoor.rk
set_option linter.unusedVariables false

def okP (e : flP.Pr) : Prop := 1 ≤ e.k.size ∧ e.k.size ≤ 100 ∧ e.v.size ≤ 4000 ∧ (e.g = true → e.v = ⟨#[]⟩)
def UpP (l : List flP.Pr) (n : Nat) : Prop := ∀ i a b, i + 1 < n → l[i]? = some a → l[i + 1]? = some b → cmpT a.k b.k < 0
structure OkL (l : List flP.Pr) : Prop where
  ll : l.length ≤ 300
  po : ∀ (i : Nat) e, l[i]? = some e → okP e
  up : UpP l l.length
structure OkT (ys : List flP.Pr) (ls : List (List flP.Pr)) : Prop where
  rl : ls.length ≤ 8
  yo : OkL ys
  ro : ∀ (i : Nat) l, ls[i]? = some l → OkL l
theorem emp_eq {v : ByteArray} (h : v ≠ ⟨#[]⟩) : (v.toList == ([] : List UInt8)) = false ∧ v.size ≠ 0 := by
  obtain ⟨⟨l⟩⟩ := v
  cases l with
  | nil => exact absurd rfl h
  | cons a r => exact ⟨by simp [ByteArray.toList_eq], by simp [ByteArray.size]⟩

end Go.Proofs.YtoemkbooomgieaaGreatDoor.tk
