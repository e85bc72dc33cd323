/- StreamSeek, the specification's and the program's: the offset of the first entry of a time or a later one; new memory alone. -/
import Derived.Test.YtlfhfcgcfggjcaaDoorStreamOkSpec
import Derived.Test.YtlfhfcgcfggjcaaDoorStreamOkImpl
namespace Go.Proofs.YtlfhfcgcfggjcaaDoor.ssk
open Go.ChangeShapes Go.WideShapes Go.ChangeAt Go.RowKit Go.Proofs.YtlfhfcgcfggjcaaDoor.fl Go.Proofs.YtlfhfcgcfggjcaaDoor.rc Go.Proofs.YtlfhfcgcfggjcaaDoor.rr Go.Proofs.YtlfhfcgcfggjcaaDoor.st
set_option linter.unusedVariables false

/-- the place of the first entry of a time or a later one -/
def first : List flY.En → Int → Nat
  | [], _ => 0
  | e :: r, t => if t ≤ e.t then 0 else first r t + 1
theorem first_le : ∀ (l : List flY.En) (t : Int), first l t ≤ l.length
  | [], _ => Nat.le_refl _
  | e :: r, t => by
    have := first_le r t
    simp only [first]
    split <;> simp <;> omega
theorem sorted {l : List flY.En} (h : ∀ (i : Nat) a b, l[i]? = some a → l[i + 1]? = some b → a.t ≤ b.t) : ∀ (d i : Nat) a b, l[i]? = some a → l[i + d]? = some b → a.t ≤ b.t
  | 0, i, a, b, ha, hb => by rw [Nat.add_zero, ha] at hb; cases hb; exact Int.le_refl _
  | d + 1, i, a, b, ha, hb => by
    have hlt := (List.getElem?_eq_some_iff.1 hb).1
    have hm : l[i + d]? = some l[i + d] := List.getElem?_eq_getElem (by omega)
    have h1 := sorted h d i a _ ha hm
    have h2 := h (i + d) _ b hm (by rw [← hb]; congr 1)
    omega

end Go.Proofs.YtlfhfcgcfggjcaaDoor.ssk
