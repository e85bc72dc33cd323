/- What a law's argument of routes weighs: the laws' own szExchange, szBinding and their kin; new memory alone. -/
import Derived.Test.YtnooibeohdfcmaaGreatDoorRouteImpl
namespace Go.Proofs.YtnooibeohdfcmaaGreatDoor.ra
open Go.ChangeShapes Go.WideShapes Go.ChangeAt Go.RowKit Go.Proofs.YtnooibeohdfcmaaGreatDoor.rr
set_option linter.unusedVariables false

/-- the cells behind a slice's address hold the list l; they lie in blocks below B -/
def SE (w : World) (B : Nat) (a : Option Addr) (l : List Ex) : Prop := l = [] ∨ ∃ b off, a = some ⟨b, off, none⟩ ∧ b < B ∧ ∀ (i : Nat) (e : Ex), l[i]? = some e → w.cell? ⟨b, off + i * 2, none⟩ = some (.string e.n) ∧ w.cell? ⟨b, off + i * 2 + 1, none⟩ = some (.int .i64 e.k)
/-- the cells behind a slice's address hold the list l; they lie in blocks below B -/
def SB (w : World) (B : Nat) (a : Option Addr) (l : List Bi) : Prop := l = [] ∨ ∃ b off, a = some ⟨b, off, none⟩ ∧ b < B ∧ ∀ (i : Nat) (e : Bi), l[i]? = some e → w.cell? ⟨b, off + i * 3, none⟩ = some (.string e.x) ∧ w.cell? ⟨b, off + i * 3 + 1, none⟩ = some (.string e.k) ∧ w.cell? ⟨b, off + i * 3 + 2, none⟩ = some (.string e.q)
end Go.Proofs.YtnooibeohdfcmaaGreatDoor.ra
