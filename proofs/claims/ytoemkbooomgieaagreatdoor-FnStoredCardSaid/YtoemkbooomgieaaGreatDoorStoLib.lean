/- Stores of a law: weighed, laid anew, held against each other. A store is a table, a text and a number. -/
import Derived.Test.YtoemkbooomgieaaGreatDoorTabLib
import Derived.Test.YtoemkbooomgieaaGreatDoorFlatOff
namespace Go.Proofs.YtoemkbooomgieaaGreatDoor.sto
open Go.ChangeShapes Go.WideShapes Go.ChangeAt Go.RowKit Go.Proofs.YtoemkbooomgieaaGreatDoor.fl Go.Proofs.YtoemkbooomgieaaGreatDoor.rn Go.Proofs.YtoemkbooomgieaaGreatDoor.tb Go.Proofs.YtoemkbooomgieaaGreatDoor.fo
set_option linter.unusedVariables false

theorem or_turn {w w' : World} {B h n : Nat} {ks : List Rn} (ho : OR w B h n ks) (hk : ∀ k, k = h ∨ (∃ (i : Nat) (r : Rn), ks[i]? = some r ∧ r.a = some ⟨k, 0, none⟩) → w'.heap[k]? = w.heap[k]?) : OR w' B h n ks := by
  obtain ⟨cur, h1, h2⟩ := ho.blk
  refine ⟨⟨cur, (hk h (.inl rfl)).trans h1, h2⟩, fun i r hr => ?_, ho.nd⟩
  obtain ⟨h', e, h3, h4, h5⟩ := ho.own i r hr
  exact ⟨h', e, h3, h4, h5.kept (hk h' (.inr ⟨i, r, hr, e⟩))⟩
end Go.Proofs.YtoemkbooomgieaaGreatDoor.sto
