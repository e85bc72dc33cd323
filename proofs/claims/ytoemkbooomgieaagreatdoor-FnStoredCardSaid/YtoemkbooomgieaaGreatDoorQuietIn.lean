/- A drawn region over the worlds in which nothing that was there is turned. -/
import Derived.Test.YtoemkbooomgieaaGreatDoorRows
import Derived.WalkKit
import Derived.Below
import Derived.BigQuiet
namespace Go.Proofs.YtoemkbooomgieaaGreatDoor.qi
open Go.RowKit

/-- nothing that was there when w was is turned -/
def T (w W : World) : Prop := Below w.heap.size w W
theorem T.refl (w : World) : T w w := Below.refl _ _
theorem T.next {w W W' : World} (h : T w W) (h2 : Below W.heap.size W W') : T w W' := Below.trans h (h2.mono (Below.size h))
theorem T.drew {w W : World} (h : T w W) : T w W.drew := Below.drew h
theorem T.size {w W : World} (h : T w W) : w.heap.size ≤ W.heap.size := Below.size h
structure Cls (w : World) where
  x : World
  h : T w x
instance (w : World) : Nonempty (Cls w) := ⟨⟨w, T.refl w⟩⟩
theorem region_in {P : Program} {id : Nat} {Q : Exit → Act → World → Prop} {a : Act} {W : World} {l : List Oper} (w : World) (hT : T w W) (hm : P.follows .mixedOrders = true) (hB : Region.lexB .any l.toArray = true)
    (h : wpQuiet P l.toArray (fun w' => ∃ n : Cls w, w' = n.x) (fun a' => ∀ w', (∃ n : Cls w, w' = n.x) → Q .normal a' w') l a) : (Code.region id l.toArray true).wp P Q a W :=
  wp_region_quiet (C := fun w' => ∃ n : Cls w, w' = n.x) hm hB ⟨⟨_, T.drew hT⟩, rfl⟩ h
end Go.Proofs.YtoemkbooomgieaaGreatDoor.qi
