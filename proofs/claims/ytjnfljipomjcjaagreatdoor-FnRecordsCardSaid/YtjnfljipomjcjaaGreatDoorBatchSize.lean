/- A list of pairs that weighs little: each of it does. -/
import Derived.Test.YtjnfljipomjcjaaGreatDoorFlPair
namespace Go.Proofs.YtjnfljipomjcjaaGreatDoor.bs
open Go.Proofs.YtjnfljipomjcjaaGreatDoor.fl
structure Fit (l : List flP.Pr) : Prop where
  ll : l.length ≤ 1048576
  lo : ∀ e ∈ l, e.k.size ≤ 1048576 ∧ e.v.size ≤ 1048576
end Go.Proofs.YtjnfljipomjcjaaGreatDoor.bs
