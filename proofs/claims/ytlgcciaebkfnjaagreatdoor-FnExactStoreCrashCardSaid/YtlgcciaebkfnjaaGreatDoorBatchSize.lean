/- A list of pairs that weighs little: each of it does. -/
import Derived.Test.YtlgcciaebkfnjaaGreatDoorFlPair
namespace Go.Proofs.YtlgcciaebkfnjaaGreatDoor.bs
open Go.Proofs.YtlgcciaebkfnjaaGreatDoor.fl
structure Fit (l : List flP.Pr) : Prop where
  ll : l.length ≤ 1048576
  lo : ∀ e ∈ l, e.k.size ≤ 1048576 ∧ e.v.size ≤ 1048576
theorem fit {l : List flP.Pr} (h : l.length + bulk flP.wt l ≤ 1048576) : Fit l := by
  refine ⟨by omega, fun e he => ?_⟩
  have h1 : e.k.size + e.v.size ≤ bulk flP.wt l := bulk_le flP.wt he
  omega
end Go.Proofs.YtlgcciaebkfnjaaGreatDoor.bs
