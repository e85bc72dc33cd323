/- Tables as a law's argument: what they weigh, laid anew, held beside each other; new memory alone. -/
import Derived.Test.YtoemkbooomgieaaGreatDoorRunLib
namespace Go.Proofs.YtoemkbooomgieaaGreatDoor.tb
open Go.ChangeShapes Go.WideShapes Go.ChangeAt Go.RowKit Go.Proofs.YtoemkbooomgieaaGreatDoor.fl Go.Proofs.YtoemkbooomgieaaGreatDoor.rn
set_option linter.unusedVariables false

/-- a table that weighs little: each of it does -/
structure Fit (ys : List flP.Pr) (rs : List Rn) : Prop where
  yl : ys.length ≤ 1048576
  rl : rs.length ≤ 1048576
  yo : ∀ e ∈ ys, e.k.size ≤ 1048576 ∧ e.v.size ≤ 1048576
  ro : ∀ r ∈ rs, r.l.length ≤ 1048576 ∧ ∀ e ∈ r.l, e.k.size ≤ 1048576 ∧ e.v.size ≤ 1048576
theorem Fit.of {ys : List flP.Pr} {rs ks : List Rn} (F : Fit ys rs) (h : ks.map (·.l) = rs.map (·.l)) : Fit ys ks := by
  have hl : ks.length = rs.length := by have := congrArg List.length h; simpa using this
  refine ⟨F.yl, by rw [hl]; exact F.rl, F.yo, fun r hr => ?_⟩
  have h1 : r.l ∈ rs.map (·.l) := by rw [← h]; exact List.mem_map_of_mem hr
  obtain ⟨s, hs, he⟩ := List.mem_map.1 h1
  have h2 := F.ro s hs
  rw [he] at h2
  exact h2
end Go.Proofs.YtoemkbooomgieaaGreatDoor.tb
