/- Routes whose weight is small: each of them is. -/
import Derived.Test.YtfhhcbjieekfdaaDoorRouteLib
namespace Go.Proofs.YtfhhcbjieekfdaaDoor.rw0
open Go.ChangeShapes Go.WideShapes Go.ChangeAt Go.RowKit Go.Proofs.YtfhhcbjieekfdaaDoor.rr Go.Proofs.YtfhhcbjieekfdaaDoor.ra Go.Proofs.YtfhhcbjieekfdaaDoor.rt Go.Proofs.YtfhhcbjieekfdaaDoor.rl Go.Proofs.YtfhhcbjieekfdaaDoor.ro
set_option linter.unusedVariables false

theorem small {es : List Ex} {bs : List Bi} (h : es.length + bulkE es + bs.length + bulkB bs ≤ 1048576) : es.length ≤ 1048576 ∧ bs.length ≤ 1048576 ∧ (∀ e ∈ es, e.n.size ≤ 1048576) ∧ ∀ b ∈ bs, b.x.size ≤ 1048576 ∧ b.k.size ≤ 1048576 ∧ b.q.size ≤ 1048576 := by
  refine ⟨by omega, by omega, fun e he => ?_, fun b hb => ?_⟩
  · have h1 := bulkE_le he
    unfold wE at h1
    omega
  · have h1 := bulkB_le hb
    unfold wB at h1
    omega
end Go.Proofs.YtfhhcbjieekfdaaDoor.rw0
