/- A number that is one of 64 bits. -/
import Derived.Test.YtfoajjkcocppeaaFlatLib
namespace Go.Proofs.Ytfoajjkcocppeaa.irg

theorem range {x : Int} (h : (Lit.int .i64 x).wf = true) : -9223372036854775808 ≤ x ∧ x ≤ 9223372036854775807 := by
  have h2 : IntKind.i64.min = -9223372036854775808 := by kernel_rfl
  have h3 : IntKind.i64.max = 9223372036854775807 := by kernel_rfl
  simp [Lit.wf] at h
  rw [h2] at h
  omega
end Go.Proofs.Ytfoajjkcocppeaa.irg
