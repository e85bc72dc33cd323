/- The laws' lists of the structure Message: weighed, laid anew, held beside each other; new memory alone. -/
import Derived.Test.YtnlcmheahihlpaaFlatLib
namespace Go.Proofs.Ytnlcmheahihlpaa.flM
open Go.ChangeShapes Go.WideShapes Go.ChangeAt Go.RowKit Go.Proofs.Ytnlcmheahihlpaa.fl
set_option linter.unusedVariables false

structure Ms where
  q : Int
  x : ByteArray
  k : ByteArray
  b : ByteArray
  a : Bool

def c (e : Ms) : List Value := [.int .i64 e.q, .string e.x, .string e.k, .string e.b, .bool e.a]
theorem c_len (e : Ms) : (c e).length = 5 := rfl
theorem info : (Try.prog.info? 41).map (fun i => (i.zero, i.size, i.bytes)) = some (some (.agg #[.int .i64 0, .string ByteArray.empty, .string ByteArray.empty, .string ByteArray.empty, .bool false]), 5, 64) := by kernel_rfl

end Go.Proofs.Ytnlcmheahihlpaa.flM
