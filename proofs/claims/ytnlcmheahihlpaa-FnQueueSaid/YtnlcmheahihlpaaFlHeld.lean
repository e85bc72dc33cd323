/- The laws' lists of the structure Held: weighed, laid anew, held beside each other; new memory alone. -/
import Derived.Test.YtnlcmheahihlpaaFlatLib
import Derived.Test.YtnlcmheahihlpaaFlMessage
namespace Go.Proofs.Ytnlcmheahihlpaa.flH
open Go.ChangeShapes Go.WideShapes Go.ChangeAt Go.RowKit Go.Proofs.Ytnlcmheahihlpaa.fl Go.Proofs.Ytnlcmheahihlpaa.flM
set_option linter.unusedVariables false

structure Hd where
  t : Int
  o : Int
  m : Ms

def c (e : Hd) : List Value := [.int .i64 e.t, .int .i64 e.o, .int .i64 e.m.q, .string e.m.x, .string e.m.k, .string e.m.b, .bool e.m.a]
theorem c_len (e : Hd) : (c e).length = 7 := rfl
theorem info : (Try.prog.info? 55).map (fun i => (i.zero, i.size, i.bytes)) = some (some (.agg #[.int .i64 0, .int .i64 0, .int .i64 0, .string ByteArray.empty, .string ByteArray.empty, .string ByteArray.empty, .bool false]), 7, 80) := by kernel_rfl

end Go.Proofs.Ytnlcmheahihlpaa.flH
