/- The laws' lists of the structure Pair: weighed, laid anew, held beside each other; new memory alone. -/
import Derived.Test.YtjnfljipomjcjaaGreatDoorFlatLib
namespace Go.Proofs.YtjnfljipomjcjaaGreatDoor.flP
open Go.ChangeShapes Go.WideShapes Go.ChangeAt Go.RowKit Go.Proofs.YtjnfljipomjcjaaGreatDoor.fl
set_option linter.unusedVariables false

structure Pr where
  k : ByteArray
  v : ByteArray
  g : Bool

def c (e : Pr) : List Value := [.string e.k, .string e.v, .bool e.g]
theorem c_len (e : Pr) : (c e).length = 3 := rfl
theorem info : (Tryz.prog.info? 61).map (fun i => (i.zero, i.size, i.bytes)) = some (some (.agg #[.string ByteArray.empty, .string ByteArray.empty, .bool false]), 3, 40) := by kernel_rfl

end Go.Proofs.YtjnfljipomjcjaaGreatDoor.flP
