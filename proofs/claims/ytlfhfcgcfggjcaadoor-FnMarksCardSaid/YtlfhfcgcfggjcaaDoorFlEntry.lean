/- The laws' lists of the structure Entry: weighed, laid anew, held beside each other; new memory alone. -/
import Derived.Test.YtlfhfcgcfggjcaaDoorFlatLib
namespace Go.Proofs.YtlfhfcgcfggjcaaDoor.flY
open Go.ChangeShapes Go.WideShapes Go.ChangeAt Go.RowKit Go.Proofs.YtlfhfcgcfggjcaaDoor.fl
set_option linter.unusedVariables false

structure En where
  o : Int
  t : Int
  b : ByteArray

def c (e : En) : List Value := [.int .i64 e.o, .int .i64 e.t, .string e.b]
theorem c_len (e : En) : (c e).length = 3 := rfl
theorem own_set {T : TypeId} {w : World} {g k : Nat} {l : List En} (fo : Int) (ft : Int) (fb : ByteArray) (h : Own c 3 T w g l k) (he : l[k]? = some ⟨fo, ft, fb⟩) : Own c 3 T (((w.setCell ⟨g, k * 3, none⟩ (.int .i64 fo)).setCell ⟨g, k * 3 + 1, none⟩ (.int .i64 ft)).setCell ⟨g, k * 3 + 2, none⟩ (.string fb)) g l (k + 1) := by
  have := Own.set c_len h he
  simpa only [setRow, c, Nat.add_assoc, Nat.reduceAdd] using this

theorem info : (Tryd.prog.info? 43).map (fun i => (i.zero, i.size, i.bytes)) = some (some (.agg #[.int .i64 0, .int .i64 0, .string ByteArray.empty]), 3, 32) := by kernel_rfl

end Go.Proofs.YtlfhfcgcfggjcaaDoor.flY
