/- The laws' lists of the structure Mark: weighed, laid anew, held beside each other; new memory alone. -/
import Derived.Test.YtlfhfcgcfggjcaaDoorFlatLib
import Derived.Test.YtlfhfcgcfggjcaaDoorMarkBase
namespace Go.Proofs.YtlfhfcgcfggjcaaDoor.flK
open Go.ChangeShapes Go.WideShapes Go.ChangeAt Go.RowKit Go.Proofs.YtlfhfcgcfggjcaaDoor.fl
set_option linter.unusedVariables false


def c (e : rr.Ex) : List Value := [.string e.n, .int .i64 e.k]
theorem c_len (e : rr.Ex) : (c e).length = 2 := rfl
theorem own_set {T : TypeId} {w : World} {g k : Nat} {l : List rr.Ex} (fn : ByteArray) (fk : Int) (h : Own c 2 T w g l k) (he : l[k]? = some ⟨fn, fk⟩) : Own c 2 T ((w.setCell ⟨g, k * 2, none⟩ (.string fn)).setCell ⟨g, k * 2 + 1, none⟩ (.int .i64 fk)) g l (k + 1) := by
  have := Own.set c_len h he
  simpa only [setRow, c, Nat.add_assoc, Nat.reduceAdd] using this

theorem info : (Tryd.prog.info? 45).map (fun i => (i.zero, i.size, i.bytes)) = some (some (.agg #[.string ByteArray.empty, .int .i64 0]), 2, 24) := by kernel_rfl

end Go.Proofs.YtlfhfcgcfggjcaaDoor.flK
