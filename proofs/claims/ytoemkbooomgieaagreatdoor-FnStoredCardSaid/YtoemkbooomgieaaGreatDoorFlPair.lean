/- The laws' lists of the structure Pair: weighed, laid anew, held beside each other; new memory alone. -/
import Derived.Test.YtoemkbooomgieaaGreatDoorFlatLib
namespace Go.Proofs.YtoemkbooomgieaaGreatDoor.flP
open Go.ChangeShapes Go.WideShapes Go.ChangeAt Go.RowKit Go.Proofs.YtoemkbooomgieaaGreatDoor.fl
set_option linter.unusedVariables false

structure Pr where
  k : ByteArray
  v : ByteArray
  g : Bool

def c (e : Pr) : List Value := [.string e.k, .string e.v, .bool e.g]
theorem c_len (e : Pr) : (c e).length = 3 := rfl
theorem own_set {T : TypeId} {w : World} {g k : Nat} {l : List Pr} (fk : ByteArray) (fv : ByteArray) (fg : Bool) (h : Own c 3 T w g l k) (he : l[k]? = some ⟨fk, fv, fg⟩) : Own c 3 T (((w.setCell ⟨g, k * 3, none⟩ (.string fk)).setCell ⟨g, k * 3 + 1, none⟩ (.string fv)).setCell ⟨g, k * 3 + 2, none⟩ (.bool fg)) g l (k + 1) := by
  have := Own.set c_len h he
  simpa only [setRow, c, Nat.add_assoc, Nat.reduceAdd] using this

theorem info : (Tryz.prog.info? 61).map (fun i => (i.zero, i.size, i.bytes)) = some (some (.agg #[.string ByteArray.empty, .string ByteArray.empty, .bool false]), 3, 40) := by kernel_rfl

end Go.Proofs.YtoemkbooomgieaaGreatDoor.flP
