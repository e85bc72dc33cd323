/- strings.Split at a dot: the words between the dots, in a new row, at every text of at most 1048576 bytes. -/
import Derived.Test.YtfhhcbjieekfdaaDoorDotWalks
import Derived.Test.YtfhhcbjieekfdaaDoorSplitLaid
namespace Go.Proofs.YtfhhcbjieekfdaaDoor.dt
open Go.ChangeShapes Go.WideShapes Go.ChangeAt Go.RowKit Go.Proofs.YtfhhcbjieekfdaaDoor.sm

theorem split (s : ByteArray) (m : Int) (w : World) (hs : s.size ≤ 1048576) (hm : w.cell? ⟨0, 0, none⟩ = some (.int .i64 m)) :
    Calls Tryd.prog 60 #[.string s, .string ⟨#[46]⟩] w fun e w' => e = .returned (.slice (some ⟨w.heap.size, 0, none⟩) (left s 0).length (left s 0).length) ∧ w' = w.alloc (.cells ((left s 0).map Value.string).toArray 9) := by
  rw [words_length, left_zero]
  exact Any.strings_Split { shSplitLaid.laysM146 with } shSplitLaid.laysM146.i9 s sp m w (by omega) hm (by decide)

end Go.Proofs.YtfhhcbjieekfdaaDoor.dt
