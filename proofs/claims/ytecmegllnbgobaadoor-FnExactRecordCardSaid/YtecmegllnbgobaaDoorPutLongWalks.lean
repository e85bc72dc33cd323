/- The program's writer of a long text answers as the specification's; it lays new memory alone. -/
import Derived.Test.YtecmegllnbgobaaDoorPutLongSpec
namespace Go.Proofs.YtecmegllnbgobaaDoor.pl
open Go.ChangeShapes Go.WideShapes Go.ChangeAt Go.RowKit Go.Proofs.YtecmegllnbgobaaDoor.pi

theorem impl_putLong (s : ByteArray) (w : World) (hs : s.size ≤ 1048576) :
    Calls Tryd.prog 44 #[.string s] w fun e w' => e = .returned (.string (out s)) ∧ Below w.heap.size w w' := by
  have h8 := text_size s.size 4
  by_cases h : s.size ≤ 100000
  · simp only [out, h, if_true]
    go_enter Tryd.func44, Tryd.ntmps44
    go_wp2_with (first | (go_at_call 45; refine (impl_put (s.size : Int) 4 w (by omega)).mono ?_; rintro e w1 ⟨rfl, hb1⟩) | (go_at_call 68; go_in))
    go_ret
    exact ⟨rfl, hb1⟩
  · simp only [out, h, if_false]
    go_enter Tryd.func44, Tryd.ntmps44
    go_wp2
    go_ret
    exact ⟨rfl, Below.refl _ _⟩
end Go.Proofs.YtecmegllnbgobaaDoor.pl
