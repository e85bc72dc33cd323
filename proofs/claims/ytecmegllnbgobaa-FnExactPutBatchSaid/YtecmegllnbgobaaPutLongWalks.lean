/- The program's writer of a long text answers as the specification's; it lays new memory alone. -/
import Derived.Test.YtecmegllnbgobaaPutLongSpec
namespace Go.Proofs.Ytecmegllnbgobaa.pl
open Go.ChangeShapes Go.WideShapes Go.ChangeAt Go.RowKit Go.Proofs.Ytecmegllnbgobaa.pi

theorem impl_putLong (s : ByteArray) (w : World) (hs : s.size ≤ 1048576) :
    Calls Try.prog 29 #[.string s] w fun e w' => e = .returned (.string (out s)) ∧ Below w.heap.size w w' := by
  have h8 := text_size s.size 4
  by_cases h : s.size ≤ 100000
  · simp only [out, h, if_true]
    go_enter Try.func29, Try.ntmps29
    go_wp2_with (first | (go_at_call 21; refine (impl_put (s.size : Int) 4 w (by omega)).mono ?_; rintro e w1 ⟨rfl, hb1⟩) | (go_at_call 31; go_in))
    go_ret
    exact ⟨rfl, hb1⟩
  · simp only [out, h, if_false]
    go_enter Try.func29, Try.ntmps29
    go_wp2
    go_ret
    exact ⟨rfl, Below.refl _ _⟩
end Go.Proofs.Ytecmegllnbgobaa.pl
