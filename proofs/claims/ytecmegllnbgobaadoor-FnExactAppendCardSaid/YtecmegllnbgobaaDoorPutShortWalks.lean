/- The two writers of a short text, the specification's and the program's, answer alike at every text of at most 1048576 bytes; they lay new memory alone. -/
import Derived.Test.YtecmegllnbgobaaDoorPutIntWalks
namespace Go.Proofs.YtecmegllnbgobaaDoor.ps
open Go.ChangeShapes Go.WideShapes Go.ChangeAt Go.RowKit Go.Proofs.YtecmegllnbgobaaDoor.pi

def out (s : ByteArray) : ByteArray := if s.size ≤ 255 then text s.size 1 ++ s else ByteArray.empty

theorem spec_putShort (s : ByteArray) (w : World) (hs : s.size ≤ 1048576) :
    Calls Tryd.prog 63 #[.string s] w fun e w' => e = .returned (.string (out s)) ∧ Below w.heap.size w w' := by
  have h8 := text_size s.size 1
  by_cases h : s.size ≤ 255
  · simp only [out, h, if_true]
    go_enter Tryd.func63, Tryd.ntmps63
    go_wp2_with (go_at_call 39; refine (spec_put (s.size : Int) 1 w (by omega)).mono ?_; rintro e w1 ⟨rfl, hb1⟩)
    go_ret
    exact ⟨rfl, hb1⟩
  · simp only [out, h, if_false]
    go_enter Tryd.func63, Tryd.ntmps63
    go_wp2
    go_ret
    exact ⟨rfl, Below.refl _ _⟩

theorem impl_putShort (s : ByteArray) (w : World) (hs : s.size ≤ 1048576) :
    Calls Tryd.prog 81 #[.string s] w fun e w' => e = .returned (.string (out s)) ∧ Below w.heap.size w w' := by
  have h8 := text_size s.size 1
  by_cases h : s.size ≤ 255
  · simp only [out, h, if_true]
    go_enter Tryd.func81, Tryd.ntmps81
    go_wp2_with (first | (go_at_call 45; refine (impl_put (s.size : Int) 1 w (by omega)).mono ?_; rintro e w1 ⟨rfl, hb1⟩) | (go_at_call 68; go_in))
    go_ret
    exact ⟨rfl, hb1⟩
  · simp only [out, h, if_false]
    go_enter Tryd.func81, Tryd.ntmps81
    go_wp2
    go_ret
    exact ⟨rfl, Below.refl _ _⟩
end Go.Proofs.YtecmegllnbgobaaDoor.ps
