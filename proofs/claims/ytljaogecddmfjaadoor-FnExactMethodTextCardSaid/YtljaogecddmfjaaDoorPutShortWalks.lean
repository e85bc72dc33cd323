/- The two writers of a short text, the specification's and the program's, answer alike at every text of at most 1048576 bytes; they lay new memory alone. -/
import Derived.Test.YtljaogecddmfjaaDoorPutIntWalks
namespace Go.Proofs.YtljaogecddmfjaaDoor.ps
open Go.ChangeShapes Go.WideShapes Go.ChangeAt Go.RowKit Go.Proofs.YtljaogecddmfjaaDoor.pi

def out (s : ByteArray) : ByteArray := if s.size ≤ 255 then text s.size 1 ++ s else ByteArray.empty

theorem spec_putShort (s : ByteArray) (w : World) (hs : s.size ≤ 1048576) :
    Calls Tryd.prog 44 #[.string s] w fun e w' => e = .returned (.string (out s)) ∧ Below w.heap.size w w' := by
  have h8 := text_size s.size 1
  by_cases h : s.size ≤ 255
  · simp only [out, h, if_true]
    go_enter Tryd.func44, Tryd.ntmps44
    go_wp2_with (go_at_call 43; refine (spec_put (s.size : Int) 1 w (by omega)).mono ?_; rintro e w1 ⟨rfl, hb1⟩)
    go_ret
    exact ⟨rfl, hb1⟩
  · simp only [out, h, if_false]
    go_enter Tryd.func44, Tryd.ntmps44
    go_wp2
    go_ret
    exact ⟨rfl, Below.refl _ _⟩

theorem impl_putShort (s : ByteArray) (w : World) (hs : s.size ≤ 1048576) :
    Calls Tryd.prog 85 #[.string s] w fun e w' => e = .returned (.string (out s)) ∧ Below w.heap.size w w' := by
  have h8 := text_size s.size 1
  by_cases h : s.size ≤ 255
  · simp only [out, h, if_true]
    go_enter Tryd.func85, Tryd.ntmps85
    go_wp2_with (first | (go_at_call 68; refine (impl_put (s.size : Int) 1 w (by omega)).mono ?_; rintro e w1 ⟨rfl, hb1⟩) | (go_at_call 92; go_in))
    go_ret
    exact ⟨rfl, hb1⟩
  · simp only [out, h, if_false]
    go_enter Tryd.func85, Tryd.ntmps85
    go_wp2
    go_ret
    exact ⟨rfl, Below.refl _ _⟩
end Go.Proofs.YtljaogecddmfjaaDoor.ps
