/- The two writers of a short text, the specification's and the program's, answer alike at every text of at most 1048576 bytes; they lay new memory alone. -/
import Derived.Test.YtnmooolnmhidbaaDoorPutIntWalks
namespace Go.Proofs.YtnmooolnmhidbaaDoor.ps
open Go.ChangeShapes Go.WideShapes Go.ChangeAt Go.RowKit Go.Proofs.YtnmooolnmhidbaaDoor.pi

def out (s : ByteArray) : ByteArray := if s.size ≤ 255 then text s.size 1 ++ s else ByteArray.empty

theorem spec_putShort (s : ByteArray) (w : World) (hs : s.size ≤ 1048576) :
    Calls Tryd.prog 37 #[.string s] w fun e w' => e = .returned (.string (out s)) ∧ Below w.heap.size w w' := by
  have h8 := text_size s.size 1
  by_cases h : s.size ≤ 255
  · simp only [out, h, if_true]
    go_enter Tryd.func37, Tryd.ntmps37
    go_wp2_with (go_at_call 36; refine (spec_put (s.size : Int) 1 w (by omega)).mono ?_; rintro e w1 ⟨rfl, hb1⟩)
    go_ret
    exact ⟨rfl, hb1⟩
  · simp only [out, h, if_false]
    go_enter Tryd.func37, Tryd.ntmps37
    go_wp2
    go_ret
    exact ⟨rfl, Below.refl _ _⟩

theorem impl_putShort (s : ByteArray) (w : World) (hs : s.size ≤ 1048576) :
    Calls Tryd.prog 74 #[.string s] w fun e w' => e = .returned (.string (out s)) ∧ Below w.heap.size w w' := by
  have h8 := text_size s.size 1
  by_cases h : s.size ≤ 255
  · simp only [out, h, if_true]
    go_enter Tryd.func74, Tryd.ntmps74
    go_wp2_with (first | (go_at_call 58; refine (impl_put (s.size : Int) 1 w (by omega)).mono ?_; rintro e w1 ⟨rfl, hb1⟩) | (go_at_call 82; go_in))
    go_ret
    exact ⟨rfl, hb1⟩
  · simp only [out, h, if_false]
    go_enter Tryd.func74, Tryd.ntmps74
    go_wp2
    go_ret
    exact ⟨rfl, Below.refl _ _⟩
end Go.Proofs.YtnmooolnmhidbaaDoor.ps
