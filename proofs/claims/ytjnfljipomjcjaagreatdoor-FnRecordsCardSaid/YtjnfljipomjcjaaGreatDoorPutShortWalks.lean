/- The two writers of a short text, the specification's and the program's, answer alike at every text of at most 1048576 bytes; they lay new memory alone. -/
import Derived.Test.YtjnfljipomjcjaaGreatDoorPutIntWalks
namespace Go.Proofs.YtjnfljipomjcjaaGreatDoor.ps
open Go.ChangeShapes Go.WideShapes Go.ChangeAt Go.RowKit Go.Proofs.YtjnfljipomjcjaaGreatDoor.pi

def out (s : ByteArray) : ByteArray := if s.size ≤ 255 then text s.size 1 ++ s else ByteArray.empty

theorem spec_putShort (s : ByteArray) (w : World) (hs : s.size ≤ 1048576) :
    Calls Tryz.prog 43 #[.string s] w fun e w' => e = .returned (.string (out s)) ∧ Below w.heap.size w w' := by
  have h8 := text_size s.size 1
  by_cases h : s.size ≤ 255
  · simp only [out, h, if_true]
    go_enter Tryz.func43, Tryz.ntmps43
    go_wp2_with (go_at_call 42; refine (spec_put (s.size : Int) 1 w (by omega)).mono ?_; rintro e w1 ⟨rfl, hb1⟩)
    go_ret
    exact ⟨rfl, hb1⟩
  · simp only [out, h, if_false]
    go_enter Tryz.func43, Tryz.ntmps43
    go_wp2
    go_ret
    exact ⟨rfl, Below.refl _ _⟩

theorem impl_putShort (s : ByteArray) (w : World) (hs : s.size ≤ 1048576) :
    Calls Tryz.prog 64 #[.string s] w fun e w' => e = .returned (.string (out s)) ∧ Below w.heap.size w w' := by
  have h8 := text_size s.size 1
  by_cases h : s.size ≤ 255
  · simp only [out, h, if_true]
    go_enter Tryz.func64, Tryz.ntmps64
    go_wp2_with (first | (go_at_call 30; refine (impl_put (s.size : Int) 1 w (by omega)).mono ?_; rintro e w1 ⟨rfl, hb1⟩) | (go_at_call 65; go_in))
    go_ret
    exact ⟨rfl, hb1⟩
  · simp only [out, h, if_false]
    go_enter Tryz.func64, Tryz.ntmps64
    go_wp2
    go_ret
    exact ⟨rfl, Below.refl _ _⟩
end Go.Proofs.YtjnfljipomjcjaaGreatDoor.ps
