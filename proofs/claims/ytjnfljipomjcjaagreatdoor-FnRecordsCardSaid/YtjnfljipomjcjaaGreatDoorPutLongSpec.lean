/- The specification's writer of a long text answers alike at every text of at most 1048576 bytes; they lay new memory alone. -/
import Derived.Test.YtjnfljipomjcjaaGreatDoorPutIntWalks
namespace Go.Proofs.YtjnfljipomjcjaaGreatDoor.pl
open Go.ChangeShapes Go.WideShapes Go.ChangeAt Go.RowKit Go.Proofs.YtjnfljipomjcjaaGreatDoor.pi

def out (s : ByteArray) : ByteArray := if s.size ≤ 100000 then text s.size 4 ++ s else ByteArray.empty

theorem spec_putLong (s : ByteArray) (w : World) (hs : s.size ≤ 1048576) :
    Calls Tryz.prog 44 #[.string s] w fun e w' => e = .returned (.string (out s)) ∧ Below w.heap.size w w' := by
  have h8 := text_size s.size 4
  by_cases h : s.size ≤ 100000
  · simp only [out, h, if_true]
    go_enter Tryz.func44, Tryz.ntmps44
    go_wp2_with (go_at_call 42; refine (spec_put (s.size : Int) 4 w (by omega)).mono ?_; rintro e w1 ⟨rfl, hb1⟩)
    go_ret
    exact ⟨rfl, hb1⟩
  · simp only [out, h, if_false]
    go_enter Tryz.func44, Tryz.ntmps44
    go_wp2
    go_ret
    exact ⟨rfl, Below.refl _ _⟩
end Go.Proofs.YtjnfljipomjcjaaGreatDoor.pl
