/- The two writers of a long text, the specification's and the program's, answer alike at every text of at most 1048576 bytes; they lay new memory alone. -/
import Derived.Test.YtkddnennodonhaaDoorPutIntWalks
namespace Go.Proofs.YtkddnennodonhaaDoor.pl
open Go.ChangeShapes Go.WideShapes Go.ChangeAt Go.RowKit Go.Proofs.YtkddnennodonhaaDoor.pi

def out (s : ByteArray) : ByteArray := if s.size ≤ 100000 then text s.size 4 ++ s else ByteArray.empty

theorem spec_putLong (s : ByteArray) (w : World) (hs : s.size ≤ 1048576) :
    Calls Tryd.prog 33 #[.string s] w fun e w' => e = .returned (.string (out s)) ∧ Below w.heap.size w w' := by
  have h8 := text_size s.size 4
  by_cases h : s.size ≤ 100000
  · simp only [out, h, if_true]
    go_enter Tryd.func33, Tryd.ntmps33
    go_wp2_with (go_at_call 17; refine (spec_put (s.size : Int) 4 w (by omega)).mono ?_; rintro e w1 ⟨rfl, hb1⟩)
    go_ret
    exact ⟨rfl, hb1⟩
  · simp only [out, h, if_false]
    go_enter Tryd.func33, Tryd.ntmps33
    go_wp2
    go_ret
    exact ⟨rfl, Below.refl _ _⟩

theorem impl_putLong (s : ByteArray) (w : World) (hs : s.size ≤ 1048576) :
    Calls Tryd.prog 25 #[.string s] w fun e w' => e = .returned (.string (out s)) ∧ Below w.heap.size w w' := by
  have h8 := text_size s.size 4
  by_cases h : s.size ≤ 100000
  · simp only [out, h, if_true]
    go_enter Tryd.func25, Tryd.ntmps25
    go_wp2_with (first | (go_at_call 11; refine (impl_put (s.size : Int) 4 w (by omega)).mono ?_; rintro e w1 ⟨rfl, hb1⟩) | (go_at_call 55; go_in))
    go_ret
    exact ⟨rfl, hb1⟩
  · simp only [out, h, if_false]
    go_enter Tryd.func25, Tryd.ntmps25
    go_wp2
    go_ret
    exact ⟨rfl, Below.refl _ _⟩
end Go.Proofs.YtkddnennodonhaaDoor.pl
