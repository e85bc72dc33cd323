/- Header, the specification's and the program's: the payload of a header at every number; both lay new memory alone. -/
import Derived.Test.YtnmooolnmhidbaaDoorPutIntWalks
import Derived.WalkKit
import Derived.WalkLawsBesides
namespace Go.Proofs.YtnmooolnmhidbaaDoor.hdw
open Go.ChangeShapes Go.WideShapes Go.ChangeAt Go.RowKit

/-- the payload of a header of a size -/
def hdr (n : Int) : ByteArray := if (decide (0 ≤ n) && decide (n ≤ 3000)) then pi.text 60 2 ++ pi.text 0 2 ++ pi.text n 8 else ByteArray.empty

theorem hdr_size (n : Int) : (hdr n).size ≤ 24 := by
  unfold hdr
  have h1 := pi.text_size 60 2
  have h2 := pi.text_size 0 2
  have h3 := pi.text_size n 8
  by_cases h : (decide (0 ≤ n) && decide (n ≤ 3000)) = true
  · rw [if_pos h, ByteArray.size_append, ByteArray.size_append]; omega
  · rw [if_neg h]; exact Nat.zero_le _

theorem hdr_in {n : Int} (h0 : 0 ≤ n) (h1 : n ≤ 3000) : hdr n = pi.text 60 2 ++ pi.text 0 2 ++ pi.text n 8 := by
  unfold hdr; rw [if_pos]; simp [h0, h1]
theorem hdr_out {n : Int} (h : n < 0 ∨ 3000 < n) : hdr n = ByteArray.empty := by
  unfold hdr; rw [if_neg]; simp; omega

theorem spec_header (n : Int) (w : World) : Calls Tryd.prog 51 #[.int .i64 n] w fun e w' => e = .returned (.string (hdr n)) ∧ Below w.heap.size w w' := by
  by_cases h : 0 ≤ n ∧ n ≤ 3000
  · have HE : Hid (hdr n = pi.text 60 2 ++ pi.text 0 2 ++ pi.text n 8) := hdr_in h.1 h.2
    obtain ⟨h0, h1⟩ := h
    have d0 : decide (0 ≤ n) = true := by simpa using h0
    have d1 : decide (n ≤ 3000) = true := by simpa using h1
    have s1 := pi.text_size 60 2
    have s2 := pi.text_size 0 2
    have s3 := pi.text_size n 8
    have k1 := pi.spec_put 60 2 w (by omega)
    have k2 := fun w => pi.spec_put 0 2 w (by omega)
    have k3 := fun w => pi.spec_put n 8 w (by omega)
    generalize pi.text 60 2 = t1 at *
    generalize pi.text 0 2 = t2 at *
    generalize pi.text n 8 = t3 at *
    go_enter Tryd.func51, Tryd.ntmps51
    go_wp2_with (first | (go_at_call 29; go_in) | (go_at_call 36; fail))
    refine k1.mono ?_
    rintro e w1 ⟨rfl, hb1⟩
    have k2 := k2 w1
    go_wp2_with (go_at_call 36; fail)
    refine k2.mono ?_
    rintro e w2 ⟨rfl, hb2⟩
    have k3 := k3 w2
    go_wp2_with (go_at_call 36; fail)
    refine k3.mono ?_
    rintro e w3 ⟨rfl, hb3⟩
    go_wp2
    go_ret
    exact ⟨by rw [HE.out]; rfl, (hb1.trans (hb2.mono hb1.size)).trans (hb3.mono (hb1.trans (hb2.mono hb1.size)).size)⟩
  · have HE : Hid (hdr n = ByteArray.empty) := hdr_out (by omega)
    by_cases h0 : 0 ≤ n
    · have d0 : decide (0 ≤ n) = true := by simpa using h0
      have d1 : decide (n ≤ 3000) = false := by simp; omega
      go_enter Tryd.func51, Tryd.ntmps51
      go_wp2_with (first | (go_at_call 29; go_in))
      all_goals go_ret
      all_goals exact ⟨by rw [HE.out]; rfl, Below.refl _ _⟩
    · have d0 : decide (0 ≤ n) = false := by simp; omega
      go_enter Tryd.func51, Tryd.ntmps51
      go_wp2_with (first | (go_at_call 29; go_in))
      all_goals go_ret
      all_goals exact ⟨by rw [HE.out]; rfl, Below.refl _ _⟩

theorem impl_header (n : Int) (w : World) : Calls Tryd.prog 71 #[.int .i64 n] w fun e w' => e = .returned (.string (hdr n)) ∧ Below w.heap.size w w' := by
  by_cases h : 0 ≤ n ∧ n ≤ 3000
  · have HE : Hid (hdr n = pi.text 60 2 ++ pi.text 0 2 ++ pi.text n 8) := hdr_in h.1 h.2
    obtain ⟨h0, h1⟩ := h
    have d0 : decide (n < 0) = false := by simp; omega
    have d1 : decide (3000 < n) = false := by simp; omega
    have s1 := pi.text_size 60 2
    have s2 := pi.text_size 0 2
    have s3 := pi.text_size n 8
    have k1 := pi.impl_put 60 2 w (by omega)
    have k2 := fun w => pi.impl_put 0 2 w (by omega)
    have k3 := fun w => pi.impl_put n 8 w (by omega)
    generalize pi.text 60 2 = t1 at *
    generalize pi.text 0 2 = t2 at *
    generalize pi.text n 8 = t3 at *
    go_enter Tryd.func71, Tryd.ntmps71
    go_wp2_with (go_at_call 58; fail)
    refine k1.mono ?_
    rintro e w1 ⟨rfl, hb1⟩
    have k2 := k2 w1
    go_wp2_with (go_at_call 58; fail)
    refine k2.mono ?_
    rintro e w2 ⟨rfl, hb2⟩
    have k3 := k3 w2
    go_wp2_with (go_at_call 58; fail)
    refine k3.mono ?_
    rintro e w3 ⟨rfl, hb3⟩
    go_wp2
    go_ret
    exact ⟨by rw [HE.out]; rfl, (hb1.trans (hb2.mono hb1.size)).trans (hb3.mono (hb1.trans (hb2.mono hb1.size)).size)⟩
  · have HE : Hid (hdr n = ByteArray.empty) := hdr_out (by omega)
    by_cases h0 : 0 ≤ n
    · have d0 : decide (n < 0) = false := by simp; omega
      have d1 : decide (3000 < n) = true := by simp; omega
      go_enter Tryd.func71, Tryd.ntmps71
      go_wp2
      all_goals go_ret
      all_goals exact ⟨by rw [HE.out]; rfl, Below.refl _ _⟩
    · have d0 : decide (n < 0) = true := by simp; omega
      go_enter Tryd.func71, Tryd.ntmps71
      go_wp2
      all_goals go_ret
      all_goals exact ⟨by rw [HE.out]; rfl, Below.refl _ _⟩

end Go.Proofs.YtnmooolnmhidbaaDoor.hdw
