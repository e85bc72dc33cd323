/- Texts compared and ordered, for tables. -/
import Derived.Test.YtokaoafbgebelaaFlatLib
import Derived.Test.YtokaoafbgebelaaQuietIn
import Derived.Test.YtokaoafbgebelaaTextOrd
import Derived.WalkSpells
import Derived.Below
import Derived.Lib.Strings
import Derived.Deep.RegionWith
import Derived.BigRegion
import Derived.Laws.EntriesVeiled
set_option linter.unusedVariables false
namespace Go.Proofs.Ytokaoafbgebelaa.rc
open Go.ChangeShapes Go.WideShapes Go.ChangeAt Go.RowKit

theorem nan (a : ByteArray) (w : World) : Calls Try.prog 77 #[.string a] w fun e w' => e = .returned (.bool false) ∧ w = w' := by
  go_enter Try.func77, Try.ntmps77
  go_wp2
  go_ret
  simp
theorem cmpS (a b : ByteArray) (w : World) : Calls Try.prog 64 #[.string a, .string b] w fun e w' => e = .returned (.int .i64 (cmpT a b)) ∧ w' = w := by
  obtain ⟨l, hl⟩ : ∃ l, Op.bytesLess a.toList b.toList = l := ⟨_, rfl⟩
  have hL : Hid (lt a b = l) := hl
  by_cases he : a = b
  · subst he
    cases l with
    | true =>
      have hc : cmpT a a = -1 := by unfold cmpT; rw [hL.out]; rfl
      rw [hc]
      go_enter Try.func64, Try.ntmps64
      go_wp2_with (go_at_call 77; refine (nan a _).mono ?_; rintro e w0 ⟨rfl, hw0⟩; rw [← hw0]; clear hw0 w0)
      go_ret
      exact ⟨rfl, rfl⟩
    | false =>
      have hc : cmpT a a = 0 := by unfold cmpT; rw [hL.out]; simp
      rw [hc]
      go_enter Try.func64, Try.ntmps64
      go_wp2_with (go_at_call 77; refine (nan a _).mono ?_; rintro e w0 ⟨rfl, hw0⟩; rw [← hw0]; clear hw0 w0)
      go_ret
      exact ⟨rfl, rfl⟩
  · have he2 : (a.toList == b.toList) = false := by simp; exact fun h => he (of_same h)
    have na := fun W => nan a W
    have nb := fun W => nan b W
    have HE : Hid (a ≠ b) := he
    clear he
    cases l with
    | true =>
      have hc : cmpT a b = -1 := by unfold cmpT; rw [hL.out]; rfl
      rw [hc]
      have t1 : True := trivial
      go_enter Try.func64, Try.ntmps64
      go_wp2_with (go_at_call 77; first | (have _t := t1; refine (na _).mono ?_; rintro e w0 ⟨rfl, hw0⟩; rw [← hw0]; clear hw0 w0 t1) | (refine (nb _).mono ?_; rintro e w0 ⟨rfl, hw0⟩; rw [← hw0]; clear hw0 w0))
      go_ret
      exact ⟨rfl, rfl⟩
    | false =>
      have hc : cmpT a b = 1 := by unfold cmpT; rw [hL.out]; simp [HE.out]
      rw [hc]
      have t1 : True := trivial
      go_enter Try.func64, Try.ntmps64
      go_wp2_with (go_at_call 77; first | (have _t := t1; refine (na _).mono ?_; rintro e w0 ⟨rfl, hw0⟩; rw [← hw0]; clear hw0 w0 t1) | (refine (nb _).mono ?_; rintro e w0 ⟨rfl, hw0⟩; rw [← hw0]; clear hw0 w0))
      go_ret
      exact ⟨rfl, rfl⟩
end Go.Proofs.Ytokaoafbgebelaa.rc
namespace Go.Proofs.Ytokaoafbgebelaa.ky
open Go.ChangeShapes Go.WideShapes Go.ChangeAt Go.RowKit
theorem within (x a b : Int) (w : World) : Calls Try.prog 47 #[.int .i64 x, .int .i64 a, .int .i64 b] w fun e w' => e = .returned (.bool (decide (a ≤ x ∧ x ≤ b))) ∧ w = w' := by
  by_cases h1 : a ≤ x
  · by_cases h2 : x ≤ b
    · have e : decide (a ≤ x ∧ x ≤ b) = true := by simp [h1, h2]
      rw [e]
      go_enter Try.func47, Try.ntmps47
      go_wp2
      go_ret
      simp
    · have e : decide (a ≤ x ∧ x ≤ b) = false := by simp [h1, h2]
      rw [e]
      go_enter Try.func47, Try.ntmps47
      go_wp2
      go_ret
      simp
  · have e : decide (a ≤ x ∧ x ≤ b) = false := by simp [h1]
    rw [e]
    go_enter Try.func47, Try.ntmps47
    go_wp2
    go_ret
    exact ⟨rfl, rfl⟩

end Go.Proofs.Ytokaoafbgebelaa.ky
namespace Go.Proofs.Ytokaoafbgebelaa.rk
open Go.ChangeShapes Go.WideShapes Go.ChangeAt Go.RowKit
theorem in' (x a b : Int) {w : World} (N : qi.Cls w) : Calls Try.prog 47 #[.int .i64 x, .int .i64 a, .int .i64 b] N.x fun e w' => e = .returned (.bool (decide (a ≤ x ∧ x ≤ b))) ∧ qi.T w w' :=
  (ky.within x a b N.x).mono fun e w' ⟨h1, h2⟩ => ⟨h1, by rw [← h2]; exact N.h⟩

end Go.Proofs.Ytokaoafbgebelaa.rk
