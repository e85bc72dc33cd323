/- Texts compared and ordered, for tables. -/
import Derived.Test.YtlgcciaebkfnjaaGreatDoorFlatLib
import Derived.Test.YtlgcciaebkfnjaaGreatDoorQuietIn
import Derived.Test.YtlgcciaebkfnjaaGreatDoorTextOrd
import Derived.WalkSpells
import Derived.Below
import Derived.Lib.Strings
import Derived.Deep.RegionWith
import Derived.BigRegion
import Derived.Laws.EntriesVeiled
set_option linter.unusedVariables false
namespace Go.Proofs.YtlgcciaebkfnjaaGreatDoor.rc
open Go.ChangeShapes Go.WideShapes Go.ChangeAt Go.RowKit

theorem nan (a : ByteArray) (w : World) : Calls Tryz.prog 156 #[.string a] w fun e w' => e = .returned (.bool false) ∧ w = w' := by
  go_enter Tryz.func156, Tryz.ntmps156
  go_wp2
  go_ret
  simp
theorem cmpS (a b : ByteArray) (w : World) : Calls Tryz.prog 123 #[.string a, .string b] w fun e w' => e = .returned (.int .i64 (cmpT a b)) ∧ w' = w := by
  obtain ⟨l, hl⟩ : ∃ l, Op.bytesLess a.toList b.toList = l := ⟨_, rfl⟩
  have hL : Hid (lt a b = l) := hl
  by_cases he : a = b
  · subst he
    cases l with
    | true =>
      have hc : cmpT a a = -1 := by unfold cmpT; rw [hL.out]; rfl
      rw [hc]
      go_enter Tryz.func123, Tryz.ntmps123
      go_wp2_with (go_at_call 156; refine (nan a _).mono ?_; rintro e w0 ⟨rfl, hw0⟩; rw [← hw0]; clear hw0 w0)
      go_ret
      exact ⟨rfl, rfl⟩
    | false =>
      have hc : cmpT a a = 0 := by unfold cmpT; rw [hL.out]; simp
      rw [hc]
      go_enter Tryz.func123, Tryz.ntmps123
      go_wp2_with (go_at_call 156; refine (nan a _).mono ?_; rintro e w0 ⟨rfl, hw0⟩; rw [← hw0]; clear hw0 w0)
      go_ret
      exact ⟨rfl, rfl⟩
  · have he2 : (a.toList == b.toList) = false := by simp; exact fun h => he (of_same h)
    have na := fun W => nan a W
    have nb := fun W => nan b W
    have HE : Hid (a ≠ b) := he
    clear he
    cases l with
    | true =>
      have hc : cmpT a b = -1 := by unfold cmpT; rw [hL.out]; rfl
      rw [hc]
      have t1 : True := trivial
      go_enter Tryz.func123, Tryz.ntmps123
      go_wp2_with (go_at_call 156; first | (have _t := t1; refine (na _).mono ?_; rintro e w0 ⟨rfl, hw0⟩; rw [← hw0]; clear hw0 w0 t1) | (refine (nb _).mono ?_; rintro e w0 ⟨rfl, hw0⟩; rw [← hw0]; clear hw0 w0))
      go_ret
      exact ⟨rfl, rfl⟩
    | false =>
      have hc : cmpT a b = 1 := by unfold cmpT; rw [hL.out]; simp [HE.out]
      rw [hc]
      have t1 : True := trivial
      go_enter Tryz.func123, Tryz.ntmps123
      go_wp2_with (go_at_call 156; first | (have _t := t1; refine (na _).mono ?_; rintro e w0 ⟨rfl, hw0⟩; rw [← hw0]; clear hw0 w0 t1) | (refine (nb _).mono ?_; rintro e w0 ⟨rfl, hw0⟩; rw [← hw0]; clear hw0 w0))
      go_ret
      exact ⟨rfl, rfl⟩
end Go.Proofs.YtlgcciaebkfnjaaGreatDoor.rc
namespace Go.Proofs.YtlgcciaebkfnjaaGreatDoor.ky
open Go.ChangeShapes Go.WideShapes Go.ChangeAt Go.RowKit
theorem within (x a b : Int) (w : World) : Calls Tryz.prog 60 #[.int .i64 x, .int .i64 a, .int .i64 b] w fun e w' => e = .returned (.bool (decide (a ≤ x ∧ x ≤ b))) ∧ w = w' := by
  by_cases h1 : a ≤ x
  · by_cases h2 : x ≤ b
    · have e : decide (a ≤ x ∧ x ≤ b) = true := by simp [h1, h2]
      rw [e]
      go_enter Tryz.func60, Tryz.ntmps60
      go_wp2
      go_ret
      simp
    · have e : decide (a ≤ x ∧ x ≤ b) = false := by simp [h1, h2]
      rw [e]
      go_enter Tryz.func60, Tryz.ntmps60
      go_wp2
      go_ret
      simp
  · have e : decide (a ≤ x ∧ x ≤ b) = false := by simp [h1]
    rw [e]
    go_enter Tryz.func60, Tryz.ntmps60
    go_wp2
    go_ret
    exact ⟨rfl, rfl⟩

end Go.Proofs.YtlgcciaebkfnjaaGreatDoor.ky
namespace Go.Proofs.YtlgcciaebkfnjaaGreatDoor.rk
open Go.ChangeShapes Go.WideShapes Go.ChangeAt Go.RowKit
theorem in' (x a b : Int) {w : World} (N : qi.Cls w) : Calls Tryz.prog 60 #[.int .i64 x, .int .i64 a, .int .i64 b] N.x fun e w' => e = .returned (.bool (decide (a ≤ x ∧ x ≤ b))) ∧ qi.T w w' :=
  (ky.within x a b N.x).mono fun e w' ⟨h1, h2⟩ => ⟨h1, by rw [← h2]; exact N.h⟩

end Go.Proofs.YtlgcciaebkfnjaaGreatDoor.rk
