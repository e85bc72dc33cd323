/- Texts compared and ordered, for tables. -/
import Derived.Test.YtoemkbooomgieaaGreatDoorFlatLib
import Derived.Test.YtoemkbooomgieaaGreatDoorQuietIn
import Derived.Test.YtoemkbooomgieaaGreatDoorTextOrd
import Derived.WalkSpells
import Derived.Below
import Derived.Lib.Strings
import Derived.Deep.RegionWith
import Derived.BigRegion
import Derived.Laws.EntriesVeiled
set_option linter.unusedVariables false
namespace Go.Proofs.YtoemkbooomgieaaGreatDoor.rc
open Go.ChangeShapes Go.WideShapes Go.ChangeAt Go.RowKit

theorem nan (a : ByteArray) (w : World) : Calls Tryz.prog 108 #[.string a] w fun e w' => e = .returned (.bool false) ∧ w = w' := by
  go_enter Tryz.func108, Tryz.ntmps108
  go_wp2
  go_ret
  simp
theorem cmpS (a b : ByteArray) (w : World) : Calls Tryz.prog 95 #[.string a, .string b] w fun e w' => e = .returned (.int .i64 (cmpT a b)) ∧ w' = w := by
  obtain ⟨l, hl⟩ : ∃ l, Op.bytesLess a.toList b.toList = l := ⟨_, rfl⟩
  have hL : Hid (lt a b = l) := hl
  by_cases he : a = b
  · subst he
    cases l with
    | true =>
      have hc : cmpT a a = -1 := by unfold cmpT; rw [hL.out]; rfl
      rw [hc]
      go_enter Tryz.func95, Tryz.ntmps95
      go_wp2_with (go_at_call 108; refine (nan a _).mono ?_; rintro e w0 ⟨rfl, hw0⟩; rw [← hw0]; clear hw0 w0)
      go_ret
      exact ⟨rfl, rfl⟩
    | false =>
      have hc : cmpT a a = 0 := by unfold cmpT; rw [hL.out]; simp
      rw [hc]
      go_enter Tryz.func95, Tryz.ntmps95
      go_wp2_with (go_at_call 108; refine (nan a _).mono ?_; rintro e w0 ⟨rfl, hw0⟩; rw [← hw0]; clear hw0 w0)
      go_ret
      exact ⟨rfl, rfl⟩
  · have he2 : (a.toList == b.toList) = false := by simp; exact fun h => he (of_same h)
    have na := fun W => nan a W
    have nb := fun W => nan b W
    have HE : Hid (a ≠ b) := he
    clear he
    cases l with
    | true =>
      have hc : cmpT a b = -1 := by unfold cmpT; rw [hL.out]; rfl
      rw [hc]
      have t1 : True := trivial
      go_enter Tryz.func95, Tryz.ntmps95
      go_wp2_with (go_at_call 108; first | (have _t := t1; refine (na _).mono ?_; rintro e w0 ⟨rfl, hw0⟩; rw [← hw0]; clear hw0 w0 t1) | (refine (nb _).mono ?_; rintro e w0 ⟨rfl, hw0⟩; rw [← hw0]; clear hw0 w0))
      go_ret
      exact ⟨rfl, rfl⟩
    | false =>
      have hc : cmpT a b = 1 := by unfold cmpT; rw [hL.out]; simp [HE.out]
      rw [hc]
      have t1 : True := trivial
      go_enter Tryz.func95, Tryz.ntmps95
      go_wp2_with (go_at_call 108; first | (have _t := t1; refine (na _).mono ?_; rintro e w0 ⟨rfl, hw0⟩; rw [← hw0]; clear hw0 w0 t1) | (refine (nb _).mono ?_; rintro e w0 ⟨rfl, hw0⟩; rw [← hw0]; clear hw0 w0))
      go_ret
      exact ⟨rfl, rfl⟩
end Go.Proofs.YtoemkbooomgieaaGreatDoor.rc
namespace Go.Proofs.YtoemkbooomgieaaGreatDoor.ky
open Go.ChangeShapes Go.WideShapes Go.ChangeAt Go.RowKit
end Go.Proofs.YtoemkbooomgieaaGreatDoor.ky
namespace Go.Proofs.YtoemkbooomgieaaGreatDoor.rk
open Go.ChangeShapes Go.WideShapes Go.ChangeAt Go.RowKit
end Go.Proofs.YtoemkbooomgieaaGreatDoor.rk
