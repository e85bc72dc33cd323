/- Comparisons of texts, exchanges and bindings: what the library's and the program's functions answer; new memory alone. -/
import Derived.Test.YtnooibeohdfcmaaGreatDoorRegionDone
import Derived.Test.YtnooibeohdfcmaaGreatDoorKeyWalks
import Derived.WalkSpells
import Derived.Below
import Derived.Lib.Strings
namespace Go.Proofs.YtnooibeohdfcmaaGreatDoor.rc
open Go.ChangeShapes Go.WideShapes Go.ChangeAt Go.RowKit
set_option linter.unusedVariables false

def lt (a b : ByteArray) : Bool := Op.bytesLess a.toList b.toList
def cmpT (a b : ByteArray) : Int := if lt a b then -1 else if a = b then 0 else 1
theorem of_same {x y : ByteArray} (h : x.toList = y.toList) : x = y := by
  rw [Lib.toList_data, Lib.toList_data] at h
  exact ByteArray.ext (Array.toList_inj.1 h)

theorem nan (a : ByteArray) (w : World) : Calls Tryz.prog 87 #[.string a] w fun e w' => e = .returned (.bool false) ∧ w = w' := by
  go_enter Tryz.func87, Tryz.ntmps87
  go_wp2
  go_ret
  simp
theorem cmpS (a b : ByteArray) (w : World) : Calls Tryz.prog 65 #[.string a, .string b] w fun e w' => e = .returned (.int .i64 (cmpT a b)) ∧ w' = w := by
  obtain ⟨l, hl⟩ : ∃ l, Op.bytesLess a.toList b.toList = l := ⟨_, rfl⟩
  have hL : Hid (lt a b = l) := hl
  by_cases he : a = b
  · subst he
    cases l with
    | true =>
      have hc : cmpT a a = -1 := by unfold cmpT; rw [hL.out]; rfl
      rw [hc]
      go_enter Tryz.func65, Tryz.ntmps65
      go_wp2_with (go_at_call 87; refine (nan a _).mono ?_; rintro e w0 ⟨rfl, hw0⟩; rw [← hw0]; clear hw0 w0)
      go_ret
      exact ⟨rfl, rfl⟩
    | false =>
      have hc : cmpT a a = 0 := by unfold cmpT; rw [hL.out]; simp
      rw [hc]
      go_enter Tryz.func65, Tryz.ntmps65
      go_wp2_with (go_at_call 87; refine (nan a _).mono ?_; rintro e w0 ⟨rfl, hw0⟩; rw [← hw0]; clear hw0 w0)
      go_ret
      exact ⟨rfl, rfl⟩
  · have he2 : (a.toList == b.toList) = false := by simp; exact fun h => he (of_same h)
    have na := fun W => nan a W
    have nb := fun W => nan b W
    have HE : Hid (a ≠ b) := he
    clear he
    cases l with
    | true =>
      have hc : cmpT a b = -1 := by unfold cmpT; rw [hL.out]; rfl
      rw [hc]
      have t1 : True := trivial
      go_enter Tryz.func65, Tryz.ntmps65
      go_wp2_with (go_at_call 87; first | (have _t := t1; refine (na _).mono ?_; rintro e w0 ⟨rfl, hw0⟩; rw [← hw0]; clear hw0 w0 t1) | (refine (nb _).mono ?_; rintro e w0 ⟨rfl, hw0⟩; rw [← hw0]; clear hw0 w0))
      go_ret
      exact ⟨rfl, rfl⟩
    | false =>
      have hc : cmpT a b = 1 := by unfold cmpT; rw [hL.out]; simp [HE.out]
      rw [hc]
      have t1 : True := trivial
      go_enter Tryz.func65, Tryz.ntmps65
      go_wp2_with (go_at_call 87; first | (have _t := t1; refine (na _).mono ?_; rintro e w0 ⟨rfl, hw0⟩; rw [← hw0]; clear hw0 w0 t1) | (refine (nb _).mono ?_; rintro e w0 ⟨rfl, hw0⟩; rw [← hw0]; clear hw0 w0))
      go_ret
      exact ⟨rfl, rfl⟩

/-- the first that is not 0 -/
def or3 (x y z : Int) : Int := if x ≠ 0 then x else if y ≠ 0 then y else z
theorem cmpOr (x y z : Int) (g : Nat) (w : World) (h0 : w.cell? ⟨g, 0, none⟩ = some (.int .i64 x)) (h1 : w.cell? ⟨g, 1, none⟩ = some (.int .i64 y)) (h2 : w.cell? ⟨g, 2, none⟩ = some (.int .i64 z)) :
    Calls Tryz.prog 64 #[.slice (some ⟨g, 0, none⟩) 3 3] w fun e w' => e = .returned (.int .i64 (or3 x y z)) ∧ w' = w := by
  by_cases hx : x = 0
  · subst hx
    by_cases hy : y = 0
    · subst hy
      have e : or3 0 0 z = z := rfl
      rw [e]
      by_cases hz : z = 0
      · subst hz
        go_enter Tryz.func64, Tryz.ntmps64
        go_wp2
        refine wp_loop_rounds 4 ?_
        repeat (rw [rounds_succ]; go_wp2)
        go_ret
        exact ⟨rfl, rfl⟩
      · have ez : (z != 0) = true := by simpa using hz
        go_enter Tryz.func64, Tryz.ntmps64
        go_wp2
        refine wp_loop_rounds 4 ?_
        repeat (rw [rounds_succ]; go_wp2)
        go_ret
        exact ⟨rfl, rfl⟩
    · have ey : (y != 0) = true := by simpa using hy
      have e : or3 0 y z = y := by unfold or3; simp [hy]
      rw [e]
      go_enter Tryz.func64, Tryz.ntmps64
      go_wp2
      refine wp_loop_rounds 4 ?_
      repeat (rw [rounds_succ]; go_wp2)
      go_ret
      exact ⟨rfl, rfl⟩
  · have ex : (x != 0) = true := by simpa using hx
    have e : or3 x y z = x := by unfold or3; simp [hx]
    rw [e]
    go_enter Tryz.func64, Tryz.ntmps64
    go_wp2
    refine wp_loop_rounds 4 ?_
    repeat (rw [rounds_succ]; go_wp2)
    go_ret
    exact ⟨rfl, rfl⟩

theorem compare_ex (an bn : ByteArray) (ak bk : Int) (w : World) : Calls Tryz.prog 51 #[.agg #[.string an, .int .i64 ak], .agg #[.string bn, .int .i64 bk]] w fun e w' => e = .returned (.int .i64 (cmpT an bn)) ∧ Below w.heap.size w w' := by
  have hc := fun W => cmpS an bn W
  go_enter Tryz.func51, Tryz.ntmps51
  go_wp2_with (go_at_call 65; refine (hc _).mono ?_; rintro e w0 ⟨rfl, hw0⟩; rw [hw0]; clear hw0 w0)
  go_ret
  exact ⟨rfl, ((Below.refl _ _).alloc (Nat.le_refl _) _).alloc (by simp) _⟩
end Go.Proofs.YtnooibeohdfcmaaGreatDoor.rc
