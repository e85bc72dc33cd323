/- Whether a frame may be put: the specification's and the program's tests answer alike; they lay new memory alone. -/
import Derived.Test.YtnmooolnmhidbaaDoorRows
import Derived.WalkKit
import Derived.WalkLawsBesides
import Derived.ProofKit
import Derived.OpenShut
import Derived.ShutString
import Derived.Below
namespace Go.Proofs.YtnmooolnmhidbaaDoor.fr
open Go.ChangeShapes Go.WideShapes Go.ChangeAt Go.RowKit

def kind (k : Int) : Bool := decide (1 ≤ k) && decide (k ≤ 3) || decide (k = 8)
theorem impl_kind (k : Int) (w : World) : Calls Tryd.prog 78 #[.int .i64 k] w fun e w' => e = .returned (.bool (kind k)) ∧ w = w' := by
  go_enter Tryd.func78, Tryd.ntmps78
  go_wp2
  all_goals go_ret
  all_goals refine ⟨?_, rfl⟩
  all_goals simp only [beq_iff_eq, beq_eq_false_iff_ne] at *
  · subst k; rfl
  · subst k; rfl
  · subst k; rfl
  · subst k; rfl
  · have e : kind k = false := by simp [kind]; omega
    rw [e]
    rfl
theorem spec_kind (k : Int) (w : World) : Calls Tryd.prog 84 #[.int .i64 k] w fun e w' => e = .returned (.bool (kind k)) ∧ w = w' := by
  go_enter Tryd.func84, Tryd.ntmps84
  go_wp2_with (go_at_call 29; go_in)
  all_goals go_ret
  all_goals refine ⟨?_, rfl⟩
  · have e : kind k = (decide (k ≤ 3) || k == 8) := by
      unfold kind
      rw [decide_eq_true (show 1 ≤ k by omega), Bool.true_and]
      rfl
    rw [e]
    rfl
  · have e : kind k = true := by simp [kind]; omega
    rw [e]
    rfl
  · have e : kind k = (k == 8) := by
      unfold kind
      rw [decide_eq_false (show ¬ 1 ≤ k by omega), Bool.false_and, Bool.false_or]
      rfl
    rw [e]
    rfl

/-- a frame as a value -/
def val (k c : Int) (p : ByteArray) : Value := .agg #[.int .i64 k, .int .i64 c, .string p]
def ok (k c : Int) (p : ByteArray) : Bool := kind k && (decide (0 ≤ c) && decide (c ≤ 65535)) && decide ((p.size : Int) ≤ 4000)

theorem ok_true {k c : Int} {p : ByteArray} : ok k c p = true ↔ kind k = true ∧ 0 ≤ c ∧ c ≤ 65535 ∧ (p.size : Int) ≤ 4000 := by
  simp [ok, and_assoc]
theorem ok_false {k c : Int} {p : ByteArray} (h : ¬ (kind k = true ∧ 0 ≤ c ∧ c ≤ 65535 ∧ (p.size : Int) ≤ 4000)) : ok k c p = false := by
  cases he : ok k c p with
  | false => rfl
  | true => exact absurd (ok_true.1 he) h
theorem ok_size {k c : Int} {p : ByteArray} (hk : kind k = true) (h0 : 0 ≤ c) (h1 : c ≤ 65535) : ok k c p = decide ((p.size : Int) ≤ 4000) := by
  simp [ok, hk, h0, h1]

theorem impl_ok (k c : Int) (p : ByteArray) (w : World) : Calls Tryd.prog 69 #[.agg #[.int .i64 k, .int .i64 c, .string p]] w fun e w' => e = .returned (.bool (ok k c p)) ∧ Below w.heap.size w w' := by
  go_enter Tryd.func69, Tryd.ntmps69
  go_wp2_with (go_at_call 78; refine (impl_kind k _).mono ?_; rintro e w' ⟨rfl, rfl⟩)
  all_goals go_ret
  all_goals refine ⟨?_, (Below.refl _ _).alloc (Nat.le_refl _) _⟩
  · rw [ok_size (by assumption) (by assumption) (by assumption)]; rfl
  · rw [ok_false (fun h => by omega)]; rfl
  · rw [ok_false (fun h => by omega)]; rfl
  · rw [ok_false (fun h => absurd h.1 (by assumption))]; rfl

theorem spec_ok (k c : Int) (p : ByteArray) (w : World) : Calls Tryd.prog 76 #[.agg #[.int .i64 k, .int .i64 c, .string p]] w fun e w' => e = .returned (.bool (ok k c p)) ∧ Below w.heap.size w w' := by
  go_enter Tryd.func76, Tryd.ntmps76
  go_wp2_with (first | (go_at_call 84; refine (spec_kind k _).mono ?_; rintro e w' ⟨rfl, rfl⟩) | (go_at_call 29; go_in))
  all_goals go_ret
  all_goals refine ⟨?_, (Below.refl _ _).alloc (Nat.le_refl _) _⟩
  all_goals first
    | (rw [ok_size (by assumption) (by assumption) (by assumption)]; rfl)
    | (rw [ok_false (fun h => by omega)]; rfl)
    | (rw [ok_false (fun h => absurd h.1 (by assumption))]; rfl)
    | trace_state

end Go.Proofs.YtnmooolnmhidbaaDoor.fr
