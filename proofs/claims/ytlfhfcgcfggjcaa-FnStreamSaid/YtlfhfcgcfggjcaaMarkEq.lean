/- Two marks held beside each other as a whole: what == and != of the struct answer. -/
import Derived.Test.YtlfhfcgcfggjcaaFlMark
import Derived.Laws.StructEq
import Derived.Lib.Strings
namespace Go.Proofs.Ytlfhfcgcfggjcaa.meq
open Go.ChangeShapes Go.WideShapes Go.ChangeAt Go.RowKit Go.Proofs.Ytlfhfcgcfggjcaa.fl
set_option linter.unusedVariables false

theorem fields : ∃ f0 f1 : Field, Try.prog.fieldsOf 56 = #[f0, f1] ∧ (f0.name ≠ "_" ∧ f0.type = 9 ∧ f0.offset = 0) ∧ (f1.name ≠ "_" ∧ f1.type = 3 ∧ f1.offset = 1) := by
  refine ⟨_, _, (by kernel_rfl : Try.prog.fieldsOf 56 = #[(Try.prog.fieldsOf 56).getD 0 default, (Try.prog.fieldsOf 56).getD 1 default]), ⟨by decide +kernel, by kernel_rfl, by kernel_rfl⟩, ⟨by decide +kernel, by kernel_rfl, by kernel_rfl⟩⟩
theorem und : Try.prog.underlying 56 = some (.struct (Try.prog.fieldsOf 56)) := by kernel_rfl
theorem held : Try.prog.stoodInHeld 56 = false := by kernel_rfl
theorem guard : Try.prog.eqGuardType Try.prog.depth 56 = false := by kernel_rfl
theorem tl {x y : ByteArray} : x.toList = y.toList ↔ x = y := by
  constructor
  · intro h
    rw [Lib.toList_data, Lib.toList_data] at h
    exact ByteArray.ext (Array.toList_inj.1 h)
  · rintro rfl; rfl
/-- whether two marks are one -/
def same (p q : rr.Ex) : Bool := decide (p.n = q.n) && decide (p.k = q.k)
theorem same_iff {p q : rr.Ex} : same p q = true ↔ p = q := by
  obtain ⟨pk, pv⟩ := p
  obtain ⟨qk, qv⟩ := q
  simp [same]
theorem eq_in (p q : rr.Ex) (w : World) : (Op.equalIn 10000 56 (.agg #[.string p.n, .int .i64 p.k]) (.agg #[.string q.n, .int .i64 q.k])).run Try.prog w = .ok (same p q) w := by
  obtain ⟨f0, f1, hf, ⟨a0, b0, c0⟩, ⟨a1, b1, c1⟩⟩ := fields
  rw [show (10000 : Nat) = 9999 + 1 from rfl, run_equalIn_agg w 9999 _ _ _ und held, hf]
  obtain ⟨pk, pv⟩ := p
  obtain ⟨qk, qv⟩ := q
  simp [Op.eqFields, a0, a1, b0, b1, c0, c1, go_sem, part, Try.underlying9, Try.underlying3]
  simp only [tl]
  unfold same
  by_cases h1 : pk = qk
  · by_cases h2 : pv = qv <;> simp [h1, h2]
  · simp [h1]
theorem neq_run (pk qk : ByteArray) (pv qv : Int) (w : World) : (binOp .neq 56 (.agg #[.string pk, .int .i64 pv]) (.agg #[.string qk, .int .i64 qv])).run Try.prog w = .ok (.bool (!same ⟨pk, pv⟩ ⟨qk, qv⟩)) w := by
  rw [run_neq_struct, eq_in ⟨pk, pv⟩ ⟨qk, qv⟩ w]
  rfl
theorem guard_run (x y : Operand) (xs ys : Array Value) (w : World) : (eqGuard .neq 56 x y (.agg xs) (.agg ys)).run Try.prog w = .ok () w := run_eqGuard_agg w .neq _ x y xs ys guard
end Go.Proofs.Ytlfhfcgcfggjcaa.meq
