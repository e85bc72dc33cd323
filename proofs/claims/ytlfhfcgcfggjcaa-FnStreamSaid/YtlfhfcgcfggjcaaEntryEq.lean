/- Two entries held beside each other as a whole: what == and != of the struct answer. -/
import Derived.Test.YtlfhfcgcfggjcaaFlEntry
import Derived.Laws.StructEq
import Derived.Lib.Strings
namespace Go.Proofs.Ytlfhfcgcfggjcaa.eeq
open Go.ChangeShapes Go.WideShapes Go.ChangeAt Go.RowKit Go.Proofs.Ytlfhfcgcfggjcaa.fl
set_option linter.unusedVariables false

theorem fields : ∃ f0 f1 f2 : Field, Try.prog.fieldsOf 42 = #[f0, f1, f2] ∧ (f0.name ≠ "_" ∧ f0.type = 3 ∧ f0.offset = 0) ∧ (f1.name ≠ "_" ∧ f1.type = 3 ∧ f1.offset = 1) ∧ (f2.name ≠ "_" ∧ f2.type = 9 ∧ f2.offset = 2) := by
  refine ⟨_, _, _, (by kernel_rfl : Try.prog.fieldsOf 42 = #[(Try.prog.fieldsOf 42).getD 0 default, (Try.prog.fieldsOf 42).getD 1 default, (Try.prog.fieldsOf 42).getD 2 default]), ⟨by decide +kernel, by kernel_rfl, by kernel_rfl⟩, ⟨by decide +kernel, by kernel_rfl, by kernel_rfl⟩, ⟨by decide +kernel, by kernel_rfl, by kernel_rfl⟩⟩
theorem und : Try.prog.underlying 42 = some (.struct (Try.prog.fieldsOf 42)) := by kernel_rfl
theorem held : Try.prog.stoodInHeld 42 = false := by kernel_rfl
theorem guard : Try.prog.eqGuardType Try.prog.depth 42 = false := by kernel_rfl
theorem tl {x y : ByteArray} : x.toList = y.toList ↔ x = y := by
  constructor
  · intro h
    rw [Lib.toList_data, Lib.toList_data] at h
    exact ByteArray.ext (Array.toList_inj.1 h)
  · rintro rfl; rfl
/-- whether two entries are one -/
def same (p q : flY.En) : Bool := decide (p.o = q.o) && (decide (p.t = q.t) && decide (p.b = q.b))
theorem same_iff {p q : flY.En} : same p q = true ↔ p = q := by
  obtain ⟨pk, pv, pg⟩ := p
  obtain ⟨qk, qv, qg⟩ := q
  simp [same]
theorem eq_in (p q : flY.En) (w : World) : (Op.equalIn 10000 42 (.agg #[.int .i64 p.o, .int .i64 p.t, .string p.b]) (.agg #[.int .i64 q.o, .int .i64 q.t, .string q.b])).run Try.prog w = .ok (same p q) w := by
  obtain ⟨f0, f1, f2, hf, ⟨a0, b0, c0⟩, ⟨a1, b1, c1⟩, ⟨a2, b2, c2⟩⟩ := fields
  rw [show (10000 : Nat) = 9999 + 1 from rfl, run_equalIn_agg w 9999 _ _ _ und held, hf]
  obtain ⟨pk, pv, pg⟩ := p
  obtain ⟨qk, qv, qg⟩ := q
  simp [Op.eqFields, a0, a1, a2, b0, b1, b2, c0, c1, c2, go_sem, part, Try.underlying9, Try.underlying3]
  simp only [tl]
  unfold same
  by_cases h1 : pk = qk
  · by_cases h2 : pv = qv
    · by_cases h3 : pg = qg <;> simp [h1, h2, h3]
    · simp [h1, h2]
  · simp [h1]
theorem neq_run (pk pv qk qv : Int) (pg qg : ByteArray) (w : World) : (binOp .neq 42 (.agg #[.int .i64 pk, .int .i64 pv, .string pg]) (.agg #[.int .i64 qk, .int .i64 qv, .string qg])).run Try.prog w = .ok (.bool (!same ⟨pk, pv, pg⟩ ⟨qk, qv, qg⟩)) w := by
  rw [run_neq_struct, eq_in ⟨pk, pv, pg⟩ ⟨qk, qv, qg⟩ w]
  rfl
theorem guard_run (x y : Operand) (xs ys : Array Value) (w : World) : (eqGuard .neq 42 x y (.agg xs) (.agg ys)).run Try.prog w = .ok () w := run_eqGuard_agg w .neq _ x y xs ys guard
end Go.Proofs.Ytlfhfcgcfggjcaa.eeq
