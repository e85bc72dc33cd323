/- Two marks held beside each other as a whole: what == and != of the struct answer. -/
import Derived.Test.YtlfhfcgcfggjcaaDoorStreamMarkPure
import Derived.Test.YtlfhfcgcfggjcaaDoorMw01
import Derived.Test.YtlfhfcgcfggjcaaDoorStreamReadSpec
import Derived.Test.YtlfhfcgcfggjcaaDoorFlEntry
import Derived.Laws.StructEq
import Derived.Lib.Strings
import Derived.Test.YtlfhfcgcfggjcaaDoorFlMark

/- FnMarks, without memory: what a reader's mark is behind one that was set, and what is read is one behind the other. -/
namespace Go.Proofs.YtlfhfcgcfggjcaaDoor.mpu
open Go.Proofs.YtlfhfcgcfggjcaaDoor.fl Go.Proofs.YtlfhfcgcfggjcaaDoor.rc Go.Proofs.YtlfhfcgcfggjcaaDoor.rr Go.Proofs.YtlfhfcgcfggjcaaDoor.rf Go.Proofs.YtlfhfcgcfggjcaaDoor.ro Go.Proofs.YtlfhfcgcfggjcaaDoor.st Go.Proofs.YtlfhfcgcfggjcaaDoor.smp
set_option linter.unusedVariables false

theorem tl_of {a b : ByteArray} (h : a.toList = b.toList) : a = b := of_same h
/-- in a list whose readers ascend each mark is the one that is found -/
theorem mark_of {L : List Ex} (hU : UpE L L.length) {e : Ex} (he : e ∈ L) : smk.mark L e.n = e.k := by
  obtain ⟨k, hk⟩ := List.getElem?_of_mem he
  refine smk.mark_hit e.n L k e hk (fun i a hi ha heq => ?_) rfl
  have h1 := up_lt hU (k - i - 1) i a e ha (by rw [← hk]; congr 1; omega)
  rw [tl_of heq, lt_irrefl] at h1
  cases h1
theorem mem_set {ms : List Ex} {r : ByteArray} {o : Int} {e : Ex} (he : e ∈ ms) (hne : e.n ≠ r) : e ∈ setM ms r o := by
  unfold setM restM
  have he2 : e ∈ ms.take (posM ms r) ++ ms.drop (posM ms r) := by rw [List.take_append_drop]; exact he
  rcases List.mem_append.1 he2 with h | h
  · exact List.mem_append.2 (.inl h)
  · refine List.mem_append.2 (.inr (List.mem_cons_of_mem _ ?_))
    split
    · next hm =>
      unfold isM at hm
      cases hp : ms[posM ms r]? with
      | none => rw [hp] at hm; cases hm
      | some a =>
        rw [hp] at hm
        have ha : a.n = r := by simpa using hm
        have hlt := (List.getElem?_eq_some_iff.1 hp).1
        rw [List.drop_eq_getElem_cons hlt] at h
        rcases List.mem_cons.1 h with h | h
        · rw [List.getElem?_eq_getElem hlt] at hp
          rw [h, Option.some.inj hp] at hne
          exact absurd ha hne
        · exact h
    · exact h
theorem mem_new (ms : List Ex) (r : ByteArray) (o : Int) : (⟨r, o⟩ : Ex) ∈ setM ms r o := by unfold setM; simp
section
variable {sn : ByteArray} {lo nx o : Int} {es : List flY.En} {ms : List Ex} {r : ByteArray}
theorem fit_up (h : fits sn lo nx es ms r o = true) : ansM sn lo nx es ms r o = setM ms r o ∧ UpE (setM ms r o) (setM ms r o).length := by
  refine ⟨by unfold ansM; rw [if_pos h], ?_⟩
  unfold fits at h
  exact (okB_true.1 (Bool.and_eq_true_iff.1 h).2).mu
/-- no other reader's mark is changed -/
theorem mark_other (h : fits sn lo nx es ms r o = true) {e : Ex} (he : e ∈ ms) (hne : e.n ≠ r) : smk.mark (ansM sn lo nx es ms r o) e.n = e.k := by
  rw [(fit_up h).1]
  exact mark_of (fit_up h).2 (mem_set he hne)
/-- the reader's mark is what it was set to -/
theorem mark_own (h : fits sn lo nx es ms r o = true) : smk.mark (ansM sn lo nx es ms r o) r = o := by
  rw [(fit_up h).1]
  exact mark_of (fit_up h).2 (mem_new ms r o)
theorem mark_no (h : fits sn lo nx es ms r o = false) : ansM sn lo nx es ms r o = ms := by unfold ansM; rw [if_neg (by rw [h]; simp)]
variable {off most : Int}
theorem read_few : (srd.read sn lo nx es ms off most).length ≤ 400 := by
  unfold srd.read
  split
  · next h =>
    have := (okB_true.1 h).el
    rw [List.length_take, List.length_drop]
    omega
  · exact Nat.zero_le _
theorem read_at {k : Nat} {e : flY.En} (h : (srd.read sn lo nx es ms off most)[k]? = some e) : off ≤ e.o ∧ e.o = lo + (srd.skip lo off + k : Nat) ∧ 0 ≤ e.o ∧ e.o ≤ 1000000000 := by
  unfold srd.read at h
  split at h
  · next hok =>
    have hO := okB_true.1 hok
    have hk := (List.getElem?_eq_some_iff.1 h).1
    rw [List.length_take] at hk
    rw [List.getElem?_take_of_lt (by omega), List.getElem?_drop] at h
    have he := hO.eo _ e h
    have h1 := he.1
    have hl := hO.len
    have h0 := hO.lo0
    have hn := hO.nx0
    have hlt := (List.getElem?_eq_some_iff.1 h).1
    unfold srd.skip at *
    omega
  · simp at h
end
end Go.Proofs.YtlfhfcgcfggjcaaDoor.mpu

/- Two entries held beside each other as a whole: what == and != of the struct answer. -/
namespace Go.Proofs.YtlfhfcgcfggjcaaDoor.eeq
open Go.ChangeShapes Go.WideShapes Go.ChangeAt Go.RowKit Go.Proofs.YtlfhfcgcfggjcaaDoor.fl
set_option linter.unusedVariables false

theorem fields : ∃ f0 f1 f2 : Field, Tryd.prog.fieldsOf 43 = #[f0, f1, f2] ∧ (f0.name ≠ "_" ∧ f0.type = 3 ∧ f0.offset = 0) ∧ (f1.name ≠ "_" ∧ f1.type = 3 ∧ f1.offset = 1) ∧ (f2.name ≠ "_" ∧ f2.type = 9 ∧ f2.offset = 2) := by
  refine ⟨_, _, _, (by kernel_rfl : Tryd.prog.fieldsOf 43 = #[(Tryd.prog.fieldsOf 43).getD 0 default, (Tryd.prog.fieldsOf 43).getD 1 default, (Tryd.prog.fieldsOf 43).getD 2 default]), ⟨by decide +kernel, by kernel_rfl, by kernel_rfl⟩, ⟨by decide +kernel, by kernel_rfl, by kernel_rfl⟩, ⟨by decide +kernel, by kernel_rfl, by kernel_rfl⟩⟩
theorem und : Tryd.prog.underlying 43 = some (.struct (Tryd.prog.fieldsOf 43)) := by kernel_rfl
theorem held : Tryd.prog.stoodInHeld 43 = false := by kernel_rfl
theorem guard : Tryd.prog.eqGuardType Tryd.prog.depth 43 = false := by kernel_rfl
theorem tl {x y : ByteArray} : x.toList = y.toList ↔ x = y := by
  constructor
  · intro h
    rw [Lib.toList_data, Lib.toList_data] at h
    exact ByteArray.ext (Array.toList_inj.1 h)
  · rintro rfl; rfl
/-- whether two entries are one -/
def same (p q : flY.En) : Bool := decide (p.o = q.o) && (decide (p.t = q.t) && decide (p.b = q.b))
theorem same_iff {p q : flY.En} : same p q = true ↔ p = q := by
  obtain ⟨pk, pv, pg⟩ := p
  obtain ⟨qk, qv, qg⟩ := q
  simp [same]
theorem eq_in (p q : flY.En) (w : World) : (Op.equalIn 10000 43 (.agg #[.int .i64 p.o, .int .i64 p.t, .string p.b]) (.agg #[.int .i64 q.o, .int .i64 q.t, .string q.b])).run Tryd.prog w = .ok (same p q) w := by
  obtain ⟨f0, f1, f2, hf, ⟨a0, b0, c0⟩, ⟨a1, b1, c1⟩, ⟨a2, b2, c2⟩⟩ := fields
  rw [show (10000 : Nat) = 9999 + 1 from rfl, run_equalIn_agg w 9999 _ _ _ und held, hf]
  obtain ⟨pk, pv, pg⟩ := p
  obtain ⟨qk, qv, qg⟩ := q
  simp [Op.eqFields, a0, a1, a2, b0, b1, b2, c0, c1, c2, go_sem, part, Tryd.underlying9, Tryd.underlying3]
  simp only [tl]
  unfold same
  by_cases h1 : pk = qk
  · by_cases h2 : pv = qv
    · by_cases h3 : pg = qg <;> simp [h1, h2, h3]
    · simp [h1, h2]
  · simp [h1]
theorem neq_run (pk pv qk qv : Int) (pg qg : ByteArray) (w : World) : (binOp .neq 43 (.agg #[.int .i64 pk, .int .i64 pv, .string pg]) (.agg #[.int .i64 qk, .int .i64 qv, .string qg])).run Tryd.prog w = .ok (.bool (!same ⟨pk, pv, pg⟩ ⟨qk, qv, qg⟩)) w := by
  rw [run_neq_struct, eq_in ⟨pk, pv, pg⟩ ⟨qk, qv, qg⟩ w]
  rfl
theorem guard_run (x y : Operand) (xs ys : Array Value) (w : World) : (eqGuard .neq 43 x y (.agg xs) (.agg ys)).run Tryd.prog w = .ok () w := run_eqGuard_agg w .neq _ x y xs ys guard
end Go.Proofs.YtlfhfcgcfggjcaaDoor.eeq

/- Two marks held beside each other as a whole: what == and != of the struct answer. -/
namespace Go.Proofs.YtlfhfcgcfggjcaaDoor.meq
open Go.ChangeShapes Go.WideShapes Go.ChangeAt Go.RowKit Go.Proofs.YtlfhfcgcfggjcaaDoor.fl
set_option linter.unusedVariables false

theorem fields : ∃ f0 f1 : Field, Tryd.prog.fieldsOf 45 = #[f0, f1] ∧ (f0.name ≠ "_" ∧ f0.type = 9 ∧ f0.offset = 0) ∧ (f1.name ≠ "_" ∧ f1.type = 3 ∧ f1.offset = 1) := by
  refine ⟨_, _, (by kernel_rfl : Tryd.prog.fieldsOf 45 = #[(Tryd.prog.fieldsOf 45).getD 0 default, (Tryd.prog.fieldsOf 45).getD 1 default]), ⟨by decide +kernel, by kernel_rfl, by kernel_rfl⟩, ⟨by decide +kernel, by kernel_rfl, by kernel_rfl⟩⟩
theorem und : Tryd.prog.underlying 45 = some (.struct (Tryd.prog.fieldsOf 45)) := by kernel_rfl
theorem held : Tryd.prog.stoodInHeld 45 = false := by kernel_rfl
theorem guard : Tryd.prog.eqGuardType Tryd.prog.depth 45 = false := by kernel_rfl
theorem tl {x y : ByteArray} : x.toList = y.toList ↔ x = y := by
  constructor
  · intro h
    rw [Lib.toList_data, Lib.toList_data] at h
    exact ByteArray.ext (Array.toList_inj.1 h)
  · rintro rfl; rfl
/-- whether two marks are one -/
def same (p q : rr.Ex) : Bool := decide (p.n = q.n) && decide (p.k = q.k)
theorem same_iff {p q : rr.Ex} : same p q = true ↔ p = q := by
  obtain ⟨pk, pv⟩ := p
  obtain ⟨qk, qv⟩ := q
  simp [same]
theorem eq_in (p q : rr.Ex) (w : World) : (Op.equalIn 10000 45 (.agg #[.string p.n, .int .i64 p.k]) (.agg #[.string q.n, .int .i64 q.k])).run Tryd.prog w = .ok (same p q) w := by
  obtain ⟨f0, f1, hf, ⟨a0, b0, c0⟩, ⟨a1, b1, c1⟩⟩ := fields
  rw [show (10000 : Nat) = 9999 + 1 from rfl, run_equalIn_agg w 9999 _ _ _ und held, hf]
  obtain ⟨pk, pv⟩ := p
  obtain ⟨qk, qv⟩ := q
  simp [Op.eqFields, a0, a1, b0, b1, c0, c1, go_sem, part, Tryd.underlying9, Tryd.underlying3]
  simp only [tl]
  unfold same
  by_cases h1 : pk = qk
  · by_cases h2 : pv = qv <;> simp [h1, h2]
  · simp [h1]
theorem neq_run (pk qk : ByteArray) (pv qv : Int) (w : World) : (binOp .neq 45 (.agg #[.string pk, .int .i64 pv]) (.agg #[.string qk, .int .i64 qv])).run Tryd.prog w = .ok (.bool (!same ⟨pk, pv⟩ ⟨qk, qv⟩)) w := by
  rw [run_neq_struct, eq_in ⟨pk, pv⟩ ⟨qk, qv⟩ w]
  rfl
theorem guard_run (x y : Operand) (xs ys : Array Value) (w : World) : (eqGuard .neq 45 x y (.agg xs) (.agg ys)).run Tryd.prog w = .ok () w := run_eqGuard_agg w .neq _ x y xs ys guard
end Go.Proofs.YtlfhfcgcfggjcaaDoor.meq
