/- Streams as they lie in memory, and what it is that one is right. -/
import Derived.Test.YtlfhfcgcfggjcaaDoorFlEntry
import Derived.Test.YtlfhfcgcfggjcaaDoorFlMark
import Derived.Test.YtlfhfcgcfggjcaaDoorMarkBase
namespace Go.Proofs.YtlfhfcgcfggjcaaDoor.st
open Go.ChangeShapes Go.WideShapes Go.ChangeAt Go.RowKit Go.Proofs.YtlfhfcgcfggjcaaDoor.fl Go.Proofs.YtlfhfcgcfggjcaaDoor.rc Go.Proofs.YtlfhfcgcfggjcaaDoor.rr Go.Proofs.YtlfhfcgcfggjcaaDoor.rf
set_option linter.unusedVariables false

/-- the cells of block g from its first on hold the entries l -/
def RY (w : World) (g : Nat) (l : List flY.En) : Prop := g < w.heap.size ∧ ∀ (i : Nat) (e : flY.En), l[i]? = some e → w.cell? ⟨g, i * 3, none⟩ = some (.int .i64 e.o) ∧ w.cell? ⟨g, i * 3 + 1, none⟩ = some (.int .i64 e.t) ∧ w.cell? ⟨g, i * 3 + 2, none⟩ = some (.string e.b)
theorem RY.below {w w' : World} {g : Nat} {l : List flY.En} (h : RY w g l) (hb : Below w.heap.size w w') : RY w' g l :=
  ⟨Nat.lt_of_lt_of_le h.1 hb.size, fun i e he => ⟨(hb.cell (p := ⟨g, i * 3, none⟩) h.1).trans (h.2 i e he).1, (hb.cell (p := ⟨g, i * 3 + 1, none⟩) h.1).trans (h.2 i e he).2.1, (hb.cell (p := ⟨g, i * 3 + 2, none⟩) h.1).trans (h.2 i e he).2.2⟩⟩
/-- what a law's bound leaves -/
structure Fit (sn : ByteArray) (es : List flY.En) (ms : List Ex) : Prop where
  ns : sn.size ≤ 1048576
  el : es.length ≤ 1048576
  ml : ms.length ≤ 1048576
  eb : ∀ e ∈ es, e.b.size ≤ 1048576
  mb : ∀ e ∈ ms, e.n.size ≤ 1048576
def enOk (lo : Int) (i : Nat) (e : flY.En) : Prop := e.o = lo + i ∧ 0 ≤ e.t ∧ e.t ≤ 1000000000 ∧ e.b.size ≤ 3000
def mkOk (nx : Int) (m : Ex) : Prop := nm.good m.n = true ∧ 0 ≤ m.k ∧ m.k ≤ nx
/-- a stream is right -/
structure OkT (sn : ByteArray) (lo nx : Int) (es : List flY.En) (ms : List Ex) : Prop where
  nmk : nm.good sn = true
  nx0 : 0 ≤ nx ∧ nx ≤ 1000000000
  lo0 : 0 ≤ lo ∧ lo ≤ nx
  len : (es.length : Int) = nx - lo
  el : es.length ≤ 400
  ml : ms.length ≤ 20
  eo : ∀ (i : Nat) e, es[i]? = some e → enOk lo i e
  eu : ∀ (i : Nat) a b, es[i]? = some a → es[i + 1]? = some b → a.t ≤ b.t
  mo : ∀ (i : Nat) m, ms[i]? = some m → mkOk nx m
  mu : UpE ms ms.length
noncomputable def okB (sn : ByteArray) (lo nx : Int) (es : List flY.En) (ms : List Ex) : Bool := @decide (OkT sn lo nx es ms) (Classical.propDecidable _)
theorem okB_true {sn : ByteArray} {lo nx : Int} {es : List flY.En} {ms : List Ex} : okB sn lo nx es ms = true ↔ OkT sn lo nx es ms := by unfold okB; exact @decide_eq_true_iff _ (Classical.propDecidable _)
theorem okB_no {sn : ByteArray} {lo nx : Int} {es : List flY.En} {ms : List Ex} (h : ¬ OkT sn lo nx es ms) : okB sn lo nx es ms = false := by
  cases hb : okB sn lo nx es ms with
  | false => rfl
  | true => exact absurd (okB_true.1 hb) h

/-- the first k entries are right -/
def GoodY (lo : Int) (es : List flY.En) (k : Nat) : Prop := (∀ (i : Nat) e, i < k → es[i]? = some e → enOk lo i e) ∧ ∀ (i : Nat) a b, i + 1 < k → es[i]? = some a → es[i + 1]? = some b → a.t ≤ b.t
theorem goodY_zero (lo : Int) (es : List flY.En) : GoodY lo es 0 := ⟨fun i e h => by omega, fun i a b h => by omega⟩
theorem goodY_next {lo : Int} {es : List flY.En} {k : Nat} {e : flY.En} (h : GoodY lo es k) (he : es[k]? = some e) (h1 : enOk lo k e) (h2 : ∀ p, k ≠ 0 → es[k - 1]? = some p → p.t ≤ e.t) : GoodY lo es (k + 1) := by
  refine ⟨fun i f hi hf => ?_, fun i a b hi ha hb => ?_⟩
  · by_cases ei : i = k
    · subst ei; rw [he] at hf; cases hf; exact h1
    · exact h.1 i f (by omega) hf
  · by_cases ei : i + 1 = k
    · subst ei
      rw [he] at hb
      cases hb
      exact h2 a (by omega) (by simpa using ha)
    · exact h.2 i a b (by omega) ha hb
theorem goodY_all {lo : Int} {es : List flY.En} {k : Nat} (h : GoodY lo es k) (hk : es.length ≤ k) : (∀ (i : Nat) e, es[i]? = some e → enOk lo i e) ∧ ∀ (i : Nat) a b, es[i]? = some a → es[i + 1]? = some b → a.t ≤ b.t :=
  ⟨fun i e he => h.1 i e (by have := (List.getElem?_eq_some_iff.1 he).1; omega) he, fun i a b ha hb => h.2 i a b (by have := (List.getElem?_eq_some_iff.1 hb).1; omega) ha hb⟩
/-- the first k marks are right -/
def GoodK (nx : Int) (ms : List Ex) (k : Nat) : Prop := (∀ (i : Nat) e, i < k → ms[i]? = some e → mkOk nx e) ∧ UpE ms k
theorem goodK_zero (nx : Int) (ms : List Ex) : GoodK nx ms 0 := ⟨fun i e h => by omega, fun i a b h => by omega⟩
theorem goodK_next {nx : Int} {ms : List Ex} {k : Nat} {e : Ex} (h : GoodK nx ms k) (he : ms[k]? = some e) (h1 : mkOk nx e) (h2 : ∀ p, k ≠ 0 → ms[k - 1]? = some p → lt p.n e.n = true) : GoodK nx ms (k + 1) := by
  refine ⟨fun i f hi hf => ?_, fun i a b hi ha hb => ?_⟩
  · by_cases ei : i = k
    · subst ei; rw [he] at hf; cases hf; exact h1
    · exact h.1 i f (by omega) hf
  · by_cases ei : i + 1 = k
    · subst ei
      rw [he] at hb
      cases hb
      exact ro.cmp_neg.2 (h2 a (by omega) (by simpa using ha))
    · exact h.2 i a b (by omega) ha hb
theorem bdrewN {B : Nat} {a w : World} (h : Below B a w) (n : Nat) : Below B a (w.drewN n) := ⟨h.os, h.tape, h.output, h.size, h.block⟩
end Go.Proofs.YtlfhfcgcfggjcaaDoor.st
