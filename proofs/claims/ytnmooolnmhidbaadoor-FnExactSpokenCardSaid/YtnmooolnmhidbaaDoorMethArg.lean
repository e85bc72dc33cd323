/- A method that comes in as an argument, opened: its numbers, and its two lists as they lie in memory. -/
import Derived.Test.YtnmooolnmhidbaaDoorLists
import Derived.Lib.SmallJoins
import Derived.ProofKit
import Derived.OpenShut
namespace Go.Proofs.YtnmooolnmhidbaaDoor.ma
open Go.ChangeShapes Go.WideShapes Go.ChangeAt Go.RowKit Go.Proofs.YtnmooolnmhidbaaDoor.ls

theorem add_at {b off : Nat} (i : Nat) : (⟨b, off, none⟩ : Addr).add i = ⟨b, off + i, none⟩ := by unfold Addr.add; split <;> simp_all

theorem sl_of {α : Type} {f : α → Value} {W : World} {a : Addr} {l : List α} (hc : ∀ (i : Nat) (x : α), l[i]? = some x → W.cell? (a.add i) = some (f x)) : Sl f W W.heap.size (some a) l := by
  cases l with
  | nil => exact .inl rfl
  | cons y r =>
    obtain ⟨b, off, spot⟩ := a
    have h0 := hc 0 y rfl
    have hspot : spot = none := by simpa [Addr.add] using World.cell?_spot h0
    subst hspot
    refine .inr ⟨b, off, rfl, block_lt_of_cell h0, fun i x hx => ?_⟩
    rw [← add_at i]
    exact hc i x hx

section
variable {H : Type} {enc : TypeId × Value → H}
theorem open_texts {W : World} {n : Nat} {v : Value} {y : DataW H × List MemPlace} (h : DataW.trod enc Tryd.prog W 0 (fun _ => true) true n 22 [v] = some y) :
    ∃ (a : Option Addr) (ts : List ByteArray) (cap : Nat), v = .slice a ts.length cap ∧ ts.length ≤ maxLen ∧ (∀ x ∈ ts, x.size ≤ maxLen) ∧ Sl Value.string W W.heap.size a ts := by
  rcases Deep.open_strs Tryd.underlying22 Tryd.underlying9 (by kernel_rfl) h with ⟨hcs, _⟩ | ⟨a, len, cap, m, Sx, hcs, _, hl, hm, hmm, _, hx⟩
  · simp at hcs
    exact ⟨none, [], 0, hcs, by simp, by simp, .inl rfl⟩
  · simp at hcs
    have hmc : m = cap := by simpa using hmm
    refine ⟨some a, (List.range len).map Sx, cap, by simpa using hcs, by simp; omega, ?_, sl_of fun i x hi => ?_⟩
    · intro x hxm
      obtain ⟨i, hi, rfl⟩ := List.mem_map.1 hxm
      exact (hx i (by have := List.mem_range.1 hi; omega)).2
    · have hlt := (List.getElem?_eq_some_iff.1 hi).1
      simp at hlt
      have he := (List.getElem?_eq_some_iff.1 hi).2
      simp at he
      rw [(hx i (by omega)).1, he]

theorem open_nums {W : World} {n : Nat} {v : Value} {y : DataW H × List MemPlace} (h : DataW.trod enc Tryd.prog W 0 (fun _ => true) true n 23 [v] = some y) :
    ∃ (a : Option Addr) (ns : List Int) (cap : Nat), v = .slice a ns.length cap ∧ ns.length ≤ maxLen ∧ (∀ x ∈ ns, (Lit.int .i64 x).wf = true) ∧ Sl (Value.int .i64) W W.heap.size a ns := by
  rcases open_ints Tryd.underlying23 Tryd.underlying3 (by kernel_rfl) h with ⟨hcs, _⟩ | ⟨a, len, cap, zs, hcs, _, hl, hm, hz, _, hcell, hwz⟩
  · simp at hcs
    exact ⟨none, [], 0, hcs, by simp, by simp, .inl rfl⟩
  · simp at hcs hz
    refine ⟨some a, zs.take len, cap, by rw [hcs, List.length_take, show min len zs.length = len by omega], by simp; omega, fun x hx => hwz x (List.mem_of_mem_take hx), sl_of fun i x hi => ?_⟩
    have hlt := (List.getElem?_eq_some_iff.1 hi).1
    simp at hlt
    have he := (List.getElem?_eq_some_iff.1 hi).2
    simp at he
    rw [hcell i (by omega), List.getD, List.getElem?_eq_getElem (by omega), he]
    rfl

theorem cellsM : Tryd.prog.cellsOf 25 = 4 := by kernel_rfl

set_option maxRecDepth 100000 in
theorem open_method {W : World} {b0 : Nat} {v : Value} {d : DataW H} {p : List MemPlace} (hv : Value.okWide Tryd.prog W .any b0 25 v) (h : DataW.Trod enc Tryd.prog W 0 (fun _ => true) true 25 v d p) :
    ∃ (c i : Int) (ts : List ByteArray) (ns : List Int) (ta na : Option Addr) (tc nc : Nat), v = .agg #[.int .i64 c, .int .i64 i, .slice ta ts.length tc, .slice na ns.length nc] ∧ (Lit.int .i64 c).wf = true ∧ (Lit.int .i64 i).wf = true ∧
      ts.length ≤ maxLen ∧ (∀ x ∈ ts, x.size ≤ maxLen) ∧ ns.length ≤ maxLen ∧ (∀ x ∈ ns, (Lit.int .i64 x).wf = true) ∧ Sl Value.string W W.heap.size ta ts ∧ Sl (Value.int .i64) W W.heap.size na ns := by
  obtain ⟨x0, x1, x2, x3, y0, y1, y2, y3, m, rfl, _, _, hy0, hy1, hy2, hy3⟩ := Joins.open_agg4 Tryd.underlying25 (by kernel_rfl) cellsM hv h
  obtain ⟨c, e0, _, wc⟩ := DataW.trod_int Tryd.underlying3 hy0
  obtain ⟨i, e1, _, wi⟩ := DataW.trod_int Tryd.underlying3 hy1
  simp at e0 e1
  subst e0 e1
  obtain ⟨ta, ts, tc, rfl, h1, h2, h3⟩ := open_texts hy2
  obtain ⟨na, ns, nc, rfl, g1, g2, g3⟩ := open_nums hy3
  exact ⟨c, i, ts, ns, ta, na, tc, nc, rfl, wc, wi, h1, h2, g1, g2, h3, g3⟩
end
end Go.Proofs.YtnmooolnmhidbaaDoor.ma
