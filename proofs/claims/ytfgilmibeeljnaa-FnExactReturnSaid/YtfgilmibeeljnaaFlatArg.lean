/- A list of structures that comes in as an argument, opened: as it lies in memory. -/
import Derived.Test.YtfgilmibeeljnaaFlatLib
import Derived.Deep.SlicePairs
import Derived.Deep.Strs
import Derived.Lib.SmallJoins
namespace Go.Proofs.Ytfgilmibeeljnaa.fl
open Go.ChangeShapes Go.WideShapes Go.ChangeAt Go.RowKit
set_option linter.unusedVariables false

theorem add_at {b off : Nat} (i : Nat) : (⟨b, off, none⟩ : Addr).add i = ⟨b, off + i, none⟩ := by unfold Addr.add; split <;> simp_all

theorem row_of {α : Type} {c : α → List Value} {n : Nat} {W : World} {a : Addr} {l : List α} (hn : ∀ e, (c e).length = n) (h0 : 0 < n) (hc : ∀ (i : Nat) (e : α), l[i]? = some e → ∀ (j : Nat) (v : Value), (c e)[j]? = some v → W.cell? (a.add (i * n + j)) = some v) : Row c n W W.heap.size (some a) l := by
  cases l with
  | nil => exact .inl rfl
  | cons y r =>
    obtain ⟨b, off, spot⟩ := a
    have hy : 0 < (c y).length := by rw [hn]; exact h0
    have h0 := hc 0 y rfl 0 _ (List.getElem?_eq_getElem hy)
    have hspot : spot = none := by simpa [Addr.add] using World.cell?_spot h0
    subst hspot
    refine .inr ⟨b, off, rfl, by have := block_lt_of_cell h0; rw [add_at] at this; exact this, fun i x hx j v hv => ?_⟩
    have h := hc i x hx j v hv
    rw [add_at, ← Nat.add_assoc] at h
    exact h

section
variable {H : Type} {enc : TypeId × Value → H}
theorem open_row {α : Type} [Inhabited α] {c : α → List Value} {n : Nat} {ok : α → Prop} {P : Program} {W : World} {held : Bool} {fuel : Nat} {t e : TypeId} {v : Value} {y : DataW H × List MemPlace} (hn : ∀ e, (c e).length = n) (h0 : 0 < n)
    (ht : P.underlying t = some (.slice e)) (ce : P.cellsOf e = n)
    (hel : ∀ (cs : List Value) (k : Nat) (x : DataW H × List MemPlace), DataW.trod enc P W 0 (fun _ => true) held k e cs = some x → ∃ a, cs = c a ∧ ok a)
    (h : DataW.trod enc P W 0 (fun _ => true) held fuel t [v] = some y) :
    ∃ (a : Option Addr) (l : List α) (cap : Nat), v = .slice a l.length cap ∧ l.length ≤ maxLen ∧ (∀ e ∈ l, ok e) ∧ Row c n W W.heap.size a l := by
  rcases Deep.open_slice ht h with ⟨hcs, _⟩ | ⟨a, len, cap, m, k, D, Pl, hcs, hb, hl, hm, hmm, _, hx⟩
  · simp at hcs
    exact ⟨none, [], 0, hcs, by simp, by simp, .inl rfl⟩
  · simp at hcs hmm
    have each : ∀ i, i < len → ∃ x : α, ok x ∧ ∀ (j : Nat) (v : Value), (c x)[j]? = some v → W.cell? (a.add (i * n + j)) = some v := fun i hi => by
      obtain ⟨cs', h1, h2⟩ := hx i (by omega)
      rw [ce] at h1
      obtain ⟨_, hlen, hcell⟩ := World.cells?_some h1
      obtain ⟨x, rfl, hok⟩ := hel cs' k _ h2
      refine ⟨x, hok, fun j v hv => ?_⟩
      have hj := (List.getElem?_eq_some_iff.1 hv).1
      have hh := hcell j (by rw [hn] at hj; exact hj)
      rw [Deep.add_add] at hh
      rw [hh]
      simpa using hv
    obtain ⟨E, hE⟩ := Deep.choose_lt each
    refine ⟨some a, (List.range len).map E, cap, by simpa using hcs, by simp; omega, ?_, row_of hn h0 fun i x hi => ?_⟩
    · intro x hxm
      obtain ⟨i, hi, rfl⟩ := List.mem_map.1 hxm
      exact (hE i (List.mem_range.1 hi)).1
    · have hlt := (List.getElem?_eq_some_iff.1 hi).1
      simp at hlt
      have he := (List.getElem?_eq_some_iff.1 hi).2
      simp at he
      subst he
      exact (hE i hlt).2
end
end Go.Proofs.Ytfgilmibeeljnaa.fl
