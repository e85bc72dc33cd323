/- Lists of structures as the cells that append lays: an element's cells one behind the other. -/
import Derived.Test.YtoemkbooomgieaaGreatDoorFlatLib
import Derived.Laws.AppendOwn
namespace Go.Proofs.YtoemkbooomgieaaGreatDoor.fl
open Go.ChangeShapes Go.WideShapes Go.ChangeAt Go.RowKit
set_option linter.unusedVariables false

section
variable {α : Type} {c : α → List Value} {n : Nat} {l : List α}
theorem flat_len (hn : ∀ e, (c e).length = n) : ∀ l : List α, (l.flatMap c).length = l.length * n
  | [] => by simp
  | x :: r => by rw [List.flatMap_cons, List.length_append, flat_len hn r, hn, List.length_cons, Nat.add_mul]; omega
theorem flat_at (hn : ∀ e, (c e).length = n) : ∀ (l : List α) (i : Nat) (e : α), l[i]? = some e → ∀ (j : Nat) (v : Value), (c e)[j]? = some v → (l.flatMap c)[i * n + j]? = some v
  | [], i, e, h => by simp at h
  | x :: r, 0, e, h => fun j v hv => by
    simp at h
    subst h
    have hj := (List.getElem?_eq_some_iff.1 hv).1
    rw [List.flatMap_cons, Nat.zero_mul, Nat.zero_add, List.getElem?_append_left hj]
    exact hv
  | x :: r, i + 1, e, h => fun j v hv => by
    have ih := flat_at hn r i e (by simpa using h) j v hv
    rw [List.flatMap_cons, List.getElem?_append_right (by rw [hn, Nat.add_mul]; omega), hn, show (i + 1) * n + j - n = i * n + j by rw [Nat.add_mul]; omega]
    exact ih
theorem flat_get (hn : ∀ e, (c e).length = n) : ∀ (l : List α) (j : Nat) (u : Value), (l.flatMap c)[j]? = some u → ∃ i e r, l[i]? = some e ∧ (c e)[r]? = some u ∧ j = i * n + r
  | [], j, u, h => by simp at h
  | x :: r, j, u, h => by
    rw [List.flatMap_cons] at h
    by_cases hj : j < n
    · rw [List.getElem?_append_left (by rw [hn]; exact hj)] at h
      exact ⟨0, x, j, rfl, h, by omega⟩
    · rw [List.getElem?_append_right (by rw [hn]; omega), hn] at h
      obtain ⟨i, e, k, h1, h2, h3⟩ := flat_get hn r (j - n) u h
      exact ⟨i + 1, e, k, by simpa using h1, h2, by rw [Nat.add_mul]; omega⟩
/-- what is owned lies behind the slice's address -/
theorem own_row {w : World} {B : Nat} {T : TypeId} {v : Value} (hn : ∀ e, (c e).length = n) (h : w.ownsRow B T n v l.length (l.flatMap c)) : ∃ a cap, v = .slice a l.length cap ∧ Row c n w w.heap.size a l := by
  obtain ⟨_, ⟨rfl, h0⟩ | ⟨g, cap, cur, rfl, _, h1, _, _, h3, h4⟩⟩ := h
  · have : l = [] := List.eq_nil_of_length_eq_zero h0
    subst this
    exact ⟨none, 0, rfl, .inl rfl⟩
  · refine ⟨_, cap, rfl, .inr ⟨g, 0, rfl, (Array.getElem?_eq_some_iff.1 h1).1, fun i e he j v hv => ?_⟩⟩
    have hf := flat_at hn l i e he j v hv
    rw [← h4] at hf
    have hlt := (List.getElem?_eq_some_iff.1 hf).1
    rw [List.length_take] at hlt
    rw [List.getElem?_take_of_lt (by omega)] at hf
    rw [Nat.zero_add]
    exact bcell h1 (by simpa using hf)
end
end Go.Proofs.YtoemkbooomgieaaGreatDoor.fl
