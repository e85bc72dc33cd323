/- The newest of each key, one pair of the next layer after the other. -/
import Derived.Test.YtfoajjkcocppeaaMergePure
namespace Go.Proofs.Ytfoajjkcocppeaa.mgs
open Go.Proofs.Ytfoajjkcocppeaa.rc Go.Proofs.Ytfoajjkcocppeaa.ro Go.Proofs.Ytfoajjkcocppeaa.tk Go.Proofs.Ytfoajjkcocppeaa.ptp Go.Proofs.Ytfoajjkcocppeaa.mgp
set_option linter.unusedVariables false

theorem new_there {ls : List (List flP.Pr)} : ∀ (i : Nat) (l : List flP.Pr) (y : flP.Pr), ls[i]? = some l → y ∈ l → ∃ x, New ls x ∧ x.k = y.k := by
  intro i
  induction i using Nat.strongRecOn with
  | ind i ih =>
    intro l y hl hy
    by_cases h : ∃ (j : Nat) (m : List flP.Pr) (z : flP.Pr), j < i ∧ ls[j]? = some m ∧ z ∈ m ∧ z.k = y.k
    · obtain ⟨j, m, z, h1, h2, h3, h4⟩ := h
      obtain ⟨x, hx, hk⟩ := ih j h1 m z h2 h3
      exact ⟨x, hx, hk.trans h4⟩
    · exact ⟨y, ⟨i, l, hl, hy, fun j m hj hm z hz hk => h ⟨j, m, z, hj, hm, hz, hk⟩⟩, rfl⟩
theorem at_app {L : List (List flP.Pr)} {m l : List flP.Pr} {i : Nat} (h : (L ++ [m])[i]? = some l) : (i < L.length ∧ L[i]? = some l) ∨ (i = L.length ∧ l = m) := by
  rcases Nat.lt_or_ge i L.length with h1 | h1
  · rw [List.getElem?_append_left h1] at h; exact .inl ⟨h1, h⟩
  · rw [List.getElem?_append_right h1] at h
    have : i - L.length = 0 := by
      rcases Nat.eq_zero_or_pos (i - L.length) with h2 | h2
      · exact h2
      · rw [List.getElem?_eq_none (by simp; omega)] at h; cases h
    rw [this] at h
    simp at h
    exact .inr ⟨by omega, h.symm⟩
theorem new_app {L : List (List flP.Pr)} {m : List flP.Pr} {x : flP.Pr} : New (L ++ [m]) x ↔ New L x ∨ (x ∈ m ∧ ∀ (j : Nat) (l : List flP.Pr), L[j]? = some l → ∀ y ∈ l, y.k ≠ x.k) := by
  constructor
  · rintro ⟨i, l, h1, h2, h3⟩
    rcases at_app h1 with ⟨hi, hl⟩ | ⟨rfl, rfl⟩
    · exact .inl ⟨i, l, hl, h2, fun j q hj hq => h3 j q hj (by rw [List.getElem?_append_left (by omega)]; exact hq)⟩
    · exact .inr ⟨h2, fun j q hq => h3 j q (List.getElem?_eq_some_iff.1 hq).1 (by rw [List.getElem?_append_left (List.getElem?_eq_some_iff.1 hq).1]; exact hq)⟩
  · rintro (⟨i, l, h1, h2, h3⟩ | ⟨h2, h3⟩)
    · have hi := (List.getElem?_eq_some_iff.1 h1).1
      exact ⟨i, l, by rw [List.getElem?_append_left hi]; exact h1, h2, fun j q hj hq => h3 j q hj (by rw [List.getElem?_append_left (by omega)] at hq; exact hq)⟩
    · refine ⟨L.length, m, by simp, h2, fun j q hj hq => h3 j q (by rw [List.getElem?_append_left hj] at hq; exact hq)⟩
theorem is_nil {L : List (List flP.Pr)} {all : List flP.Pr} (h : Is L all) : Is (L ++ [[]]) all := ⟨h.1, fun x => by rw [h.2 x, new_app]; simp⟩
theorem is_one {l : List flP.Pr} (h : Asc l) : Is [l] l := ⟨h, fun x => by
  have := new_app (L := []) (m := l) (x := x)
  rw [List.nil_append] at this
  rw [this]
  constructor
  · intro hx; exact .inr ⟨hx, fun j q hq => by simp at hq⟩
  · rintro (⟨i, q, h1, _⟩ | ⟨h1, _⟩)
    · simp at h1
    · exact h1⟩
/-- a pair whose key is there already -/
theorem is_old {L : List (List flP.Pr)} {m all : List flP.Pr} {e z : flP.Pr} (h : Is (L ++ [m]) all) (hA : Asc (m ++ [e])) (hz : z ∈ all) (hk : z.k = e.k) : Is (L ++ [m ++ [e]]) all := by
  refine ⟨h.1, fun x => ?_⟩
  rw [h.2 x, new_app, new_app]
  constructor
  · rintro (h1 | ⟨h1, h2⟩)
    · exact .inl h1
    · exact .inr ⟨by simp [h1], h2⟩
  · rintro (h1 | ⟨h1, h2⟩)
    · exact .inl h1
    · rcases List.mem_append.1 h1 with h3 | h3
      · exact .inr ⟨h3, h2⟩
      · simp at h3; subst h3
        exfalso
        rcases new_app.1 ((h.2 z).1 hz) with ⟨i, l, k1, k2, _⟩ | ⟨k1, _⟩
        · exact h2 i l k1 z k2 hk
        · have := (List.pairwise_append.1 hA).2.2 z k1 x (by simp)
          rw [hk, lt_irrefl] at this; cases this
/-- a pair whose key is not there yet -/
theorem is_new {L : List (List flP.Pr)} {m all : List flP.Pr} {e : flP.Pr} (h : Is (L ++ [m]) all) (hno : ∀ z ∈ all, z.k ≠ e.k) : Is (L ++ [m ++ [e]]) (setP all e) := by
  have hL : ∀ (j : Nat) (l : List flP.Pr), L[j]? = some l → ∀ y ∈ l, y.k ≠ e.k := fun j l hl y hy hk => by
    obtain ⟨x, hx, hxk⟩ := new_there (ls := L ++ [m]) j l y (by rw [List.getElem?_append_left (List.getElem?_eq_some_iff.1 hl).1]; exact hl) hy
    exact hno x ((h.2 x).2 hx) (hxk.trans hk)
  refine ⟨setP_asc h.1 e, fun x => ?_⟩
  rw [setP_iff h.1, h.2 x, new_app, new_app]
  constructor
  · rintro (rfl | ⟨h1 | ⟨h1, h2⟩, _⟩)
    · exact .inr ⟨by simp, hL⟩
    · exact .inl h1
    · exact .inr ⟨by simp [h1], h2⟩
  · rintro (h1 | ⟨h1, h2⟩)
    · refine .inr ⟨.inl h1, hno x ((h.2 x).2 (new_app.2 (.inl h1)))⟩
    · rcases List.mem_append.1 h1 with h3 | h3
      · exact .inr ⟨.inr ⟨h3, h2⟩, hno x ((h.2 x).2 (new_app.2 (.inr ⟨h3, h2⟩)))⟩
      · simp at h3; exact .inl h3
/-- a pair of a layer that counts more -/
theorem is_over {a b all : List flP.Pr} {k : Nat} {e : flP.Pr} (h : Is [a.take k, b] all) (hA : Asc a) (hk : a[k]? = some e) : Is [a.take (k + 1), b] (setP all e) := by
  obtain ⟨hl, rfl⟩ := List.getElem?_eq_some_iff.1 hk
  have ht : a.take (k + 1) = a.take k ++ [a[k]] := by rw [List.take_succ_eq_append_getElem hl]
  have hA2 : Asc (a.take k ++ [a[k]]) := by rw [← ht]; exact hA.sublist (List.take_sublist _ _)
  have two : ∀ (u v : List flP.Pr) (x : flP.Pr), New [u, v] x ↔ x ∈ u ∨ (x ∈ v ∧ ∀ y ∈ u, y.k ≠ x.k) := fun u v x => by
    have h1 := new_app (L := [u]) (m := v) (x := x)
    have h2 := new_app (L := []) (m := u) (x := x)
    rw [List.nil_append] at h2
    rw [show [u, v] = [u] ++ [v] from rfl, h1, h2]
    constructor
    · rintro ((⟨i, q, h3, _⟩ | ⟨h3, _⟩) | ⟨h3, h4⟩)
      · simp at h3
      · exact .inl h3
      · exact .inr ⟨h3, h4 0 u rfl⟩
    · rintro (h3 | ⟨h3, h4⟩)
      · exact .inl (.inr ⟨h3, fun j q hq => by simp at hq⟩)
      · refine .inr ⟨h3, fun j q hq => ?_⟩
        cases j with
        | zero => simp at hq; subst hq; exact h4
        | succ j => simp at hq
  refine ⟨setP_asc h.1 _, fun x => ?_⟩
  rw [setP_iff h.1, h.2 x, two, two, ht]
  constructor
  · rintro (rfl | ⟨h1 | ⟨h1, h2⟩, h3⟩)
    · exact .inl (List.mem_append_right _ (List.mem_singleton.2 rfl))
    · exact .inl (List.mem_append_left _ h1)
    · refine .inr ⟨h1, fun y hy => ?_⟩
      rcases List.mem_append.1 hy with hy | hy
      · exact h2 y hy
      · simp at hy; subst hy; exact fun e => h3 e.symm
  · rintro (h1 | ⟨h1, h2⟩)
    · rcases List.mem_append.1 h1 with h3 | h3
      · refine .inr ⟨.inl h3, fun hk2 => ?_⟩
        have := (List.pairwise_append.1 hA2).2.2 x h3 a[k] (by simp)
        rw [hk2, lt_irrefl] at this; cases this
      · simp at h3; exact .inl h3
    · exact .inr ⟨.inr ⟨h1, fun y hy => h2 y (List.mem_append_left _ hy)⟩, fun hk2 => h2 a[k] (List.mem_append_right _ (List.mem_singleton.2 rfl)) hk2.symm⟩
end Go.Proofs.Ytfoajjkcocppeaa.mgs
