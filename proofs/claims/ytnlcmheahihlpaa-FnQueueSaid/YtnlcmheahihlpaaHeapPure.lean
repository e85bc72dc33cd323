/- A heap in a list: what is put at its end goes up to its place, what stands at its head goes down: the same elements, the least ahead. -/
import Derived.Test.YtnlcmheahihlpaaRows
namespace Go.Proofs.Ytnlcmheahihlpaa.hp
set_option linter.unusedVariables false
variable {α : Type} {lt : α → α → Bool} {l : List α} {i j n : Nat} {a b : α}

/-- what is asked of the order -/
structure Ord (lt : α → α → Bool) : Prop where
  irr : ∀ a, lt a a = false
  tr : ∀ {a b c}, lt b a = false → lt c b = false → lt c a = false
  asy : ∀ {a b}, lt a b = true → lt b a = false

def P (i : Nat) : Nat := (i - 1) / 2
theorem P_lt (h : 0 < i) : P i < i := by unfold P; omega
def Le (lt : α → α → Bool) (l : List α) (i j : Nat) : Prop := ∀ a b, l[i]? = some a → l[j]? = some b → lt b a = false
def Heap (lt : α → α → Bool) (l : List α) (n : Nat) : Prop := ∀ i, 0 < i → i < n → Le lt l (P i) i
def UpI (lt : α → α → Bool) (l : List α) (j n : Nat) : Prop := (∀ i, 0 < i → i < n → i ≠ j → Le lt l (P i) i) ∧ (0 < j → ∀ c, 0 < c → c < n → P c = j → Le lt l (P j) c)
def DnI (lt : α → α → Bool) (l : List α) (i n : Nat) : Prop := (∀ c, 0 < c → c < n → P c ≠ i → Le lt l (P c) c) ∧ (0 < i → ∀ c, 0 < c → c < n → P c = i → Le lt l (P i) c)

/-- two that change their places -/
def sw (l : List α) (i j : Nat) : List α := match l[i]?, l[j]? with
  | some a, some b => (l.set i b).set j a
  | _, _ => l
theorem sw_eq (hi : l[i]? = some a) (hj : l[j]? = some b) : sw l i j = (l.set i b).set j a := by simp only [sw, hi, hj]
theorem sw_len : (sw l i j).length = l.length := by unfold sw; split <;> simp
theorem sw_at (hi : l[i]? = some a) (hj : l[j]? = some b) (k : Nat) : (sw l i j)[k]? = if k = j then some a else if k = i then some b else l[k]? := by
  have hil := (List.getElem?_eq_some_iff.1 hi).1
  have hjl := (List.getElem?_eq_some_iff.1 hj).1
  rw [sw_eq hi hj, List.getElem?_set]
  by_cases h1 : j = k
  · subst h1
    simp [hjl]
  · rw [if_neg h1, if_neg (Ne.symm h1), List.getElem?_set]
    by_cases h2 : i = k
    · subst h2
      simp [hil]
    · rw [if_neg h2, if_neg (Ne.symm h2)]
theorem sw_first (hi : l[i]? = some a) (hj : l[j]? = some b) : (sw l i j)[i]? = some b := by
  rw [sw_at hi hj]
  by_cases h : i = j
  · subst h; rw [if_pos rfl, ← hi, hj]
  · rw [if_neg h, if_pos rfl]
theorem sw_last (hi : l[i]? = some a) (hj : l[j]? = some b) : (sw l i j)[j]? = some a := by rw [sw_at hi hj, if_pos rfl]
theorem sw_else (hi : l[i]? = some a) (hj : l[j]? = some b) {k : Nat} (h1 : k ≠ i) (h2 : k ≠ j) : (sw l i j)[k]? = l[k]? := by rw [sw_at hi hj, if_neg h2, if_neg h1]
theorem sw_perm (hi : l[i]? = some a) (hj : l[j]? = some b) : (sw l i j).Perm l := by
  obtain ⟨hil, rfl⟩ := List.getElem?_eq_some_iff.1 hi
  obtain ⟨hjl, rfl⟩ := List.getElem?_eq_some_iff.1 hj
  rw [sw_eq hi hj]
  have h := Array.swap_perm (xs := l.toArray) (i := i) (j := j) (by simpa using hil) (by simpa using hjl)
  have h2 := Array.perm_iff_toList_perm.1 h
  simpa [Array.swap] using h2

theorem up_step (O : Ord lt) (hn : n ≤ l.length) (hj0 : 0 < j) (hjn : j < n) (U : UpI lt l j n) (hp : l[P j]? = some a) (hj : l[j]? = some b) (h : lt b a = true) : UpI lt (sw l (P j) j) (P j) n := by
  have hpj := P_lt hj0
  refine ⟨fun i hi0 hin hne => ?_, fun hp0 c hc0 hcn hpc => ?_⟩
  · have hpi := P_lt hi0
    intro x y hx hy
    by_cases e : i = j
    · subst e
      rw [sw_first hp hj] at hx
      rw [sw_last hp hj] at hy
      cases hx; cases hy
      exact O.asy h
    · rw [sw_else hp hj hne e] at hy
      by_cases e2 : P i = j
      · rw [e2, sw_last hp hj] at hx
        cases hx
        exact U.2 hj0 i hi0 hin e2 _ _ hp hy
      · by_cases e3 : P i = P j
        · rw [e3, sw_first hp hj] at hx
          cases hx
          have h1 := U.1 i hi0 hin e _ _ (by rw [e3]; exact hp) hy
          exact O.tr (O.asy h) h1
        · rw [sw_else hp hj e3 e2] at hx
          exact U.1 i hi0 hin e _ _ hx hy
  · have hpp := P_lt hp0
    have hpc2 := P_lt hc0
    intro x y hx hy
    rw [sw_else hp hj (by omega) (by omega)] at hx
    have h1 := U.1 (P j) hp0 (by omega) (by omega) _ _ hx hp
    by_cases e : c = j
    · subst e
      rw [sw_last hp hj] at hy
      cases hy
      exact h1
    · rw [sw_else hp hj (by omega) e] at hy
      have h2 := U.1 c hc0 hcn e _ _ (by rw [hpc]; exact hp) hy
      exact O.tr h1 h2
theorem up_end (U : UpI lt l j n) (h : 0 < j → Le lt l (P j) j) : Heap lt l n := fun i hi0 hin => by
  by_cases e : i = j
  · subst e; exact h hi0
  · exact U.1 i hi0 hin e
theorem up_new {x : α} (H : Heap lt l l.length) : UpI lt (l ++ [x]) l.length (l.length + 1) := by
  refine ⟨fun i hi0 hin hne => ?_, fun h0 c hc0 hcn hpc => by unfold P at hpc; omega⟩
  have hp := P_lt hi0
  intro a b ha hb
  rw [List.getElem?_append_left (by omega)] at ha hb
  exact H i hi0 (by omega) _ _ ha hb

theorem down_step (O : Ord lt) (hi : l[i]? = some a) (hj : l[j]? = some b) (hj0 : 0 < j) (hjn : j < n) (hpj : P j = i) (D : DnI lt l i n) (h : lt b a = true) (hc : ∀ c, 0 < c → c < n → P c = i → Le lt l j c) : DnI lt (sw l i j) j n := by
  have hij : i < j := by have := P_lt hj0; omega
  refine ⟨fun c hc0 hcn hne => ?_, fun _ c hc0 hcn hpc => ?_⟩
  · have hpc := P_lt hc0
    intro x y hx hy
    by_cases e : P c = i
    · rw [e, sw_first hi hj] at hx
      cases hx
      by_cases e2 : c = j
      · subst e2
        rw [sw_last hi hj] at hy
        cases hy
        exact O.asy h
      · rw [sw_else hi hj (by omega) e2] at hy
        exact hc c hc0 hcn e _ _ hj hy
    · have ecj : c ≠ j := fun e2 => e (by rw [e2]; exact hpj)
      by_cases e2 : c = i
      · subst e2
        rw [sw_first hi hj] at hy
        cases hy
        rw [sw_else hi hj (by omega) (by omega)] at hx
        exact D.2 hc0 j hj0 hjn hpj _ _ hx hj
      · rw [sw_else hi hj e2 ecj] at hy
        rw [sw_else hi hj e hne] at hx
        exact D.1 c hc0 hcn e _ _ hx hy
  · have hpc2 := P_lt hc0
    intro x y hx hy
    rw [hpj, sw_first hi hj] at hx
    cases hx
    rw [sw_else hi hj (by omega) (by omega)] at hy
    exact D.1 c hc0 hcn (by omega) _ _ (by rw [hpc]; exact hj) hy
theorem down_end (D : DnI lt l i n) (h : ∀ c, 0 < c → c < n → P c = i → Le lt l i c) : Heap lt l n := fun c hc0 hcn => by
  by_cases e : P c = i
  · rw [e]; exact h c hc0 hcn e
  · exact D.1 c hc0 hcn e
/-- no child -/
theorem none_child (h : ¬ 2 * i + 1 < n) : ∀ c, 0 < c → c < n → P c = i → Le lt l i c := fun c h0 h1 h2 => by unfold P at h2; omega
/-- the lesser child: the one or the other -/
theorem child (hc0 : 0 < j) (h : P j = i) : j = 2 * i + 1 ∨ j = 2 * i + 2 := by unfold P at h; omega
theorem P_one (i : Nat) : P (2 * i + 1) = i := by unfold P; omega
theorem P_two (i : Nat) : P (2 * i + 2) = i := by unfold P; omega
theorem least_two (O : Ord lt) {x y : α} (h1 : l[2 * i + 1]? = some x) (h2 : l[2 * i + 2]? = some y) (h : lt y x = true) : ∀ c, 0 < c → c < n → P c = i → Le lt l (2 * i + 2) c := fun c hc0 hcn hpc p q hp hq => by
  rw [h2] at hp; cases hp
  rcases child hc0 hpc with rfl | rfl
  · rw [h1] at hq; cases hq; exact O.asy h
  · rw [h2] at hq; cases hq; exact O.irr _
theorem least_one (O : Ord lt) {x : α} (h1 : l[2 * i + 1]? = some x) (h : 2 * i + 2 < n → ∀ y, l[2 * i + 2]? = some y → lt y x = false) : ∀ c, 0 < c → c < n → P c = i → Le lt l (2 * i + 1) c := fun c hc0 hcn hpc p q hp hq => by
  rw [h1] at hp; cases hp
  rcases child hc0 hpc with rfl | rfl
  · rw [h1] at hq; cases hq; exact O.irr _
  · exact h hcn q hq
/-- the lesser child is not less than the one above -/
theorem least_end (O : Ord lt) (hj : l[j]? = some b) (hi : l[i]? = some a) (h : lt b a = false) (hc : ∀ c, 0 < c → c < n → P c = i → Le lt l j c) : ∀ c, 0 < c → c < n → P c = i → Le lt l i c := fun c hc0 hcn hpc p q hp hq => by
  rw [hi] at hp; cases hp
  exact O.tr h (hc c hc0 hcn hpc _ _ hj hq)
theorem down_sw {m : Nat} (h0 : l[0]? = some a) (hm : l[m]? = some b) (H : Heap lt l (m + 1)) : DnI lt (sw l 0 m) 0 m := by
  refine ⟨fun c hc0 hcn hne => ?_, fun h => absurd h (by omega)⟩
  have hp := P_lt hc0
  intro x y hx hy
  rw [sw_else h0 hm hne (by omega)] at hx
  rw [sw_else h0 hm (by omega) (by omega)] at hy
  exact H c hc0 (by omega) _ _ hx hy
theorem Heap.head (O : Ord lt) (H : Heap lt l n) (hn : n ≤ l.length) : ∀ i, i < n → Le lt l 0 i := by
  intro i
  induction i using Nat.strongRecOn with
  | ind i ih =>
    intro hin
    by_cases h0 : i = 0
    · subst h0
      intro x y hx hy
      rw [hx] at hy; cases hy
      exact O.irr _
    · have hp := P_lt (i := i) (by omega)
      intro x y hx hy
      have hz : l[P i]? = some (l[P i]'(by omega)) := List.getElem?_eq_getElem _
      exact O.tr (ih (P i) hp (by omega) _ _ hx hz) (H i (by omega) hin _ _ hz hy)
theorem Heap.take {m : Nat} (H : Heap lt l n) (hm : m ≤ n) : Heap lt (l.take m) m := fun i h0 h1 x y hx hy => by
  have hp := P_lt h0
  rw [List.getElem?_take_of_lt (by omega)] at hx
  rw [List.getElem?_take_of_lt h1] at hy
  exact H i h0 (by omega) _ _ hx hy
end Go.Proofs.Ytnlcmheahihlpaa.hp
