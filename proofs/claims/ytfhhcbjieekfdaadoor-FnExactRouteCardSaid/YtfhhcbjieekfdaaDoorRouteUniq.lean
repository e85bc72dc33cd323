/- Texts sorted, and each but once: as when they are put one by one. -/
import Derived.Test.YtfhhcbjieekfdaaDoorRoutePure
import Derived.Lib.SlicesCompact
namespace Go.Proofs.YtfhhcbjieekfdaaDoor.rtu
open Go.ChangeShapes Go.WideShapes Go.ChangeAt Go.RowKit Go.Proofs.YtfhhcbjieekfdaaDoor.rc Go.Proofs.YtfhhcbjieekfdaaDoor.ro Go.Proofs.YtfhhcbjieekfdaaDoor.rtp
set_option linter.unusedVariables false

def bt (L : List ByteArray) : List (List UInt8) := L.map fun s => s.data.toList
theorem less_lt : ∀ (a b : List UInt8), Op.bytesLess a b = true → a < b
  | _, [], h => by simp [Op.bytesLess] at h
  | [], y :: b, _ => by simp
  | x :: a, y :: b, h => by
    simp only [Op.bytesLess, Bool.or_eq_true, decide_eq_true_eq, Bool.and_eq_true, beq_iff_eq] at h
    rw [List.cons_lt_cons_iff]
    rcases h with h | ⟨h1, h2⟩
    · exact .inl h
    · exact .inr ⟨h1, less_lt a b h2⟩
theorem bt_up {L : List ByteArray} (h : Asc L) : (bt L).Pairwise fun a b => a < b := by
  unfold bt
  rw [List.pairwise_map]
  refine h.imp fun {a b} hab => ?_
  unfold lt at hab
  rw [ByteArray.toList_eq, ByteArray.toList_eq] at hab
  exact less_lt _ _ hab
theorem up_ext : ∀ {l m : List (List UInt8)}, l.Pairwise (fun a b => a < b) → m.Pairwise (fun a b => a < b) → (∀ e, e ∈ l ↔ e ∈ m) → l = m
  | [], [], _, _, _ => rfl
  | [], b :: m, _, _, h => by have := (h b).2 (by simp); cases this
  | a :: l, [], _, _, h => by have := (h a).1 (by simp); cases this
  | a :: l, b :: m, hl, hm, h => by
    obtain ⟨l1, l2⟩ := List.pairwise_cons.1 hl
    obtain ⟨m1, m2⟩ := List.pairwise_cons.1 hm
    have e : a = b := by
      rcases List.mem_cons.1 ((h a).1 (by simp)) with h1 | h1
      · exact h1
      · rcases List.mem_cons.1 ((h b).2 (by simp)) with h2 | h2
        · exact h2.symm
        · exact absurd (l1 b h2) (List.lt_asymm (m1 a h1))
    subst e
    congr 1
    refine up_ext l2 m2 fun x => ⟨fun hx => ?_, fun hx => ?_⟩
    · rcases List.mem_cons.1 ((h x).1 (by simp [hx])) with h1 | h1
      · subst h1; exact absurd (l1 x hx) (List.lt_irrefl x)
      · exact h1
    · rcases List.mem_cons.1 ((h x).2 (by simp [hx])) with h1 | h1
      · subst h1; exact absurd (m1 x hx) (List.lt_irrefl x)
      · exact h1
theorem lt_of_le_ne {a b : List UInt8} (h : a ≤ b) (hne : a ≠ b) : a < b := by
  by_cases hh : a < b
  · exact hh
  · exact absurd (List.le_antisymm h (List.not_lt.1 hh)) hne
/-- what is kept of a sorted row's first m -/
theorem kept (d : Array (List UInt8)) (hs : ∀ i j, i ≤ j → j < d.size → d[i]! ≤ d[j]!) : ∀ m, m ≤ d.size →
    (Lib.compactUpTo d m).Pairwise (fun a b => a < b) ∧ ∀ x, x ∈ Lib.compactUpTo d m ↔ ∃ j, j < m ∧ d[j]! = x
  | 0, _ => by simp [Lib.compactUpTo]
  | m + 1, hm => by
    obtain ⟨ih1, ih2⟩ := kept d hs m (by omega)
    rw [Lib.compactUpTo_succ]
    cases hk : Lib.keeps d m with
    | true =>
      rw [if_pos rfl]
      refine ⟨List.pairwise_append.2 ⟨ih1, List.pairwise_singleton _ _, ?_⟩, fun x => ?_⟩
      · intro a ha b hb
        rw [List.mem_singleton] at hb
        subst hb
        obtain ⟨j, hj, rfl⟩ := (ih2 a).1 ha
        refine lt_of_le_ne (hs j m (by omega) (by omega)) fun e => ?_
        simp only [Lib.keeps, decide_eq_true_eq] at hk
        rcases hk with hk | hk
        · omega
        · refine hk (List.le_antisymm ?_ (hs (m - 1) m (by omega) (by omega)))
          rw [← e]
          exact hs j (m - 1) (by omega) (by omega)
      · rw [List.mem_append, ih2, List.mem_singleton]
        constructor
        · rintro (⟨j, h1, h2⟩ | h)
          · exact ⟨j, by omega, h2⟩
          · exact ⟨m, by omega, h.symm⟩
        · rintro ⟨j, h1, h2⟩
          rcases Nat.lt_or_eq_of_le (Nat.le_of_lt_succ h1) with h | h
          · exact .inl ⟨j, h, h2⟩
          · subst h; exact .inr h2.symm
    | false =>
      rw [if_neg (by simp), List.append_nil]
      simp only [Lib.keeps, decide_eq_false_iff_not, not_or, Decidable.not_not] at hk
      refine ⟨ih1, fun x => ?_⟩
      rw [ih2]
      constructor
      · rintro ⟨j, h1, h2⟩
        exact ⟨j, by omega, h2⟩
      · rintro ⟨j, h1, h2⟩
        rcases Nat.lt_or_eq_of_le (Nat.le_of_lt_succ h1) with h | h
        · exact ⟨j, h, h2⟩
        · subst h; exact ⟨j - 1, by omega, by rw [← hk.2]; exact h2⟩
theorem uniq (L : List ByteArray) : Lib.compact ((bt L).mergeSort fun x y => decide (x ≤ y)) = bt (puts L) := by
  obtain ⟨S, hS⟩ : ∃ S, (bt L).mergeSort (fun x y => decide (x ≤ y)) = S := ⟨_, rfl⟩
  have hsort : S.Pairwise fun a b => a ≤ b := by
    have := List.pairwise_mergeSort (le := fun x y : List UInt8 => decide (x ≤ y)) (fun a b c h1 h2 => by simp only [decide_eq_true_eq] at *; exact List.le_trans h1 h2) (fun a b => by simp only [Bool.or_eq_true, decide_eq_true_eq]; exact List.le_total a b) (bt L)
    rw [hS] at this
    exact this.imp fun h => by simpa using h
  have hmem : ∀ x, x ∈ S ↔ x ∈ bt L := fun x => by rw [← hS]; exact List.mem_mergeSort
  rw [hS]
  have hs : ∀ i j, i ≤ j → j < S.toArray.size → S.toArray[i]! ≤ S.toArray[j]! := fun i j hij hj => by
    have hj' : j < S.length := by simpa using hj
    have e1 : S.toArray[i]! = S[i]'(by omega) := by simp [getElem!_pos, show i < S.length by omega]
    have e2 : S.toArray[j]! = S[j] := by simp [getElem!_pos, hj']
    rw [e1, e2]
    rcases Nat.lt_or_eq_of_le hij with h | h
    · exact List.pairwise_iff_getElem.1 hsort i j (by omega) hj' h
    · subst h; exact List.le_refl _
  obtain ⟨k1, k2⟩ := kept S.toArray hs S.length (by simp)
  refine up_ext k1 (bt_up (puts_asc L)) fun x => ?_
  rw [show (x ∈ Lib.compact S) = (x ∈ Lib.compactUpTo S.toArray S.length) from rfl, k2]
  have hb : x ∈ bt (puts L) ↔ x ∈ S := by
    rw [hmem]
    unfold bt
    simp only [List.mem_map, puts_mem]
  rw [hb]
  constructor
  · rintro ⟨j, h1, h2⟩
    have e : S.toArray[j]! = S[j] := by simp [getElem!_pos, h1]
    rw [← h2, e]
    exact List.getElem_mem h1
  · intro h
    obtain ⟨j, hj, e⟩ := List.getElem_of_mem h
    exact ⟨j, hj, by simp [getElem!_pos, hj, e]⟩
end Go.Proofs.YtfhhcbjieekfdaaDoor.rtu
