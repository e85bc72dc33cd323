/- Ascending pairs, and one put in its place. -/
import Derived.Test.YtlgcciaebkfnjaaGreatDoorPutPure0
namespace Go.Proofs.YtlgcciaebkfnjaaGreatDoor.mgp
open Go.Proofs.YtlgcciaebkfnjaaGreatDoor.rc Go.Proofs.YtlgcciaebkfnjaaGreatDoor.ro Go.Proofs.YtlgcciaebkfnjaaGreatDoor.ptp
set_option linter.unusedVariables false

def Asc (l : List flP.Pr) : Prop := l.Pairwise fun a b => lt a.k b.k = true
theorem asc_ext : ∀ {l m : List flP.Pr}, Asc l → Asc m → (∀ e, e ∈ l ↔ e ∈ m) → l = m
  | [], [], _, _, _ => rfl
  | [], b :: m, _, _, h => by have := (h b).2 (by simp); cases this
  | a :: l, [], _, _, h => by have := (h a).1 (by simp); cases this
  | a :: l, b :: m, hl, hm, h => by
    obtain ⟨l1, l2⟩ := List.pairwise_cons.1 hl
    obtain ⟨m1, m2⟩ := List.pairwise_cons.1 hm
    have e : a = b := by
      rcases List.mem_cons.1 ((h a).1 (by simp)) with h1 | h1
      · exact h1
      · rcases List.mem_cons.1 ((h b).2 (by simp)) with h2 | h2
        · exact h2.symm
        · have := lt_asymm (m1 a h1); rw [l1 b h2] at this; cases this
    subst e
    congr 1
    refine asc_ext l2 m2 fun x => ⟨fun hx => ?_, fun hx => ?_⟩
    · rcases List.mem_cons.1 ((h x).1 (by simp [hx])) with h1 | h1
      · subst h1; have := l1 x hx; rw [lt_irrefl] at this; cases this
      · exact h1
    · rcases List.mem_cons.1 ((h x).2 (by simp [hx])) with h1 | h1
      · subst h1; have := m1 x hx; rw [lt_irrefl] at this; cases this
      · exact h1
theorem asc_key {l : List flP.Pr} (h : Asc l) {a b : flP.Pr} (ha : a ∈ l) (hb : b ∈ l) (hk : a.k = b.k) : a = b := by
  induction l with
  | nil => cases ha
  | cons x l ih =>
    obtain ⟨l1, l2⟩ := List.pairwise_cons.1 h
    rcases List.mem_cons.1 ha with rfl | ha'
    · rcases List.mem_cons.1 hb with rfl | hb'
      · rfl
      · have := l1 b hb'; rw [hk, lt_irrefl] at this; cases this
    · rcases List.mem_cons.1 hb with rfl | hb'
      · have := l1 a ha'; rw [hk, lt_irrefl] at this; cases this
      · exact ih l2 ha' hb'
theorem setP_cons (a : flP.Pr) (l : List flP.Pr) (e : flP.Pr) : setP (a :: l) e = if lt a.k e.k = true then a :: setP l e else if a.k = e.k then e :: l else e :: a :: l := by
  by_cases h : lt a.k e.k = true
  · have hp : posP (a :: l) e.k = posP l e.k + 1 := by show (if lt a.k e.k = true then posP l e.k + 1 else 0) = _; rw [if_pos h]
    rw [if_pos h]
    unfold setP restP
    rw [hp]
    have hi : isP (a :: l) (posP l e.k + 1) e.k = isP l (posP l e.k) e.k := by unfold isP; rw [List.getElem?_cons_succ]
    rw [hi]
    split <;> simp
  · have hp : posP (a :: l) e.k = 0 := by show (if lt a.k e.k = true then posP l e.k + 1 else 0) = _; rw [if_neg h]
    rw [if_neg h]
    unfold setP restP
    rw [hp]
    have hi : isP (a :: l) 0 e.k = decide (a.k = e.k) := rfl
    rw [hi]
    by_cases hk : a.k = e.k
    · rw [if_pos (decide_eq_true hk), if_pos hk]; simp
    · rw [if_neg (by simpa using hk), if_neg hk]; simp
theorem setP_iff : ∀ {l : List flP.Pr}, Asc l → ∀ (e x : flP.Pr), x ∈ setP l e ↔ x = e ∨ (x ∈ l ∧ x.k ≠ e.k)
  | [], _, e, x => by simp [setP, restP, posP, isP]
  | a :: l, h, e, x => by
    obtain ⟨l1, l2⟩ := List.pairwise_cons.1 h
    rw [setP_cons]
    split
    · rename_i hlt
      have hne : a.k ≠ e.k := fun hk => by rw [hk, lt_irrefl] at hlt; cases hlt
      rw [List.mem_cons, setP_iff l2 e x]
      constructor
      · rintro (rfl | rfl | ⟨h1, h2⟩)
        · exact .inr ⟨by simp, hne⟩
        · exact .inl rfl
        · exact .inr ⟨by simp [h1], h2⟩
      · rintro (rfl | ⟨h1, h2⟩)
        · exact .inr (.inl rfl)
        · rcases List.mem_cons.1 h1 with rfl | h1
          · exact .inl rfl
          · exact .inr (.inr ⟨h1, h2⟩)
    · rename_i hlt
      have hgt : ∀ y ∈ l, y.k ≠ e.k := fun y hy hk => hlt (by rw [← hk]; exact l1 y hy)
      split
      · rename_i hk
        rw [List.mem_cons]
        constructor
        · rintro (rfl | h1)
          · exact .inl rfl
          · exact .inr ⟨by simp [h1], hgt x h1⟩
        · rintro (rfl | ⟨h1, h2⟩)
          · exact .inl rfl
          · rcases List.mem_cons.1 h1 with rfl | h1
            · exact absurd hk h2
            · exact .inr h1
      · rename_i hk
        rw [List.mem_cons]
        constructor
        · rintro (rfl | h1)
          · exact .inl rfl
          · rcases List.mem_cons.1 h1 with rfl | h2
            · exact .inr ⟨h1, hk⟩
            · exact .inr ⟨h1, hgt x h2⟩
        · rintro (rfl | ⟨h1, h2⟩)
          · exact .inl rfl
          · exact .inr h1
theorem setP_asc : ∀ {l : List flP.Pr}, Asc l → ∀ (e : flP.Pr), Asc (setP l e)
  | [], _, e => by simp [setP, restP, posP, isP, Asc]
  | a :: l, h, e => by
    obtain ⟨l1, l2⟩ := List.pairwise_cons.1 h
    rw [setP_cons]
    split
    · rename_i hlt
      refine List.pairwise_cons.2 ⟨fun x hx => ?_, setP_asc l2 e⟩
      rcases (setP_iff l2 e x).1 hx with rfl | ⟨h1, _⟩
      · exact hlt
      · exact l1 x h1
    · rename_i hlt
      have hlt' : lt a.k e.k = false := by simpa using hlt
      split
      · rename_i hk
        exact List.pairwise_cons.2 ⟨fun x hx => by rw [← hk]; exact l1 x hx, l2⟩
      · rename_i hk
        have hea := lt_tri hlt' hk
        refine List.pairwise_cons.2 ⟨fun x hx => ?_, h⟩
        rcases List.mem_cons.1 hx with rfl | hx
        · exact hea
        · exact lt_trans hea (l1 x hx)
end Go.Proofs.YtlgcciaebkfnjaaGreatDoor.mgp
