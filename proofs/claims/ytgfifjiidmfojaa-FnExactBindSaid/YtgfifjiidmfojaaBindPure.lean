/- A binding put among ascending bindings: their order, where it goes, the list behind it, and what Bind answers. -/
import Derived.Test.YtgfifjiidmfojaaRouteOrder
namespace Go.Proofs.Ytgfifjiidmfojaa.bp
open Go.Proofs.Ytgfifjiidmfojaa.rc Go.Proofs.Ytgfifjiidmfojaa.rr Go.Proofs.Ytgfifjiidmfojaa.rf Go.Proofs.Ytgfifjiidmfojaa.rs Go.Proofs.Ytgfifjiidmfojaa.ro
set_option linter.unusedVariables false

theorem before_irrefl (a : Bi) : before a a = false := by unfold before; simp [lt_irrefl]
theorem before_trans {a b c : Bi} (h1 : before a b = true) (h2 : before b c = true) : before a c = true := by
  unfold before at *
  by_cases e1 : a.x = b.x
  · rw [if_pos e1] at h1
    by_cases e2 : b.x = c.x
    · rw [if_pos e2] at h2
      rw [if_pos (e1.trans e2)]
      by_cases f1 : a.k = b.k
      · rw [if_pos f1] at h1
        by_cases f2 : b.k = c.k
        · rw [if_pos f2] at h2
          rw [if_pos (f1.trans f2)]
          exact lt_trans h1 h2
        · rw [if_neg f2] at h2
          rw [if_neg (by rw [f1]; exact f2), f1]
          exact h2
      · rw [if_neg f1] at h1
        by_cases f2 : b.k = c.k
        · rw [if_neg (by rw [← f2]; exact f1), ← f2]
          exact h1
        · rw [if_neg f2] at h2
          have h3 := lt_trans h1 h2
          rw [if_neg (fun e => by rw [e, lt_irrefl] at h3; cases h3)]
          exact h3
    · rw [if_neg e2] at h2
      rw [if_neg (by rw [e1]; exact e2), e1]
      exact h2
  · rw [if_neg e1] at h1
    by_cases e2 : b.x = c.x
    · rw [if_neg (by rw [← e2]; exact e1), ← e2]
      exact h1
    · rw [if_neg e2] at h2
      have h3 := lt_trans h1 h2
      rw [if_neg (fun e => by rw [e, lt_irrefl] at h3; cases h3)]
      exact h3
theorem cmpB_zero {a b : Bi} : cmpB a b = 0 ↔ a = b := by
  unfold cmpB or3
  constructor
  · intro h
    by_cases h1 : cmpT a.x b.x = 0
    · rw [if_neg (by simp [h1])] at h
      by_cases h2 : cmpT a.k b.k = 0
      · rw [if_neg (by simp [h2])] at h
        obtain ⟨ax, ak, aq⟩ := a
        obtain ⟨bx, bk, bq⟩ := b
        have e1 := cmp_zero.1 h1
        have e2 := cmp_zero.1 h2
        have e3 := cmp_zero.1 h
        simp only at e1 e2 e3
        subst e1 e2 e3
        rfl
      · rw [if_pos h2] at h
        exact absurd h h2
    · rw [if_pos h1] at h
      exact absurd h h1
  · rintro rfl
    have e1 : cmpT a.x a.x = 0 := cmp_zero.2 rfl
    have e2 : cmpT a.k a.k = 0 := cmp_zero.2 rfl
    have e3 : cmpT a.q a.q = 0 := cmp_zero.2 rfl
    rw [if_neg (by simp [e1]), if_neg (by simp [e2]), e3]
/-- what stands up to h is ahead of the binding, once what stands at h is -/
def MonB (l : List Bi) (t : Bi) : Prop := ∀ (i j : Nat) a b, i ≤ j → l[i]? = some a → l[j]? = some b → cmpB b t < 0 → cmpB a t < 0
/-- p is the place of the binding -/
def PosB (l : List Bi) (t : Bi) (p : Nat) : Prop := p ≤ l.length ∧ (∀ (i : Nat) a, i < p → l[i]? = some a → cmpB a t < 0) ∧ ∀ (i : Nat) a, p ≤ i → l[i]? = some a → 0 ≤ cmpB a t
theorem up_ltB {l : List Bi} (h : UpB l l.length) : ∀ (d i : Nat) (a b : Bi), l[i]? = some a → l[i + d + 1]? = some b → before a b = true
  | 0, i, a, b, ha, hb => before_cmp.2 (h i a b (List.getElem?_eq_some_iff.1 hb).1 ha hb)
  | d + 1, i, a, b, ha, hb => by
    have hlt := (List.getElem?_eq_some_iff.1 hb).1
    have hm : l[i + d + 1]? = some l[i + d + 1] := List.getElem?_eq_getElem (by omega)
    exact before_trans (up_ltB h d i a _ ha hm) (before_cmp.2 (h (i + d + 1) _ b (by omega) hm (by rw [← hb]; congr 1)))
theorem up_monB {l : List Bi} (h : UpB l l.length) (t : Bi) : MonB l t := by
  intro i j a b hij ha hb hn
  by_cases e : i = j
  · subst e
    rw [ha] at hb
    cases hb
    exact hn
  · obtain ⟨d, rfl⟩ : ∃ d, j = i + d + 1 := ⟨j - i - 1, by omega⟩
    exact before_cmp.1 (before_trans (up_ltB h d i a b ha hb) (before_cmp.2 hn))
def hasB (l : List Bi) (t : Bi) : Prop := ∃ i : Nat, l[i]? = some t
/-- the search finds just what is there -/
theorem foundB {l : List Bi} (h : UpB l l.length) {t : Bi} {p : Nat} (hp : PosB l t p) : (∃ a, l[p]? = some a ∧ cmpB a t = 0) ↔ hasB l t := by
  constructor
  · rintro ⟨a, ha, hz⟩
    rw [cmpB_zero.1 hz] at ha
    exact ⟨p, ha⟩
  · rintro ⟨i, ha⟩
    have hz : cmpB t t = 0 := cmpB_zero.2 rfl
    have htp : p ≤ i := by
      by_cases e : i < p
      · have := hp.2.1 i t e ha; omega
      · omega
    by_cases e : i = p
    · subst e; exact ⟨t, ha, hz⟩
    · obtain ⟨d, rfl⟩ : ∃ d, i = p + d + 1 := ⟨i - p - 1, by omega⟩
      have hlt := (List.getElem?_eq_some_iff.1 ha).1
      have hm : l[p]? = some l[p] := List.getElem?_eq_getElem (by omega)
      have h1 := hp.2.2 p _ (Nat.le_refl _) hm
      have h2 := before_cmp.1 (up_ltB h d p _ t hm ha)
      omega
def posB : List Bi → Bi → Nat
  | [], _ => 0
  | e :: l, t => if before e t then posB l t + 1 else 0
theorem posB_le : ∀ (l : List Bi) (t : Bi), posB l t ≤ l.length
  | [], _ => Nat.le_refl _
  | e :: l, t => by
    unfold posB
    have := posB_le l t
    split
    · simpa using this
    · exact Nat.zero_le _
theorem posB_eq : ∀ (l : List Bi) (t : Bi) (p : Nat), p ≤ l.length → (∀ (i : Nat) a, i < p → l[i]? = some a → before a t = true) → (∀ a, l[p]? = some a → before a t = false) → posB l t = p
  | [], t, p, h, _, _ => by simp at h; subst h; rfl
  | e :: l, t, 0, _, _, h3 => by
    unfold posB
    rw [h3 e rfl]
    rfl
  | e :: l, t, p + 1, h1, h2, h3 => by
    unfold posB
    rw [h2 0 e (by omega) rfl, if_pos rfl, posB_eq l t p (by simpa using h1) (fun i a hi ha => h2 (i + 1) a (by omega) (by simpa using ha)) (fun a ha => h3 a (by simpa using ha))]
theorem posB_of {l : List Bi} {t : Bi} {p : Nat} (h : PosB l t p) : posB l t = p :=
  posB_eq l t p h.1 (fun i a hi ha => before_cmp.2 (h.2.1 i a hi ha)) (fun a ha => by
    have := h.2.2 p a (Nat.le_refl _) ha
    cases hh : before a t with
    | false => rfl
    | true => have := before_cmp.1 hh; omega)
/-- and the other way round, in an ascending list -/
theorem pos_is {l : List Bi} (hu : UpB l l.length) {t : Bi} {p : Nat} (hp : p ≤ l.length) (h2 : ∀ (i : Nat) a, i < p → l[i]? = some a → before a t = true) (h3 : ∀ a, l[p]? = some a → before a t = false) : PosB l t p := by
  refine ⟨hp, fun i a hi ha => before_cmp.1 (h2 i a hi ha), fun i a hi ha => ?_⟩
  have hlt := (List.getElem?_eq_some_iff.1 ha).1
  have hm : l[p]? = some l[p] := List.getElem?_eq_getElem (by omega)
  have hf := h3 _ hm
  by_cases hn : cmpB a t < 0
  · have := up_monB hu t p i _ a hi hm ha hn
    rw [before_cmp.2 this] at hf
    cases hf
  · omega
def insB (l : List Bi) (t : Bi) : List Bi := l.take (posB l t) ++ t :: l.drop (posB l t)
theorem insB_len (l : List Bi) (t : Bi) : (insB l t).length = l.length + 1 := by
  have := posB_le l t
  unfold insB
  simp
  omega
theorem insB_mem {l : List Bi} {t e : Bi} (h : e ∈ insB l t) : e ∈ l ∨ e = t := by
  unfold insB at h
  rcases List.mem_append.1 h with h | h
  · exact .inl (List.mem_of_mem_take h)
  · rcases List.mem_cons.1 h with h | h
    · exact .inr h
    · exact .inl (List.mem_of_mem_drop h)
theorem insB_at (l : List Bi) (t : Bi) : (insB l t)[posB l t]? = some t := by
  have := posB_le l t
  unfold insB
  rw [List.getElem?_append_right (by simp; omega)]
  simp [Nat.min_eq_left this]
open Classical in
noncomputable def fitB (es : List Ex) (bs : List Bi) (t : Bi) : Bool := decide (OkR es bs ∧ ¬ hasB bs t ∧ OkR es (insB bs t))
open Classical in
noncomputable def retB (es : List Ex) (bs : List Bi) (t : Bi) : Bool := decide (fitB es bs t = true ∨ (OkR es bs ∧ hasB bs t))
noncomputable def ansB (es : List Ex) (bs : List Bi) (t : Bi) : List Bi := if fitB es bs t = true then insB bs t else bs
theorem ansB_small {es : List Ex} {bs : List Bi} {t : Bi} (h : bs.length ≤ 1048576) : (ansB es bs t).length ≤ 1048576 := by
  unfold ansB
  split
  · rename_i hf
    unfold fitB at hf
    simp only [decide_eq_true_eq] at hf
    have := hf.1.bl
    rw [insB_len]; omega
  · exact h
section
variable {es : List Ex} {bs : List Bi} {t : Bi}
theorem not_fit (h : ¬ (OkR es bs ∧ ¬ hasB bs t ∧ OkR es (insB bs t))) : fitB es bs t = false := by unfold fitB; simp [h]
theorem ans_same (h : fitB es bs t = false) : ansB es bs t = bs := by unfold ansB; rw [if_neg (by rw [h]; simp)]
/-- the routes are not right -/
theorem bad (h : ¬ OkR es bs) : ansB es bs t = bs ∧ retB es bs t = false := by
  have hf := not_fit (t := t) (es := es) (bs := bs) (fun x => h x.1)
  refine ⟨ans_same hf, ?_⟩
  unfold retB
  rw [hf]
  simp [h]
/-- the exchange is not there, or the key or the queue is wrong -/
theorem wrong (h : OkR es bs) (hx : ¬ (0 ≤ kindOf es t.x ∧ ky.good t.k = true ∧ nm.good t.q = true)) : ansB es bs t = bs ∧ retB es bs t = false := by
  have hf : fitB es bs t = false := not_fit (fun x => hx (x.2.2.bo (posB bs t) t (insB_at bs t)))
  refine ⟨ans_same hf, ?_⟩
  unfold retB
  rw [hf]
  simp only [Bool.false_eq_true, false_or, decide_eq_false_iff_not]
  rintro ⟨_, i, h1⟩
  exact hx (h.bo i t h1)
/-- it is there -/
theorem there (h : OkR es bs) (ha : hasB bs t) : ansB es bs t = bs ∧ retB es bs t = true := by
  have hf : fitB es bs t = false := not_fit (fun x => x.2.1 ha)
  refine ⟨ans_same hf, ?_⟩
  unfold retB
  rw [hf]
  simp only [Bool.false_eq_true, false_or, decide_eq_true_eq]
  exact ⟨h, ha⟩
/-- it is put, and that is right -/
theorem put (h : OkR es bs) (hh : ¬ hasB bs t) (h2 : OkR es (insB bs t)) : ansB es bs t = insB bs t ∧ retB es bs t = true := by
  have hf : fitB es bs t = true := by unfold fitB; simp [h, hh, h2]
  refine ⟨by unfold ansB; rw [if_pos hf], ?_⟩
  unfold retB
  rw [hf]
  simp
/-- it is put, and that is not right -/
theorem over (h : OkR es bs) (hh : ¬ hasB bs t) (h2 : ¬ OkR es (insB bs t)) : ansB es bs t = bs ∧ retB es bs t = false := by
  have hf : fitB es bs t = false := not_fit (fun x => h2 x.2.2)
  refine ⟨ans_same hf, ?_⟩
  unfold retB
  rw [hf]
  simp only [Bool.false_eq_true, false_or, decide_eq_false_iff_not]
  rintro ⟨_, ha⟩
  exact hh ha
end
theorem ins_small {bs : List Bi} {t : Bi} (h : ∀ b ∈ bs, b.x.size ≤ 1048576 ∧ b.k.size ≤ 1048576 ∧ b.q.size ≤ 1048576) (ht : t.x.size ≤ 1048576 ∧ t.k.size ≤ 1048576 ∧ t.q.size ≤ 1048576) : ∀ b ∈ insB bs t, b.x.size ≤ 1048576 ∧ b.k.size ≤ 1048576 ∧ b.q.size ≤ 1048576 := fun e he => by
  rcases insB_mem he with h1 | rfl
  · exact h e h1
  · exact ht
end Go.Proofs.Ytgfifjiidmfojaa.bp
