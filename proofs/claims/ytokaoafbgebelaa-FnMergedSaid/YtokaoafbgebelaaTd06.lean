/- What is left of runs, as a heap holds it. -/
import Derived.Test.YtokaoafbgebelaaPutPure0
import Derived.Test.YtokaoafbgebelaaRows
import Derived.Test.YtokaoafbgebelaaTabOk
import Derived.Test.YtokaoafbgebelaaTd01

/- Ascending pairs, and one put in its place. -/
namespace Go.Proofs.Ytokaoafbgebelaa.mgp
open Go.Proofs.Ytokaoafbgebelaa.rc Go.Proofs.Ytokaoafbgebelaa.ro Go.Proofs.Ytokaoafbgebelaa.ptp
set_option linter.unusedVariables false

def Asc (l : List flP.Pr) : Prop := l.Pairwise fun a b => lt a.k b.k = true
theorem asc_ext : ∀ {l m : List flP.Pr}, Asc l → Asc m → (∀ e, e ∈ l ↔ e ∈ m) → l = m
  | [], [], _, _, _ => rfl
  | [], b :: m, _, _, h => by have := (h b).2 (by simp); cases this
  | a :: l, [], _, _, h => by have := (h a).1 (by simp); cases this
  | a :: l, b :: m, hl, hm, h => by
    obtain ⟨l1, l2⟩ := List.pairwise_cons.1 hl
    obtain ⟨m1, m2⟩ := List.pairwise_cons.1 hm
    have e : a = b := by
      rcases List.mem_cons.1 ((h a).1 (by simp)) with h1 | h1
      · exact h1
      · rcases List.mem_cons.1 ((h b).2 (by simp)) with h2 | h2
        · exact h2.symm
        · have := lt_asymm (m1 a h1); rw [l1 b h2] at this; cases this
    subst e
    congr 1
    refine asc_ext l2 m2 fun x => ⟨fun hx => ?_, fun hx => ?_⟩
    · rcases List.mem_cons.1 ((h x).1 (by simp [hx])) with h1 | h1
      · subst h1; have := l1 x hx; rw [lt_irrefl] at this; cases this
      · exact h1
    · rcases List.mem_cons.1 ((h x).2 (by simp [hx])) with h1 | h1
      · subst h1; have := m1 x hx; rw [lt_irrefl] at this; cases this
      · exact h1
theorem asc_key {l : List flP.Pr} (h : Asc l) {a b : flP.Pr} (ha : a ∈ l) (hb : b ∈ l) (hk : a.k = b.k) : a = b := by
  induction l with
  | nil => cases ha
  | cons x l ih =>
    obtain ⟨l1, l2⟩ := List.pairwise_cons.1 h
    rcases List.mem_cons.1 ha with rfl | ha'
    · rcases List.mem_cons.1 hb with rfl | hb'
      · rfl
      · have := l1 b hb'; rw [hk, lt_irrefl] at this; cases this
    · rcases List.mem_cons.1 hb with rfl | hb'
      · have := l1 a ha'; rw [hk, lt_irrefl] at this; cases this
      · exact ih l2 ha' hb'
theorem setP_cons (a : flP.Pr) (l : List flP.Pr) (e : flP.Pr) : setP (a :: l) e = if lt a.k e.k = true then a :: setP l e else if a.k = e.k then e :: l else e :: a :: l := by
  by_cases h : lt a.k e.k = true
  · have hp : posP (a :: l) e.k = posP l e.k + 1 := by show (if lt a.k e.k = true then posP l e.k + 1 else 0) = _; rw [if_pos h]
    rw [if_pos h]
    unfold setP restP
    rw [hp]
    have hi : isP (a :: l) (posP l e.k + 1) e.k = isP l (posP l e.k) e.k := by unfold isP; rw [List.getElem?_cons_succ]
    rw [hi]
    split <;> simp
  · have hp : posP (a :: l) e.k = 0 := by show (if lt a.k e.k = true then posP l e.k + 1 else 0) = _; rw [if_neg h]
    rw [if_neg h]
    unfold setP restP
    rw [hp]
    have hi : isP (a :: l) 0 e.k = decide (a.k = e.k) := rfl
    rw [hi]
    by_cases hk : a.k = e.k
    · rw [if_pos (decide_eq_true hk), if_pos hk]; simp
    · rw [if_neg (by simpa using hk), if_neg hk]; simp
theorem setP_iff : ∀ {l : List flP.Pr}, Asc l → ∀ (e x : flP.Pr), x ∈ setP l e ↔ x = e ∨ (x ∈ l ∧ x.k ≠ e.k)
  | [], _, e, x => by simp [setP, restP, posP, isP]
  | a :: l, h, e, x => by
    obtain ⟨l1, l2⟩ := List.pairwise_cons.1 h
    rw [setP_cons]
    split
    · rename_i hlt
      have hne : a.k ≠ e.k := fun hk => by rw [hk, lt_irrefl] at hlt; cases hlt
      rw [List.mem_cons, setP_iff l2 e x]
      constructor
      · rintro (rfl | rfl | ⟨h1, h2⟩)
        · exact .inr ⟨by simp, hne⟩
        · exact .inl rfl
        · exact .inr ⟨by simp [h1], h2⟩
      · rintro (rfl | ⟨h1, h2⟩)
        · exact .inr (.inl rfl)
        · rcases List.mem_cons.1 h1 with rfl | h1
          · exact .inl rfl
          · exact .inr (.inr ⟨h1, h2⟩)
    · rename_i hlt
      have hgt : ∀ y ∈ l, y.k ≠ e.k := fun y hy hk => hlt (by rw [← hk]; exact l1 y hy)
      split
      · rename_i hk
        rw [List.mem_cons]
        constructor
        · rintro (rfl | h1)
          · exact .inl rfl
          · exact .inr ⟨by simp [h1], hgt x h1⟩
        · rintro (rfl | ⟨h1, h2⟩)
          · exact .inl rfl
          · rcases List.mem_cons.1 h1 with rfl | h1
            · exact absurd hk h2
            · exact .inr h1
      · rename_i hk
        rw [List.mem_cons]
        constructor
        · rintro (rfl | h1)
          · exact .inl rfl
          · rcases List.mem_cons.1 h1 with rfl | h2
            · exact .inr ⟨h1, hk⟩
            · exact .inr ⟨h1, hgt x h2⟩
        · rintro (rfl | ⟨h1, h2⟩)
          · exact .inl rfl
          · exact .inr h1
theorem setP_asc : ∀ {l : List flP.Pr}, Asc l → ∀ (e : flP.Pr), Asc (setP l e)
  | [], _, e => by simp [setP, restP, posP, isP, Asc]
  | a :: l, h, e => by
    obtain ⟨l1, l2⟩ := List.pairwise_cons.1 h
    rw [setP_cons]
    split
    · rename_i hlt
      refine List.pairwise_cons.2 ⟨fun x hx => ?_, setP_asc l2 e⟩
      rcases (setP_iff l2 e x).1 hx with rfl | ⟨h1, _⟩
      · exact hlt
      · exact l1 x h1
    · rename_i hlt
      have hlt' : lt a.k e.k = false := by simpa using hlt
      split
      · rename_i hk
        exact List.pairwise_cons.2 ⟨fun x hx => by rw [← hk]; exact l1 x hx, l2⟩
      · rename_i hk
        have hea := lt_tri hlt' hk
        refine List.pairwise_cons.2 ⟨fun x hx => ?_, h⟩
        rcases List.mem_cons.1 hx with rfl | hx
        · exact hea
        · exact lt_trans hea (l1 x hx)
end Go.Proofs.Ytokaoafbgebelaa.mgp

/- A heap in a list: what is put at its end goes up to its place, what stands at its head goes down: the same elements, the least ahead. -/
namespace Go.Proofs.Ytokaoafbgebelaa.hp
set_option linter.unusedVariables false
variable {α : Type} {lt : α → α → Bool} {l : List α} {i j n : Nat} {a b : α}

/-- what is asked of the order -/
structure Ord (lt : α → α → Bool) : Prop where
  irr : ∀ a, lt a a = false
  tr : ∀ {a b c}, lt b a = false → lt c b = false → lt c a = false
  asy : ∀ {a b}, lt a b = true → lt b a = false

def P (i : Nat) : Nat := (i - 1) / 2
theorem P_lt (h : 0 < i) : P i < i := by unfold P; omega
def Le (lt : α → α → Bool) (l : List α) (i j : Nat) : Prop := ∀ a b, l[i]? = some a → l[j]? = some b → lt b a = false
def Heap (lt : α → α → Bool) (l : List α) (n : Nat) : Prop := ∀ i, 0 < i → i < n → Le lt l (P i) i
def UpI (lt : α → α → Bool) (l : List α) (j n : Nat) : Prop := (∀ i, 0 < i → i < n → i ≠ j → Le lt l (P i) i) ∧ (0 < j → ∀ c, 0 < c → c < n → P c = j → Le lt l (P j) c)
def DnI (lt : α → α → Bool) (l : List α) (i n : Nat) : Prop := (∀ c, 0 < c → c < n → P c ≠ i → Le lt l (P c) c) ∧ (0 < i → ∀ c, 0 < c → c < n → P c = i → Le lt l (P i) c)

/-- two that change their places -/
def sw (l : List α) (i j : Nat) : List α := match l[i]?, l[j]? with
  | some a, some b => (l.set i b).set j a
  | _, _ => l
theorem sw_eq (hi : l[i]? = some a) (hj : l[j]? = some b) : sw l i j = (l.set i b).set j a := by simp only [sw, hi, hj]
theorem sw_len : (sw l i j).length = l.length := by unfold sw; split <;> simp
theorem sw_at (hi : l[i]? = some a) (hj : l[j]? = some b) (k : Nat) : (sw l i j)[k]? = if k = j then some a else if k = i then some b else l[k]? := by
  have hil := (List.getElem?_eq_some_iff.1 hi).1
  have hjl := (List.getElem?_eq_some_iff.1 hj).1
  rw [sw_eq hi hj, List.getElem?_set]
  by_cases h1 : j = k
  · subst h1
    simp [hjl]
  · rw [if_neg h1, if_neg (Ne.symm h1), List.getElem?_set]
    by_cases h2 : i = k
    · subst h2
      simp [hil]
    · rw [if_neg h2, if_neg (Ne.symm h2)]
theorem sw_first (hi : l[i]? = some a) (hj : l[j]? = some b) : (sw l i j)[i]? = some b := by
  rw [sw_at hi hj]
  by_cases h : i = j
  · subst h; rw [if_pos rfl, ← hi, hj]
  · rw [if_neg h, if_pos rfl]
theorem sw_last (hi : l[i]? = some a) (hj : l[j]? = some b) : (sw l i j)[j]? = some a := by rw [sw_at hi hj, if_pos rfl]
theorem sw_else (hi : l[i]? = some a) (hj : l[j]? = some b) {k : Nat} (h1 : k ≠ i) (h2 : k ≠ j) : (sw l i j)[k]? = l[k]? := by rw [sw_at hi hj, if_neg h2, if_neg h1]
theorem sw_perm (hi : l[i]? = some a) (hj : l[j]? = some b) : (sw l i j).Perm l := by
  obtain ⟨hil, rfl⟩ := List.getElem?_eq_some_iff.1 hi
  obtain ⟨hjl, rfl⟩ := List.getElem?_eq_some_iff.1 hj
  rw [sw_eq hi hj]
  have h := Array.swap_perm (xs := l.toArray) (i := i) (j := j) (by simpa using hil) (by simpa using hjl)
  have h2 := Array.perm_iff_toList_perm.1 h
  simpa [Array.swap] using h2

theorem up_step (O : Ord lt) (hn : n ≤ l.length) (hj0 : 0 < j) (hjn : j < n) (U : UpI lt l j n) (hp : l[P j]? = some a) (hj : l[j]? = some b) (h : lt b a = true) : UpI lt (sw l (P j) j) (P j) n := by
  have hpj := P_lt hj0
  refine ⟨fun i hi0 hin hne => ?_, fun hp0 c hc0 hcn hpc => ?_⟩
  · have hpi := P_lt hi0
    intro x y hx hy
    by_cases e : i = j
    · subst e
      rw [sw_first hp hj] at hx
      rw [sw_last hp hj] at hy
      cases hx; cases hy
      exact O.asy h
    · rw [sw_else hp hj hne e] at hy
      by_cases e2 : P i = j
      · rw [e2, sw_last hp hj] at hx
        cases hx
        exact U.2 hj0 i hi0 hin e2 _ _ hp hy
      · by_cases e3 : P i = P j
        · rw [e3, sw_first hp hj] at hx
          cases hx
          have h1 := U.1 i hi0 hin e _ _ (by rw [e3]; exact hp) hy
          exact O.tr (O.asy h) h1
        · rw [sw_else hp hj e3 e2] at hx
          exact U.1 i hi0 hin e _ _ hx hy
  · have hpp := P_lt hp0
    have hpc2 := P_lt hc0
    intro x y hx hy
    rw [sw_else hp hj (by omega) (by omega)] at hx
    have h1 := U.1 (P j) hp0 (by omega) (by omega) _ _ hx hp
    by_cases e : c = j
    · subst e
      rw [sw_last hp hj] at hy
      cases hy
      exact h1
    · rw [sw_else hp hj (by omega) e] at hy
      have h2 := U.1 c hc0 hcn e _ _ (by rw [hpc]; exact hp) hy
      exact O.tr h1 h2
theorem up_end (U : UpI lt l j n) (h : 0 < j → Le lt l (P j) j) : Heap lt l n := fun i hi0 hin => by
  by_cases e : i = j
  · subst e; exact h hi0
  · exact U.1 i hi0 hin e
theorem up_new {x : α} (H : Heap lt l l.length) : UpI lt (l ++ [x]) l.length (l.length + 1) := by
  refine ⟨fun i hi0 hin hne => ?_, fun h0 c hc0 hcn hpc => by unfold P at hpc; omega⟩
  have hp := P_lt hi0
  intro a b ha hb
  rw [List.getElem?_append_left (by omega)] at ha hb
  exact H i hi0 (by omega) _ _ ha hb

theorem down_step (O : Ord lt) (hi : l[i]? = some a) (hj : l[j]? = some b) (hj0 : 0 < j) (hjn : j < n) (hpj : P j = i) (D : DnI lt l i n) (h : lt b a = true) (hc : ∀ c, 0 < c → c < n → P c = i → Le lt l j c) : DnI lt (sw l i j) j n := by
  have hij : i < j := by have := P_lt hj0; omega
  refine ⟨fun c hc0 hcn hne => ?_, fun _ c hc0 hcn hpc => ?_⟩
  · have hpc := P_lt hc0
    intro x y hx hy
    by_cases e : P c = i
    · rw [e, sw_first hi hj] at hx
      cases hx
      by_cases e2 : c = j
      · subst e2
        rw [sw_last hi hj] at hy
        cases hy
        exact O.asy h
      · rw [sw_else hi hj (by omega) e2] at hy
        exact hc c hc0 hcn e _ _ hj hy
    · have ecj : c ≠ j := fun e2 => e (by rw [e2]; exact hpj)
      by_cases e2 : c = i
      · subst e2
        rw [sw_first hi hj] at hy
        cases hy
        rw [sw_else hi hj (by omega) (by omega)] at hx
        exact D.2 hc0 j hj0 hjn hpj _ _ hx hj
      · rw [sw_else hi hj e2 ecj] at hy
        rw [sw_else hi hj e hne] at hx
        exact D.1 c hc0 hcn e _ _ hx hy
  · have hpc2 := P_lt hc0
    intro x y hx hy
    rw [hpj, sw_first hi hj] at hx
    cases hx
    rw [sw_else hi hj (by omega) (by omega)] at hy
    exact D.1 c hc0 hcn (by omega) _ _ (by rw [hpc]; exact hj) hy
theorem down_end (D : DnI lt l i n) (h : ∀ c, 0 < c → c < n → P c = i → Le lt l i c) : Heap lt l n := fun c hc0 hcn => by
  by_cases e : P c = i
  · rw [e]; exact h c hc0 hcn e
  · exact D.1 c hc0 hcn e
/-- no child -/
theorem none_child (h : ¬ 2 * i + 1 < n) : ∀ c, 0 < c → c < n → P c = i → Le lt l i c := fun c h0 h1 h2 => by unfold P at h2; omega
/-- the lesser child: the one or the other -/
theorem child (hc0 : 0 < j) (h : P j = i) : j = 2 * i + 1 ∨ j = 2 * i + 2 := by unfold P at h; omega
theorem P_one (i : Nat) : P (2 * i + 1) = i := by unfold P; omega
theorem P_two (i : Nat) : P (2 * i + 2) = i := by unfold P; omega
theorem least_two (O : Ord lt) {x y : α} (h1 : l[2 * i + 1]? = some x) (h2 : l[2 * i + 2]? = some y) (h : lt y x = true) : ∀ c, 0 < c → c < n → P c = i → Le lt l (2 * i + 2) c := fun c hc0 hcn hpc p q hp hq => by
  rw [h2] at hp; cases hp
  rcases child hc0 hpc with rfl | rfl
  · rw [h1] at hq; cases hq; exact O.asy h
  · rw [h2] at hq; cases hq; exact O.irr _
theorem least_one (O : Ord lt) {x : α} (h1 : l[2 * i + 1]? = some x) (h : 2 * i + 2 < n → ∀ y, l[2 * i + 2]? = some y → lt y x = false) : ∀ c, 0 < c → c < n → P c = i → Le lt l (2 * i + 1) c := fun c hc0 hcn hpc p q hp hq => by
  rw [h1] at hp; cases hp
  rcases child hc0 hpc with rfl | rfl
  · rw [h1] at hq; cases hq; exact O.irr _
  · exact h hcn q hq
/-- the lesser child is not less than the one above -/
theorem least_end (O : Ord lt) (hj : l[j]? = some b) (hi : l[i]? = some a) (h : lt b a = false) (hc : ∀ c, 0 < c → c < n → P c = i → Le lt l j c) : ∀ c, 0 < c → c < n → P c = i → Le lt l i c := fun c hc0 hcn hpc p q hp hq => by
  rw [hi] at hp; cases hp
  exact O.tr h (hc c hc0 hcn hpc _ _ hj hq)
theorem down_set {y : α} (H : Heap lt l n) : DnI lt (l.set 0 y) 0 n := by
  refine ⟨fun c hc0 hcn hne => ?_, fun h => absurd h (by omega)⟩
  intro a b ha hb
  rw [List.getElem?_set_ne (by omega)] at ha hb
  exact H c hc0 hcn _ _ ha hb
theorem down_sw {m : Nat} (h0 : l[0]? = some a) (hm : l[m]? = some b) (H : Heap lt l (m + 1)) : DnI lt (sw l 0 m) 0 m := by
  refine ⟨fun c hc0 hcn hne => ?_, fun h => absurd h (by omega)⟩
  have hp := P_lt hc0
  intro x y hx hy
  rw [sw_else h0 hm hne (by omega)] at hx
  rw [sw_else h0 hm (by omega) (by omega)] at hy
  exact H c hc0 (by omega) _ _ hx hy
theorem Heap.head (O : Ord lt) (H : Heap lt l n) (hn : n ≤ l.length) : ∀ i, i < n → Le lt l 0 i := by
  intro i
  induction i using Nat.strongRecOn with
  | ind i ih =>
    intro hin
    by_cases h0 : i = 0
    · subst h0
      intro x y hx hy
      rw [hx] at hy; cases hy
      exact O.irr _
    · have hp := P_lt (i := i) (by omega)
      intro x y hx hy
      have hz : l[P i]? = some (l[P i]'(by omega)) := List.getElem?_eq_getElem _
      exact O.tr (ih (P i) hp (by omega) _ _ hx hz) (H i (by omega) hin _ _ hz hy)
theorem Heap.take {m : Nat} (H : Heap lt l n) (hm : m ≤ n) : Heap lt (l.take m) m := fun i h0 h1 x y hx hy => by
  have hp := P_lt h0
  rw [List.getElem?_take_of_lt (by omega)] at hx
  rw [List.getElem?_take_of_lt h1] at hy
  exact H i h0 (by omega) _ _ hx hy
end Go.Proofs.Ytokaoafbgebelaa.hp

/- What is left of runs, as a heap holds it. -/
namespace Go.Proofs.Ytokaoafbgebelaa.ri
open Go.ChangeShapes Go.WideShapes Go.ChangeAt Go.RowKit Go.Proofs.Ytokaoafbgebelaa.fl Go.Proofs.Ytokaoafbgebelaa.rc Go.Proofs.Ytokaoafbgebelaa.ro
set_option linter.unusedVariables false

/-- what is left of a run: where it lies, its room, its pairs; its place -/
structure It where
  b : Nat
  o : Nat
  c : Nat
  l : List flP.Pr
  p : Nat
def cI (r : It) : List Value := [.slice (some ⟨r.b, r.o, none⟩) r.l.length r.c, .int .i64 r.p]
theorem cI_len (r : It) : (cI r).length = 2 := rfl
def key (r : It) : ByteArray := match r.l with
  | [] => ⟨#[]⟩
  | e :: _ => e.k
/-- its pairs lie in the world w, below B -/
structure Fits (w : World) (B : Nat) (r : It) : Prop where
  lt : r.b < B
  ne : r.l ≠ []
  len : r.l.length ≤ 300
  pl : r.p ≤ 100
  cells : ∀ (i : Nat) (e : flP.Pr), r.l[i]? = some e → ∀ (j : Nat) (v : Value), (flP.c e)[j]? = some v → w.cell? ⟨r.b, r.o + i * 3 + j, none⟩ = some v
theorem Fits.below {w w' : World} {B : Nat} {r : It} (h : Fits w B r) (hb : Below B w w') : Fits w' B r :=
  ⟨h.lt, h.ne, h.len, h.pl, fun i e he j v hv => (hb.cell (p := ⟨r.b, _, none⟩) h.lt).trans (h.cells i e he j v hv)⟩
def cmpI (x y : Int) : Int := if x < y then -1 else if x = y then 0 else 1
theorem cmpI_neg {x y : Int} : cmpI x y < 0 ↔ x < y := by unfold cmpI; split <;> (try split) <;> omega
def or2 (x y : Int) : Int := if x ≠ 0 then x else y
/-- one ahead of the other: by its first key, then by its place -/
def less (a b : It) : Bool := decide (or2 (cmpT (key a) (key b)) (cmpI a.p b.p) < 0)
theorem less_iff {a b : It} : less a b = true ↔ lt (key a) (key b) = true ∨ (key a = key b ∧ a.p < b.p) := by
  unfold less or2
  rw [decide_eq_true_iff]
  by_cases h : cmpT (key a) (key b) = 0
  · have e := cmp_zero.1 h
    rw [if_neg (by simpa using h), cmpI_neg, e, lt_irrefl]
    simp
  · rw [if_pos h, cmp_neg]
    constructor
    · exact .inl
    · rintro (h1 | ⟨h1, _⟩)
      · exact h1
      · exact absurd (cmp_zero.2 h1) h
theorem ord : hp.Ord less := by
  have tri : ∀ {x y : ByteArray}, lt x y = false → lt y x = false → x = y := fun {x y} h1 h2 => by
    by_cases e : x = y
    · exact e
    · rw [lt_tri h1 e] at h2; cases h2
  have nl : ∀ {a b : It}, less a b = false → lt (key a) (key b) = false ∧ (key a = key b → b.p ≤ a.p) := fun {a b} h => by
    refine ⟨?_, fun e => ?_⟩
    · cases h1 : lt (key a) (key b) with
      | false => rfl
      | true => rw [less_iff.2 (.inl h1)] at h; cases h
    · rcases Nat.lt_or_ge a.p b.p with h1 | h1
      · rw [less_iff.2 (.inr ⟨e, h1⟩)] at h; cases h
      · exact h1
  refine ⟨fun a => ?_, fun {a b c} h1 h2 => ?_, fun {a b} h => ?_⟩
  · cases h : less a a with
    | false => rfl
    | true =>
      rcases less_iff.1 h with h1 | ⟨_, h1⟩
      · rw [lt_irrefl] at h1; cases h1
      · omega
  · obtain ⟨p1, q1⟩ := nl h1
    obtain ⟨p2, q2⟩ := nl h2
    cases h : less c a with
    | false => rfl
    | true =>
      rcases less_iff.1 h with h3 | ⟨h3, h4⟩
      · by_cases e : key b = key c
        · rw [← e, p1] at h3; cases h3
        · have h5 := lt_tri p2 (Ne.symm e)
          rw [lt_trans h5 h3] at p1; cases p1
      · have e1 : key b = key a := tri p1 (by rw [← h3]; exact p2)
        have := q1 e1
        have := q2 (h3.trans e1.symm)
        omega
  · cases h2 : less b a with
    | false => rfl
    | true =>
      rcases less_iff.1 h with h3 | ⟨h3, h4⟩
      · rcases less_iff.1 h2 with h5 | ⟨h5, _⟩
        · rw [lt_asymm h3] at h5; cases h5
        · rw [h5, lt_irrefl] at h3; cases h3
      · rcases less_iff.1 h2 with h5 | ⟨_, h5⟩
        · rw [h3, lt_irrefl] at h5; cases h5
        · omega

end Go.Proofs.Ytokaoafbgebelaa.ri
