/- Two of a heap's runs change their places. -/
import Derived.Test.YtoemkbooomgieaaGreatDoorDw04
import Derived.Test.YtoemkbooomgieaaGreatDoorRows
import Derived.Test.YtoemkbooomgieaaGreatDoorTabOk
import Derived.Test.YtoemkbooomgieaaGreatDoorDoneKit
import Derived.Test.YtoemkbooomgieaaGreatDoorFlatOwn

/- Ascending pairs, and one put in its place. -/
namespace Go.Proofs.YtoemkbooomgieaaGreatDoor.mgp
open Go.Proofs.YtoemkbooomgieaaGreatDoor.rc Go.Proofs.YtoemkbooomgieaaGreatDoor.ro Go.Proofs.YtoemkbooomgieaaGreatDoor.ptp
set_option linter.unusedVariables false

def Asc (l : List flP.Pr) : Prop := l.Pairwise fun a b => lt a.k b.k = true
theorem asc_ext : ∀ {l m : List flP.Pr}, Asc l → Asc m → (∀ e, e ∈ l ↔ e ∈ m) → l = m
  | [], [], _, _, _ => rfl
  | [], b :: m, _, _, h => by have := (h b).2 (by simp); cases this
  | a :: l, [], _, _, h => by have := (h a).1 (by simp); cases this
  | a :: l, b :: m, hl, hm, h => by
    obtain ⟨l1, l2⟩ := List.pairwise_cons.1 hl
    obtain ⟨m1, m2⟩ := List.pairwise_cons.1 hm
    have e : a = b := by
      rcases List.mem_cons.1 ((h a).1 (by simp)) with h1 | h1
      · exact h1
      · rcases List.mem_cons.1 ((h b).2 (by simp)) with h2 | h2
        · exact h2.symm
        · have := lt_asymm (m1 a h1); rw [l1 b h2] at this; cases this
    subst e
    congr 1
    refine asc_ext l2 m2 fun x => ⟨fun hx => ?_, fun hx => ?_⟩
    · rcases List.mem_cons.1 ((h x).1 (by simp [hx])) with h1 | h1
      · subst h1; have := l1 x hx; rw [lt_irrefl] at this; cases this
      · exact h1
    · rcases List.mem_cons.1 ((h x).2 (by simp [hx])) with h1 | h1
      · subst h1; have := m1 x hx; rw [lt_irrefl] at this; cases this
      · exact h1
theorem asc_key {l : List flP.Pr} (h : Asc l) {a b : flP.Pr} (ha : a ∈ l) (hb : b ∈ l) (hk : a.k = b.k) : a = b := by
  induction l with
  | nil => cases ha
  | cons x l ih =>
    obtain ⟨l1, l2⟩ := List.pairwise_cons.1 h
    rcases List.mem_cons.1 ha with rfl | ha'
    · rcases List.mem_cons.1 hb with rfl | hb'
      · rfl
      · have := l1 b hb'; rw [hk, lt_irrefl] at this; cases this
    · rcases List.mem_cons.1 hb with rfl | hb'
      · have := l1 a ha'; rw [hk, lt_irrefl] at this; cases this
      · exact ih l2 ha' hb'
theorem setP_cons (a : flP.Pr) (l : List flP.Pr) (e : flP.Pr) : setP (a :: l) e = if lt a.k e.k = true then a :: setP l e else if a.k = e.k then e :: l else e :: a :: l := by
  by_cases h : lt a.k e.k = true
  · have hp : posP (a :: l) e.k = posP l e.k + 1 := by show (if lt a.k e.k = true then posP l e.k + 1 else 0) = _; rw [if_pos h]
    rw [if_pos h]
    unfold setP restP
    rw [hp]
    have hi : isP (a :: l) (posP l e.k + 1) e.k = isP l (posP l e.k) e.k := by unfold isP; rw [List.getElem?_cons_succ]
    rw [hi]
    split <;> simp
  · have hp : posP (a :: l) e.k = 0 := by show (if lt a.k e.k = true then posP l e.k + 1 else 0) = _; rw [if_neg h]
    rw [if_neg h]
    unfold setP restP
    rw [hp]
    have hi : isP (a :: l) 0 e.k = decide (a.k = e.k) := rfl
    rw [hi]
    by_cases hk : a.k = e.k
    · rw [if_pos (decide_eq_true hk), if_pos hk]; simp
    · rw [if_neg (by simpa using hk), if_neg hk]; simp
theorem setP_iff : ∀ {l : List flP.Pr}, Asc l → ∀ (e x : flP.Pr), x ∈ setP l e ↔ x = e ∨ (x ∈ l ∧ x.k ≠ e.k)
  | [], _, e, x => by simp [setP, restP, posP, isP]
  | a :: l, h, e, x => by
    obtain ⟨l1, l2⟩ := List.pairwise_cons.1 h
    rw [setP_cons]
    split
    · rename_i hlt
      have hne : a.k ≠ e.k := fun hk => by rw [hk, lt_irrefl] at hlt; cases hlt
      rw [List.mem_cons, setP_iff l2 e x]
      constructor
      · rintro (rfl | rfl | ⟨h1, h2⟩)
        · exact .inr ⟨by simp, hne⟩
        · exact .inl rfl
        · exact .inr ⟨by simp [h1], h2⟩
      · rintro (rfl | ⟨h1, h2⟩)
        · exact .inr (.inl rfl)
        · rcases List.mem_cons.1 h1 with rfl | h1
          · exact .inl rfl
          · exact .inr (.inr ⟨h1, h2⟩)
    · rename_i hlt
      have hgt : ∀ y ∈ l, y.k ≠ e.k := fun y hy hk => hlt (by rw [← hk]; exact l1 y hy)
      split
      · rename_i hk
        rw [List.mem_cons]
        constructor
        · rintro (rfl | h1)
          · exact .inl rfl
          · exact .inr ⟨by simp [h1], hgt x h1⟩
        · rintro (rfl | ⟨h1, h2⟩)
          · exact .inl rfl
          · rcases List.mem_cons.1 h1 with rfl | h1
            · exact absurd hk h2
            · exact .inr h1
      · rename_i hk
        rw [List.mem_cons]
        constructor
        · rintro (rfl | h1)
          · exact .inl rfl
          · rcases List.mem_cons.1 h1 with rfl | h2
            · exact .inr ⟨h1, hk⟩
            · exact .inr ⟨h1, hgt x h2⟩
        · rintro (rfl | ⟨h1, h2⟩)
          · exact .inl rfl
          · exact .inr h1
theorem setP_asc : ∀ {l : List flP.Pr}, Asc l → ∀ (e : flP.Pr), Asc (setP l e)
  | [], _, e => by simp [setP, restP, posP, isP, Asc]
  | a :: l, h, e => by
    obtain ⟨l1, l2⟩ := List.pairwise_cons.1 h
    rw [setP_cons]
    split
    · rename_i hlt
      refine List.pairwise_cons.2 ⟨fun x hx => ?_, setP_asc l2 e⟩
      rcases (setP_iff l2 e x).1 hx with rfl | ⟨h1, _⟩
      · exact hlt
      · exact l1 x h1
    · rename_i hlt
      have hlt' : lt a.k e.k = false := by simpa using hlt
      split
      · rename_i hk
        exact List.pairwise_cons.2 ⟨fun x hx => by rw [← hk]; exact l1 x hx, l2⟩
      · rename_i hk
        have hea := lt_tri hlt' hk
        refine List.pairwise_cons.2 ⟨fun x hx => ?_, h⟩
        rcases List.mem_cons.1 hx with rfl | hx
        · exact hea
        · exact lt_trans hea (l1 x hx)
end Go.Proofs.YtoemkbooomgieaaGreatDoor.mgp

/- A heap in a list: what is put at its end goes up to its place, what stands at its head goes down: the same elements, the least ahead. -/
namespace Go.Proofs.YtoemkbooomgieaaGreatDoor.hp
set_option linter.unusedVariables false
variable {α : Type} {lt : α → α → Bool} {l : List α} {i j n : Nat} {a b : α}

/-- what is asked of the order -/
structure Ord (lt : α → α → Bool) : Prop where
  irr : ∀ a, lt a a = false
  tr : ∀ {a b c}, lt b a = false → lt c b = false → lt c a = false
  asy : ∀ {a b}, lt a b = true → lt b a = false

def P (i : Nat) : Nat := (i - 1) / 2
theorem P_lt (h : 0 < i) : P i < i := by unfold P; omega
def Le (lt : α → α → Bool) (l : List α) (i j : Nat) : Prop := ∀ a b, l[i]? = some a → l[j]? = some b → lt b a = false
def Heap (lt : α → α → Bool) (l : List α) (n : Nat) : Prop := ∀ i, 0 < i → i < n → Le lt l (P i) i
def UpI (lt : α → α → Bool) (l : List α) (j n : Nat) : Prop := (∀ i, 0 < i → i < n → i ≠ j → Le lt l (P i) i) ∧ (0 < j → ∀ c, 0 < c → c < n → P c = j → Le lt l (P j) c)
def DnI (lt : α → α → Bool) (l : List α) (i n : Nat) : Prop := (∀ c, 0 < c → c < n → P c ≠ i → Le lt l (P c) c) ∧ (0 < i → ∀ c, 0 < c → c < n → P c = i → Le lt l (P i) c)

/-- two that change their places -/
def sw (l : List α) (i j : Nat) : List α := match l[i]?, l[j]? with
  | some a, some b => (l.set i b).set j a
  | _, _ => l
theorem sw_eq (hi : l[i]? = some a) (hj : l[j]? = some b) : sw l i j = (l.set i b).set j a := by simp only [sw, hi, hj]
theorem sw_len : (sw l i j).length = l.length := by unfold sw; split <;> simp
theorem sw_at (hi : l[i]? = some a) (hj : l[j]? = some b) (k : Nat) : (sw l i j)[k]? = if k = j then some a else if k = i then some b else l[k]? := by
  have hil := (List.getElem?_eq_some_iff.1 hi).1
  have hjl := (List.getElem?_eq_some_iff.1 hj).1
  rw [sw_eq hi hj, List.getElem?_set]
  by_cases h1 : j = k
  · subst h1
    simp [hjl]
  · rw [if_neg h1, if_neg (Ne.symm h1), List.getElem?_set]
    by_cases h2 : i = k
    · subst h2
      simp [hil]
    · rw [if_neg h2, if_neg (Ne.symm h2)]
theorem sw_first (hi : l[i]? = some a) (hj : l[j]? = some b) : (sw l i j)[i]? = some b := by
  rw [sw_at hi hj]
  by_cases h : i = j
  · subst h; rw [if_pos rfl, ← hi, hj]
  · rw [if_neg h, if_pos rfl]
theorem sw_last (hi : l[i]? = some a) (hj : l[j]? = some b) : (sw l i j)[j]? = some a := by rw [sw_at hi hj, if_pos rfl]
theorem sw_else (hi : l[i]? = some a) (hj : l[j]? = some b) {k : Nat} (h1 : k ≠ i) (h2 : k ≠ j) : (sw l i j)[k]? = l[k]? := by rw [sw_at hi hj, if_neg h2, if_neg h1]
theorem sw_perm (hi : l[i]? = some a) (hj : l[j]? = some b) : (sw l i j).Perm l := by
  obtain ⟨hil, rfl⟩ := List.getElem?_eq_some_iff.1 hi
  obtain ⟨hjl, rfl⟩ := List.getElem?_eq_some_iff.1 hj
  rw [sw_eq hi hj]
  have h := Array.swap_perm (xs := l.toArray) (i := i) (j := j) (by simpa using hil) (by simpa using hjl)
  have h2 := Array.perm_iff_toList_perm.1 h
  simpa [Array.swap] using h2

theorem up_step (O : Ord lt) (hn : n ≤ l.length) (hj0 : 0 < j) (hjn : j < n) (U : UpI lt l j n) (hp : l[P j]? = some a) (hj : l[j]? = some b) (h : lt b a = true) : UpI lt (sw l (P j) j) (P j) n := by
  have hpj := P_lt hj0
  refine ⟨fun i hi0 hin hne => ?_, fun hp0 c hc0 hcn hpc => ?_⟩
  · have hpi := P_lt hi0
    intro x y hx hy
    by_cases e : i = j
    · subst e
      rw [sw_first hp hj] at hx
      rw [sw_last hp hj] at hy
      cases hx; cases hy
      exact O.asy h
    · rw [sw_else hp hj hne e] at hy
      by_cases e2 : P i = j
      · rw [e2, sw_last hp hj] at hx
        cases hx
        exact U.2 hj0 i hi0 hin e2 _ _ hp hy
      · by_cases e3 : P i = P j
        · rw [e3, sw_first hp hj] at hx
          cases hx
          have h1 := U.1 i hi0 hin e _ _ (by rw [e3]; exact hp) hy
          exact O.tr (O.asy h) h1
        · rw [sw_else hp hj e3 e2] at hx
          exact U.1 i hi0 hin e _ _ hx hy
  · have hpp := P_lt hp0
    have hpc2 := P_lt hc0
    intro x y hx hy
    rw [sw_else hp hj (by omega) (by omega)] at hx
    have h1 := U.1 (P j) hp0 (by omega) (by omega) _ _ hx hp
    by_cases e : c = j
    · subst e
      rw [sw_last hp hj] at hy
      cases hy
      exact h1
    · rw [sw_else hp hj (by omega) e] at hy
      have h2 := U.1 c hc0 hcn e _ _ (by rw [hpc]; exact hp) hy
      exact O.tr h1 h2
theorem up_end (U : UpI lt l j n) (h : 0 < j → Le lt l (P j) j) : Heap lt l n := fun i hi0 hin => by
  by_cases e : i = j
  · subst e; exact h hi0
  · exact U.1 i hi0 hin e
theorem up_new {x : α} (H : Heap lt l l.length) : UpI lt (l ++ [x]) l.length (l.length + 1) := by
  refine ⟨fun i hi0 hin hne => ?_, fun h0 c hc0 hcn hpc => by unfold P at hpc; omega⟩
  have hp := P_lt hi0
  intro a b ha hb
  rw [List.getElem?_append_left (by omega)] at ha hb
  exact H i hi0 (by omega) _ _ ha hb

theorem down_step (O : Ord lt) (hi : l[i]? = some a) (hj : l[j]? = some b) (hj0 : 0 < j) (hjn : j < n) (hpj : P j = i) (D : DnI lt l i n) (h : lt b a = true) (hc : ∀ c, 0 < c → c < n → P c = i → Le lt l j c) : DnI lt (sw l i j) j n := by
  have hij : i < j := by have := P_lt hj0; omega
  refine ⟨fun c hc0 hcn hne => ?_, fun _ c hc0 hcn hpc => ?_⟩
  · have hpc := P_lt hc0
    intro x y hx hy
    by_cases e : P c = i
    · rw [e, sw_first hi hj] at hx
      cases hx
      by_cases e2 : c = j
      · subst e2
        rw [sw_last hi hj] at hy
        cases hy
        exact O.asy h
      · rw [sw_else hi hj (by omega) e2] at hy
        exact hc c hc0 hcn e _ _ hj hy
    · have ecj : c ≠ j := fun e2 => e (by rw [e2]; exact hpj)
      by_cases e2 : c = i
      · subst e2
        rw [sw_first hi hj] at hy
        cases hy
        rw [sw_else hi hj (by omega) (by omega)] at hx
        exact D.2 hc0 j hj0 hjn hpj _ _ hx hj
      · rw [sw_else hi hj e2 ecj] at hy
        rw [sw_else hi hj e hne] at hx
        exact D.1 c hc0 hcn e _ _ hx hy
  · have hpc2 := P_lt hc0
    intro x y hx hy
    rw [hpj, sw_first hi hj] at hx
    cases hx
    rw [sw_else hi hj (by omega) (by omega)] at hy
    exact D.1 c hc0 hcn (by omega) _ _ (by rw [hpc]; exact hj) hy
theorem down_end (D : DnI lt l i n) (h : ∀ c, 0 < c → c < n → P c = i → Le lt l i c) : Heap lt l n := fun c hc0 hcn => by
  by_cases e : P c = i
  · rw [e]; exact h c hc0 hcn e
  · exact D.1 c hc0 hcn e
/-- no child -/
theorem none_child (h : ¬ 2 * i + 1 < n) : ∀ c, 0 < c → c < n → P c = i → Le lt l i c := fun c h0 h1 h2 => by unfold P at h2; omega
/-- the lesser child: the one or the other -/
theorem child (hc0 : 0 < j) (h : P j = i) : j = 2 * i + 1 ∨ j = 2 * i + 2 := by unfold P at h; omega
theorem P_one (i : Nat) : P (2 * i + 1) = i := by unfold P; omega
theorem P_two (i : Nat) : P (2 * i + 2) = i := by unfold P; omega
theorem least_two (O : Ord lt) {x y : α} (h1 : l[2 * i + 1]? = some x) (h2 : l[2 * i + 2]? = some y) (h : lt y x = true) : ∀ c, 0 < c → c < n → P c = i → Le lt l (2 * i + 2) c := fun c hc0 hcn hpc p q hp hq => by
  rw [h2] at hp; cases hp
  rcases child hc0 hpc with rfl | rfl
  · rw [h1] at hq; cases hq; exact O.asy h
  · rw [h2] at hq; cases hq; exact O.irr _
theorem least_one (O : Ord lt) {x : α} (h1 : l[2 * i + 1]? = some x) (h : 2 * i + 2 < n → ∀ y, l[2 * i + 2]? = some y → lt y x = false) : ∀ c, 0 < c → c < n → P c = i → Le lt l (2 * i + 1) c := fun c hc0 hcn hpc p q hp hq => by
  rw [h1] at hp; cases hp
  rcases child hc0 hpc with rfl | rfl
  · rw [h1] at hq; cases hq; exact O.irr _
  · exact h hcn q hq
/-- the lesser child is not less than the one above -/
theorem least_end (O : Ord lt) (hj : l[j]? = some b) (hi : l[i]? = some a) (h : lt b a = false) (hc : ∀ c, 0 < c → c < n → P c = i → Le lt l j c) : ∀ c, 0 < c → c < n → P c = i → Le lt l i c := fun c hc0 hcn hpc p q hp hq => by
  rw [hi] at hp; cases hp
  exact O.tr h (hc c hc0 hcn hpc _ _ hj hq)
theorem down_set {y : α} (H : Heap lt l n) : DnI lt (l.set 0 y) 0 n := by
  refine ⟨fun c hc0 hcn hne => ?_, fun h => absurd h (by omega)⟩
  intro a b ha hb
  rw [List.getElem?_set_ne (by omega)] at ha hb
  exact H c hc0 hcn _ _ ha hb
theorem down_sw {m : Nat} (h0 : l[0]? = some a) (hm : l[m]? = some b) (H : Heap lt l (m + 1)) : DnI lt (sw l 0 m) 0 m := by
  refine ⟨fun c hc0 hcn hne => ?_, fun h => absurd h (by omega)⟩
  have hp := P_lt hc0
  intro x y hx hy
  rw [sw_else h0 hm hne (by omega)] at hx
  rw [sw_else h0 hm (by omega) (by omega)] at hy
  exact H c hc0 (by omega) _ _ hx hy
theorem Heap.head (O : Ord lt) (H : Heap lt l n) (hn : n ≤ l.length) : ∀ i, i < n → Le lt l 0 i := by
  intro i
  induction i using Nat.strongRecOn with
  | ind i ih =>
    intro hin
    by_cases h0 : i = 0
    · subst h0
      intro x y hx hy
      rw [hx] at hy; cases hy
      exact O.irr _
    · have hp := P_lt (i := i) (by omega)
      intro x y hx hy
      have hz : l[P i]? = some (l[P i]'(by omega)) := List.getElem?_eq_getElem _
      exact O.tr (ih (P i) hp (by omega) _ _ hx hz) (H i (by omega) hin _ _ hz hy)
theorem Heap.take {m : Nat} (H : Heap lt l n) (hm : m ≤ n) : Heap lt (l.take m) m := fun i h0 h1 x y hx hy => by
  have hp := P_lt h0
  rw [List.getElem?_take_of_lt (by omega)] at hx
  rw [List.getElem?_take_of_lt h1] at hy
  exact H i h0 (by omega) _ _ hx hy
end Go.Proofs.YtoemkbooomgieaaGreatDoor.hp

/- What is left of runs, as a heap holds it. -/
namespace Go.Proofs.YtoemkbooomgieaaGreatDoor.ri
open Go.ChangeShapes Go.WideShapes Go.ChangeAt Go.RowKit Go.Proofs.YtoemkbooomgieaaGreatDoor.fl Go.Proofs.YtoemkbooomgieaaGreatDoor.rc Go.Proofs.YtoemkbooomgieaaGreatDoor.ro
set_option linter.unusedVariables false

/-- what is left of a run: where it lies, its room, its pairs; its place -/
structure It where
  b : Nat
  o : Nat
  c : Nat
  l : List flP.Pr
  p : Nat
def cI (r : It) : List Value := [.slice (some ⟨r.b, r.o, none⟩) r.l.length r.c, .int .i64 r.p]
theorem cI_len (r : It) : (cI r).length = 2 := rfl
def key (r : It) : ByteArray := match r.l with
  | [] => ⟨#[]⟩
  | e :: _ => e.k
/-- its pairs lie in the world w, below B -/
structure Fits (w : World) (B : Nat) (r : It) : Prop where
  lt : r.b < B
  ne : r.l ≠ []
  len : r.l.length ≤ 300
  pl : r.p ≤ 100
  cells : ∀ (i : Nat) (e : flP.Pr), r.l[i]? = some e → ∀ (j : Nat) (v : Value), (flP.c e)[j]? = some v → w.cell? ⟨r.b, r.o + i * 3 + j, none⟩ = some v
theorem Fits.below {w w' : World} {B : Nat} {r : It} (h : Fits w B r) (hb : Below B w w') : Fits w' B r :=
  ⟨h.lt, h.ne, h.len, h.pl, fun i e he j v hv => (hb.cell (p := ⟨r.b, _, none⟩) h.lt).trans (h.cells i e he j v hv)⟩
def cmpI (x y : Int) : Int := if x < y then -1 else if x = y then 0 else 1
theorem cmpI_neg {x y : Int} : cmpI x y < 0 ↔ x < y := by unfold cmpI; split <;> (try split) <;> omega
def or2 (x y : Int) : Int := if x ≠ 0 then x else y
/-- one ahead of the other: by its first key, then by its place -/
def less (a b : It) : Bool := decide (or2 (cmpT (key a) (key b)) (cmpI a.p b.p) < 0)
theorem less_iff {a b : It} : less a b = true ↔ lt (key a) (key b) = true ∨ (key a = key b ∧ a.p < b.p) := by
  unfold less or2
  rw [decide_eq_true_iff]
  by_cases h : cmpT (key a) (key b) = 0
  · have e := cmp_zero.1 h
    rw [if_neg (by simpa using h), cmpI_neg, e, lt_irrefl]
    simp
  · rw [if_pos h, cmp_neg]
    constructor
    · exact .inl
    · rintro (h1 | ⟨h1, _⟩)
      · exact h1
      · exact absurd (cmp_zero.2 h1) h
theorem ord : hp.Ord less := by
  have tri : ∀ {x y : ByteArray}, lt x y = false → lt y x = false → x = y := fun {x y} h1 h2 => by
    by_cases e : x = y
    · exact e
    · rw [lt_tri h1 e] at h2; cases h2
  have nl : ∀ {a b : It}, less a b = false → lt (key a) (key b) = false ∧ (key a = key b → b.p ≤ a.p) := fun {a b} h => by
    refine ⟨?_, fun e => ?_⟩
    · cases h1 : lt (key a) (key b) with
      | false => rfl
      | true => rw [less_iff.2 (.inl h1)] at h; cases h
    · rcases Nat.lt_or_ge a.p b.p with h1 | h1
      · rw [less_iff.2 (.inr ⟨e, h1⟩)] at h; cases h
      · exact h1
  refine ⟨fun a => ?_, fun {a b c} h1 h2 => ?_, fun {a b} h => ?_⟩
  · cases h : less a a with
    | false => rfl
    | true =>
      rcases less_iff.1 h with h1 | ⟨_, h1⟩
      · rw [lt_irrefl] at h1; cases h1
      · omega
  · obtain ⟨p1, q1⟩ := nl h1
    obtain ⟨p2, q2⟩ := nl h2
    cases h : less c a with
    | false => rfl
    | true =>
      rcases less_iff.1 h with h3 | ⟨h3, h4⟩
      · by_cases e : key b = key c
        · rw [← e, p1] at h3; cases h3
        · have h5 := lt_tri p2 (Ne.symm e)
          rw [lt_trans h5 h3] at p1; cases p1
      · have e1 : key b = key a := tri p1 (by rw [← h3]; exact p2)
        have := q1 e1
        have := q2 (h3.trans e1.symm)
        omega
  · cases h2 : less b a with
    | false => rfl
    | true =>
      rcases less_iff.1 h with h3 | ⟨h3, h4⟩
      · rcases less_iff.1 h2 with h5 | ⟨h5, _⟩
        · rw [lt_asymm h3] at h5; cases h5
        · rw [h5, lt_irrefl] at h3; cases h3
      · rcases less_iff.1 h2 with h5 | ⟨_, h5⟩
        · rw [h3, lt_irrefl] at h5; cases h5
        · omega

end Go.Proofs.YtoemkbooomgieaaGreatDoor.ri

/- cmp.Or of two comparisons, in one region that draws its order. -/
namespace Go.Proofs.YtoemkbooomgieaaGreatDoor.cor
open Go.ChangeShapes Go.WideShapes Go.ChangeAt Go.RowKit Go.Proofs.YtoemkbooomgieaaGreatDoor.fl Go.Proofs.YtoemkbooomgieaaGreatDoor.ri
set_option linter.unusedVariables false

theorem nanI (x : Int) (w : World) : Calls Tryz.prog 163 #[.int .i64 x] w fun e w' => e = .returned (.bool false) ∧ w = w' := by
  go_enter Tryz.func163, Tryz.ntmps163
  go_wp2
  go_ret
  simp
theorem cmp_int (x y : Int) (w : World) : Calls Tryz.prog 162 #[.int .i64 x, .int .i64 y] w fun e w' => e = .returned (.int .i64 (cmpI x y)) ∧ w' = w := by
  unfold cmpI
  have hn := fun x W => nanI x W
  by_cases h1 : x < y
  · have d1 : decide (x < y) = true := decide_eq_true h1
    rw [if_pos h1]
    clear h1
    go_enter Tryz.func162, Tryz.ntmps162
    go_wp2_with (go_at_call 163; refine (hn _ _).mono ?_; rintro e w0 ⟨rfl, hw0⟩; rw [← hw0]; clear hw0 w0)
    go_ret
    exact ⟨rfl, rfl⟩
  · have d1 : decide (x < y) = false := decide_eq_false h1
    rw [if_neg h1]
    by_cases h2 : x = y
    · subst h2
      rw [if_pos rfl]
      clear h1
      go_enter Tryz.func162, Tryz.ntmps162
      go_wp2_with (go_at_call 163; refine (hn _ _).mono ?_; rintro e w0 ⟨rfl, hw0⟩; rw [← hw0]; clear hw0 w0)
      go_ret
      exact ⟨rfl, rfl⟩
    · rw [if_neg h2]
      have d2 : decide (y < x) = true := decide_eq_true (by omega)
      clear h1 h2
      go_enter Tryz.func162, Tryz.ntmps162
      go_wp2_with (go_at_call 163; refine (hn _ _).mono ?_; rintro e w0 ⟨rfl, hw0⟩; rw [← hw0]; clear hw0 w0)
      go_ret
      exact ⟨rfl, rfl⟩
theorem cmp_or (x y : Int) (g : Nat) (w : World) (h0 : w.cell? ⟨g, 0, none⟩ = some (.int .i64 x)) (h1 : w.cell? ⟨g, 1, none⟩ = some (.int .i64 y)) :
    Calls Tryz.prog 161 #[.slice (some ⟨g, 0, none⟩) 2 2] w fun e w' => e = .returned (.int .i64 (or2 x y)) ∧ w' = w := by
  by_cases hx : x = 0
  · subst hx
    have e : or2 0 y = y := rfl
    rw [e]
    by_cases hy : y = 0
    · subst hy
      go_enter Tryz.func161, Tryz.ntmps161
      go_wp2
      refine wp_loop_rounds 3 ?_
      repeat (rw [rounds_succ]; go_wp2)
      go_ret
      exact ⟨rfl, rfl⟩
    · have ey : (y != 0) = true := by simpa using hy
      go_enter Tryz.func161, Tryz.ntmps161
      go_wp2
      refine wp_loop_rounds 3 ?_
      repeat (rw [rounds_succ]; go_wp2)
      go_ret
      exact ⟨rfl, rfl⟩
  · have ex : (x != 0) = true := by simpa using hx
    have e : or2 x y = x := by unfold or2; simp [hx]
    rw [e]
    go_enter Tryz.func161, Tryz.ntmps161
    go_wp2
    refine wp_loop_rounds 3 ?_
    repeat (rw [rounds_succ]; go_wp2)
    go_ret
    exact ⟨rfl, rfl⟩

def CH (W0 : World) (x y : Int) (j : Nat) (h : Nat) (L : Nat → Bool) (W : World) : Prop := Below W0.heap.size W0 W ∧ (L j = true → W.heap[h]? = some (.cells #[.int .i64 x, .int .i64 y] 3 (0, 0)))
theorem more_off (L : Nat → Bool) {i j : Nat} (h : j ≠ i) : dn.more L i j = L j := by unfold dn.more; rw [if_neg h]
section
variable {W0 : World} {x y : Int} {j : Nat} {ws : Nat → List (Nat × Value)} {act : Act} {Q : Exit → Act → World → Prop} {o : Oper}
theorem h_quiet {i : Nat} (hi : i ≠ j) (hsel : ∀ cs b, o.op ≠ .select cs b) (v : Value) (hd : ∀ s d, o.dst = some d → (dk.sets act (ws s)).tmps[d]? = some v)
    (hrun : ∀ s W, Below W0.heap.size W0 W → (execOp (dk.sets act (ws s)).eval o).run Tryz.prog W = .ok (.value v) W) : gh.Step Tryz.prog (fun s => dk.sets act (ws s)) (CH W0 x y j) Q i o := by
  refine gh.step_val hsel fun s L W hdp h0 hC => ⟨s, v, gh.Agree.refl _ _, hd s, ?_⟩
  rw [hrun s W hC.1]
  refine ⟨rfl, hC.1, ?_⟩
  rw [more_off L (Ne.symm hi)]
  exact hC.2
theorem h_call {i : Nat} (hi : i ≠ j) (hsel : ∀ cs b, o.op ≠ .select cs b) (f : FuncId) (args : Array Value) (v : Value) (hd : ∀ s d, o.dst = some d → (dk.sets act (ws s)).tmps[d]? = some v)
    (hrun : ∀ s W, (execOp (dk.sets act (ws s)).eval o).run Tryz.prog W = .ok (.enter f args) W) (hcall : ∀ W, Calls Tryz.prog f args W fun e w' => e = .returned v ∧ Below W.heap.size W w') : gh.Step Tryz.prog (fun s => dk.sets act (ws s)) (CH W0 x y j) Q i o := by
  refine gh.step_val hsel fun s L W hdp h0 hC => ⟨s, v, gh.Agree.refl _ _, hd s, ?_⟩
  rw [hrun s W]
  refine (hcall W).mono fun e w' ⟨h1, h2⟩ => ⟨h1, hC.1.trans (h2.mono hC.1.size), ?_⟩
  rw [more_off L (Ne.symm hi)]
  exact fun h => bstay (hC.2 h) h2 (Array.getElem?_eq_some_iff.1 (hC.2 h)).1
theorem h_build {d idx : Nat} (hsel : ∀ cs b, o.op ≠ .select cs b) (hsz : d < act.tmps.size) (hdst : o.dst = some d) (ld : ∀ h, (ws h).lookup d = some (.slice (some ⟨h, 0, none⟩) 2 2)) (hidx : ∀ h, ((ws h)[idx]?.map (·.1)) = some d) (hset : ∀ h h' : Nat, ws h' = (ws h).set idx (d, .slice (some ⟨h', 0, none⟩) 2 2))
    (hrun : ∀ s W, (execOp (dk.sets act (ws s)).eval o).run Tryz.prog W = .ok (.value (.slice (some ⟨W.heap.size, 0, none⟩) 2 2)) (W.alloc (.cells #[.int .i64 x, .int .i64 y] 3))) : gh.Step Tryz.prog (fun s => dk.sets act (ws s)) (CH W0 x y j) Q j o := by
  refine gh.step_val hsel fun s L W hdp h0 hC => ⟨W.heap.size, .slice (some ⟨W.heap.size, 0, none⟩) 2 2, dk.agree_sets idx d _ hdst (hidx s) (hset s _), (fun d' hd => by rw [hdst] at hd; cases hd; exact dk.sets_on _ hsz _ (ld _)), ?_⟩
  rw [hrun]
  exact ⟨rfl, hC.1.alloc hC.1.size _, fun _ => bnew W _ _⟩
theorem h_or (hsel : ∀ cs b, o.op ≠ .select cs b) (hd : ∀ s d, o.dst = some d → (dk.sets act (ws s)).tmps[d]? = some (.int .i64 (or2 x y)))
    (hrun : ∀ s W, (execOp (dk.sets act (ws s)).eval o).run Tryz.prog W = .ok (.enter 161 #[.slice (some ⟨s, 0, none⟩) 2 2]) W) (hdep : ∃ e ∈ o.after, Region.binds .any e = true ∧ e.on = j) : gh.Step Tryz.prog (fun s => dk.sets act (ws s)) (CH W0 x y j) Q (j + 1) o := by
  refine gh.step_val hsel fun s L W hdp h0 hC => ⟨s, .int .i64 (or2 x y), gh.Agree.refl _ _, hd s, ?_⟩
  obtain ⟨xp, mp, yp, zp⟩ := hdep
  have lp := hdp xp mp yp
  rw [zp] at lp
  have hcell := hC.2 lp
  rw [hrun s W]
  refine (cmp_or x y s W (bcell hcell rfl) (bcell hcell rfl)).mono ?_
  rintro e w' ⟨rfl, rfl⟩
  refine ⟨rfl, hC.1, ?_⟩
  rw [more_off L (show j ≠ j + 1 by omega)]
  exact hC.2
end

def ws (g n cap i j : Nat) (A B : It) (e f : flP.Pr) (h : Nat) : List (Nat × Value) :=
  [(7, .slice (some ⟨g, 0, none⟩) n cap), (8, .int .i64 i), (9, .pointer (some ⟨g, i * 2, none⟩)), (10, .pointer (some ⟨g, i * 2, none⟩)), (11, .slice (some ⟨A.b, A.o, none⟩) A.l.length A.c), (12, .pointer (some ⟨A.b, A.o, none⟩)), (13, .agg #[.string e.k, .string e.v, .bool e.g]),
   (14, .slice (some ⟨g, 0, none⟩) n cap), (15, .int .i64 j), (16, .pointer (some ⟨g, j * 2, none⟩)), (17, .pointer (some ⟨g, j * 2, none⟩)), (18, .slice (some ⟨B.b, B.o, none⟩) B.l.length B.c), (19, .pointer (some ⟨B.b, B.o, none⟩)), (20, .agg #[.string f.k, .string f.v, .bool f.g]),
   (21, .int .i64 (rc.cmpT e.k f.k)), (22, .slice (some ⟨g, 0, none⟩) n cap), (23, .int .i64 i), (24, .pointer (some ⟨g, i * 2, none⟩)), (25, .pointer (some ⟨g, i * 2 + 1, none⟩)), (26, .int .i64 A.p),
   (27, .slice (some ⟨g, 0, none⟩) n cap), (28, .int .i64 j), (29, .pointer (some ⟨g, j * 2, none⟩)), (30, .pointer (some ⟨g, j * 2 + 1, none⟩)), (31, .int .i64 B.p), (32, .int .i64 (cmpI A.p B.p)), (33, .slice (some ⟨h, 0, none⟩) 2 2),
   (34, .int .i64 (or2 (rc.cmpT e.k f.k) (cmpI A.p B.p))), (35, .bool (decide (or2 (rc.cmpT e.k f.k) (cmpI A.p B.p) < 0))), (6, .bool (decide (or2 (rc.cmpT e.k f.k) (cmpI A.p B.p) < 0)))]

/-- what is left of a run at place i of the row g -/
structure At (w : World) (g i : Nat) (r : It) : Prop where
  lt : g < w.heap.size
  c0 : w.cell? ⟨g, i * 2, none⟩ = some (.slice (some ⟨r.b, r.o, none⟩) r.l.length r.c)
  c1 : w.cell? ⟨g, i * 2 + 1, none⟩ = some (.int .i64 r.p)
set_option maxRecDepth 100000 in
set_option maxHeartbeats 4000000 in
theorem less_run (g n cap i j : Nat) (A B : It) (w : World) (hi : i < n) (hj : j < n) (hA : At w g i A) (hB : At w g j B) (fA : Fits w w.heap.size A) (fB : Fits w w.heap.size B) :
    Calls Tryz.prog 159 #[.slice (some ⟨g, 0, none⟩) n cap, .int .i64 i, .int .i64 j] w fun r w' => r = .returned (.bool (less A B)) ∧ Below w.heap.size w w' := by
  obtain ⟨e, ea, hAl⟩ : ∃ e ea, A.l = e :: ea := by
    cases h : A.l with
    | nil => exact absurd h fA.ne
    | cons e r => exact ⟨e, r, rfl⟩
  obtain ⟨f, fb, hBl⟩ : ∃ e ea, B.l = e :: ea := by
    cases h : B.l with
    | nil => exact absurd h fB.ne
    | cons e r => exact ⟨e, r, rfl⟩
  have hL : less A B = decide (or2 (rc.cmpT e.k f.k) (cmpI A.p B.p) < 0) := by unfold less key; rw [hAl, hBl]
  rw [hL]
  have hg := hA.lt
  have a0 := hA.c0
  have a1 := hA.c1
  have b0 := hB.c0
  have b1 := hB.c1
  have al := fA.lt
  have bl := fB.lt
  have ga : A.l[0]? = some e := by rw [hAl]; rfl
  have gb : B.l[0]? = some f := by rw [hBl]; rfl
  have ap0 : w.cell? ⟨A.b, A.o, none⟩ = some (.string e.k) := by simpa using fA.cells 0 e ga 0 _ rfl
  have ap1 : w.cell? ⟨A.b, A.o + 1, none⟩ = some (.string e.v) := by simpa using fA.cells 0 e ga 1 _ rfl
  have ap2 : w.cell? ⟨A.b, A.o + 2, none⟩ = some (.bool e.g) := by simpa using fA.cells 0 e ga 2 _ rfl
  have bp0 : w.cell? ⟨B.b, B.o, none⟩ = some (.string f.k) := by simpa using fB.cells 0 f gb 0 _ rfl
  have bp1 : w.cell? ⟨B.b, B.o + 1, none⟩ = some (.string f.v) := by simpa using fB.cells 0 f gb 1 _ rfl
  have bp2 : w.cell? ⟨B.b, B.o + 2, none⟩ = some (.bool f.g) := by simpa using fB.cells 0 f gb 2 _ rfl
  have an : (i : Int) < (n : Int) := by omega
  have bn : (j : Int) < (n : Int) := by omega
  have az : 0 < A.l.length := by rw [hAl]; simp
  have bz : 0 < B.l.length := by rw [hBl]; simp
  have hAp := fA.pl
  have hBp := fB.pl
  clear hA hB fA fB hL ga gb hAl hBl
  go_enter Tryz.func159, Tryz.ntmps159
  go_wp2
  refine dk.region_gsets (ws g n cap i j A B e f) [7, 8, 9, 10, 11, 12, 13, 14, 15, 16, 17, 18, 19, 20, 21, 22, 23, 24, 25, 26, 27, 28, 29, 30, 31, 32, 33, 34, 35, 6] (CH w (rc.cmpT e.k f.k) (cmpI A.p B.p) 26) 0 (by kernel_rfl) (by kernel_rfl) (fun _ => rfl) (by kernel_rfl) ⟨(Below.refl _ _).drew, fun e => by cases e⟩ ?each ?fin
  case each =>
    refine ⟨h_quiet (by decide) (by simp) (.slice (some ⟨g, 0, none⟩) n cap) (by rintro s _ ⟨⟩; exact dk.sets_on _ (by simp) _ rfl) (fun s W h => by simp [execOp, go_sem, Act.eval, dk.sets_get, ws, List.lookup]), ?_⟩
    refine ⟨h_quiet (by decide) (by simp) (.int .i64 i) (by rintro s _ ⟨⟩; exact dk.sets_on _ (by simp) _ rfl) (fun s W h => by simp [execOp, go_sem, Act.eval, dk.sets_get, ws, List.lookup]), ?_⟩
    refine ⟨h_quiet (by decide) (by simp) (.pointer (some ⟨g, i * 2, none⟩)) (by rintro s _ ⟨⟩; exact dk.sets_on _ (by simp) _ rfl) (fun s W h => by simp [execOp, go_sem, Act.eval, dk.sets_get, ws, List.lookup, an]), ?_⟩
    refine ⟨h_quiet (by decide) (by simp) (.pointer (some ⟨g, i * 2, none⟩)) (by rintro s _ ⟨⟩; exact dk.sets_on _ (by simp) _ rfl) (fun s W h => by simp [execOp, go_sem, Act.eval, dk.sets_get, ws, List.lookup]), ?_⟩
    refine ⟨h_quiet (by decide) (by simp) (.slice (some ⟨A.b, A.o, none⟩) A.l.length A.c) (by rintro s _ ⟨⟩; exact dk.sets_on _ (by simp) _ rfl) (fun s W h => by have c : W.cell? ⟨g, i * 2, none⟩ = some (.slice (some ⟨A.b, A.o, none⟩) A.l.length A.c) := (h.cell (p := ⟨g, _, none⟩) hg).trans a0; simp [execOp, go_sem, Act.eval, dk.sets_get, ws, List.lookup, c]), ?_⟩
    refine ⟨h_quiet (by decide) (by simp) (.pointer (some ⟨A.b, A.o, none⟩)) (by rintro s _ ⟨⟩; exact dk.sets_on _ (by simp) _ rfl) (fun s W h => by simp [execOp, go_sem, Act.eval, dk.sets_get, ws, List.lookup, az]), ?_⟩
    refine ⟨h_quiet (by decide) (by simp) (.agg #[.string e.k, .string e.v, .bool e.g]) (by rintro s _ ⟨⟩; exact dk.sets_on _ (by simp) _ rfl) (fun s W h => by have p0 : W.cell? ⟨A.b, A.o, none⟩ = some (.string e.k) := (h.cell (p := ⟨A.b, _, none⟩) al).trans ap0; have p1 : W.cell? ⟨A.b, A.o + 1, none⟩ = some (.string e.v) := (h.cell (p := ⟨A.b, _, none⟩) al).trans ap1; have p2 : W.cell? ⟨A.b, A.o + 2, none⟩ = some (.bool e.g) := (h.cell (p := ⟨A.b, _, none⟩) al).trans ap2; simp [execOp, go_sem, Act.eval, dk.sets_get, ws, List.lookup, p0, p1, p2]), ?_⟩
    refine ⟨h_quiet (by decide) (by simp) (.slice (some ⟨g, 0, none⟩) n cap) (by rintro s _ ⟨⟩; exact dk.sets_on _ (by simp) _ rfl) (fun s W h => by simp [execOp, go_sem, Act.eval, dk.sets_get, ws, List.lookup]), ?_⟩
    refine ⟨h_quiet (by decide) (by simp) (.int .i64 j) (by rintro s _ ⟨⟩; exact dk.sets_on _ (by simp) _ rfl) (fun s W h => by simp [execOp, go_sem, Act.eval, dk.sets_get, ws, List.lookup]), ?_⟩
    refine ⟨h_quiet (by decide) (by simp) (.pointer (some ⟨g, j * 2, none⟩)) (by rintro s _ ⟨⟩; exact dk.sets_on _ (by simp) _ rfl) (fun s W h => by simp [execOp, go_sem, Act.eval, dk.sets_get, ws, List.lookup, bn]), ?_⟩
    refine ⟨h_quiet (by decide) (by simp) (.pointer (some ⟨g, j * 2, none⟩)) (by rintro s _ ⟨⟩; exact dk.sets_on _ (by simp) _ rfl) (fun s W h => by simp [execOp, go_sem, Act.eval, dk.sets_get, ws, List.lookup]), ?_⟩
    refine ⟨h_quiet (by decide) (by simp) (.slice (some ⟨B.b, B.o, none⟩) B.l.length B.c) (by rintro s _ ⟨⟩; exact dk.sets_on _ (by simp) _ rfl) (fun s W h => by have c : W.cell? ⟨g, j * 2, none⟩ = some (.slice (some ⟨B.b, B.o, none⟩) B.l.length B.c) := (h.cell (p := ⟨g, _, none⟩) hg).trans b0; simp [execOp, go_sem, Act.eval, dk.sets_get, ws, List.lookup, c]), ?_⟩
    refine ⟨h_quiet (by decide) (by simp) (.pointer (some ⟨B.b, B.o, none⟩)) (by rintro s _ ⟨⟩; exact dk.sets_on _ (by simp) _ rfl) (fun s W h => by simp [execOp, go_sem, Act.eval, dk.sets_get, ws, List.lookup, bz]), ?_⟩
    refine ⟨h_quiet (by decide) (by simp) (.agg #[.string f.k, .string f.v, .bool f.g]) (by rintro s _ ⟨⟩; exact dk.sets_on _ (by simp) _ rfl) (fun s W h => by have p0 : W.cell? ⟨B.b, B.o, none⟩ = some (.string f.k) := (h.cell (p := ⟨B.b, _, none⟩) bl).trans bp0; have p1 : W.cell? ⟨B.b, B.o + 1, none⟩ = some (.string f.v) := (h.cell (p := ⟨B.b, _, none⟩) bl).trans bp1; have p2 : W.cell? ⟨B.b, B.o + 2, none⟩ = some (.bool f.g) := (h.cell (p := ⟨B.b, _, none⟩) bl).trans bp2; simp [execOp, go_sem, Act.eval, dk.sets_get, ws, List.lookup, p0, p1, p2]), ?_⟩
    refine ⟨h_call (by decide) (by simp) 68 #[.agg #[.string e.k, .string e.v, .bool e.g], .agg #[.string f.k, .string f.v, .bool f.g]] (.int .i64 (rc.cmpT e.k f.k)) (by rintro s _ ⟨⟩; exact dk.sets_on _ (by simp) _ rfl) (fun s W => by simp [go_sem, Act.eval, dk.sets_get, ws, List.lookup]) (fun W => pf.compare_pair e f W), ?_⟩
    refine ⟨h_quiet (by decide) (by simp) (.slice (some ⟨g, 0, none⟩) n cap) (by rintro s _ ⟨⟩; exact dk.sets_on _ (by simp) _ rfl) (fun s W h => by simp [execOp, go_sem, Act.eval, dk.sets_get, ws, List.lookup]), ?_⟩
    refine ⟨h_quiet (by decide) (by simp) (.int .i64 i) (by rintro s _ ⟨⟩; exact dk.sets_on _ (by simp) _ rfl) (fun s W h => by simp [execOp, go_sem, Act.eval, dk.sets_get, ws, List.lookup]), ?_⟩
    refine ⟨h_quiet (by decide) (by simp) (.pointer (some ⟨g, i * 2, none⟩)) (by rintro s _ ⟨⟩; exact dk.sets_on _ (by simp) _ rfl) (fun s W h => by simp [execOp, go_sem, Act.eval, dk.sets_get, ws, List.lookup, an]), ?_⟩
    refine ⟨h_quiet (by decide) (by simp) (.pointer (some ⟨g, i * 2 + 1, none⟩)) (by rintro s _ ⟨⟩; exact dk.sets_on _ (by simp) _ rfl) (fun s W h => by simp [execOp, go_sem, Act.eval, dk.sets_get, ws, List.lookup]), ?_⟩
    refine ⟨h_quiet (by decide) (by simp) (.int .i64 A.p) (by rintro s _ ⟨⟩; exact dk.sets_on _ (by simp) _ rfl) (fun s W h => by have c : W.cell? ⟨g, i * 2 + 1, none⟩ = some (.int .i64 A.p) := (h.cell (p := ⟨g, _, none⟩) hg).trans a1; simp [execOp, go_sem, Act.eval, dk.sets_get, ws, List.lookup, c]), ?_⟩
    refine ⟨h_quiet (by decide) (by simp) (.slice (some ⟨g, 0, none⟩) n cap) (by rintro s _ ⟨⟩; exact dk.sets_on _ (by simp) _ rfl) (fun s W h => by simp [execOp, go_sem, Act.eval, dk.sets_get, ws, List.lookup]), ?_⟩
    refine ⟨h_quiet (by decide) (by simp) (.int .i64 j) (by rintro s _ ⟨⟩; exact dk.sets_on _ (by simp) _ rfl) (fun s W h => by simp [execOp, go_sem, Act.eval, dk.sets_get, ws, List.lookup]), ?_⟩
    refine ⟨h_quiet (by decide) (by simp) (.pointer (some ⟨g, j * 2, none⟩)) (by rintro s _ ⟨⟩; exact dk.sets_on _ (by simp) _ rfl) (fun s W h => by simp [execOp, go_sem, Act.eval, dk.sets_get, ws, List.lookup, bn]), ?_⟩
    refine ⟨h_quiet (by decide) (by simp) (.pointer (some ⟨g, j * 2 + 1, none⟩)) (by rintro s _ ⟨⟩; exact dk.sets_on _ (by simp) _ rfl) (fun s W h => by simp [execOp, go_sem, Act.eval, dk.sets_get, ws, List.lookup]), ?_⟩
    refine ⟨h_quiet (by decide) (by simp) (.int .i64 B.p) (by rintro s _ ⟨⟩; exact dk.sets_on _ (by simp) _ rfl) (fun s W h => by have c : W.cell? ⟨g, j * 2 + 1, none⟩ = some (.int .i64 B.p) := (h.cell (p := ⟨g, _, none⟩) hg).trans b1; simp [execOp, go_sem, Act.eval, dk.sets_get, ws, List.lookup, c]), ?_⟩
    refine ⟨h_call (by decide) (by simp) 162 #[.int .i64 A.p, .int .i64 B.p] (.int .i64 (cmpI A.p B.p)) (by rintro s _ ⟨⟩; exact dk.sets_on _ (by simp) _ rfl) (fun s W => by simp [go_sem, Act.eval, dk.sets_get, ws, List.lookup]) (fun W => (cmp_int A.p B.p W).mono fun _ _ ⟨h1, h2⟩ => ⟨h1, by rw [h2]; exact Below.refl _ _⟩), ?_⟩
    refine ⟨h_build (d := 33) (idx := 26) (by simp) (by simp) rfl (fun h => rfl) (fun h => rfl) (fun h h' => rfl) (fun s W => by simp [execOp, go_sem, Act.eval, dk.sets_get, ws, List.lookup]), ?_⟩
    refine ⟨h_or (by simp) (by rintro s _ ⟨⟩; exact dk.sets_on _ (by simp) _ rfl) (fun s W => by simp [go_sem, Act.eval, dk.sets_get, ws, List.lookup]) ⟨⟨26, .data⟩, by simp, rfl, rfl⟩, ?_⟩
    refine ⟨h_quiet (by decide) (by simp) (.bool (decide (or2 (rc.cmpT e.k f.k) (cmpI A.p B.p) < 0))) (by rintro s _ ⟨⟩; exact dk.sets_on _ (by simp) _ rfl) (fun s W h => by simp [execOp, go_sem, Act.eval, dk.sets_get, ws, List.lookup]), ?_⟩
    exact ⟨h_quiet (by decide) (by simp) (.bool (decide (or2 (rc.cmpT e.k f.k) (cmpI A.p B.p) < 0))) (by rintro s _ ⟨⟩; exact dk.sets_on _ (by simp) _ rfl) (fun s W h => by simp [execOp, go_sem, Act.eval, dk.sets_get, ws, List.lookup]), trivial⟩
  case fin =>
    intro s L X hL hC
    have hBX : Below w.heap.size w X := hC.1
    clear hC hL
    go_wp2
    exact bodyPost_ret (v := .bool (decide (or2 (rc.cmpT e.k f.k) (cmpI A.p B.p) < 0))) (by simp [results, Tryz.results159, go_sem, dk.sets_get, ws, List.lookup]) rfl ⟨rfl, hBX⟩
end Go.Proofs.YtoemkbooomgieaaGreatDoor.cor

/- Two of a heap's runs change their places. -/
namespace Go.Proofs.YtoemkbooomgieaaGreatDoor.rsw
open Go.ChangeShapes Go.WideShapes Go.ChangeAt Go.RowKit Go.Proofs.YtoemkbooomgieaaGreatDoor.fl Go.Proofs.YtoemkbooomgieaaGreatDoor.ri
set_option linter.unusedVariables false

/-- one item laid at place i of the row g -/
def lay (w : World) (g i : Nat) (r : It) : World := (w.setCell ⟨g, i * 2, none⟩ (.slice (some ⟨r.b, r.o, none⟩) r.l.length r.c)).setCell ⟨g, i * 2 + 1, none⟩ (.int .i64 r.p)
def S1 (X : World) (g i : Nat) (B : It) : World := lay X g i B
def S2 (X : World) (g i j : Nat) (A B : It) : World := lay (S1 X g i B) g j A
def ST (w : World) (g i j : Nat) (A B : It) (x y : Bool) : World := if y = true then S2 w g i j A B else if x = true then S1 w g i B else w
def C (w : World) (g i j : Nat) (A B : It) (L : Nat → Bool) (W : World) : Prop := (L 13 = true → L 7 = true ∧ L 11 = true) ∧ (L 15 = true → L 13 = true) ∧ W = ST w g i j A B (L 13) (L 15)
theorem more_on (L : Nat → Bool) (i : Nat) : dn.more L i i = true := by unfold dn.more; rw [if_pos rfl]
theorem more_off (L : Nat → Bool) {i j : Nat} (h : j ≠ i) : dn.more L i j = L j := by unfold dn.more; rw [if_neg h]
section
variable {w : World} {g i j : Nat} {A B : It} {fin : Act} {o : Oper}
theorem qt {k : Nat} (hk : k ≠ 7 ∧ k ≠ 11 ∧ k ≠ 13 ∧ k ≠ 15) (v : Value) (hd : ∀ d, o.dst = some d → fin.tmps[d]? = some v) (hrun : ∀ (W : World), True → (execOp fin.eval o).run Tryz.prog W = .ok (.value v) W) : dn.Step Tryz.prog fin (C w g i j A B) k o := by
  intro L W hdp h0 hC
  refine ⟨v, hd, ?_⟩
  rw [hrun W trivial]
  obtain ⟨k7, k11, k13, k15⟩ := hk
  refine ⟨rfl, ?_⟩
  unfold C
  rw [more_off L k13.symm, more_off L k15.symm, more_off L k7.symm, more_off L k11.symm]
  exact hC
theorem ld7 (v : Value) (hd : ∀ d, o.dst = some d → fin.tmps[d]? = some v) (hrun : (execOp fin.eval o).run Tryz.prog w = .ok (.value v) w) : dn.Step Tryz.prog fin (C w g i j A B) 7 o := by
  intro L W hdp h0 hC
  refine ⟨v, hd, ?_⟩
  obtain ⟨c1, c2, c3⟩ := hC
  have n13 : L 13 = false := by
    cases h : L 13 with
    | false => rfl
    | true => have := (c1 h).1; rw [h0] at this; cases this
  have n15 : L 15 = false := by
    cases h : L 15 with
    | false => rfl
    | true => have := c2 h; rw [n13] at this; cases this
  rw [n13, n15] at c3
  have c3 : W = w := c3
  subst c3
  rw [hrun]
  refine ⟨rfl, ?_⟩
  unfold C
  rw [more_off L (show 13 ≠ 7 by decide), more_off L (show 15 ≠ 7 by decide), n13, n15]
  exact ⟨fun h => (by cases h), fun h => (by cases h), rfl⟩
theorem ld11 (v : Value) (hd : ∀ d, o.dst = some d → fin.tmps[d]? = some v) (hrun : (execOp fin.eval o).run Tryz.prog w = .ok (.value v) w) : dn.Step Tryz.prog fin (C w g i j A B) 11 o := by
  intro L W hdp h0 hC
  refine ⟨v, hd, ?_⟩
  obtain ⟨c1, c2, c3⟩ := hC
  have n13 : L 13 = false := by
    cases h : L 13 with
    | false => rfl
    | true => have := (c1 h).2; rw [h0] at this; cases this
  have n15 : L 15 = false := by
    cases h : L 15 with
    | false => rfl
    | true => have := c2 h; rw [n13] at this; cases this
  rw [n13, n15] at c3
  have c3 : W = w := c3
  subst c3
  rw [hrun]
  refine ⟨rfl, ?_⟩
  unfold C
  rw [more_off L (show 13 ≠ 11 by decide), more_off L (show 15 ≠ 11 by decide), n13, n15]
  exact ⟨fun h => (by cases h), fun h => (by cases h), rfl⟩
theorem st13 (hdst : o.dst = none) (h7 : ∃ e ∈ o.after, Region.binds .any e = true ∧ e.on = 7) (h11 : ∃ e ∈ o.after, Region.binds .any e = true ∧ e.on = 11) (hrun : (execOp fin.eval o).run Tryz.prog w = .ok .skip (S1 w g i B)) : dn.Step Tryz.prog fin (C w g i j A B) 13 o := by
  intro L W hdp h0 hC
  refine ⟨undef, (fun d hd => by rw [hdst] at hd; cases hd), ?_⟩
  obtain ⟨e7, m7, b7, o7⟩ := h7
  obtain ⟨e11, m11, b11, o11⟩ := h11
  have l7 := hdp e7 m7 b7
  have l11 := hdp e11 m11 b11
  rw [o7] at l7
  rw [o11] at l11
  obtain ⟨c1, c2, c3⟩ := hC
  have n15 : L 15 = false := by
    cases h : L 15 with
    | false => rfl
    | true => have := c2 h; rw [h0] at this; cases this
  rw [h0, n15] at c3
  have c3 : W = w := c3
  subst c3
  rw [hrun]
  refine ⟨rfl, ?_⟩
  unfold C
  rw [more_on, more_off L (show 15 ≠ 13 by decide), more_off L (show 7 ≠ 13 by decide), more_off L (show 11 ≠ 13 by decide), n15]
  exact ⟨fun _ => ⟨l7, l11⟩, fun h => (by cases h), rfl⟩
theorem st15 (hdst : o.dst = none) (h13 : ∃ e ∈ o.after, Region.binds .any e = true ∧ e.on = 13) (hrun : (execOp fin.eval o).run Tryz.prog (S1 w g i B) = .ok .skip (S2 w g i j A B)) : dn.Step Tryz.prog fin (C w g i j A B) 15 o := by
  intro L W hdp h0 hC
  refine ⟨undef, (fun d hd => by rw [hdst] at hd; cases hd), ?_⟩
  obtain ⟨e13, m13, b13, o13⟩ := h13
  have l13 := hdp e13 m13 b13
  rw [o13] at l13
  obtain ⟨c1, c2, c3⟩ := hC
  rw [h0, l13] at c3
  have c3 : W = S1 w g i B := c3
  subst c3
  rw [hrun]
  refine ⟨rfl, ?_⟩
  unfold C
  rw [more_on, more_off L (show 13 ≠ 15 by decide), more_off L (show 7 ≠ 15 by decide), more_off L (show 11 ≠ 15 by decide), l13]
  exact ⟨fun _ => c1 l13, fun _ => rfl, rfl⟩
end
def ws (g n cap i j : Nat) (A B : It) : List (Nat × Value) :=
  [(6, .slice (some ⟨g, 0, none⟩) n cap), (7, .int .i64 i), (8, .slice (some ⟨g, 0, none⟩) n cap), (9, .int .i64 j), (10, .slice (some ⟨g, 0, none⟩) n cap), (11, .int .i64 j), (12, .pointer (some ⟨g, j * 2, none⟩)), (13, .agg #[.slice (some ⟨B.b, B.o, none⟩) B.l.length B.c, .int .i64 B.p]),
   (14, .slice (some ⟨g, 0, none⟩) n cap), (15, .int .i64 i), (16, .pointer (some ⟨g, i * 2, none⟩)), (17, .agg #[.slice (some ⟨A.b, A.o, none⟩) A.l.length A.c, .int .i64 A.p]), (18, .pointer (some ⟨g, i * 2, none⟩)), (19, .pointer (some ⟨g, j * 2, none⟩))]

set_option maxRecDepth 100000 in
set_option maxHeartbeats 4000000 in
theorem swap_run (g n cap i j : Nat) (cur : Array Value) (A B : It) (w : World) (hi : i < n) (hj : j < n) (hn : n * 2 ≤ cur.size) (hb : w.heap[g]? = some (.cells cur 101 (0, 0))) (hA : cor.At w g i A) (hB : cor.At w g j B) :
    Calls Tryz.prog 160 #[.slice (some ⟨g, 0, none⟩) n cap, .int .i64 i, .int .i64 j] w fun r w' => r = .returned (.tuple #[]) ∧ w' = S2 w.drew g i j A B := by
  obtain ⟨X, hX⟩ : ∃ X, w.drew = X := ⟨_, rfl⟩
  have a0 : X.cell? ⟨g, i * 2, none⟩ = some (.slice (some ⟨A.b, A.o, none⟩) A.l.length A.c) := by rw [← hX]; exact hA.c0
  have a1 : X.cell? ⟨g, i * 2 + 1, none⟩ = some (.int .i64 A.p) := by rw [← hX]; exact hA.c1
  have b0 : X.cell? ⟨g, j * 2, none⟩ = some (.slice (some ⟨B.b, B.o, none⟩) B.l.length B.c) := by rw [← hX]; exact hB.c0
  have b1 : X.cell? ⟨g, j * 2 + 1, none⟩ = some (.int .i64 B.p) := by rw [← hX]; exact hB.c1
  have hbd : X.heap[g]? = some (.cells cur 101 (0, 0)) := by rw [← hX]; exact hb
  have af : ∀ k, X.frozen? ⟨g, k, none⟩ = false := fun k => bfree hbd k
  obtain ⟨Y, hY⟩ : ∃ Y, S1 X g i B = Y := ⟨_, rfl⟩
  have hb1 : (S1 X g i B).heap[g]? = some (.cells _ 101 (0, 0)) := bset (bset hbd _ _) _ _
  obtain ⟨u0, d0⟩ : ∃ u, (S1 X g i B).cell? ⟨g, j * 2, none⟩ = some u := ⟨_, bcell hb1 (Array.getElem?_eq_getElem (by simp; omega))⟩
  obtain ⟨u1, d1⟩ : ∃ u, (S1 X g i B).cell? ⟨g, j * 2 + 1, none⟩ = some u := ⟨_, bcell hb1 (Array.getElem?_eq_getElem (by simp; omega))⟩
  have df : ∀ k, (S1 X g i B).frozen? ⟨g, k, none⟩ = false := fun k => bfree hb1 k
  rw [hY] at d0 d1 df
  have hS2 : S2 X g i j A B = lay Y g j A := by rw [← hY]; rfl
  have an : (i : Int) < (n : Int) := by omega
  have bn : (j : Int) < (n : Int) := by omega
  clear hA hB hb hbd hb1 hn
  rw [hX]
  go_enter Tryz.func160, Tryz.ntmps160
  refine dk.region_sets (ws g n cap i j A B) [6, 7, 8, 9, 10, 11, 12, 13, 14, 15, 16, 17, 18, 19] (C X g i j A B) (by kernel_rfl) (by kernel_rfl) rfl (by kernel_rfl) ⟨fun h => (by cases h), fun h => (by cases h), hX⟩ ?each ?fin
  case each =>
    refine ⟨qt (by decide) (.slice (some ⟨g, 0, none⟩) n cap) (by rintro _ ⟨⟩; exact dk.sets_on _ (by simp) _ rfl) (fun W h => by simp [execOp, go_sem, Act.eval, dk.sets_get, ws, List.lookup]), ?_⟩
    refine ⟨qt (by decide) (.int .i64 i) (by rintro _ ⟨⟩; exact dk.sets_on _ (by simp) _ rfl) (fun W h => by simp [execOp, go_sem, Act.eval, dk.sets_get, ws, List.lookup]), ?_⟩
    refine ⟨qt (by decide) (.slice (some ⟨g, 0, none⟩) n cap) (by rintro _ ⟨⟩; exact dk.sets_on _ (by simp) _ rfl) (fun W h => by simp [execOp, go_sem, Act.eval, dk.sets_get, ws, List.lookup]), ?_⟩
    refine ⟨qt (by decide) (.int .i64 j) (by rintro _ ⟨⟩; exact dk.sets_on _ (by simp) _ rfl) (fun W h => by simp [execOp, go_sem, Act.eval, dk.sets_get, ws, List.lookup]), ?_⟩
    refine ⟨qt (by decide) (.slice (some ⟨g, 0, none⟩) n cap) (by rintro _ ⟨⟩; exact dk.sets_on _ (by simp) _ rfl) (fun W h => by simp [execOp, go_sem, Act.eval, dk.sets_get, ws, List.lookup]), ?_⟩
    refine ⟨qt (by decide) (.int .i64 j) (by rintro _ ⟨⟩; exact dk.sets_on _ (by simp) _ rfl) (fun W h => by simp [execOp, go_sem, Act.eval, dk.sets_get, ws, List.lookup]), ?_⟩
    refine ⟨qt (by decide) (.pointer (some ⟨g, j * 2, none⟩)) (by rintro _ ⟨⟩; exact dk.sets_on _ (by simp) _ rfl) (fun W h => by simp [execOp, go_sem, Act.eval, dk.sets_get, ws, List.lookup, bn]), ?_⟩
    refine ⟨ld7 (.agg #[.slice (some ⟨B.b, B.o, none⟩) B.l.length B.c, .int .i64 B.p]) (by rintro _ ⟨⟩; exact dk.sets_on _ (by simp) _ rfl) (by simp [execOp, go_sem, Act.eval, dk.sets_get, ws, List.lookup, b0, b1]), ?_⟩
    refine ⟨qt (by decide) (.slice (some ⟨g, 0, none⟩) n cap) (by rintro _ ⟨⟩; exact dk.sets_on _ (by simp) _ rfl) (fun W h => by simp [execOp, go_sem, Act.eval, dk.sets_get, ws, List.lookup]), ?_⟩
    refine ⟨qt (by decide) (.int .i64 i) (by rintro _ ⟨⟩; exact dk.sets_on _ (by simp) _ rfl) (fun W h => by simp [execOp, go_sem, Act.eval, dk.sets_get, ws, List.lookup]), ?_⟩
    refine ⟨qt (by decide) (.pointer (some ⟨g, i * 2, none⟩)) (by rintro _ ⟨⟩; exact dk.sets_on _ (by simp) _ rfl) (fun W h => by simp [execOp, go_sem, Act.eval, dk.sets_get, ws, List.lookup, an]), ?_⟩
    refine ⟨ld11 (.agg #[.slice (some ⟨A.b, A.o, none⟩) A.l.length A.c, .int .i64 A.p]) (by rintro _ ⟨⟩; exact dk.sets_on _ (by simp) _ rfl) (by simp [execOp, go_sem, Act.eval, dk.sets_get, ws, List.lookup, a0, a1]), ?_⟩
    refine ⟨qt (by decide) (.pointer (some ⟨g, i * 2, none⟩)) (by rintro _ ⟨⟩; exact dk.sets_on _ (by simp) _ rfl) (fun W h => by simp [execOp, go_sem, Act.eval, dk.sets_get, ws, List.lookup, an]), ?_⟩
    refine ⟨st13 rfl ⟨⟨7, .data⟩, by simp, rfl, rfl⟩ ⟨⟨11, .phase⟩, by simp, rfl, rfl⟩ (by simp [execOp, go_sem, Act.eval, dk.sets_get, ws, List.lookup, a0, a1, af, S1, lay]), ?_⟩
    refine ⟨qt (by decide) (.pointer (some ⟨g, j * 2, none⟩)) (by rintro _ ⟨⟩; exact dk.sets_on _ (by simp) _ rfl) (fun W h => by simp [execOp, go_sem, Act.eval, dk.sets_get, ws, List.lookup, bn]), ?_⟩
    exact ⟨st15 rfl ⟨⟨13, .chain⟩, by simp, rfl, rfl⟩ (by rw [hS2, hY]; simp [execOp, go_sem, Act.eval, dk.sets_get, ws, List.lookup, d0, d1, df, lay]), trivial⟩
  case fin =>
    intro L W hL hC
    obtain ⟨_, _, c3⟩ := hC
    rw [hL 13 (by decide), hL 15 (by decide)] at c3
    have c3 : W = S2 X g i j A B := c3
    subst c3
    clear hL
    go_end0
    exact ⟨rfl, rfl⟩
end Go.Proofs.YtoemkbooomgieaaGreatDoor.rsw
