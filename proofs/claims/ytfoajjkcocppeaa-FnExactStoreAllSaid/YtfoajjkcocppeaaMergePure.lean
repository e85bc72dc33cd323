/- Layers of ascending pairs put together: the newest of each key, ascending. -/
import Derived.Test.YtfoajjkcocppeaaPutPure
import Derived.Test.YtfoajjkcocppeaaRunFirst
namespace Go.Proofs.Ytfoajjkcocppeaa.mgp
open Go.Proofs.Ytfoajjkcocppeaa.rc Go.Proofs.Ytfoajjkcocppeaa.ro Go.Proofs.Ytfoajjkcocppeaa.tk Go.Proofs.Ytfoajjkcocppeaa.ptp Go.Proofs.Ytfoajjkcocppeaa.ri
set_option linter.unusedVariables false

def Asc (l : List flP.Pr) : Prop := l.Pairwise fun a b => lt a.k b.k = true
theorem asc_of {l : List flP.Pr} (h : UpP l l.length) : Asc l := by
  unfold Asc
  rw [List.pairwise_iff_getElem]
  have step : ∀ (d i : Nat) a b, l[i]? = some a → l[i + d + 1]? = some b → lt a.k b.k = true := by
    intro d
    induction d with
    | zero => intro i a b ha hb; exact cmp_neg.1 (h i a b (List.getElem?_eq_some_iff.1 hb).1 ha hb)
    | succ d ih =>
      intro i a b ha hb
      have hlt : i + d + 1 < l.length := by have := (List.getElem?_eq_some_iff.1 hb).1; omega
      have hm : l[i + d + 1]? = some l[i + d + 1] := List.getElem?_eq_getElem hlt
      exact lt_trans (ih i a _ ha hm) (cmp_neg.1 (h (i + d + 1) _ b (by have := (List.getElem?_eq_some_iff.1 hb).1; omega) hm (by rw [show i + d + 1 + 1 = i + (d + 1) + 1 by omega]; exact hb)))
  intro i j hi hj hij
  obtain ⟨d, rfl⟩ : ∃ d, j = i + d + 1 := ⟨j - i - 1, by omega⟩
  exact step d i _ _ (List.getElem?_eq_getElem hi) (List.getElem?_eq_getElem hj)
theorem of_asc {l : List flP.Pr} (h : Asc l) : UpP l l.length := fun i a b hi ha hb => by
  obtain ⟨h1, rfl⟩ := List.getElem?_eq_some_iff.1 ha
  obtain ⟨h2, rfl⟩ := List.getElem?_eq_some_iff.1 hb
  exact cmp_neg.2 (List.pairwise_iff_getElem.1 h i (i + 1) h1 h2 (by omega))
theorem asc_ext : ∀ {l m : List flP.Pr}, Asc l → Asc m → (∀ e, e ∈ l ↔ e ∈ m) → l = m
  | [], [], _, _, _ => rfl
  | [], b :: m, _, _, h => by have := (h b).2 (by simp); cases this
  | a :: l, [], _, _, h => by have := (h a).1 (by simp); cases this
  | a :: l, b :: m, hl, hm, h => by
    obtain ⟨l1, l2⟩ := List.pairwise_cons.1 hl
    obtain ⟨m1, m2⟩ := List.pairwise_cons.1 hm
    have e : a = b := by
      rcases List.mem_cons.1 ((h a).1 (by simp)) with h1 | h1
      · exact h1
      · rcases List.mem_cons.1 ((h b).2 (by simp)) with h2 | h2
        · exact h2.symm
        · have := lt_asymm (m1 a h1); rw [l1 b h2] at this; cases this
    subst e
    congr 1
    refine asc_ext l2 m2 fun x => ⟨fun hx => ?_, fun hx => ?_⟩
    · rcases List.mem_cons.1 ((h x).1 (by simp [hx])) with h1 | h1
      · subst h1; have := l1 x hx; rw [lt_irrefl] at this; cases this
      · exact h1
    · rcases List.mem_cons.1 ((h x).2 (by simp [hx])) with h1 | h1
      · subst h1; have := m1 x hx; rw [lt_irrefl] at this; cases this
      · exact h1
theorem asc_key {l : List flP.Pr} (h : Asc l) {a b : flP.Pr} (ha : a ∈ l) (hb : b ∈ l) (hk : a.k = b.k) : a = b := by
  induction l with
  | nil => cases ha
  | cons x l ih =>
    obtain ⟨l1, l2⟩ := List.pairwise_cons.1 h
    rcases List.mem_cons.1 ha with rfl | ha'
    · rcases List.mem_cons.1 hb with rfl | hb'
      · rfl
      · have := l1 b hb'; rw [hk, lt_irrefl] at this; cases this
    · rcases List.mem_cons.1 hb with rfl | hb'
      · have := l1 a ha'; rw [hk, lt_irrefl] at this; cases this
      · exact ih l2 ha' hb'

theorem setP_cons (a : flP.Pr) (l : List flP.Pr) (e : flP.Pr) : setP (a :: l) e = if lt a.k e.k = true then a :: setP l e else if a.k = e.k then e :: l else e :: a :: l := by
  by_cases h : lt a.k e.k = true
  · have hp : posP (a :: l) e.k = posP l e.k + 1 := by show (if lt a.k e.k = true then posP l e.k + 1 else 0) = _; rw [if_pos h]
    rw [if_pos h]
    unfold setP restP
    rw [hp]
    have hi : isP (a :: l) (posP l e.k + 1) e.k = isP l (posP l e.k) e.k := by unfold isP; rw [List.getElem?_cons_succ]
    rw [hi]
    split <;> simp
  · have hp : posP (a :: l) e.k = 0 := by show (if lt a.k e.k = true then posP l e.k + 1 else 0) = _; rw [if_neg h]
    rw [if_neg h]
    unfold setP restP
    rw [hp]
    have hi : isP (a :: l) 0 e.k = decide (a.k = e.k) := rfl
    rw [hi]
    by_cases hk : a.k = e.k
    · rw [if_pos (decide_eq_true hk), if_pos hk]; simp
    · rw [if_neg (by simpa using hk), if_neg hk]; simp
theorem setP_iff : ∀ {l : List flP.Pr}, Asc l → ∀ (e x : flP.Pr), x ∈ setP l e ↔ x = e ∨ (x ∈ l ∧ x.k ≠ e.k)
  | [], _, e, x => by simp [setP, restP, posP, isP]
  | a :: l, h, e, x => by
    obtain ⟨l1, l2⟩ := List.pairwise_cons.1 h
    rw [setP_cons]
    split
    · rename_i hlt
      have hne : a.k ≠ e.k := fun hk => by rw [hk, lt_irrefl] at hlt; cases hlt
      rw [List.mem_cons, setP_iff l2 e x]
      constructor
      · rintro (rfl | rfl | ⟨h1, h2⟩)
        · exact .inr ⟨by simp, hne⟩
        · exact .inl rfl
        · exact .inr ⟨by simp [h1], h2⟩
      · rintro (rfl | ⟨h1, h2⟩)
        · exact .inr (.inl rfl)
        · rcases List.mem_cons.1 h1 with rfl | h1
          · exact .inl rfl
          · exact .inr (.inr ⟨h1, h2⟩)
    · rename_i hlt
      have hgt : ∀ y ∈ l, y.k ≠ e.k := fun y hy hk => hlt (by rw [← hk]; exact l1 y hy)
      split
      · rename_i hk
        rw [List.mem_cons]
        constructor
        · rintro (rfl | h1)
          · exact .inl rfl
          · exact .inr ⟨by simp [h1], hgt x h1⟩
        · rintro (rfl | ⟨h1, h2⟩)
          · exact .inl rfl
          · rcases List.mem_cons.1 h1 with rfl | h1
            · exact absurd hk h2
            · exact .inr h1
      · rename_i hk
        rw [List.mem_cons]
        constructor
        · rintro (rfl | h1)
          · exact .inl rfl
          · rcases List.mem_cons.1 h1 with rfl | h2
            · exact .inr ⟨h1, hk⟩
            · exact .inr ⟨h1, hgt x h2⟩
        · rintro (rfl | ⟨h1, h2⟩)
          · exact .inl rfl
          · exact .inr h1
theorem setP_asc : ∀ {l : List flP.Pr}, Asc l → ∀ (e : flP.Pr), Asc (setP l e)
  | [], _, e => by simp [setP, restP, posP, isP, Asc]
  | a :: l, h, e => by
    obtain ⟨l1, l2⟩ := List.pairwise_cons.1 h
    rw [setP_cons]
    split
    · rename_i hlt
      refine List.pairwise_cons.2 ⟨fun x hx => ?_, setP_asc l2 e⟩
      rcases (setP_iff l2 e x).1 hx with rfl | ⟨h1, _⟩
      · exact hlt
      · exact l1 x h1
    · rename_i hlt
      have hlt' : lt a.k e.k = false := by simpa using hlt
      split
      · rename_i hk
        exact List.pairwise_cons.2 ⟨fun x hx => by rw [← hk]; exact l1 x hx, l2⟩
      · rename_i hk
        have hea := lt_tri hlt' hk
        refine List.pairwise_cons.2 ⟨fun x hx => ?_, h⟩
        rcases List.mem_cons.1 hx with rfl | hx
        · exact hea
        · exact lt_trans hea (l1 x hx)

/-- x is the newest of its key in the layers, the first one counting most -/
def New (ls : List (List flP.Pr)) (x : flP.Pr) : Prop := ∃ (i : Nat) (l : List flP.Pr), ls[i]? = some l ∧ x ∈ l ∧ ∀ (j : Nat) (m : List flP.Pr), j < i → ls[j]? = some m → ∀ y ∈ m, y.k ≠ x.k
theorem new_one {ls : List (List flP.Pr)} (hA : ∀ l ∈ ls, Asc l) {x y : flP.Pr} (hx : New ls x) (hy : New ls y) (hk : x.k = y.k) : x = y := by
  obtain ⟨i, l, h1, h2, h3⟩ := hx
  obtain ⟨j, m, k1, k2, k3⟩ := hy
  rcases Nat.lt_trichotomy i j with h | rfl | h
  · exact absurd hk (k3 i l h h1 x h2)
  · rw [h1] at k1; cases k1
    exact asc_key (hA l (List.mem_of_getElem? h1)) h2 k2 hk
  · exact absurd hk.symm (h3 j m h k1 y k2)
/-- the newest of each key, ascending: there is one such list -/
def Is (ls : List (List flP.Pr)) (out : List flP.Pr) : Prop := Asc out ∧ ∀ x, x ∈ out ↔ New ls x
theorem Is.one {ls : List (List flP.Pr)} {a b : List flP.Pr} (ha : Is ls a) (hb : Is ls b) : a = b := asc_ext ha.1 hb.1 fun e => (ha.2 e).trans (hb.2 e).symm

/-- what stands while the runs are put together -/
structure Inv (ls : List (List flP.Pr)) (M : List It) (out : List flP.Pr) : Prop where
  sf : ∀ r ∈ M, ∃ l d, ls[r.p]? = some l ∧ l = d ++ r.l
  up : Asc out
  lo : ∀ r ∈ M, ∀ e ∈ r.l, ∀ x ∈ out, lt e.k x.k = false
  nw : ∀ x ∈ out, New ls x
  cv : ∀ (i : Nat) l, ls[i]? = some l → ∀ e ∈ l, (∃ x ∈ out, x.k = e.k) ∨ ∃ r ∈ M, r.p = i ∧ e ∈ r.l
theorem Inv.perm {ls : List (List flP.Pr)} {M N : List It} {out : List flP.Pr} (h : Inv ls M out) (hp : N.Perm M) : Inv ls N out :=
  ⟨fun r hr => h.sf r (hp.mem_iff.1 hr), h.up, fun r hr => h.lo r (hp.mem_iff.1 hr), h.nw, fun i l hl e he => (h.cv i l hl e he).imp_right fun ⟨r, hr, h2⟩ => ⟨r, hp.mem_iff.2 hr, h2⟩⟩
theorem Inv.fin {ls : List (List flP.Pr)} {out : List flP.Pr} (hA : ∀ l ∈ ls, Asc l) (h : Inv ls [] out) : Is ls out := by
  refine ⟨h.up, fun x => ⟨h.nw x, fun hx => ?_⟩⟩
  obtain ⟨i, l, h1, h2, h3⟩ := hx
  rcases h.cv i l h1 x h2 with ⟨y, hy, hk⟩ | ⟨r, hr, _⟩
  · rw [← new_one hA (h.nw y hy) ⟨i, l, h1, h2, h3⟩ hk]; exact hy
  · cases hr
theorem suffix_asc {d l : List flP.Pr} (h : Asc (d ++ l)) : Asc l := (List.pairwise_append.1 h).2.1
/-- the first pair of all: no pair that is left comes ahead of it -/
theorem least {ls : List (List flP.Pr)} {r : It} {rest : List It} {e : flP.Pr} {t : List flP.Pr} {out : List flP.Pr} (hA : ∀ l ∈ ls, Asc l) (h : Inv ls (r :: rest) out) (hr : r.l = e :: t) (hm : ∀ q ∈ rest, less q r = false) : ∀ q ∈ r :: rest, ∀ y ∈ q.l, lt y.k e.k = false ∧ (y.k = e.k → r.p ≤ q.p) := by
  intro q hq y hy
  obtain ⟨l, d, h1, h2⟩ := h.sf q hq
  have hq2 : Asc q.l := suffix_asc (by rw [← h2]; exact hA l (List.mem_of_getElem? h1))
  obtain ⟨f, u, hf⟩ : ∃ f u, q.l = f :: u := by
    cases hh : q.l with
    | nil => rw [hh] at hy; cases hy
    | cons f u => exact ⟨f, u, rfl⟩
  have hke : key r = e.k := by unfold key; rw [hr]
  have hkf : key q = f.k := by unfold key; rw [hf]
  have hfy : lt y.k f.k = false ∧ (y.k = f.k ∨ lt f.k y.k = true) := by
    rw [hf] at hy hq2
    rcases List.mem_cons.1 hy with rfl | hy
    · exact ⟨lt_irrefl _, .inl rfl⟩
    · have := (List.pairwise_cons.1 hq2).1 y hy
      exact ⟨lt_asymm this, .inr this⟩
  have hfe : lt f.k e.k = false ∧ (f.k = e.k → r.p ≤ q.p) := by
    rcases List.mem_cons.1 hq with rfl | hq'
    · rw [hr] at hf; cases hf
      exact ⟨lt_irrefl _, fun _ => Nat.le_refl _⟩
    · have hl := hm q hq'
      refine ⟨?_, fun hk => ?_⟩
      · cases h3 : lt f.k e.k with
        | false => rfl
        | true => rw [less_iff.2 (.inl (by rw [hke, hkf]; exact h3))] at hl; cases hl
      · rcases Nat.lt_or_ge q.p r.p with h3 | h3
        · rw [less_iff.2 (.inr ⟨by rw [hke, hkf]; exact hk, h3⟩)] at hl; cases hl
        · exact h3
  refine ⟨?_, fun hk => ?_⟩
  · rcases hfy.2 with h3 | h3
    · rw [h3]; exact hfe.1
    · cases h4 : lt y.k e.k with
      | false => rfl
      | true => have := lt_trans h3 h4; rw [hfe.1] at this; cases this
  · refine hfe.2 ?_
    rcases hfy.2 with h3 | h3
    · rw [← h3]; exact hk
    · rw [hk] at h3
      rw [hfe.1] at h3; cases h3
theorem Inv.next {ls : List (List flP.Pr)} {r : It} {rest : List It} {e : flP.Pr} {t : List flP.Pr} {out out' : List flP.Pr} (h : Inv ls (r :: rest) out) (hr : r.l = e :: t) (hup : Asc out') (hlo : ∀ q ∈ rfi.nx r ++ rest, ∀ y ∈ q.l, ∀ x ∈ out', lt y.k x.k = false) (hnw : ∀ x ∈ out', New ls x) (hsub : ∀ x ∈ out, x ∈ out') (hek : ∃ x ∈ out', x.k = e.k) : Inv ls (rfi.nx r ++ rest) out' := by
  have hnx : ∀ q ∈ rfi.nx r, q.p = r.p ∧ q.l = t := fun q hq => by
    unfold rfi.nx at hq
    rw [hr] at hq
    cases t with
    | nil => cases hq
    | cons f u => simp at hq; subst hq; exact ⟨rfl, rfl⟩
  refine ⟨fun q hq => ?_, hup, hlo, hnw, fun i l hl y hy => ?_⟩
  · rcases List.mem_append.1 hq with hq | hq
    · obtain ⟨h1, h2⟩ := hnx q hq
      obtain ⟨l, d, h3, h4⟩ := h.sf r (by simp)
      exact ⟨l, d ++ [e], by rw [h1]; exact h3, by rw [h4, hr, h2]; simp⟩
    · exact h.sf q (by simp [hq])
  · rcases h.cv i l hl y hy with ⟨x, hx, hk⟩ | ⟨q, hq, h1, h2⟩
    · exact .inl ⟨x, hsub x hx, hk⟩
    · rcases List.mem_cons.1 hq with rfl | hq
      · rw [hr] at h2
        rcases List.mem_cons.1 h2 with rfl | h2
        · exact .inl hek
        · cases ht : t with
          | nil => rw [ht] at h2; cases h2
          | cons f u =>
            rw [ht] at h2
            refine .inr ⟨⟨q.b, q.o + 3, q.c - 1, f :: u, q.p⟩, ?_, h1, h2⟩
            unfold rfi.nx
            rw [hr, ht]
            simp
      · exact .inr ⟨q, by simp [hq], h1, h2⟩
/-- the popped pair's key is there already -/
theorem Inv.skip {ls : List (List flP.Pr)} {r : It} {rest : List It} {e z : flP.Pr} {t : List flP.Pr} {out : List flP.Pr} (h : Inv ls (r :: rest) out) (hr : r.l = e :: t) (hz : z ∈ out) (hk : z.k = e.k) : Inv ls (rfi.nx r ++ rest) out := by
  refine h.next hr h.up (fun q hq y hy x hx => ?_) h.nw (fun x hx => hx) ⟨z, hz, hk⟩
  rcases List.mem_append.1 hq with hq | hq
  · have : q.l = t := by
      unfold rfi.nx at hq
      rw [hr] at hq
      cases t with
      | nil => cases hq
      | cons f u => simp at hq; subst hq; rfl
    rw [this] at hy
    exact h.lo r (by simp) y (by rw [hr]; simp [hy]) x hx
  · exact h.lo q (by simp [hq]) y hy x hx
/-- the popped pair is a new one -/
theorem Inv.take {ls : List (List flP.Pr)} {r : It} {rest : List It} {e : flP.Pr} {t : List flP.Pr} {out : List flP.Pr} (hA : ∀ l ∈ ls, Asc l) (h : Inv ls (r :: rest) out) (hr : r.l = e :: t) (hm : ∀ q ∈ rest, less q r = false) (hne : ∀ z, out.getLast? = some z → z.k ≠ e.k) : Inv ls (rfi.nx r ++ rest) (out ++ [e]) := by
  have hl := least hA h hr hm
  have hout : ∀ x ∈ out, lt x.k e.k = true := fun x hx => by
    have h1 := h.lo r (by simp) e (by rw [hr]; simp) x hx
    cases hg : out.getLast? with
    | none => rw [List.getLast?_eq_none_iff] at hg; rw [hg] at hx; cases hx
    | some z =>
      obtain ⟨pre, hpre⟩ := List.getLast?_eq_some_iff.1 hg
      have hz : z ∈ out := by rw [hpre]; simp
      have hz1 := h.lo r (by simp) e (by rw [hr]; simp) z hz
      have hz2 : lt z.k e.k = true := lt_tri hz1 (Ne.symm (hne z hg))
      rw [hpre] at hx
      rcases List.mem_append.1 hx with hx | hx
      · have := h.up
        rw [hpre] at this
        exact lt_trans ((List.pairwise_append.1 this).2.2 x hx z (by simp)) hz2
      · simp at hx; subst hx; exact hz2
  refine h.next hr ?_ (fun q hq y hy x hx => ?_) (fun x hx => ?_) (fun x hx => by simp [hx]) ⟨e, by simp, rfl⟩
  · refine List.pairwise_append.2 ⟨h.up, by simp, fun x hx y hy => ?_⟩
    simp at hy; subst hy
    exact hout x hx
  · have hy' : lt y.k e.k = false ∧ ∀ x ∈ out, lt y.k x.k = false := by
      rcases List.mem_append.1 hq with hq | hq
      · have : q.l = t := by
          unfold rfi.nx at hq
          rw [hr] at hq
          cases t with
          | nil => cases hq
          | cons f u => simp at hq; subst hq; rfl
        rw [this] at hy
        exact ⟨(hl r (by simp) y (by rw [hr]; simp [hy])).1, h.lo r (by simp) y (by rw [hr]; simp [hy])⟩
      · exact ⟨(hl q (by simp [hq]) y hy).1, h.lo q (by simp [hq]) y hy⟩
    rcases List.mem_append.1 hx with hx | hx
    · exact hy'.2 x hx
    · simp at hx; subst hx; exact hy'.1
  · rcases List.mem_append.1 hx with hx | hx
    · exact h.nw x hx
    · simp at hx; subst hx
      obtain ⟨l, d, h1, h2⟩ := h.sf r (by simp)
      refine ⟨r.p, l, h1, by rw [h2, hr]; simp, fun j m hj hmm y hy hk => ?_⟩
      rcases h.cv j m hmm y hy with ⟨z, hz, hzk⟩ | ⟨q, hq, h3, h4⟩
      · have := hout z hz
        rw [hzk, hk, lt_irrefl] at this; cases this
      · have := (hl q hq y h4).2 hk
        omega
end Go.Proofs.Ytfoajjkcocppeaa.mgp
