/- append(s, make(S, n)...) where it must grow: a new row with s's cells, then zero values. -/
import Derived.Test.YtlgcciaebkfnjaaGreatDoorPutPure
import Derived.Test.YtlgcciaebkfnjaaGreatDoorAscPure
import Derived.Test.YtlgcciaebkfnjaaGreatDoorSk04
import Derived.Test.YtlgcciaebkfnjaaGreatDoorSk01
import Derived.Laws.Append

/- Layers of ascending pairs put together: the newest of each key, ascending. -/
namespace Go.Proofs.YtlgcciaebkfnjaaGreatDoor.mgp
open Go.Proofs.YtlgcciaebkfnjaaGreatDoor.rc Go.Proofs.YtlgcciaebkfnjaaGreatDoor.ro Go.Proofs.YtlgcciaebkfnjaaGreatDoor.tk Go.Proofs.YtlgcciaebkfnjaaGreatDoor.ptp Go.Proofs.YtlgcciaebkfnjaaGreatDoor.ri
set_option linter.unusedVariables false

theorem asc_of {l : List flP.Pr} (h : UpP l l.length) : Asc l := by
  unfold Asc
  rw [List.pairwise_iff_getElem]
  have step : ∀ (d i : Nat) a b, l[i]? = some a → l[i + d + 1]? = some b → lt a.k b.k = true := by
    intro d
    induction d with
    | zero => intro i a b ha hb; exact cmp_neg.1 (h i a b (List.getElem?_eq_some_iff.1 hb).1 ha hb)
    | succ d ih =>
      intro i a b ha hb
      have hlt : i + d + 1 < l.length := by have := (List.getElem?_eq_some_iff.1 hb).1; omega
      have hm : l[i + d + 1]? = some l[i + d + 1] := List.getElem?_eq_getElem hlt
      exact lt_trans (ih i a _ ha hm) (cmp_neg.1 (h (i + d + 1) _ b (by have := (List.getElem?_eq_some_iff.1 hb).1; omega) hm (by rw [show i + d + 1 + 1 = i + (d + 1) + 1 by omega]; exact hb)))
  intro i j hi hj hij
  obtain ⟨d, rfl⟩ : ∃ d, j = i + d + 1 := ⟨j - i - 1, by omega⟩
  exact step d i _ _ (List.getElem?_eq_getElem hi) (List.getElem?_eq_getElem hj)
theorem of_asc {l : List flP.Pr} (h : Asc l) : UpP l l.length := fun i a b hi ha hb => by
  obtain ⟨h1, rfl⟩ := List.getElem?_eq_some_iff.1 ha
  obtain ⟨h2, rfl⟩ := List.getElem?_eq_some_iff.1 hb
  exact cmp_neg.2 (List.pairwise_iff_getElem.1 h i (i + 1) h1 h2 (by omega))
/-- x is the newest of its key in the layers, the first one counting most -/
def New (ls : List (List flP.Pr)) (x : flP.Pr) : Prop := ∃ (i : Nat) (l : List flP.Pr), ls[i]? = some l ∧ x ∈ l ∧ ∀ (j : Nat) (m : List flP.Pr), j < i → ls[j]? = some m → ∀ y ∈ m, y.k ≠ x.k
theorem new_one {ls : List (List flP.Pr)} (hA : ∀ l ∈ ls, Asc l) {x y : flP.Pr} (hx : New ls x) (hy : New ls y) (hk : x.k = y.k) : x = y := by
  obtain ⟨i, l, h1, h2, h3⟩ := hx
  obtain ⟨j, m, k1, k2, k3⟩ := hy
  rcases Nat.lt_trichotomy i j with h | rfl | h
  · exact absurd hk (k3 i l h h1 x h2)
  · rw [h1] at k1; cases k1
    exact asc_key (hA l (List.mem_of_getElem? h1)) h2 k2 hk
  · exact absurd hk.symm (h3 j m h k1 y k2)
/-- the newest of each key, ascending: there is one such list -/
def Is (ls : List (List flP.Pr)) (out : List flP.Pr) : Prop := Asc out ∧ ∀ x, x ∈ out ↔ New ls x
theorem Is.one {ls : List (List flP.Pr)} {a b : List flP.Pr} (ha : Is ls a) (hb : Is ls b) : a = b := asc_ext ha.1 hb.1 fun e => (ha.2 e).trans (hb.2 e).symm

/-- what stands while the runs are put together -/
structure Inv (ls : List (List flP.Pr)) (M : List It) (out : List flP.Pr) : Prop where
  sf : ∀ r ∈ M, ∃ l d, ls[r.p]? = some l ∧ l = d ++ r.l
  up : Asc out
  lo : ∀ r ∈ M, ∀ e ∈ r.l, ∀ x ∈ out, lt e.k x.k = false
  nw : ∀ x ∈ out, New ls x
  cv : ∀ (i : Nat) l, ls[i]? = some l → ∀ e ∈ l, (∃ x ∈ out, x.k = e.k) ∨ ∃ r ∈ M, r.p = i ∧ e ∈ r.l
theorem Inv.perm {ls : List (List flP.Pr)} {M N : List It} {out : List flP.Pr} (h : Inv ls M out) (hp : N.Perm M) : Inv ls N out :=
  ⟨fun r hr => h.sf r (hp.mem_iff.1 hr), h.up, fun r hr => h.lo r (hp.mem_iff.1 hr), h.nw, fun i l hl e he => (h.cv i l hl e he).imp_right fun ⟨r, hr, h2⟩ => ⟨r, hp.mem_iff.2 hr, h2⟩⟩
theorem Inv.fin {ls : List (List flP.Pr)} {out : List flP.Pr} (hA : ∀ l ∈ ls, Asc l) (h : Inv ls [] out) : Is ls out := by
  refine ⟨h.up, fun x => ⟨h.nw x, fun hx => ?_⟩⟩
  obtain ⟨i, l, h1, h2, h3⟩ := hx
  rcases h.cv i l h1 x h2 with ⟨y, hy, hk⟩ | ⟨r, hr, _⟩
  · rw [← new_one hA (h.nw y hy) ⟨i, l, h1, h2, h3⟩ hk]; exact hy
  · cases hr
theorem suffix_asc {d l : List flP.Pr} (h : Asc (d ++ l)) : Asc l := (List.pairwise_append.1 h).2.1
/-- the first pair of all: no pair that is left comes ahead of it -/
theorem least {ls : List (List flP.Pr)} {r : It} {rest : List It} {e : flP.Pr} {t : List flP.Pr} {out : List flP.Pr} (hA : ∀ l ∈ ls, Asc l) (h : Inv ls (r :: rest) out) (hr : r.l = e :: t) (hm : ∀ q ∈ rest, less q r = false) : ∀ q ∈ r :: rest, ∀ y ∈ q.l, lt y.k e.k = false ∧ (y.k = e.k → r.p ≤ q.p) := by
  intro q hq y hy
  obtain ⟨l, d, h1, h2⟩ := h.sf q hq
  have hq2 : Asc q.l := suffix_asc (by rw [← h2]; exact hA l (List.mem_of_getElem? h1))
  obtain ⟨f, u, hf⟩ : ∃ f u, q.l = f :: u := by
    cases hh : q.l with
    | nil => rw [hh] at hy; cases hy
    | cons f u => exact ⟨f, u, rfl⟩
  have hke : key r = e.k := by unfold key; rw [hr]
  have hkf : key q = f.k := by unfold key; rw [hf]
  have hfy : lt y.k f.k = false ∧ (y.k = f.k ∨ lt f.k y.k = true) := by
    rw [hf] at hy hq2
    rcases List.mem_cons.1 hy with rfl | hy
    · exact ⟨lt_irrefl _, .inl rfl⟩
    · have := (List.pairwise_cons.1 hq2).1 y hy
      exact ⟨lt_asymm this, .inr this⟩
  have hfe : lt f.k e.k = false ∧ (f.k = e.k → r.p ≤ q.p) := by
    rcases List.mem_cons.1 hq with rfl | hq'
    · rw [hr] at hf; cases hf
      exact ⟨lt_irrefl _, fun _ => Nat.le_refl _⟩
    · have hl := hm q hq'
      refine ⟨?_, fun hk => ?_⟩
      · cases h3 : lt f.k e.k with
        | false => rfl
        | true => rw [less_iff.2 (.inl (by rw [hke, hkf]; exact h3))] at hl; cases hl
      · rcases Nat.lt_or_ge q.p r.p with h3 | h3
        · rw [less_iff.2 (.inr ⟨by rw [hke, hkf]; exact hk, h3⟩)] at hl; cases hl
        · exact h3
  refine ⟨?_, fun hk => ?_⟩
  · rcases hfy.2 with h3 | h3
    · rw [h3]; exact hfe.1
    · cases h4 : lt y.k e.k with
      | false => rfl
      | true => have := lt_trans h3 h4; rw [hfe.1] at this; cases this
  · refine hfe.2 ?_
    rcases hfy.2 with h3 | h3
    · rw [← h3]; exact hk
    · rw [hk] at h3
      rw [hfe.1] at h3; cases h3
theorem Inv.next {ls : List (List flP.Pr)} {r : It} {rest : List It} {e : flP.Pr} {t : List flP.Pr} {out out' : List flP.Pr} (h : Inv ls (r :: rest) out) (hr : r.l = e :: t) (hup : Asc out') (hlo : ∀ q ∈ rfi.nx r ++ rest, ∀ y ∈ q.l, ∀ x ∈ out', lt y.k x.k = false) (hnw : ∀ x ∈ out', New ls x) (hsub : ∀ x ∈ out, x ∈ out') (hek : ∃ x ∈ out', x.k = e.k) : Inv ls (rfi.nx r ++ rest) out' := by
  have hnx : ∀ q ∈ rfi.nx r, q.p = r.p ∧ q.l = t := fun q hq => by
    unfold rfi.nx at hq
    rw [hr] at hq
    cases t with
    | nil => cases hq
    | cons f u => simp at hq; subst hq; exact ⟨rfl, rfl⟩
  refine ⟨fun q hq => ?_, hup, hlo, hnw, fun i l hl y hy => ?_⟩
  · rcases List.mem_append.1 hq with hq | hq
    · obtain ⟨h1, h2⟩ := hnx q hq
      obtain ⟨l, d, h3, h4⟩ := h.sf r (by simp)
      exact ⟨l, d ++ [e], by rw [h1]; exact h3, by rw [h4, hr, h2]; simp⟩
    · exact h.sf q (by simp [hq])
  · rcases h.cv i l hl y hy with ⟨x, hx, hk⟩ | ⟨q, hq, h1, h2⟩
    · exact .inl ⟨x, hsub x hx, hk⟩
    · rcases List.mem_cons.1 hq with rfl | hq
      · rw [hr] at h2
        rcases List.mem_cons.1 h2 with rfl | h2
        · exact .inl hek
        · cases ht : t with
          | nil => rw [ht] at h2; cases h2
          | cons f u =>
            rw [ht] at h2
            refine .inr ⟨⟨q.b, q.o + 3, q.c - 1, f :: u, q.p⟩, ?_, h1, h2⟩
            unfold rfi.nx
            rw [hr, ht]
            simp
      · exact .inr ⟨q, by simp [hq], h1, h2⟩
/-- the popped pair's key is there already -/
theorem Inv.skip {ls : List (List flP.Pr)} {r : It} {rest : List It} {e z : flP.Pr} {t : List flP.Pr} {out : List flP.Pr} (h : Inv ls (r :: rest) out) (hr : r.l = e :: t) (hz : z ∈ out) (hk : z.k = e.k) : Inv ls (rfi.nx r ++ rest) out := by
  refine h.next hr h.up (fun q hq y hy x hx => ?_) h.nw (fun x hx => hx) ⟨z, hz, hk⟩
  rcases List.mem_append.1 hq with hq | hq
  · have : q.l = t := by
      unfold rfi.nx at hq
      rw [hr] at hq
      cases t with
      | nil => cases hq
      | cons f u => simp at hq; subst hq; rfl
    rw [this] at hy
    exact h.lo r (by simp) y (by rw [hr]; simp [hy]) x hx
  · exact h.lo q (by simp [hq]) y hy x hx
/-- the popped pair is a new one -/
theorem Inv.take {ls : List (List flP.Pr)} {r : It} {rest : List It} {e : flP.Pr} {t : List flP.Pr} {out : List flP.Pr} (hA : ∀ l ∈ ls, Asc l) (h : Inv ls (r :: rest) out) (hr : r.l = e :: t) (hm : ∀ q ∈ rest, less q r = false) (hne : ∀ z, out.getLast? = some z → z.k ≠ e.k) : Inv ls (rfi.nx r ++ rest) (out ++ [e]) := by
  have hl := least hA h hr hm
  have hout : ∀ x ∈ out, lt x.k e.k = true := fun x hx => by
    have h1 := h.lo r (by simp) e (by rw [hr]; simp) x hx
    cases hg : out.getLast? with
    | none => rw [List.getLast?_eq_none_iff] at hg; rw [hg] at hx; cases hx
    | some z =>
      obtain ⟨pre, hpre⟩ := List.getLast?_eq_some_iff.1 hg
      have hz : z ∈ out := by rw [hpre]; simp
      have hz1 := h.lo r (by simp) e (by rw [hr]; simp) z hz
      have hz2 : lt z.k e.k = true := lt_tri hz1 (Ne.symm (hne z hg))
      rw [hpre] at hx
      rcases List.mem_append.1 hx with hx | hx
      · have := h.up
        rw [hpre] at this
        exact lt_trans ((List.pairwise_append.1 this).2.2 x hx z (by simp)) hz2
      · simp at hx; subst hx; exact hz2
  refine h.next hr ?_ (fun q hq y hy x hx => ?_) (fun x hx => ?_) (fun x hx => by simp [hx]) ⟨e, by simp, rfl⟩
  · refine List.pairwise_append.2 ⟨h.up, by simp, fun x hx y hy => ?_⟩
    simp at hy; subst hy
    exact hout x hx
  · have hy' : lt y.k e.k = false ∧ ∀ x ∈ out, lt y.k x.k = false := by
      rcases List.mem_append.1 hq with hq | hq
      · have : q.l = t := by
          unfold rfi.nx at hq
          rw [hr] at hq
          cases t with
          | nil => cases hq
          | cons f u => simp at hq; subst hq; rfl
        rw [this] at hy
        exact ⟨(hl r (by simp) y (by rw [hr]; simp [hy])).1, h.lo r (by simp) y (by rw [hr]; simp [hy])⟩
      · exact ⟨(hl q (by simp [hq]) y hy).1, h.lo q (by simp [hq]) y hy⟩
    rcases List.mem_append.1 hx with hx | hx
    · exact hy'.2 x hx
    · simp at hx; subst hx; exact hy'.1
  · rcases List.mem_append.1 hx with hx | hx
    · exact h.nw x hx
    · simp at hx; subst hx
      obtain ⟨l, d, h1, h2⟩ := h.sf r (by simp)
      refine ⟨r.p, l, h1, by rw [h2, hr]; simp, fun j m hj hmm y hy hk => ?_⟩
      rcases h.cv j m hmm y hy with ⟨z, hz, hzk⟩ | ⟨q, hq, h3, h4⟩
      · have := hout z hz
        rw [hzk, hk, lt_irrefl] at this; cases this
      · have := (hl q hq y h4).2 hk
        omega
end Go.Proofs.YtlgcciaebkfnjaaGreatDoor.mgp

/- The newest of each key, one pair of the next layer after the other. -/
namespace Go.Proofs.YtlgcciaebkfnjaaGreatDoor.mgs
open Go.Proofs.YtlgcciaebkfnjaaGreatDoor.rc Go.Proofs.YtlgcciaebkfnjaaGreatDoor.ro Go.Proofs.YtlgcciaebkfnjaaGreatDoor.tk Go.Proofs.YtlgcciaebkfnjaaGreatDoor.ptp Go.Proofs.YtlgcciaebkfnjaaGreatDoor.mgp
set_option linter.unusedVariables false

theorem new_there {ls : List (List flP.Pr)} : ∀ (i : Nat) (l : List flP.Pr) (y : flP.Pr), ls[i]? = some l → y ∈ l → ∃ x, New ls x ∧ x.k = y.k := by
  intro i
  induction i using Nat.strongRecOn with
  | ind i ih =>
    intro l y hl hy
    by_cases h : ∃ (j : Nat) (m : List flP.Pr) (z : flP.Pr), j < i ∧ ls[j]? = some m ∧ z ∈ m ∧ z.k = y.k
    · obtain ⟨j, m, z, h1, h2, h3, h4⟩ := h
      obtain ⟨x, hx, hk⟩ := ih j h1 m z h2 h3
      exact ⟨x, hx, hk.trans h4⟩
    · exact ⟨y, ⟨i, l, hl, hy, fun j m hj hm z hz hk => h ⟨j, m, z, hj, hm, hz, hk⟩⟩, rfl⟩
theorem at_app {L : List (List flP.Pr)} {m l : List flP.Pr} {i : Nat} (h : (L ++ [m])[i]? = some l) : (i < L.length ∧ L[i]? = some l) ∨ (i = L.length ∧ l = m) := by
  rcases Nat.lt_or_ge i L.length with h1 | h1
  · rw [List.getElem?_append_left h1] at h; exact .inl ⟨h1, h⟩
  · rw [List.getElem?_append_right h1] at h
    have : i - L.length = 0 := by
      rcases Nat.eq_zero_or_pos (i - L.length) with h2 | h2
      · exact h2
      · rw [List.getElem?_eq_none (by simp; omega)] at h; cases h
    rw [this] at h
    simp at h
    exact .inr ⟨by omega, h.symm⟩
theorem new_app {L : List (List flP.Pr)} {m : List flP.Pr} {x : flP.Pr} : New (L ++ [m]) x ↔ New L x ∨ (x ∈ m ∧ ∀ (j : Nat) (l : List flP.Pr), L[j]? = some l → ∀ y ∈ l, y.k ≠ x.k) := by
  constructor
  · rintro ⟨i, l, h1, h2, h3⟩
    rcases at_app h1 with ⟨hi, hl⟩ | ⟨rfl, rfl⟩
    · exact .inl ⟨i, l, hl, h2, fun j q hj hq => h3 j q hj (by rw [List.getElem?_append_left (by omega)]; exact hq)⟩
    · exact .inr ⟨h2, fun j q hq => h3 j q (List.getElem?_eq_some_iff.1 hq).1 (by rw [List.getElem?_append_left (List.getElem?_eq_some_iff.1 hq).1]; exact hq)⟩
  · rintro (⟨i, l, h1, h2, h3⟩ | ⟨h2, h3⟩)
    · have hi := (List.getElem?_eq_some_iff.1 h1).1
      exact ⟨i, l, by rw [List.getElem?_append_left hi]; exact h1, h2, fun j q hj hq => h3 j q hj (by rw [List.getElem?_append_left (by omega)] at hq; exact hq)⟩
    · refine ⟨L.length, m, by simp, h2, fun j q hj hq => h3 j q (by rw [List.getElem?_append_left hj] at hq; exact hq)⟩
theorem is_nil {L : List (List flP.Pr)} {all : List flP.Pr} (h : Is L all) : Is (L ++ [[]]) all := ⟨h.1, fun x => by rw [h.2 x, new_app]; simp⟩
theorem is_one {l : List flP.Pr} (h : Asc l) : Is [l] l := ⟨h, fun x => by
  have := new_app (L := []) (m := l) (x := x)
  rw [List.nil_append] at this
  rw [this]
  constructor
  · intro hx; exact .inr ⟨hx, fun j q hq => by simp at hq⟩
  · rintro (⟨i, q, h1, _⟩ | ⟨h1, _⟩)
    · simp at h1
    · exact h1⟩
/-- a pair whose key is there already -/
theorem is_old {L : List (List flP.Pr)} {m all : List flP.Pr} {e z : flP.Pr} (h : Is (L ++ [m]) all) (hA : Asc (m ++ [e])) (hz : z ∈ all) (hk : z.k = e.k) : Is (L ++ [m ++ [e]]) all := by
  refine ⟨h.1, fun x => ?_⟩
  rw [h.2 x, new_app, new_app]
  constructor
  · rintro (h1 | ⟨h1, h2⟩)
    · exact .inl h1
    · exact .inr ⟨by simp [h1], h2⟩
  · rintro (h1 | ⟨h1, h2⟩)
    · exact .inl h1
    · rcases List.mem_append.1 h1 with h3 | h3
      · exact .inr ⟨h3, h2⟩
      · simp at h3; subst h3
        exfalso
        rcases new_app.1 ((h.2 z).1 hz) with ⟨i, l, k1, k2, _⟩ | ⟨k1, _⟩
        · exact h2 i l k1 z k2 hk
        · have := (List.pairwise_append.1 hA).2.2 z k1 x (by simp)
          rw [hk, lt_irrefl] at this; cases this
/-- a pair whose key is not there yet -/
theorem is_new {L : List (List flP.Pr)} {m all : List flP.Pr} {e : flP.Pr} (h : Is (L ++ [m]) all) (hno : ∀ z ∈ all, z.k ≠ e.k) : Is (L ++ [m ++ [e]]) (setP all e) := by
  have hL : ∀ (j : Nat) (l : List flP.Pr), L[j]? = some l → ∀ y ∈ l, y.k ≠ e.k := fun j l hl y hy hk => by
    obtain ⟨x, hx, hxk⟩ := new_there (ls := L ++ [m]) j l y (by rw [List.getElem?_append_left (List.getElem?_eq_some_iff.1 hl).1]; exact hl) hy
    exact hno x ((h.2 x).2 hx) (hxk.trans hk)
  refine ⟨setP_asc h.1 e, fun x => ?_⟩
  rw [setP_iff h.1, h.2 x, new_app, new_app]
  constructor
  · rintro (rfl | ⟨h1 | ⟨h1, h2⟩, _⟩)
    · exact .inr ⟨by simp, hL⟩
    · exact .inl h1
    · exact .inr ⟨by simp [h1], h2⟩
  · rintro (h1 | ⟨h1, h2⟩)
    · refine .inr ⟨.inl h1, hno x ((h.2 x).2 (new_app.2 (.inl h1)))⟩
    · rcases List.mem_append.1 h1 with h3 | h3
      · exact .inr ⟨.inr ⟨h3, h2⟩, hno x ((h.2 x).2 (new_app.2 (.inr ⟨h3, h2⟩)))⟩
      · simp at h3; exact .inl h3
/-- a pair of a layer that counts more -/
theorem is_over {a b all : List flP.Pr} {k : Nat} {e : flP.Pr} (h : Is [a.take k, b] all) (hA : Asc a) (hk : a[k]? = some e) : Is [a.take (k + 1), b] (setP all e) := by
  obtain ⟨hl, rfl⟩ := List.getElem?_eq_some_iff.1 hk
  have ht : a.take (k + 1) = a.take k ++ [a[k]] := by rw [List.take_succ_eq_append_getElem hl]
  have hA2 : Asc (a.take k ++ [a[k]]) := by rw [← ht]; exact hA.sublist (List.take_sublist _ _)
  have two : ∀ (u v : List flP.Pr) (x : flP.Pr), New [u, v] x ↔ x ∈ u ∨ (x ∈ v ∧ ∀ y ∈ u, y.k ≠ x.k) := fun u v x => by
    have h1 := new_app (L := [u]) (m := v) (x := x)
    have h2 := new_app (L := []) (m := u) (x := x)
    rw [List.nil_append] at h2
    rw [show [u, v] = [u] ++ [v] from rfl, h1, h2]
    constructor
    · rintro ((⟨i, q, h3, _⟩ | ⟨h3, _⟩) | ⟨h3, h4⟩)
      · simp at h3
      · exact .inl h3
      · exact .inr ⟨h3, h4 0 u rfl⟩
    · rintro (h3 | ⟨h3, h4⟩)
      · exact .inl (.inr ⟨h3, fun j q hq => by simp at hq⟩)
      · refine .inr ⟨h3, fun j q hq => ?_⟩
        cases j with
        | zero => simp at hq; subst hq; exact h4
        | succ j => simp at hq
  refine ⟨setP_asc h.1 _, fun x => ?_⟩
  rw [setP_iff h.1, h.2 x, two, two, ht]
  constructor
  · rintro (rfl | ⟨h1 | ⟨h1, h2⟩, h3⟩)
    · exact .inl (List.mem_append_right _ (List.mem_singleton.2 rfl))
    · exact .inl (List.mem_append_left _ h1)
    · refine .inr ⟨h1, fun y hy => ?_⟩
      rcases List.mem_append.1 hy with hy | hy
      · exact h2 y hy
      · simp at hy; subst hy; exact fun e => h3 e.symm
  · rintro (h1 | ⟨h1, h2⟩)
    · rcases List.mem_append.1 h1 with h3 | h3
      · refine .inr ⟨.inl h3, fun hk2 => ?_⟩
        have := (List.pairwise_append.1 hA2).2.2 x h3 a[k] (by simp)
        rw [hk2, lt_irrefl] at this; cases this
      · simp at h3; exact .inl h3
    · exact .inr ⟨.inr ⟨h1, fun y hy => h2 y (List.mem_append_left _ hy)⟩, fun hk2 => h2 a[k] (List.mem_append_right _ (List.mem_singleton.2 rfl)) hk2.symm⟩
end Go.Proofs.YtlgcciaebkfnjaaGreatDoor.mgs

/- append(s, make(S, n)...) where it must grow: a new row with s's cells, then zero values. -/
namespace Go.Proofs.YtlgcciaebkfnjaaGreatDoor.az
open Go.RowKit
set_option linter.unusedVariables false

theorem wrap_nat {n : Nat} (h : (n : Int) ≤ 9223372036854775807) : IntKind.i64.wrap (n : Int) = (n : Int) := by
  have h0 : (0 : Int) ≤ (n : Int) := by omega
  generalize (n : Int) = m at *
  simp [IntKind.wrap, IntKind.signed, IntKind.bits]
  omega
theorem run_append_zeros {P : Program} (w : World) (t u ty e : TypeId) (i : TypeInfo) (z : Value) (ht : P.underlying t = some (.slice e)) (hu : P.underlying u = some (.int .i64)) (hi : P.info? e = some i) (hz : i.zero = some z)
    (b : Addr) (sLen sCap : Nat) (olds : List Value) (hlo : olds.length = sLen * i.size) (holds : ∀ j v, olds[j]? = some v → w.cell? (b.add j) = some v)
    (n : Nat) (hn0 : n * i.size ≠ 0) (hg : sCap < sLen + n) (h63 : ((sLen + n : Nat) : Int) ≤ 9223372036854775807) (hby : ((n : Int) * (i.bytes : Int)) ≤ 281474976710656) (hfit : Builtin.nextslicecap (sLen + n) sCap * i.bytes ≤ 281474976710656) :
    (Builtin.append_ #[t, u] ty #[.slice (some b) sLen sCap, .int .i64 n]).run P w =
      .ok (.slice (some ⟨w.heap.size, 0, none⟩) (sLen + n) (grownCap w (sLen + n) sCap e))
        (w.drew.alloc (.cells (olds.toArray ++ Builtin.zeroCells z.cells n ++ Builtin.zeroCells z.cells (grownCap w (sLen + n) sCap e - (sLen + n))) e)) := by
  have hn : ¬ (sLen + n ≤ sCap) := by omega
  have h63' : ¬ (9223372036854775807 < ((sLen : Int) + (n : Int))) := by omega
  have h48' : ¬ (281474976710656 < Builtin.nextslicecap (sLen + n) sCap * i.bytes) := by omega
  have hby' : ¬ (281474976710656 < ((n : Int) * (i.bytes : Int))) := by omega
  have hw := wrap_nat (n := n) (by omega)
  have hn1 : ¬ ((n : Int) < 0) := by omega
  have hfo := run_firstCells_some (P := P) w.drew i.size sLen b sLen sCap olds hlo (by simpa using holds)
  simp [Builtin.append_, run_underlying ht, run_underlying hu, sizeOf, typeInfo, zeroValue, hi, hz, asInt, asIntOf, hw, hn, hn1, hby', h63', h48', hn0, Question.forced, hfo, newRow, grownCap]
end Go.Proofs.YtlgcciaebkfnjaaGreatDoor.az
