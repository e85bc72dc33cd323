/- What a right core is; the place of a name. -/
import Derived.Test.YtpkljkahdclcgaaGreatQuFind
import Derived.Test.YtpkljkahdclcgaaGreatSuFind
import Derived.Test.YtpkljkahdclcgaaGreatQSpecWay
import Derived.Test.YtpkljkahdclcgaaGreatStreamRows
namespace Go.Proofs.YtpkljkahdclcgaaGreat.qu
open Go.ChangeShapes Go.WideShapes Go.ChangeAt Go.RowKit Go.Proofs.YtpkljkahdclcgaaGreat.rc Go.Proofs.YtpkljkahdclcgaaGreat.rr Go.Proofs.YtpkljkahdclcgaaGreat.ro Go.Proofs.YtpkljkahdclcgaaGreat.fl
set_option linter.unusedVariables false

/-- the place of a name, or -1 -/
def place (l : List E) (name : ByteArray) : Int := match l.findIdx? (fun e => decide (e.nm = name)) with | some i => (i : Int) | none => -1
theorem place_at {l : List E} {name : ByteArray} {i : Nat} {e : E} (hno : ∀ j f, j < i → l[j]? = some f → f.nm ≠ name) (hi : l[i]? = some e) (he : e.nm = name) : place l name = i := by
  have : l.findIdx? (fun e => decide (e.nm = name)) = some i := by
    rw [List.findIdx?_eq_some_iff_getElem]
    obtain ⟨hlt, hget⟩ := List.getElem?_eq_some_iff.1 hi
    refine ⟨hlt, by rw [hget]; simpa using he, fun j hj => ?_⟩
    simpa using hno j l[j] hj (List.getElem?_eq_getElem (by omega))
  unfold place
  rw [this]
theorem place_none {l : List E} {name : ByteArray} (hno : ∀ (j : Nat) f, l[j]? = some f → f.nm ≠ name) : place l name = -1 := by
  have : l.findIdx? (fun e => decide (e.nm = name)) = none := by
    rw [List.findIdx?_eq_none_iff]
    intro e he
    obtain ⟨j, hj⟩ := List.mem_iff_getElem?.1 he
    simpa using hno j e hj
  unfold place
  rw [this]
theorem place_there {l : List E} {name : ByteArray} : 0 ≤ place l name ↔ ∃ (t : Nat) (a : E), l[t]? = some a ∧ a.nm = name := by
  cases hf : l.findIdx? (fun e => decide (e.nm = name)) with
  | none =>
    have h1 := List.findIdx?_eq_none_iff.1 hf
    constructor
    · intro h
      unfold place at h
      rw [hf] at h
      simp at h
    · rintro ⟨t, a, ha, hn⟩
      have := h1 a (List.mem_iff_getElem?.2 ⟨t, ha⟩)
      simp [hn] at this
  | some i =>
    obtain ⟨hlt, hp, _⟩ := List.findIdx?_eq_some_iff_getElem.1 hf
    constructor
    · intro _
      exact ⟨i, l[i], List.getElem?_eq_getElem hlt, by simpa using hp⟩
    · intro _
      unfold place
      rw [hf]
      simp
end Go.Proofs.YtpkljkahdclcgaaGreat.qu
namespace Go.Proofs.YtpkljkahdclcgaaGreat.su
open Go.ChangeShapes Go.WideShapes Go.ChangeAt Go.RowKit Go.Proofs.YtpkljkahdclcgaaGreat.rc Go.Proofs.YtpkljkahdclcgaaGreat.rr Go.Proofs.YtpkljkahdclcgaaGreat.ro Go.Proofs.YtpkljkahdclcgaaGreat.fl
set_option linter.unusedVariables false

/-- the place of a name, or -1 -/
def place (l : List E) (name : ByteArray) : Int := match l.findIdx? (fun e => decide (e.nm = name)) with | some i => (i : Int) | none => -1
theorem place_at {l : List E} {name : ByteArray} {i : Nat} {e : E} (hno : ∀ j f, j < i → l[j]? = some f → f.nm ≠ name) (hi : l[i]? = some e) (he : e.nm = name) : place l name = i := by
  have : l.findIdx? (fun e => decide (e.nm = name)) = some i := by
    rw [List.findIdx?_eq_some_iff_getElem]
    obtain ⟨hlt, hget⟩ := List.getElem?_eq_some_iff.1 hi
    refine ⟨hlt, by rw [hget]; simpa using he, fun j hj => ?_⟩
    simpa using hno j l[j] hj (List.getElem?_eq_getElem (by omega))
  unfold place
  rw [this]
theorem place_none {l : List E} {name : ByteArray} (hno : ∀ (j : Nat) f, l[j]? = some f → f.nm ≠ name) : place l name = -1 := by
  have : l.findIdx? (fun e => decide (e.nm = name)) = none := by
    rw [List.findIdx?_eq_none_iff]
    intro e he
    obtain ⟨j, hj⟩ := List.mem_iff_getElem?.1 he
    simpa using hno j e hj
  unfold place
  rw [this]
theorem place_there {l : List E} {name : ByteArray} : 0 ≤ place l name ↔ ∃ (t : Nat) (a : E), l[t]? = some a ∧ a.nm = name := by
  cases hf : l.findIdx? (fun e => decide (e.nm = name)) with
  | none =>
    have h1 := List.findIdx?_eq_none_iff.1 hf
    constructor
    · intro h
      unfold place at h
      rw [hf] at h
      simp at h
    · rintro ⟨t, a, ha, hn⟩
      have := h1 a (List.mem_iff_getElem?.2 ⟨t, ha⟩)
      simp [hn] at this
  | some i =>
    obtain ⟨hlt, hp, _⟩ := List.findIdx?_eq_some_iff_getElem.1 hf
    constructor
    · intro _
      exact ⟨i, l[i], List.getElem?_eq_getElem hlt, by simpa using hp⟩
    · intro _
      unfold place
      rw [hf]
      simp
end Go.Proofs.YtpkljkahdclcgaaGreat.su
namespace Go.Proofs.YtpkljkahdclcgaaGreat.co
open Go.ChangeShapes Go.WideShapes Go.ChangeAt Go.RowKit Go.Proofs.YtpkljkahdclcgaaGreat.rc Go.Proofs.YtpkljkahdclcgaaGreat.rr Go.Proofs.YtpkljkahdclcgaaGreat.ro Go.Proofs.YtpkljkahdclcgaaGreat.fl
set_option linter.unusedVariables false

def GoodQ (qs : List qu.E) (ts : List su.E) (k : Nat) : Prop := (∀ (i : Nat) (e : qu.E), i < k → qs[i]? = some e → qsp.okB e.nm e.nx e.rs e.hs = true ∧ ¬ 0 ≤ su.place ts e.nm) ∧ qu.Up qs k
theorem goodQ_next {qs : List qu.E} {ts : List su.E} {k : Nat} {e : qu.E} (h : GoodQ qs ts k) (he : qs[k]? = some e) (h1 : qsp.okB e.nm e.nx e.rs e.hs = true) (h2 : ¬ 0 ≤ su.place ts e.nm) (h3 : ∀ p, k ≠ 0 → qs[k - 1]? = some p → lt p.nm e.nm = true) : GoodQ qs ts (k + 1) := by
  refine ⟨fun i f hi hf => ?_, fun i a b hi ha hb => ?_⟩
  · by_cases e0 : i = k
    · subst e0; rw [he] at hf; cases hf; exact ⟨h1, h2⟩
    · exact h.1 i f (by omega) hf
  · by_cases e0 : i + 1 = k
    · subst e0; rw [he] at hb; cases hb; exact cmp_neg.2 (h3 a (by omega) (by simpa using ha))
    · exact h.2 i a b (by omega) ha hb
theorem badQ_ok {qs : List qu.E} {ts : List su.E} {k : Nat} {e : qu.E} (he : qs[k]? = some e) (h1 : qsp.okB e.nm e.nx e.rs e.hs = false) : ¬ GoodQ qs ts qs.length := fun h => by
  have := h.1 k e (List.getElem?_eq_some_iff.1 he).1 he
  rw [h1] at this; cases this.1
theorem badQ_up {qs : List qu.E} {ts : List su.E} {k : Nat} {p e : qu.E} (hp : qs[k]? = some p) (he : qs[k + 1]? = some e) (h1 : lt p.nm e.nm = false) : ¬ GoodQ qs ts qs.length := fun h => by
  have := cmp_neg.1 (h.2 k p e (List.getElem?_eq_some_iff.1 he).1 hp he)
  rw [h1] at this; cases this
theorem badQ_at {qs : List qu.E} {ts : List su.E} {k : Nat} {e : qu.E} (he : qs[k]? = some e) (h1 : 0 ≤ su.place ts e.nm) : ¬ GoodQ qs ts qs.length := fun h => (h.1 k e (List.getElem?_eq_some_iff.1 he).1 he).2 h1
def GoodT (ts : List su.E) (k : Nat) : Prop := (∀ (i : Nat) (e : su.E), i < k → ts[i]? = some e → st.okB e.nm e.lo e.nx e.rs e.hs = true) ∧ su.Up ts k
theorem goodT_next {ts : List su.E} {k : Nat} {e : su.E} (h : GoodT ts k) (he : ts[k]? = some e) (h1 : st.okB e.nm e.lo e.nx e.rs e.hs = true) (h3 : ∀ p, k ≠ 0 → ts[k - 1]? = some p → lt p.nm e.nm = true) : GoodT ts (k + 1) := by
  refine ⟨fun i f hi hf => ?_, fun i a b hi ha hb => ?_⟩
  · by_cases e0 : i = k
    · subst e0; rw [he] at hf; cases hf; exact h1
    · exact h.1 i f (by omega) hf
  · by_cases e0 : i + 1 = k
    · subst e0; rw [he] at hb; cases hb; exact cmp_neg.2 (h3 a (by omega) (by simpa using ha))
    · exact h.2 i a b (by omega) ha hb
theorem badT_ok {ts : List su.E} {k : Nat} {e : su.E} (he : ts[k]? = some e) (h1 : st.okB e.nm e.lo e.nx e.rs e.hs = false) : ¬ GoodT ts ts.length := fun h => by
  have := h.1 k e (List.getElem?_eq_some_iff.1 he).1 he
  rw [h1] at this; cases this
theorem badT_up {ts : List su.E} {k : Nat} {p e : su.E} (hp : ts[k]? = some p) (he : ts[k + 1]? = some e) (h1 : lt p.nm e.nm = false) : ¬ GoodT ts ts.length := fun h => by
  have := cmp_neg.1 (h.2 k p e (List.getElem?_eq_some_iff.1 he).1 hp he)
  rw [h1] at this; cases this
/-- a core is right -/
structure OkC (es : List Ex) (bs : List Bi) (qs : List qu.E) (ts : List su.E) : Prop where
  q : GoodQ qs ts qs.length
  t : GoodT ts ts.length
  r : OkR es bs
  ql : qs.length ≤ 20
  tl : ts.length ≤ 20
noncomputable def okC (es : List Ex) (bs : List Bi) (qs : List qu.E) (ts : List su.E) : Bool := @decide (OkC es bs qs ts) (Classical.propDecidable _)
theorem okC_true {es : List Ex} {bs : List Bi} {qs : List qu.E} {ts : List su.E} : okC es bs qs ts = true ↔ OkC es bs qs ts := by unfold okC; exact @decide_eq_true_iff _ (Classical.propDecidable _)
theorem okC_no {es : List Ex} {bs : List Bi} {qs : List qu.E} {ts : List su.E} (h : ¬ OkC es bs qs ts) : okC es bs qs ts = false := by
  cases hb : okC es bs qs ts with
  | false => rfl
  | true => exact absurd (okC_true.1 hb) h
noncomputable def okR (es : List Ex) (bs : List Bi) : Bool := @decide (OkR es bs) (Classical.propDecidable _)
theorem okR_true {es : List Ex} {bs : List Bi} : okR es bs = true ↔ OkR es bs := by unfold okR; exact @decide_eq_true_iff _ (Classical.propDecidable _)
theorem okR_of {es : List Ex} {bs : List Bi} {b : Bool} (h : b = true ↔ OkR es bs) : b = okR es bs := by
  cases b with
  | true => exact (okR_true.2 (h.1 rfl)).symm
  | false =>
    cases hh : okR es bs with
    | false => rfl
    | true => exact (h.2 (okR_true.1 hh))
end Go.Proofs.YtpkljkahdclcgaaGreat.co
