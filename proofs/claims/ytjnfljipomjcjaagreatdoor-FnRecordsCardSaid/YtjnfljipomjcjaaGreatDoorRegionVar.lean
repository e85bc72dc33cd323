/- A region that draws its order and gives a variable a new value at its end, which its operations read as it was: the frame behind it is given by a ghost. -/
import Derived.Test.YtjnfljipomjcjaaGreatDoorDoneKit
namespace Go.Proofs.YtjnfljipomjcjaaGreatDoor.rv
open Go.Proofs.YtjnfljipomjcjaaGreatDoor.dn
set_option linter.unusedVariables false

/-- no guards, edges that lead back, each temporary written by one operation and read behind it alone, but d, which is read ahead of its writer alone -/
def okV (ops : Array Oper) (d : Nat) : Bool :=
  ops.toList.zipIdx.all fun x =>
    x.1.guard.isNone && (match x.1.op with | .select _ _ => false | _ => true) &&
    x.1.after.all (fun e => !Region.binds .any e || decide (e.on < x.2)) &&
    (x.1.op.operands.toList.all fun q => match q with
      | .tmp t => ops.toList.zipIdx.all fun y => !(y.1.dst == some t) || (if t = d then y.1.after.any fun e => Region.binds .any e && e.on == x.2 else x.1.after.any fun e => Region.binds .any e && e.on == y.2)
      | _ => true) &&
    (match x.1.dst with | some d => ops.toList.zipIdx.all fun y => !(y.1.dst == some d) || y.2 == x.2 | none => true)

structure Fine (ops : Array Oper) (d : Nat) (o : Oper) (i : Nat) : Prop where
  guard : o.guard = none
  sel : ∀ cs b, o.op ≠ .select cs b
  back : ∀ e ∈ o.after, Region.binds .any e = true → e.on < i
  reads : ∀ t, Operand.tmp t ∈ o.op.operands → ∀ (k : Nat) (p : Oper), ops[k]? = some p → p.dst = some t → (t ≠ d ∧ ∃ e ∈ o.after, Region.binds .any e = true ∧ e.on = k) ∨ (t = d ∧ ∃ e ∈ p.after, Region.binds .any e = true ∧ e.on = i)
  alone : ∀ d, o.dst = some d → ∀ (k : Nat) (p : Oper), ops[k]? = some p → p.dst = some d → k = i

theorem fine_of {ops : Array Oper} {d : Nat} (h : okV ops d = true) {i : Nat} {o : Oper} (hi : ops[i]? = some o) : Fine ops d o i := by
  unfold okV at h
  have h1 := List.all_eq_true.1 h _ (mem_idx hi)
  simp only [Bool.and_eq_true] at h1
  obtain ⟨⟨⟨⟨g, s⟩, b⟩, r⟩, a⟩ := h1
  refine ⟨by simpa using g, ?_, ?_, ?_, ?_⟩
  · intro cs b e
    rw [e] at s
    cases s
  · intro e he hb
    have := Array.all_eq_true_iff_forall_mem.1 b e he
    simp only [hb, Bool.not_true, Bool.false_or, decide_eq_true_eq] at this
    exact this
  · intro t ht k p hk hp
    have h2 := List.all_eq_true.1 r _ (by simpa using ht)
    simp only at h2
    have h3 := List.all_eq_true.1 h2 _ (mem_idx hk)
    simp only [hp, BEq.rfl, Bool.not_true, Bool.false_or] at h3
    by_cases e : t = d
    · rw [if_pos e] at h3
      obtain ⟨e', he, hb⟩ := Array.any_eq_true'.1 h3
      simp only [Bool.and_eq_true, beq_iff_eq] at hb
      exact .inr ⟨e, e', he, hb⟩
    · rw [if_neg e] at h3
      obtain ⟨e', he, hb⟩ := Array.any_eq_true'.1 h3
      simp only [Bool.and_eq_true, beq_iff_eq] at hb
      exact .inl ⟨e, e', he, hb⟩
  · intro d hd k p hk hp
    rw [hd] at a
    have h3 := List.all_eq_true.1 a _ (mem_idx hk)
    simp only [hp, BEq.rfl, Bool.not_true, Bool.false_or, beq_iff_eq] at h3
    exact h3

section
variable {σ : Type} {P : Program} {ops : Array Oper} {d : Nat} {a0 : Act} {rd fin : σ → Act} {C : σ → (Nat → Bool) → World → Prop} {Q : Exit → Act → World → Prop}

def Step (P : Program) (rd fin : σ → Act) (C : σ → (Nat → Bool) → World → Prop) (Q : Exit → Act → World → Prop) (i : Nat) (o : Oper) : Prop :=
  ∀ (s : σ) (L : Nat → Bool) (w : World) (a : Act), (∀ x ∈ o.op.operands, a.eval x = (rd s).eval x) → (∀ e ∈ o.after, Region.binds .any e = true → L e.on = true) → L i = false → C s L w →
    ∀ K : Act → World → Prop, (∀ (s' : σ) (v : Value) (w' : World), gh.Agree o (fin s) (fin s') → (∀ d, o.dst = some d → (fin s').tmps[d]? = some v) → C s' (more L i) w' → K (a.put o.dst v) w') → o.wp P a w K Q

theorem step_val {i : Nat} {o : Oper} (hsel : ∀ cs b, o.op ≠ .select cs b)
    (h : ∀ (s : σ) (L : Nat → Bool) (w : World), (∀ e ∈ o.after, Region.binds .any e = true → L e.on = true) → L i = false → C s L w →
      ∃ s' v, gh.Agree o (fin s) (fin s') ∧ (∀ d, o.dst = some d → (fin s').tmps[d]? = some v) ∧ left P v (C s' (more L i)) ((execOp (rd s).eval o).run P w)) : Step P rd fin C Q i o := by
  intro s L w a ha hd h0 hC K hK
  obtain ⟨s', v, hag, hv, hleft⟩ := h s L w hd h0 hC
  unfold Oper.wp
  rw [execOp_congr o hsel ha]
  generalize (execOp (rd s).eval o).run P w = r at *
  cases r with
  | ok n w' =>
    cases n <;> simp only [left] at hleft <;> simp only [Oper.upon]
    case value u =>
      obtain ⟨rfl, hD⟩ := hleft
      exact hK s' _ _ hag hv hD
    case skip =>
      obtain ⟨rfl, hD⟩ := hleft
      exact hK s' _ _ hag hv hD
    case enter f args =>
      exact hleft.mono fun e w'' ⟨he, hD⟩ => by subst he; exact hK s' _ _ hag hv hD
  | halt x w' => simp only [left] at hleft

theorem turn {s s' : σ} {L : Nat → Bool} {a : Act} (h : Fr ops a0 (fin s) L a) {i : Nat} {o : Oper} (hi : ops[i]? = some o) (hf : Fine ops d o i) (h0 : L i = false) (hag : gh.Agree o (fin s) (fin s')) : Fr ops a0 (fin s') L a := by
  refine ⟨h.defers.trans hag.defers.symm, h.size.trans hag.size.symm, fun j p q hj hp hL => ?_, h.rest⟩
  have hne : o.dst ≠ some q := fun e => by
    have := hf.alone q e j p hj hp
    subst this
    rw [h0] at hL
    cases hL
  rw [hag.same q hne]
  exact h.done j p q hj hp hL
/-- what is done has what it waits for done -/
def Closed (ops : Array Oper) (L : Nat → Bool) : Prop := ∀ (j : Nat) (o : Oper), ops[j]? = some o → L j = true → ∀ e ∈ o.after, Region.binds .any e = true → L e.on = true
theorem Closed.more {L : Nat → Bool} (h : Closed ops L) {i : Nat} {o : Oper} (hi : ops[i]? = some o) (hd : ∀ e ∈ o.after, Region.binds .any e = true → L e.on = true) : Closed ops (more L i) := fun j p hj hL e he hb => by
  unfold Go.Proofs.YtjnfljipomjcjaaGreatDoor.dn.more at hL ⊢
  by_cases ei : e.on = i
  · rw [if_pos ei]
  · rw [if_neg ei]
    by_cases ej : j = i
    · subst ej; rw [hi] at hj; cases hj; exact hd e he hb
    · rw [if_neg ej] at hL; exact h j p hj hL e he hb
theorem reads {s : σ} {L : Nat → Bool} {a : Act} (h : Fr ops a0 (fin s) L a) (hcl : Closed ops L) {i : Nat} {o : Oper} (h0 : L i = false) (hf : Fine ops d o i)
    (hfin : ∀ t : Nat, (∀ (i : Nat) (o : Oper), ops[i]? = some o → o.dst ≠ some t) → a0.tmps[t]? = (fin s).tmps[t]?) (hrd : ∀ t, t ≠ d → (rd s).tmps[t]? = (fin s).tmps[t]?) (hrd2 : (rd s).tmps[d]? = a0.tmps[d]?)
    (hd : ∀ e ∈ o.after, Region.binds .any e = true → L e.on = true) : ∀ x ∈ o.op.operands, a.eval x = (rd s).eval x := by
  intro x hx
  cases x with
  | tmp t =>
    have e : a.tmps[t]? = (rd s).tmps[t]? := by
      by_cases et : t = d
      · subst et
        rw [hrd2]
        refine h.rest t fun k p hk hp => ?_
        rcases hf.reads t hx k p hk hp with ⟨h1, _⟩ | ⟨_, e, he, hb, hon⟩
        · exact absurd rfl h1
        · cases hL : L k with
          | false => rfl
          | true =>
            have := hcl k p hk hL e he hb
            rw [hon, h0] at this
            cases this
      · rw [hrd t et]
        by_cases hk : ∃ (k : Nat) (p : Oper), ops[k]? = some p ∧ p.dst = some t
        · obtain ⟨k, p, hk, hp⟩ := hk
          rcases hf.reads t hx k p hk hp with ⟨_, ed, he, hb, rfl⟩ | ⟨h1, _⟩
          · exact h.done _ p t hk hp (hd ed he hb)
          · exact absurd h1 et
        · have hno : ∀ (i : Nat) (o : Oper), ops[i]? = some o → o.dst ≠ some t := fun i o hi ho => hk ⟨i, o, hi, ho⟩
          rw [h.rest t (fun i o hi ho => absurd ho (hno i o hi)), hfin t hno]
    simp [Act.eval, e]
  | _ => rfl

theorem step {fin : Act} {L : Nat → Bool} {a : Act} (h : Fr ops a0 fin L a) {i : Nat} {o : Oper} (hi : ops[i]? = some o) (hf : Fine ops d o i) {v : Value} (hv : ∀ d, o.dst = some d → fin.tmps[d]? = some v) :
    Fr ops a0 fin (more L i) (a.put o.dst v) := by
  cases hdst : o.dst with
  | none =>
    refine ⟨h.defers, h.size, fun j p s hj hp hL => ?_, fun s hs => h.rest s fun j p hj hp => ?_⟩
    · have hne : j ≠ i := fun e => by subst e; rw [hi] at hj; cases hj; rw [hdst] at hp; cases hp
      simp only [more, hne, if_false] at hL
      exact h.done j p s hj hp hL
    · have := hs j p hj hp
      simp only [more] at this
      split at this
      · cases this
      · exact this
  | some q =>
    have hvd := hv q hdst
    have hlt : q < a.tmps.size := by rw [h.size]; exact (Array.getElem?_eq_some_iff.1 hvd).1
    have hset : ∀ s : Nat, (a.put (some q) v).tmps[s]? = if s = q then some v else a.tmps[s]? := by
      intro s
      simp only [Act.put, Array.getElem?_setIfInBounds, hlt, if_true]
      by_cases e : s = q
      · rw [if_pos e.symm, if_pos e]
      · rw [if_neg (Ne.symm e), if_neg e]
    refine ⟨h.defers, by simpa [Act.put] using h.size, fun j p s hj hp hL => ?_, fun s hs => ?_⟩
    · rw [hset]
      by_cases e : s = q
      · rw [if_pos e, e, hvd]
      · rw [if_neg e]
        have hne : j ≠ i := fun e' => by subst e'; rw [hi] at hj; cases hj; rw [hdst] at hp; cases hp; exact e rfl
        simp only [more, hne, if_false] at hL
        exact h.done j p s hj hp hL
    · rw [hset]
      have e : s ≠ q := fun e => by
        have := hs i o hi (by rw [hdst, e])
        simp [more] at this
      rw [if_neg e]
      refine h.rest s fun j p hj hp => ?_
      have := hs j p hj hp
      simp only [more] at this
      split at this
      · cases this
      · exact this

theorem ready_nil {l : Array Bool} (hs : l.size = ops.size) (hok : okV ops d = true) (h : Region.ready .any ops l = []) : ∀ (n i : Nat), i ≤ n → i < ops.size → l.getD i false = true := by
  intro n
  induction n with
  | zero =>
    intro i hi hlt
    obtain rfl : i = 0 := by omega
    have hf := fine_of hok (Array.getElem?_eq_getElem hlt)
    cases hb : l.getD 0 false with
    | true => rfl
    | false =>
      have hm : 0 ∈ Region.ready .any ops l := by
        unfold Region.ready
        refine List.mem_filter.2 ⟨by simpa using hlt, ?_⟩
        have hl : l.getD 0 true = false := by
          rw [Array.getD_eq_getD_getElem?, Array.getElem?_eq_getElem (by omega)] at hb ⊢
          simpa using hb
        rw [hl, Array.getElem?_eq_getElem hlt]
        simp only [Bool.not_false, Bool.true_and, Option.map_some, Option.getD_some]
        refine Array.all_eq_true_iff_forall_mem.2 fun e he => ?_
        cases hbe : Region.binds .any e with
        | false => simp
        | true => exact absurd (hf.back e he hbe) (by omega)
      rw [h] at hm
      cases hm
  | succ n ih =>
    intro i hi hlt
    have hf := fine_of hok (Array.getElem?_eq_getElem hlt)
    cases hb : l.getD i false with
    | true => rfl
    | false =>
      have hm : i ∈ Region.ready .any ops l := by
        unfold Region.ready
        refine List.mem_filter.2 ⟨by simpa using hlt, ?_⟩
        have hl : l.getD i true = false := by
          rw [Array.getD_eq_getD_getElem?, Array.getElem?_eq_getElem (by omega)] at hb ⊢
          simpa using hb
        rw [hl, Array.getElem?_eq_getElem hlt]
        simp only [Bool.not_false, Bool.true_and, Option.map_some, Option.getD_some]
        refine Array.all_eq_true_iff_forall_mem.2 fun e he => ?_
        cases hbe : Region.binds .any e with
        | false => simp
        | true =>
          have hbk := hf.back e he hbe
          simp [ih e.on (by omega) (by omega)]
      rw [h] at hm
      cases hm

theorem any_done (hok : okV ops d = true) (hrd : ∀ (g : σ) t, t ≠ d → (rd g).tmps[t]? = (fin g).tmps[t]?) (hrd2 : ∀ g : σ, (rd g).tmps[d]? = a0.tmps[d]?) (hfin : ∀ (g : σ) (s : Nat), (∀ (i : Nat) (o : Oper), ops[i]? = some o → o.dst ≠ some s) → a0.tmps[s]? = (fin g).tmps[s]?)
    (hstep : ∀ (i : Nat) (o : Oper), ops[i]? = some o → Step P rd fin C Q i o) (hend : ∀ (s : σ) (L : Nat → Bool) (w : World), (∀ i, i < ops.size → L i = true) → C s L w → Q .normal (fin s) w) :
    ∀ (fuel : Nat) (l : Array Bool) (s : σ) (a : Act) (w : World), l.size = ops.size → undone l ≤ fuel → Fr ops a0 (fin s) (fun j => l.getD j false) a → Closed ops (fun j => l.getD j false) → C s (fun j => l.getD j false) w → wpAny P .any ops Q fuel l a w := by
  intro fuel
  have fin_of : ∀ (l : Array Bool) (s : σ) (a : Act) (w : World), l.size = ops.size → Fr ops a0 (fin s) (fun j => l.getD j false) a → C s (fun j => l.getD j false) w → Region.ready .any ops l = [] → Q .normal a w := by
    intro l s a w hs hfr hC hr
    have hall := ready_nil hs hok hr
    have hL : ∀ i, i < ops.size → (fun j => l.getD j false) i = true := fun i hi => hall i i (Nat.le_refl _) hi
    rw [hfr.all (hfin s) hL]
    exact hend s _ w hL hC
  induction fuel with
  | zero =>
    intro l s a w hs hu hfr hcl hC
    have hr : Region.ready .any ops l = [] := by
      cases hr : Region.ready .any ops l with
      | nil => rfl
      | cons i r =>
        obtain ⟨hlt, hb, _⟩ := ready_spec hs (show i ∈ Region.ready .any ops l by rw [hr]; simp)
        exfalso
        unfold undone at hu
        have h0 : l.toList.filter (fun b => !b) = [] := List.eq_nil_of_length_eq_zero (by omega)
        have hm : false ∈ l.toList := by
          rw [Array.getD_eq_getD_getElem?, Array.getElem?_eq_getElem hlt] at hb
          simp only [Option.getD_some] at hb
          rw [← hb]
          simp
        have := List.filter_eq_nil_iff.1 h0 false hm
        simp at this
    exact ⟨hr, fin_of l s a w hs hfr hC hr⟩
  | succ fuel ih =>
    intro l s a w hs hu hfr hcl hC
    refine ⟨fun hr => fin_of l s a w hs hfr hC hr, fun i hi => ?_⟩
    obtain ⟨hlt, hb, o, ho, hd⟩ := ready_spec hs hi
    have hf := fine_of hok ho
    have hs' : (l.setIfInBounds i true).size = ops.size := by simpa using hs
    have hu' : undone (l.setIfInBounds i true) ≤ fuel := by
      have h1 := undone_set l.toList i (by
        rw [Array.getD_eq_getD_getElem?, Array.getElem?_eq_getElem hlt] at hb
        simp only [Option.getD_some] at hb
        simp [hlt, hb])
      unfold undone at hu ⊢
      rw [Array.toList_setIfInBounds]
      omega
    have hw : Region.wanted o (yielded ops a.tmps) = true := by simp [Region.wanted, hf.guard]
    unfold wpOp
    rw [ho]
    simp only [hw, if_true]
    left
    refine hstep i o ho s (fun j => l.getD j false) w a (reads hfr hcl hb hf (hfin s) (hrd s) (hrd2 s) hd) hd hb hC _ (fun s' v w' hag hv hD => ?_)
    have hfr' := step (turn hfr ho hf hb hag) ho hf hv
    have hcl' := hcl.more ho hd
    rw [← more_set l hlt] at hfr' hD hcl'
    exact ih _ _ _ _ hs' hu' hfr' hcl' hD

/-- each operation of a list that is written out, by its number -/
def Each (P : Program) (rd fin : σ → Act) (C : σ → (Nat → Bool) → World → Prop) (Q : Exit → Act → World → Prop) : Nat → List Oper → Prop
  | _, [] => True
  | n, o :: r => Step P rd fin C Q n o ∧ Each P rd fin C Q (n + 1) r
theorem each_get : ∀ (l : List Oper) (n : Nat), Each P rd fin C Q n l → ∀ (i : Nat) (o : Oper), l[i]? = some o → Step P rd fin C Q (n + i) o
  | [], _, _, i, o, h => by simp at h
  | x :: r, n, h, 0, o, ho => by simp at ho; subst ho; exact h.1
  | x :: r, n, h, i + 1, o, ho => by
    have := each_get r (n + 1) h.2 i o (by simpa using ho)
    rwa [show n + (i + 1) = n + 1 + i by omega]

/-- the frame as it is read, and as it is behind the region: d is given fv -/
theorem region_vsets {id : Nat} {l : List Oper} {w : World} (d : Nat) (ws : σ → List (Nat × Value)) (fv : σ → Value) (ks : List Nat) (C : σ → (Nat → Bool) → World → Prop) (s0 : σ) (hm : P.follows .mixedOrders = true) (hok : okV l.toArray d = true)
    (hw : ∀ g, (ws g).map (·.1) = ks) (hks : ((d :: ks).all fun t => keepB l t) = true) (hdk : ks.contains d = false) (hC : C s0 (fun _ => false) w.drew) (hstep : Each P (fun g => dk.sets a0 (ws g)) (fun g => dk.sets a0 ((d, fv g) :: ws g)) C Q 0 l)
    (hend : ∀ (s : σ) (L : Nat → Bool) (w' : World), (∀ i, i < l.length → L i = true) → C s L w' → Q .normal (dk.sets a0 ((d, fv s) :: ws s)) w') : (Code.region id l.toArray true).wp P Q a0 w := by
  refine wp_region_any hm ?_
  have hL0 : (fun j => (Array.replicate l.toArray.size false).getD j false) = fun _ => false := by
    funext j
    simp only [Array.getD_eq_getD_getElem?, Array.getElem?_replicate]
    split <;> rfl
  have hnd : ∀ g, d ∉ (ws g).map (·.1) := fun g h => by rw [hw g] at h; rw [List.contains_iff_mem.2 h] at hdk; cases hdk
  refine any_done (a0 := a0) (d := d) (rd := fun g => dk.sets a0 (ws g)) (fin := fun g => dk.sets a0 ((d, fv g) :: ws g)) (C := C) hok (fun g t ht => ?_) (fun g => ?_) (fun g s hs => ?_) (fun i o hi => ?_) (fun s L w' hL hD => hend s L w' (fun i hi => hL i (by simpa using hi)) hD) _ _ s0 _ _ (by simp) ?_ ?_ ?_ ?_
  · rw [dk.sets_get, dk.sets_get]
    simp [List.lookup, show (t == d) = false by simpa using ht]
  · exact dk.sets_off a0 d _ (hnd g)
  · by_cases hlt : s < a0.tmps.size
    · refine dk.keeps (l := l) (ks := d :: ks) ((d, fv g) :: ws g) (by simp [hw g]) hks s ?_
      rw [List.mem_filter]
      refine ⟨by simpa using hlt, ?_⟩
      rw [Bool.not_eq_true']
      unfold keepB
      rw [List.any_eq_false]
      intro o ho
      obtain ⟨i, hi⟩ := List.getElem?_of_mem ho
      have := hs i o (by simpa using hi)
      simpa using this
    · rw [Array.getElem?_eq_none (by omega), Array.getElem?_eq_none (by rw [dk.sets_size]; omega)]
  · have := each_get l 0 hstep i o (by simpa using hi)
    rwa [Nat.zero_add] at this
  · unfold undone
    refine Nat.le_trans (List.length_filter_le _ _) (by simp)
  · rw [hL0]
    exact ⟨(dk.sets_defers a0 _).symm, (dk.sets_size a0 _).symm, fun i o s _ _ h => (by cases h), fun s _ => rfl⟩
  · rw [hL0]
    exact fun j o _ h => by cases h
  · rw [hL0]
    exact hC
end
end Go.Proofs.YtjnfljipomjcjaaGreatDoor.rv
