/- A region that draws its order, over a class of worlds that hangs on which of its operations are done: each operation leaves one fixed value, whatever the order; the frame behind it is given. -/
import Derived.Test.YtoemkbooomgieaaGreatDoorRows
import Derived.WalkKit
import Derived.Orders
namespace Go.Proofs.YtoemkbooomgieaaGreatDoor.dn

/-- what the list of operations must be like: no guards, edges that lead back, each temporary written by one operation, and read behind it alone -/
def okB (ops : Array Oper) : Bool :=
  ops.toList.zipIdx.all fun x =>
    x.1.guard.isNone && (match x.1.op with | .select _ _ => false | _ => true) &&
    x.1.after.all (fun e => !Region.binds .any e || decide (e.on < x.2)) &&
    (x.1.op.operands.toList.all fun q => match q with
      | .tmp t => ops.toList.zipIdx.all fun y => !(y.1.dst == some t) || x.1.after.any fun e => Region.binds .any e && e.on == y.2
      | _ => true) &&
    (match x.1.dst with | some d => ops.toList.zipIdx.all fun y => !(y.1.dst == some d) || y.2 == x.2 | none => true)

structure Fine (ops : Array Oper) (o : Oper) (i : Nat) : Prop where
  guard : o.guard = none
  sel : ∀ cs b, o.op ≠ .select cs b
  back : ∀ e ∈ o.after, Region.binds .any e = true → e.on < i
  reads : ∀ t, Operand.tmp t ∈ o.op.operands → ∀ (k : Nat) (p : Oper), ops[k]? = some p → p.dst = some t → ∃ e ∈ o.after, Region.binds .any e = true ∧ e.on = k
  alone : ∀ d, o.dst = some d → ∀ (k : Nat) (p : Oper), ops[k]? = some p → p.dst = some d → k = i

theorem mem_idx {ops : Array Oper} {i : Nat} {o : Oper} (h : ops[i]? = some o) : (o, i) ∈ ops.toList.zipIdx := by
  rw [List.mem_zipIdx_iff_getElem?]
  simpa using h

theorem fine_of {ops : Array Oper} (h : okB ops = true) {i : Nat} {o : Oper} (hi : ops[i]? = some o) : Fine ops o i := by
  unfold okB at h
  have h1 := List.all_eq_true.1 h _ (mem_idx hi)
  simp only [Bool.and_eq_true] at h1
  obtain ⟨⟨⟨⟨g, s⟩, b⟩, r⟩, a⟩ := h1
  refine ⟨by simpa using g, ?_, ?_, ?_, ?_⟩
  · intro cs b e
    rw [e] at s
    cases s
  · intro e he hb
    have := Array.all_eq_true_iff_forall_mem.1 b e he
    simp only [hb, Bool.not_true, Bool.false_or, decide_eq_true_eq] at this
    exact this
  · intro t ht k p hk hp
    have h2 := List.all_eq_true.1 r _ (by simpa using ht)
    simp only at h2
    have h3 := List.all_eq_true.1 h2 _ (mem_idx hk)
    simp only [hp, BEq.rfl, Bool.not_true, Bool.false_or] at h3
    obtain ⟨e, he, hb⟩ := Array.any_eq_true'.1 h3
    simp only [Bool.and_eq_true, beq_iff_eq] at hb
    exact ⟨e, he, hb⟩
  · intro d hd k p hk hp
    rw [hd] at a
    have h3 := List.all_eq_true.1 a _ (mem_idx hk)
    simp only [hp, BEq.rfl, Bool.not_true, Bool.false_or, beq_iff_eq] at h3
    exact h3

/-- the operations that are done, and one more -/
def more (L : Nat → Bool) (i : Nat) : Nat → Bool := fun j => if j = i then true else L j

/-- what an operation leaves: the value v, and a world of D -/
def left (P : Program) (v : Value) (D : World → Prop) : Result Next → Prop
  | .ok (.value u) w' => u = v ∧ D w'
  | .ok .skip w' => v = undef ∧ D w'
  | .ok (.enter f args) w' => Calls P f args w' (fun e w'' => e = .returned v ∧ D w'')
  | _ => False

/-- operation i, once those that it waits for are done -/
def Step (P : Program) (fin : Act) (C : (Nat → Bool) → World → Prop) (i : Nat) (o : Oper) : Prop :=
  ∀ (L : Nat → Bool) (w : World), (∀ e ∈ o.after, Region.binds .any e = true → L e.on = true) → L i = false → C L w →
    ∃ v, (∀ d, o.dst = some d → fin.tmps[d]? = some v) ∧ left P v (C (more L i)) ((execOp fin.eval o).run P w)

structure Fr (ops : Array Oper) (a0 fin : Act) (L : Nat → Bool) (a : Act) : Prop where
  defers : a.defers = fin.defers
  size : a.tmps.size = fin.tmps.size
  done : ∀ (i : Nat) (o : Oper) (s : Nat), ops[i]? = some o → o.dst = some s → L i = true → a.tmps[s]? = fin.tmps[s]?
  rest : ∀ s : Nat, (∀ (i : Nat) (o : Oper), ops[i]? = some o → o.dst = some s → L i = false) → a.tmps[s]? = a0.tmps[s]?

section
variable {P : Program} {ops : Array Oper} {a0 fin : Act} {C : (Nat → Bool) → World → Prop} {Q : Exit → Act → World → Prop}

theorem Fr.reads {L : Nat → Bool} {a : Act} (h : Fr ops a0 fin L a) {i : Nat} {o : Oper} (hf : Fine ops o i)
    (hfin : ∀ s : Nat, (∀ (i : Nat) (o : Oper), ops[i]? = some o → o.dst ≠ some s) → a0.tmps[s]? = fin.tmps[s]?)
    (hd : ∀ e ∈ o.after, Region.binds .any e = true → L e.on = true) : ∀ x ∈ o.op.operands, a.eval x = fin.eval x := by
  intro x hx
  cases x with
  | tmp t =>
    have e : a.tmps[t]? = fin.tmps[t]? := by
      by_cases hk : ∃ (k : Nat) (p : Oper), ops[k]? = some p ∧ p.dst = some t
      · obtain ⟨k, p, hk, hp⟩ := hk
        obtain ⟨ed, he, hb, rfl⟩ := hf.reads t hx k p hk hp
        exact h.done _ p t hk hp (hd ed he hb)
      · have hno : ∀ (i : Nat) (o : Oper), ops[i]? = some o → o.dst ≠ some t := fun i o hi ho => hk ⟨i, o, hi, ho⟩
        rw [h.rest t (fun i o hi ho => absurd ho (hno i o hi)), hfin t hno]
    simp [Act.eval, e]
  | _ => rfl

theorem Fr.eval {L : Nat → Bool} {a : Act} (h : Fr ops a0 fin L a) {i : Nat} {o : Oper} (hf : Fine ops o i)
    (hfin : ∀ s : Nat, (∀ (i : Nat) (o : Oper), ops[i]? = some o → o.dst ≠ some s) → a0.tmps[s]? = fin.tmps[s]?)
    (hd : ∀ e ∈ o.after, Region.binds .any e = true → L e.on = true) : execOp a.eval o = execOp fin.eval o := by
  refine execOp_congr o hf.sel fun x hx => ?_
  cases x with
  | tmp t =>
    have e : a.tmps[t]? = fin.tmps[t]? := by
      by_cases hk : ∃ (k : Nat) (p : Oper), ops[k]? = some p ∧ p.dst = some t
      · obtain ⟨k, p, hk, hp⟩ := hk
        obtain ⟨ed, he, hb, rfl⟩ := hf.reads t hx k p hk hp
        exact h.done _ p t hk hp (hd ed he hb)
      · have hno : ∀ (i : Nat) (o : Oper), ops[i]? = some o → o.dst ≠ some t := fun i o hi ho => hk ⟨i, o, hi, ho⟩
        rw [h.rest t (fun i o hi ho => absurd ho (hno i o hi)), hfin t hno]
    simp [Act.eval, e]
  | _ => rfl

theorem Fr.step {L : Nat → Bool} {a : Act} (h : Fr ops a0 fin L a) {i : Nat} {o : Oper} (hi : ops[i]? = some o) (hf : Fine ops o i) {v : Value} (hv : ∀ d, o.dst = some d → fin.tmps[d]? = some v) :
    Fr ops a0 fin (more L i) (a.put o.dst v) := by
  cases hdst : o.dst with
  | none =>
    refine ⟨h.defers, h.size, fun j p s hj hp hL => ?_, fun s hs => h.rest s fun j p hj hp => ?_⟩
    · have hne : j ≠ i := fun e => by subst e; rw [hi] at hj; cases hj; rw [hdst] at hp; cases hp
      simp only [more, hne, if_false] at hL
      exact h.done j p s hj hp hL
    · have := hs j p hj hp
      simp only [more] at this
      split at this
      · cases this
      · exact this
  | some d =>
    have hvd := hv d hdst
    have hlt : d < a.tmps.size := by rw [h.size]; exact (Array.getElem?_eq_some_iff.1 hvd).1
    have hset : ∀ s : Nat, (a.put (some d) v).tmps[s]? = if s = d then some v else a.tmps[s]? := by
      intro s
      simp only [Act.put, Array.getElem?_setIfInBounds, hlt, if_true]
      by_cases e : s = d
      · rw [if_pos e.symm, if_pos e]
      · rw [if_neg (Ne.symm e), if_neg e]
    refine ⟨h.defers, by simpa [Act.put] using h.size, fun j p s hj hp hL => ?_, fun s hs => ?_⟩
    · rw [hset]
      by_cases e : s = d
      · rw [if_pos e, e, hvd]
      · rw [if_neg e]
        have hne : j ≠ i := fun e' => by subst e'; rw [hi] at hj; cases hj; rw [hdst] at hp; cases hp; exact e rfl
        simp only [more, hne, if_false] at hL
        exact h.done j p s hj hp hL
    · rw [hset]
      have e : s ≠ d := fun e => by
        have := hs i o hi (by rw [hdst, e])
        simp [more] at this
      rw [if_neg e]
      refine h.rest s fun j p hj hp => ?_
      have := hs j p hj hp
      simp only [more] at this
      split at this
      · cases this
      · exact this

theorem more_set (l : Array Bool) {i : Nat} (h : i < l.size) : (fun j => (l.setIfInBounds i true).getD j false) = more (fun j => l.getD j false) i := by
  funext j
  simp only [more, Array.getD_eq_getD_getElem?, Array.getElem?_setIfInBounds, h, if_true]
  by_cases e : j = i
  · rw [if_pos e.symm, if_pos e]; rfl
  · rw [if_neg (Ne.symm e), if_neg e]

def undone (l : Array Bool) : Nat := (l.toList.filter (fun b => !b)).length

theorem undone_set : ∀ (l : List Bool) (i : Nat), l[i]? = some false → ((l.set i true).filter (fun b => !b)).length + 1 = (l.filter (fun b => !b)).length
  | [], i, h => by simp at h
  | x :: r, 0, h => by simp at h; subst h; simp
  | x :: r, i + 1, h => by
    have := undone_set r i (by simpa using h)
    cases x <;> simp_all

theorem ready_spec {l : Array Bool} {i : Nat} (hs : l.size = ops.size) (h : i ∈ Region.ready .any ops l) : i < l.size ∧ l.getD i false = false ∧ ∃ o, ops[i]? = some o ∧ ∀ e ∈ o.after, Region.binds .any e = true → l.getD e.on false = true := by
  unfold Region.ready at h
  obtain ⟨h1, h2⟩ := List.mem_filter.1 h
  have hlt : i < ops.size := by simpa using h1
  simp only [Bool.and_eq_true, Bool.not_eq_true'] at h2
  obtain ⟨hl, hd⟩ := h2
  have hil : i < l.size := by omega
  rw [Array.getElem?_eq_getElem hlt] at hd
  simp only [Option.map_some, Option.getD_some] at hd
  refine ⟨hil, ?_, ops[i], Array.getElem?_eq_getElem hlt, fun e he hb => ?_⟩
  · rw [Array.getD_eq_getD_getElem?, Array.getElem?_eq_getElem hil] at hl ⊢
    simpa using hl
  · have := Array.all_eq_true_iff_forall_mem.1 hd e he
    simpa [hb] using this

theorem ready_nil {l : Array Bool} (hs : l.size = ops.size) (hok : okB ops = true) (h : Region.ready .any ops l = []) : ∀ (n i : Nat), i ≤ n → i < ops.size → l.getD i false = true := by
  intro n
  induction n with
  | zero =>
    intro i hi hlt
    obtain rfl : i = 0 := by omega
    have hf := fine_of hok (Array.getElem?_eq_getElem hlt)
    cases hb : l.getD 0 false with
    | true => rfl
    | false =>
      have hm : 0 ∈ Region.ready .any ops l := by
        unfold Region.ready
        refine List.mem_filter.2 ⟨by simpa using hlt, ?_⟩
        have hl : l.getD 0 true = false := by
          rw [Array.getD_eq_getD_getElem?, Array.getElem?_eq_getElem (by omega)] at hb ⊢
          simpa using hb
        rw [hl, Array.getElem?_eq_getElem hlt]
        simp only [Bool.not_false, Bool.true_and, Option.map_some, Option.getD_some]
        refine Array.all_eq_true_iff_forall_mem.2 fun e he => ?_
        cases hbe : Region.binds .any e with
        | false => simp
        | true => exact absurd (hf.back e he hbe) (by omega)
      rw [h] at hm
      cases hm
  | succ n ih =>
    intro i hi hlt
    have hf := fine_of hok (Array.getElem?_eq_getElem hlt)
    cases hb : l.getD i false with
    | true => rfl
    | false =>
      have hm : i ∈ Region.ready .any ops l := by
        unfold Region.ready
        refine List.mem_filter.2 ⟨by simpa using hlt, ?_⟩
        have hl : l.getD i true = false := by
          rw [Array.getD_eq_getD_getElem?, Array.getElem?_eq_getElem (by omega)] at hb ⊢
          simpa using hb
        rw [hl, Array.getElem?_eq_getElem hlt]
        simp only [Bool.not_false, Bool.true_and, Option.map_some, Option.getD_some]
        refine Array.all_eq_true_iff_forall_mem.2 fun e he => ?_
        cases hbe : Region.binds .any e with
        | false => simp
        | true =>
          have hbk := hf.back e he hbe
          simp [ih e.on (by omega) (by omega)]
      rw [h] at hm
      cases hm

theorem Fr.all {L : Nat → Bool} {a : Act} (h : Fr ops a0 fin L a) (hfin : ∀ s : Nat, (∀ (i : Nat) (o : Oper), ops[i]? = some o → o.dst ≠ some s) → a0.tmps[s]? = fin.tmps[s]?)
    (hL : ∀ i, i < ops.size → L i = true) : a = fin := by
  have e : a.tmps = fin.tmps := by
    apply Array.ext_getElem?
    intro s
    by_cases hk : ∃ (k : Nat) (p : Oper), ops[k]? = some p ∧ p.dst = some s
    · obtain ⟨k, p, hk, hp⟩ := hk
      exact h.done k p s hk hp (hL k (Array.getElem?_eq_some_iff.1 hk).1)
    · have hno : ∀ (i : Nat) (o : Oper), ops[i]? = some o → o.dst ≠ some s := fun i o hi ho => hk ⟨i, o, hi, ho⟩
      rw [h.rest s (fun i o hi ho => absurd ho (hno i o hi)), hfin s hno]
  obtain ⟨d, t⟩ := a
  have hd := h.defers
  cases fin
  simp_all

theorem any_done (hok : okB ops = true) (hfin : ∀ s : Nat, (∀ (i : Nat) (o : Oper), ops[i]? = some o → o.dst ≠ some s) → a0.tmps[s]? = fin.tmps[s]?)
    (hstep : ∀ (i : Nat) (o : Oper), ops[i]? = some o → Step P fin C i o) (hend : ∀ (L : Nat → Bool) (w : World), (∀ i, i < ops.size → L i = true) → C L w → Q .normal fin w) :
    ∀ (fuel : Nat) (l : Array Bool) (a : Act) (w : World), l.size = ops.size → undone l ≤ fuel → Fr ops a0 fin (fun j => l.getD j false) a → C (fun j => l.getD j false) w → wpAny P .any ops Q fuel l a w := by
  intro fuel
  have fin_of : ∀ (l : Array Bool) (a : Act) (w : World), l.size = ops.size → Fr ops a0 fin (fun j => l.getD j false) a → C (fun j => l.getD j false) w → Region.ready .any ops l = [] → Q .normal a w := by
    intro l a w hs hfr hC hr
    have hall := ready_nil hs hok hr
    have hL : ∀ i, i < ops.size → (fun j => l.getD j false) i = true := fun i hi => hall i i (Nat.le_refl _) hi
    rw [hfr.all hfin hL]
    exact hend _ w hL hC
  induction fuel with
  | zero =>
    intro l a w hs hu hfr hC
    have hr : Region.ready .any ops l = [] := by
      cases hr : Region.ready .any ops l with
      | nil => rfl
      | cons i r =>
        obtain ⟨hlt, hb, _⟩ := ready_spec hs (show i ∈ Region.ready .any ops l by rw [hr]; simp)
        exfalso
        unfold undone at hu
        have h0 : l.toList.filter (fun b => !b) = [] := List.eq_nil_of_length_eq_zero (by omega)
        have hm : false ∈ l.toList := by
          rw [Array.getD_eq_getD_getElem?, Array.getElem?_eq_getElem hlt] at hb
          simp only [Option.getD_some] at hb
          rw [← hb]
          simp
        have := List.filter_eq_nil_iff.1 h0 false hm
        simp at this
    exact ⟨hr, fin_of l a w hs hfr hC hr⟩
  | succ fuel ih =>
    intro l a w hs hu hfr hC
    refine ⟨fun hr => fin_of l a w hs hfr hC hr, fun i hi => ?_⟩
    obtain ⟨hlt, hb, o, ho, hd⟩ := ready_spec hs hi
    have hf := fine_of hok ho
    have hs' : (l.setIfInBounds i true).size = ops.size := by simpa using hs
    have hu' : undone (l.setIfInBounds i true) ≤ fuel := by
      have h1 := undone_set l.toList i (by
        rw [Array.getD_eq_getD_getElem?, Array.getElem?_eq_getElem hlt] at hb
        simp only [Option.getD_some] at hb
        simp [hlt, hb])
      unfold undone at hu ⊢
      rw [Array.toList_setIfInBounds]
      omega
    have hw : Region.wanted o (yielded ops a.tmps) = true := by simp [Region.wanted, hf.guard]
    unfold wpOp
    rw [ho]
    simp only [hw, if_true]
    left
    obtain ⟨v, hv, hleft⟩ := hstep i o ho (fun j => l.getD j false) w hd hb hC
    have hfr' := hfr.step ho hf hv
    rw [← more_set l hlt] at hfr' hleft
    unfold Oper.wp
    rw [hfr.eval hf hfin hd]
    generalize (execOp fin.eval o).run P w = r at *
    cases r with
    | ok n w' =>
      cases n <;> simp only [left] at hleft <;> simp only [Oper.upon]
      case value u =>
        obtain ⟨rfl, hD⟩ := hleft
        exact ih _ _ _ hs' hu' hfr' hD
      case skip =>
        obtain ⟨rfl, hD⟩ := hleft
        exact ih _ _ _ hs' hu' hfr' hD
      case enter f args =>
        exact hleft.mono fun e w'' ⟨he, hD⟩ => by subst he; exact ih _ _ _ hs' hu' hfr' hD
    | halt x w' => simp only [left] at hleft

/-- each operation of a list that is written out, by its number -/
def Each (P : Program) (fin : Act) (C : (Nat → Bool) → World → Prop) : Nat → List Oper → Prop
  | _, [] => True
  | n, o :: r => Step P fin C n o ∧ Each P fin C (n + 1) r

theorem each_get : ∀ (l : List Oper) (n : Nat), Each P fin C n l → ∀ (i : Nat) (o : Oper), l[i]? = some o → Step P fin C (n + i) o
  | [], _, _, i, o, h => by simp at h
  | x :: r, n, h, 0, o, ho => by simp at ho; subst ho; exact h.1
  | x :: r, n, h, i + 1, o, ho => by
    have := each_get r (n + 1) h.2 i o (by simpa using ho)
    rwa [show n + (i + 1) = n + 1 + i by omega]

/-- the slots that no operation writes are as they were -/
def keepB (l : List Oper) (s : Nat) : Bool := l.any fun o => o.dst == some s

theorem region_done {id : Nat} {l : List Oper} {w : World} (fin : Act) (C : (Nat → Bool) → World → Prop) (hm : P.follows .mixedOrders = true) (hok : okB l.toArray = true)
    (hdef : a0.defers = fin.defers) (hsz : a0.tmps.size = fin.tmps.size) (ks : List Nat) (hks : ((List.range a0.tmps.size).filter fun s => !keepB l s) = ks) (hkeep : ∀ s ∈ ks, a0.tmps[s]? = fin.tmps[s]?)
    (hC : C (fun _ => false) w.drew) (hstep : Each P fin C 0 l) (hend : ∀ (L : Nat → Bool) (w' : World), (∀ i, i < l.length → L i = true) → C L w' → Q .normal fin w') :
    (Code.region id l.toArray true).wp P Q a0 w := by
  refine wp_region_any hm ?_
  have hL0 : (fun j => (Array.replicate l.toArray.size false).getD j false) = fun _ => false := by
    funext j
    simp only [Array.getD_eq_getD_getElem?, Array.getElem?_replicate]
    split <;> rfl
  refine any_done (a0 := a0) (fin := fin) (C := C) hok (fun s hs => ?_) (fun i o hi => ?_) (fun L w' hL hD => hend L w' (fun i hi => hL i (by simpa using hi)) hD) _ _ _ _ (by simp) ?_ ?_ ?_
  · by_cases hlt : s < a0.tmps.size
    · refine hkeep s ?_
      rw [← hks, List.mem_filter]
      refine ⟨by simpa using hlt, ?_⟩
      rw [Bool.not_eq_true']
      unfold keepB
      rw [List.any_eq_false]
      intro o ho
      obtain ⟨i, hi⟩ := List.getElem?_of_mem ho
      have := hs i o (by simpa using hi)
      simpa using this
    · rw [Array.getElem?_eq_none (by omega), Array.getElem?_eq_none (by omega)]
  · have := each_get l 0 hstep i o (by simpa using hi)
    rwa [Nat.zero_add] at this
  · unfold undone
    refine Nat.le_trans (List.length_filter_le _ _) (by simp)
  · rw [hL0]
    exact ⟨hdef, hsz, fun i o s _ _ h => (by cases h), fun s _ => rfl⟩
  · rw [hL0]
    exact hC
end
end Go.Proofs.YtoemkbooomgieaaGreatDoor.dn
