/- FnRoute, walked: what comes on the way is as it is told, at every code. -/
import Derived.Test.YtnooibeohdfcmaaGreatDoorRw06
import Derived.Test.YtnooibeohdfcmaaGreatDoorRw19
import Derived.Test.YtnooibeohdfcmaaGreatDoorQuietIn
import Derived.BigQuiet

/- A region that draws its order, with operations that have a guard which holds; else as RegionTurn and ChainTurn. -/
namespace Go.Proofs.YtnooibeohdfcmaaGreatDoor.chg
open Go.Proofs.YtnooibeohdfcmaaGreatDoor.dn Go.Proofs.YtnooibeohdfcmaaGreatDoor.gt
open Go.Proofs.YtnooibeohdfcmaaGreatDoor.chn (Cn on off up shut at_m next_m)
set_option linter.unusedVariables false

def strip (o : Oper) : Oper := { o with guard := none }
/-- each guard names a slot of the list and what it must hold, and is waited for -/
def guardB (l : List Oper) (gs : List (Nat × Bool)) : Bool := l.all fun o => match o.guard with
  | none => true
  | some (j, b) => (o.after.any fun e => Region.binds .any e && e.on == j) && (match l[j]? with | some p => (match p.dst with | some q => gs.contains (q, b) | none => false) | none => false)
theorem ready_strip (ops : Array Oper) (l : Array Bool) : Region.ready .any (ops.map strip) l = Region.ready .any ops l := by
  unfold Region.ready
  rw [Array.size_map]
  congr 1
  funext i
  rw [Array.getElem?_map]
  cases ops[i]? with
  | none => rfl
  | some o => rfl
theorem strip_at {ops : Array Oper} {i : Nat} {o : Oper} (h : ops[i]? = some o) : (ops.map strip)[i]? = some (strip o) := by rw [Array.getElem?_map, h]; rfl
theorem at_strip {ops : Array Oper} {i : Nat} {p : Oper} (h : (ops.map strip)[i]? = some p) : ∃ o, ops[i]? = some o ∧ p = strip o := by
  rw [Array.getElem?_map] at h
  cases ho : ops[i]? with
  | none => rw [ho] at h; cases h
  | some o => rw [ho] at h; cases h; exact ⟨o, rfl, rfl⟩
section
variable {σ : Type} {P : Program} {ops : Array Oper} {a0 : Act} {fin : σ → Act} {C : σ → (Nat → Bool) → World → Prop} {Q : Exit → Act → World → Prop}
theorem turn_strip {L : Nat → Bool} {f f' : Act} (h : Turn ops L f f') : Turn (ops.map strip) L f f' := ⟨h.defers, h.size, fun j p q hj hp hL => by
  obtain ⟨o, ho, rfl⟩ := at_strip hj
  exact h.same j o q ho hp hL⟩
theorem any_done (hok : okB (ops.map strip) = true) (hgd : ∀ (i : Nat) (o : Oper) (j : Nat) (b : Bool), ops[i]? = some o → o.guard = some (j, b) → (∃ e ∈ o.after, Region.binds .any e = true ∧ e.on = j) ∧ ∃ p q, ops[j]? = some p ∧ p.dst = some q ∧ ∀ s, (fin s).tmps[q]? = some (.bool b))
    (hfin : ∀ (g : σ) (s : Nat), (∀ (i : Nat) (o : Oper), (ops.map strip)[i]? = some o → o.dst ≠ some s) → a0.tmps[s]? = (fin g).tmps[s]?)
    (hstep : ∀ (i : Nat) (o : Oper), ops[i]? = some o → Step P ops fin C Q i o) (hend : ∀ (s : σ) (L : Nat → Bool) (w : World), (∀ i, i < ops.size → L i = true) → C s L w → Q .normal (fin s) w) :
    ∀ (fuel : Nat) (l : Array Bool) (s : σ) (a : Act) (w : World), l.size = ops.size → undone l ≤ fuel → Fr (ops.map strip) a0 (fin s) (fun j => l.getD j false) a → C s (fun j => l.getD j false) w → wpAny P .any ops Q fuel l a w := by
  intro fuel
  have hsz : (ops.map strip).size = ops.size := Array.size_map ..
  have fin_of : ∀ (l : Array Bool) (s : σ) (a : Act) (w : World), l.size = ops.size → Fr (ops.map strip) a0 (fin s) (fun j => l.getD j false) a → C s (fun j => l.getD j false) w → Region.ready .any ops l = [] → Q .normal a w := by
    intro l s a w hs hfr hC hr
    have hall := ready_nil (ops := ops.map strip) (by rw [hsz]; exact hs) hok (by rw [ready_strip]; exact hr)
    have hL : ∀ i, i < (ops.map strip).size → (fun j => l.getD j false) i = true := fun i hi => hall i i (Nat.le_refl _) hi
    rw [hfr.all (hfin s) hL]
    exact hend s _ w (fun i hi => hL i (by rw [hsz]; exact hi)) hC
  induction fuel with
  | zero =>
    intro l s a w hs hu hfr hC
    have hr : Region.ready .any ops l = [] := by
      cases hr : Region.ready .any ops l with
      | nil => rfl
      | cons i r =>
        obtain ⟨hlt, hb, _⟩ := ready_spec hs (show i ∈ Region.ready .any ops l by rw [hr]; simp)
        exfalso
        unfold undone at hu
        have h0 : l.toList.filter (fun b => !b) = [] := List.eq_nil_of_length_eq_zero (by omega)
        have hm : false ∈ l.toList := by
          rw [Array.getD_eq_getD_getElem?, Array.getElem?_eq_getElem hlt] at hb
          simp only [Option.getD_some] at hb
          rw [← hb]
          simp
        have := List.filter_eq_nil_iff.1 h0 false hm
        simp at this
    exact ⟨hr, fin_of l s a w hs hfr hC hr⟩
  | succ fuel ih =>
    intro l s a w hs hu hfr hC
    refine ⟨fun hr => fin_of l s a w hs hfr hC hr, fun i hi => ?_⟩
    obtain ⟨hlt, hb, o, ho, hd⟩ := ready_spec hs hi
    have hf := fine_of hok (strip_at ho)
    have hs' : (l.setIfInBounds i true).size = ops.size := by simpa using hs
    have hu' : undone (l.setIfInBounds i true) ≤ fuel := by
      have h1 := undone_set l.toList i (by
        rw [Array.getD_eq_getD_getElem?, Array.getElem?_eq_getElem hlt] at hb
        simp only [Option.getD_some] at hb
        simp [hlt, hb])
      unfold undone at hu ⊢
      rw [Array.toList_setIfInBounds]
      omega
    have hw : Region.wanted o (yielded ops a.tmps) = true := by
      unfold Region.wanted
      cases hg : o.guard with
      | none => rfl
      | some jb =>
        obtain ⟨j, b⟩ := jb
        obtain ⟨⟨e, he, hbe, hon⟩, p, q, hp, hq, hv⟩ := hgd i o j b ho hg
        have hL : l.getD j false = true := by rw [← hon]; exact hd e he hbe
        have hc := hfr.done j (strip p) q (strip_at hp) hq hL
        rw [hv s] at hc
        have hy : yielded ops a.tmps j = some b := by
          unfold yielded
          rw [hp]
          simp [hq, hc]
        simp [hy]
    unfold wpOp
    rw [ho]
    simp only [hw, if_true]
    left
    have hrd : ∀ x ∈ o.op.operands, a.eval x = (fin s).eval x := Fr.reads (o := strip o) hfr hf (hfin s) hd
    refine hstep i o ho s (fun j => l.getD j false) w a hrd hd hb hC _ (fun s' v w' hag hv hD => ?_)
    have hfr' : Fr (ops.map strip) a0 (fin s') (more (fun j => l.getD j false) i) (a.put o.dst v) := Fr.step (o := strip o) (gt.Fr.turn hfr (turn_strip hag)) (strip_at ho) hf hv
    rw [← more_set l hlt] at hfr' hD
    exact ih _ _ _ _ hs' hu' hfr' hD
theorem guard_get {l : List Oper} {gs : List (Nat × Bool)} (h : guardB l gs = true) {fin : σ → Act} (hv : ∀ s, ∀ x ∈ gs, (fin s).tmps[x.1]? = some (.bool x.2)) (i : Nat) (o : Oper) (j : Nat) (b : Bool) (ho : l[i]? = some o) (hg : o.guard = some (j, b)) :
    (∃ e ∈ o.after, Region.binds .any e = true ∧ e.on = j) ∧ ∃ p q, l[j]? = some p ∧ p.dst = some q ∧ ∀ s, (fin s).tmps[q]? = some (.bool b) := by
  have h1 := List.all_eq_true.1 h o (List.mem_of_getElem? ho)
  rw [hg] at h1
  simp only [Bool.and_eq_true] at h1
  obtain ⟨h2, h3⟩ := h1
  refine ⟨?_, ?_⟩
  · simp only [Array.any_eq_true, Bool.and_eq_true, beq_iff_eq] at h2
    obtain ⟨n, hn, hb, hm⟩ := h2
    exact ⟨_, Array.getElem_mem hn, hb, hm⟩
  · cases hp : l[j]? with
    | none => rw [hp] at h3; cases h3
    | some p =>
      rw [hp] at h3
      simp only at h3
      cases hq : p.dst with
      | none => rw [hq] at h3; cases h3
      | some q =>
        rw [hq] at h3
        exact ⟨p, q, rfl, hq, fun s => hv s (q, b) (by simpa using h3)⟩
theorem region_ghost {id : Nat} {l : List Oper} {w : World} (fin : σ → Act) (C : σ → (Nat → Bool) → World → Prop) (s0 : σ) (hm : P.follows .mixedOrders = true) (hok : okB (l.map strip).toArray = true) (gs : List (Nat × Bool)) (hgs : guardB l gs = true) (hgv : ∀ s, ∀ x ∈ gs, (fin s).tmps[x.1]? = some (.bool x.2))
    (hdef : a0.defers = (fin s0).defers) (hsz : ∀ s, a0.tmps.size = (fin s).tmps.size) (ks : List Nat) (hks : ((List.range a0.tmps.size).filter fun s => !keepB l s) = ks) (hkeep : ∀ g, gh.Kept a0.tmps (fin g).tmps ks)
    (hC : C s0 (fun _ => false) w.drew) (hstep : Each P l.toArray fin C Q 0 l) (hend : ∀ (s : σ) (L : Nat → Bool) (w' : World), (∀ i, i < l.length → L i = true) → C s L w' → Q .normal (fin s) w') :
    (Code.region id l.toArray true).wp P Q a0 w := by
  refine wp_region_any hm ?_
  have hL0 : (fun j => (Array.replicate l.toArray.size false).getD j false) = fun _ => false := by
    funext j
    simp only [Array.getD_eq_getD_getElem?, Array.getElem?_replicate]
    split <;> rfl
  have hst : l.toArray.map strip = (l.map strip).toArray := by simp
  refine any_done (a0 := a0) (fin := fin) (C := C) (by rw [hst]; exact hok) (fun i o j b hi hg => by
    have := guard_get hgs hgv i o j b (by simpa using hi) hg
    simpa using this) (fun g s hs => ?_) (fun i o hi => ?_) (fun s L w' hL hD => hend s L w' (fun i hi => hL i (by simpa using hi)) hD) _ _ s0 _ _ (by simp) ?_ ?_ ?_
  · by_cases hlt : s < a0.tmps.size
    · refine gh.kept_get ks (hkeep g) s ?_
      rw [← hks, List.mem_filter]
      refine ⟨by simpa using hlt, ?_⟩
      rw [Bool.not_eq_true']
      unfold keepB
      rw [List.any_eq_false]
      intro o ho
      obtain ⟨i, hi⟩ := List.getElem?_of_mem ho
      have := hs i (strip o) (strip_at (by simpa using hi))
      simpa [strip] using this
    · rw [Array.getElem?_eq_none (by omega), Array.getElem?_eq_none (by rw [← hsz]; omega)]
  · have := each_get l 0 hstep i o (by simpa using hi)
    rwa [Nat.zero_add] at this
  · unfold undone
    refine Nat.le_trans (List.length_filter_le _ _) (by simp)
  · rw [hL0]
    exact ⟨hdef, hsz s0, fun i o s _ _ h => (by cases h), fun s _ => rfl⟩
  · rw [hL0]
    exact hC
end
section
variable {σ : Type} {P : Program} {act : Act} {ws : σ → List (Nat × Value)} {l : List Oper} {js : List Nat} {S : σ → Nat → World → Prop} {Q : Exit → Act → World → Prop}
/-- the whole region -/
theorem region {id : Nat} {w : World} (gs : List (Nat × Bool)) (hgs : guardB l gs = true) (hgv : ∀ s, ∀ x ∈ gs, (dk.sets act (ws s)).tmps[x.1]? = some (.bool x.2)) (ks : List Nat) (s0 : σ) (hm : P.follows .mixedOrders = true) (hok : okB (l.map strip).toArray = true) (hw : ∀ g, (ws g).map (·.1) = ks) (hks : (ks.all fun t => keepB l t) = true) (hjs : ∀ j ∈ js, j < l.length) (hS : S s0 0 w.drew)
    (hstep : gt.Each P l.toArray (fun g => dk.sets act (ws g)) (Cn l js S) Q 0 l) (hend : ∀ s w', S s js.length w' → Q .normal (dk.sets act (ws s)) w') : (Code.region id l.toArray true).wp P Q act w := by
  refine region_ghost (fun g => dk.sets act (ws g)) (Cn l js S) s0 hm hok gs hgs hgv (dk.sets_defers act _).symm (fun s => (dk.sets_size act (ws s)).symm) _ rfl (fun g => dk.kept_of _ (dk.keeps (ws g) (hw g) hks)) ⟨fun i o _ h => (by cases h), 0, Nat.zero_le _, fun m j _ => by simp, hS⟩ hstep fun s L w' hL hC => ?_
  obtain ⟨_, k, hk, hLk, hS'⟩ := hC
  have : k = js.length := by
    rcases Nat.lt_or_ge k js.length with h | h
    · have h1 := hLk k js[k] (List.getElem?_eq_getElem h)
      rw [hL _ (hjs _ (List.getElem_mem h))] at h1
      simp at h1
    · omega
  subst this
  exact hend s w' hS'
end
end Go.Proofs.YtnooibeohdfcmaaGreatDoor.chg

/- A region that draws its order, with operations that have a guard which holds, and such whose guard does not hold, which are left out; else as RegionTurn and ChainTurn. -/
namespace Go.Proofs.YtnooibeohdfcmaaGreatDoor.chs
open Go.Proofs.YtnooibeohdfcmaaGreatDoor.dn Go.Proofs.YtnooibeohdfcmaaGreatDoor.gt
open Go.Proofs.YtnooibeohdfcmaaGreatDoor.chn (Cn on off up shut at_m next_m)
set_option linter.unusedVariables false

def strip (o : Oper) : Oper := { o with guard := none }
/-- each guard names a slot of the list and what it holds, and is waited for; the operations sk have one that does not hold -/
def guardB (l : List Oper) (gs : List (Nat × Bool)) (sk : List Nat) : Bool := l.zipIdx.all fun x => match x.1.guard with
  | none => !sk.contains x.2
  | some (j, b) => (x.1.after.any fun e => Region.binds .any e && e.on == j) && (match l[j]? with | some p => (match p.dst with | some q => gs.contains (q, if sk.contains x.2 then !b else b) | none => false) | none => false)
/-- what is left out leaves nothing in these slots -/
def slotsB (l : List Oper) (sk sq : List Nat) : Bool := sk.all fun i => match l[i]? with | some o => (match o.dst with | some q => sq.contains q | none => true) | none => true
theorem ready_strip (ops : Array Oper) (l : Array Bool) : Region.ready .any (ops.map strip) l = Region.ready .any ops l := by
  unfold Region.ready
  rw [Array.size_map]
  congr 1
  funext i
  rw [Array.getElem?_map]
  cases ops[i]? with
  | none => rfl
  | some o => rfl
theorem strip_at {ops : Array Oper} {i : Nat} {o : Oper} (h : ops[i]? = some o) : (ops.map strip)[i]? = some (strip o) := by rw [Array.getElem?_map, h]; rfl
theorem at_strip {ops : Array Oper} {i : Nat} {p : Oper} (h : (ops.map strip)[i]? = some p) : ∃ o, ops[i]? = some o ∧ p = strip o := by
  rw [Array.getElem?_map] at h
  cases ho : ops[i]? with
  | none => rw [ho] at h; cases h
  | some o => rw [ho] at h; cases h; exact ⟨o, rfl, rfl⟩
section
variable {σ : Type} {P : Program} {ops : Array Oper} {a0 : Act} {fin : σ → Act} {C : σ → (Nat → Bool) → World → Prop} {Q : Exit → Act → World → Prop}
theorem turn_strip {L : Nat → Bool} {f f' : Act} (h : Turn ops L f f') : Turn (ops.map strip) L f f' := ⟨h.defers, h.size, fun j p q hj hp hL => by
  obtain ⟨o, ho, rfl⟩ := at_strip hj
  exact h.same j o q ho hp hL⟩
theorem any_done (hok : okB (ops.map strip) = true) (sk : List Nat) (hgn : ∀ (i : Nat) (o : Oper), ops[i]? = some o → o.guard = none → sk.contains i = false) (hgd : ∀ (i : Nat) (o : Oper) (j : Nat) (b : Bool), ops[i]? = some o → o.guard = some (j, b) → (∃ e ∈ o.after, Region.binds .any e = true ∧ e.on = j) ∧ ∃ p q, ops[j]? = some p ∧ p.dst = some q ∧ ∀ s, (fin s).tmps[q]? = some (.bool (if sk.contains i then !b else b)))
    (hfin : ∀ (g : σ) (s : Nat), (∀ (i : Nat) (o : Oper), (ops.map strip)[i]? = some o → o.dst ≠ some s) → a0.tmps[s]? = (fin g).tmps[s]?)
    (hskip : ∀ (i : Nat) (o : Oper), ops[i]? = some o → sk.contains i = true → (∀ s d, o.dst = some d → (fin s).tmps[d]? = some undef) ∧ ∀ (s : σ) (L : Nat → Bool) (w : World), (∀ e ∈ o.after, Region.binds .any e = true → L e.on = true) → L i = false → C s L w → C s (more L i) w)
    (hstep : ∀ (i : Nat) (o : Oper), ops[i]? = some o → sk.contains i = true ∨ Step P ops fin C Q i o) (hend : ∀ (s : σ) (L : Nat → Bool) (w : World), (∀ i, i < ops.size → L i = true) → C s L w → Q .normal (fin s) w) :
    ∀ (fuel : Nat) (l : Array Bool) (s : σ) (a : Act) (w : World), l.size = ops.size → undone l ≤ fuel → Fr (ops.map strip) a0 (fin s) (fun j => l.getD j false) a → C s (fun j => l.getD j false) w → wpAny P .any ops Q fuel l a w := by
  intro fuel
  have hsz : (ops.map strip).size = ops.size := Array.size_map ..
  have fin_of : ∀ (l : Array Bool) (s : σ) (a : Act) (w : World), l.size = ops.size → Fr (ops.map strip) a0 (fin s) (fun j => l.getD j false) a → C s (fun j => l.getD j false) w → Region.ready .any ops l = [] → Q .normal a w := by
    intro l s a w hs hfr hC hr
    have hall := ready_nil (ops := ops.map strip) (by rw [hsz]; exact hs) hok (by rw [ready_strip]; exact hr)
    have hL : ∀ i, i < (ops.map strip).size → (fun j => l.getD j false) i = true := fun i hi => hall i i (Nat.le_refl _) hi
    rw [hfr.all (hfin s) hL]
    exact hend s _ w (fun i hi => hL i (by rw [hsz]; exact hi)) hC
  induction fuel with
  | zero =>
    intro l s a w hs hu hfr hC
    have hr : Region.ready .any ops l = [] := by
      cases hr : Region.ready .any ops l with
      | nil => rfl
      | cons i r =>
        obtain ⟨hlt, hb, _⟩ := ready_spec hs (show i ∈ Region.ready .any ops l by rw [hr]; simp)
        exfalso
        unfold undone at hu
        have h0 : l.toList.filter (fun b => !b) = [] := List.eq_nil_of_length_eq_zero (by omega)
        have hm : false ∈ l.toList := by
          rw [Array.getD_eq_getD_getElem?, Array.getElem?_eq_getElem hlt] at hb
          simp only [Option.getD_some] at hb
          rw [← hb]
          simp
        have := List.filter_eq_nil_iff.1 h0 false hm
        simp at this
    exact ⟨hr, fin_of l s a w hs hfr hC hr⟩
  | succ fuel ih =>
    intro l s a w hs hu hfr hC
    refine ⟨fun hr => fin_of l s a w hs hfr hC hr, fun i hi => ?_⟩
    obtain ⟨hlt, hb, o, ho, hd⟩ := ready_spec hs hi
    have hf := fine_of hok (strip_at ho)
    have hs' : (l.setIfInBounds i true).size = ops.size := by simpa using hs
    have hu' : undone (l.setIfInBounds i true) ≤ fuel := by
      have h1 := undone_set l.toList i (by
        rw [Array.getD_eq_getD_getElem?, Array.getElem?_eq_getElem hlt] at hb
        simp only [Option.getD_some] at hb
        simp [hlt, hb])
      unfold undone at hu ⊢
      rw [Array.toList_setIfInBounds]
      omega
    have hy : ∀ (j : Nat) (b : Bool), o.guard = some (j, b) → yielded ops a.tmps j = some (if sk.contains i then !b else b) := by
      intro j b hg
      obtain ⟨⟨e, he, hbe, hon⟩, p, q, hp, hq, hv⟩ := hgd i o j b ho hg
      have hL : l.getD j false = true := by rw [← hon]; exact hd e he hbe
      have hc := hfr.done j (strip p) q (strip_at hp) hq hL
      rw [hv s] at hc
      unfold yielded
      rw [hp]
      generalize (if sk.contains i then !b else b) = c at hc
      simp [hq, hc]
    cases hsk : sk.contains i with
    | true =>
      have hw : Region.wanted o (yielded ops a.tmps) = false := by
        unfold Region.wanted
        cases hg : o.guard with
        | none => rw [hgn i o ho hg] at hsk; cases hsk
        | some jb =>
          obtain ⟨j, b⟩ := jb
          have h9 := hy j b hg
          rw [hsk] at h9
          cases b <;> simp_all
      unfold wpOp
      rw [ho]
      simp only [hw, Bool.false_eq_true, if_false]
      obtain ⟨h1, h2⟩ := hskip i o ho hsk
      have hfr' : Fr (ops.map strip) a0 (fin s) (more (fun j => l.getD j false) i) (a.put o.dst undef) := Fr.step (o := strip o) hfr (strip_at ho) hf (h1 s)
      have hD := h2 s _ w hd hb hC
      rw [← more_set l hlt] at hfr' hD
      exact ih _ _ _ _ hs' hu' hfr' hD
    | false =>
      have hw : Region.wanted o (yielded ops a.tmps) = true := by
        unfold Region.wanted
        cases hg : o.guard with
        | none => rfl
        | some jb =>
          obtain ⟨j, b⟩ := jb
          have h9 := hy j b hg
          rw [hsk] at h9
          simp [h9]
      unfold wpOp
      rw [ho]
      simp only [hw, if_true]
      left
      have hrd : ∀ x ∈ o.op.operands, a.eval x = (fin s).eval x := Fr.reads (o := strip o) hfr hf (hfin s) hd
      have hst := (hstep i o ho).resolve_left (by rw [hsk]; simp)
      refine hst s (fun j => l.getD j false) w a hrd hd hb hC _ (fun s' v w' hag hv hD => ?_)
      have hfr' : Fr (ops.map strip) a0 (fin s') (more (fun j => l.getD j false) i) (a.put o.dst v) := Fr.step (o := strip o) (gt.Fr.turn hfr (turn_strip hag)) (strip_at ho) hf hv
      rw [← more_set l hlt] at hfr' hD
      exact ih _ _ _ _ hs' hu' hfr' hD
def Each (P : Program) (ops : Array Oper) (fin : σ → Act) (C : σ → (Nat → Bool) → World → Prop) (Q : Exit → Act → World → Prop) (sk : List Nat) : Nat → List Oper → Prop
  | _, [] => True
  | n, o :: r => (sk.contains n = true ∨ Step P ops fin C Q n o) ∧ Each P ops fin C Q sk (n + 1) r
theorem each_get {sk : List Nat} : ∀ (l : List Oper) (n : Nat), Each P ops fin C Q sk n l → ∀ (i : Nat) (o : Oper), l[i]? = some o → sk.contains (n + i) = true ∨ Step P ops fin C Q (n + i) o
  | [], _, _, i, o, h => by simp at h
  | x :: r, n, h, 0, o, ho => by simp at ho; subst ho; exact h.1
  | x :: r, n, h, i + 1, o, ho => by
    have := each_get r (n + 1) h.2 i o (by simpa using ho)
    rwa [show n + (i + 1) = n + 1 + i by omega]
theorem idx_at {l : List Oper} {i : Nat} {o : Oper} (h : l[i]? = some o) : (o, i) ∈ l.zipIdx := by
  rw [List.mem_zipIdx_iff_getElem?]
  simpa using h
theorem guard_none {l : List Oper} {gs : List (Nat × Bool)} {sk : List Nat} (h : guardB l gs sk = true) (i : Nat) (o : Oper) (ho : l[i]? = some o) (hg : o.guard = none) : sk.contains i = false := by
  have h1 := List.all_eq_true.1 h _ (idx_at ho)
  simp only [hg] at h1
  simpa using h1
theorem guard_get {l : List Oper} {gs : List (Nat × Bool)} {sk : List Nat} (h : guardB l gs sk = true) {fin : σ → Act} (hv : ∀ s, ∀ x ∈ gs, (fin s).tmps[x.1]? = some (.bool x.2)) (i : Nat) (o : Oper) (j : Nat) (b : Bool) (ho : l[i]? = some o) (hg : o.guard = some (j, b)) :
    (∃ e ∈ o.after, Region.binds .any e = true ∧ e.on = j) ∧ ∃ p q, l[j]? = some p ∧ p.dst = some q ∧ ∀ s, (fin s).tmps[q]? = some (.bool (if sk.contains i then !b else b)) := by
  have h1 := List.all_eq_true.1 h _ (idx_at ho)
  simp only [hg, Bool.and_eq_true] at h1
  obtain ⟨h2, h3⟩ := h1
  refine ⟨?_, ?_⟩
  · simp only [Array.any_eq_true, Bool.and_eq_true, beq_iff_eq] at h2
    obtain ⟨n, hn, hb, hm⟩ := h2
    exact ⟨_, Array.getElem_mem hn, hb, hm⟩
  · cases hp : l[j]? with
    | none => rw [hp] at h3; cases h3
    | some p =>
      rw [hp] at h3
      simp only at h3
      cases hq : p.dst with
      | none => rw [hq] at h3; cases h3
      | some q =>
        rw [hq] at h3
        exact ⟨p, q, rfl, hq, fun s => hv s (q, if sk.contains i then !b else b) (List.contains_iff_mem.1 h3)⟩
theorem slots_get {l : List Oper} {sk sq : List Nat} (h : slotsB l sk sq = true) {fin : σ → Act} (hv : ∀ s, ∀ x ∈ sq, (fin s).tmps[x]? = some undef) (i : Nat) (o : Oper) (ho : l[i]? = some o) (hi : sk.contains i = true) (s : σ) (d : Nat) (hd : o.dst = some d) : (fin s).tmps[d]? = some undef := by
  have h1 := List.all_eq_true.1 h i (by simpa using hi)
  rw [ho] at h1
  simp only [hd] at h1
  exact hv s d (by simpa using h1)
theorem region_ghost {id : Nat} {l : List Oper} {w : World} (fin : σ → Act) (C : σ → (Nat → Bool) → World → Prop) (s0 : σ) (hm : P.follows .mixedOrders = true) (hok : okB (l.map strip).toArray = true) (sk sq : List Nat) (gs : List (Nat × Bool)) (hgs : guardB l gs sk = true) (hsq : slotsB l sk sq = true) (hgv : ∀ s, ∀ x ∈ gs, (fin s).tmps[x.1]? = some (.bool x.2)) (hqv : ∀ s, ∀ x ∈ sq, (fin s).tmps[x]? = some undef)
    (hCs : ∀ (i : Nat) (o : Oper), l[i]? = some o → sk.contains i = true → ∀ (s : σ) (L : Nat → Bool) (w : World), (∀ e ∈ o.after, Region.binds .any e = true → L e.on = true) → L i = false → C s L w → C s (more L i) w)
    (hdef : a0.defers = (fin s0).defers) (hsz : ∀ s, a0.tmps.size = (fin s).tmps.size) (ks : List Nat) (hks : ((List.range a0.tmps.size).filter fun s => !keepB l s) = ks) (hkeep : ∀ g, gh.Kept a0.tmps (fin g).tmps ks)
    (hC : C s0 (fun _ => false) w.drew) (hstep : Each P l.toArray fin C Q sk 0 l) (hend : ∀ (s : σ) (L : Nat → Bool) (w' : World), (∀ i, i < l.length → L i = true) → C s L w' → Q .normal (fin s) w') :
    (Code.region id l.toArray true).wp P Q a0 w := by
  refine wp_region_any hm ?_
  have hL0 : (fun j => (Array.replicate l.toArray.size false).getD j false) = fun _ => false := by
    funext j
    simp only [Array.getD_eq_getD_getElem?, Array.getElem?_replicate]
    split <;> rfl
  have hst : l.toArray.map strip = (l.map strip).toArray := by simp
  refine any_done (a0 := a0) (fin := fin) (C := C) (by rw [hst]; exact hok) sk (fun i o hi hg => guard_none hgs i o (by simpa using hi) hg) (fun i o j b hi hg => by
    have := guard_get hgs hgv i o j b (by simpa using hi) hg
    simpa using this) (fun g s hs => ?_) (fun i o hi hsk => ⟨fun s d hd => slots_get hsq hqv i o (by simpa using hi) hsk s d hd, hCs i o (by simpa using hi) hsk⟩) (fun i o hi => ?_) (fun s L w' hL hD => hend s L w' (fun i hi => hL i (by simpa using hi)) hD) _ _ s0 _ _ (by simp) ?_ ?_ ?_
  · by_cases hlt : s < a0.tmps.size
    · refine gh.kept_get ks (hkeep g) s ?_
      rw [← hks, List.mem_filter]
      refine ⟨by simpa using hlt, ?_⟩
      rw [Bool.not_eq_true']
      unfold keepB
      rw [List.any_eq_false]
      intro o ho
      obtain ⟨i, hi⟩ := List.getElem?_of_mem ho
      have := hs i (strip o) (strip_at (by simpa using hi))
      simpa [strip] using this
    · rw [Array.getElem?_eq_none (by omega), Array.getElem?_eq_none (by rw [← hsz]; omega)]
  · have := each_get l 0 hstep i o (by simpa using hi)
    rwa [Nat.zero_add] at this
  · unfold undone
    refine Nat.le_trans (List.length_filter_le _ _) (by simp)
  · rw [hL0]
    exact ⟨hdef, hsz s0, fun i o s _ _ h => (by cases h), fun s _ => rfl⟩
  · rw [hL0]
    exact hC
end
section
variable {σ : Type} {P : Program} {act : Act} {ws : σ → List (Nat × Value)} {l : List Oper} {js : List Nat} {S : σ → Nat → World → Prop} {Q : Exit → Act → World → Prop}
/-- the whole region -/
theorem region {id : Nat} {w : World} (sk sq : List Nat) (gs : List (Nat × Bool)) (hgs : guardB l gs sk = true) (hsq : slotsB l sk sq = true) (hsj : (sk.all fun i => !js.contains i) = true) (hgv : ∀ s, ∀ x ∈ gs, (dk.sets act (ws s)).tmps[x.1]? = some (.bool x.2)) (hqv : ∀ s, ∀ x ∈ sq, (dk.sets act (ws s)).tmps[x]? = some undef) (ks : List Nat) (s0 : σ) (hm : P.follows .mixedOrders = true) (hok : okB (l.map strip).toArray = true) (hw : ∀ g, (ws g).map (·.1) = ks) (hks : (ks.all fun t => keepB l t) = true) (hjs : ∀ j ∈ js, j < l.length) (hS : S s0 0 w.drew)
    (hstep : Each P l.toArray (fun g => dk.sets act (ws g)) (Cn l js S) Q sk 0 l) (hend : ∀ s w', S s js.length w' → Q .normal (dk.sets act (ws s)) w') : (Code.region id l.toArray true).wp P Q act w := by
  refine region_ghost (fun g => dk.sets act (ws g)) (Cn l js S) s0 hm hok sk sq gs hgs hsq hgv hqv (fun i o ho hi s L w hd h0 hC => ?_) (dk.sets_defers act _).symm (fun s => (dk.sets_size act (ws s)).symm) _ rfl (fun g => dk.kept_of _ (dk.keeps (ws g) (hw g) hks)) ⟨fun i o _ h => (by cases h), 0, Nat.zero_le _, fun m j _ => by simp, hS⟩ hstep fun s L w' hL hC => ?_
  · obtain ⟨hc, k, hk, hLk, hS⟩ := hC
    refine ⟨shut ho hd hc, k, hk, fun m' j hj => ?_, hS⟩
    rw [off L (fun e => by
      have h1 := List.all_eq_true.1 hsj i (by simpa using hi)
      have h2 : i ∈ js := by rw [← e]; exact List.mem_of_getElem? hj
      simp [h2] at h1)]
    exact hLk m' j hj
  · obtain ⟨_, k, hk, hLk, hS'⟩ := hC
    have : k = js.length := by
      rcases Nat.lt_or_ge k js.length with h | h
      · have h1 := hLk k js[k] (List.getElem?_eq_getElem h)
        rw [hL _ (hjs _ (List.getElem_mem h))] at h1
        simp at h1
      · omega
    subst this
    exact hend s w' hS'
end
end Go.Proofs.YtnooibeohdfcmaaGreatDoor.chs

/- FnRoute, walked: what comes on the way is as it is told, at every code. -/
namespace Go.Proofs.YtnooibeohdfcmaaGreatDoor.rwk
open Go.ChangeShapes Go.WideShapes Go.ChangeAt Go.RowKit Go.Proofs.YtnooibeohdfcmaaGreatDoor.fl Go.Proofs.YtnooibeohdfcmaaGreatDoor.dw Go.Proofs.YtnooibeohdfcmaaGreatDoor.rr Go.Proofs.YtnooibeohdfcmaaGreatDoor.ro Go.Proofs.YtnooibeohdfcmaaGreatDoor.dlr Go.Proofs.YtnooibeohdfcmaaGreatDoor.rtt
set_option linter.unusedVariables false

structure G2 where
  a : Option Addr
  ca : Nat
  b : Option Addr
  cb : Nat
/-- whether a text is among texts -/
def has (q : ByteArray) (l : List ByteArray) : Bool := l.any fun z => z.toList == q.toList
theorem has_app (q p : ByteArray) (l : List ByteArray) : has q (l ++ [p]) = (has q l || (p.toList == q.toList)) := by unfold has; rw [List.any_append]; simp
theorem has_mem {q : ByteArray} {l : List ByteArray} (h : q ∈ l) : has q l = true := by
  unfold has
  rw [List.any_eq_true]
  exact ⟨q, h, by simp⟩
set_option pp.maxSteps 2500 in
set_option pp.deepTerms false in
set_option maxRecDepth 100000 in
set_option maxHeartbeats 12000000 in
theorem walk (a0 : Option Addr) (len0 cap0 : Nat) (w : World) (hcode : dw.Code w w.heap.size a0 len0) (m : Int) (hm : w.cell? ⟨0, 0, none⟩ = some (.int .i64 m)) :
    Calls Tryz.prog 3 #[.slice a0 len0 cap0] w fun e w' => e = .returned (.bool true) ∧ Below w.heap.size w w' := by
  by_cases hbig : (1048576 : Int) < len0
  · clear hcode
    go_enter Tryz.func3, Tryz.ntmps3
    go_wp2
    go_ret
    exact ⟨rfl, Below.refl _ _⟩
  have hlen : len0 ≤ 1048576 := by omega
  have h1 := d_route a0 len0 cap0 w hlen hcode
  have HC : Hid (dw.Code w w.heap.size a0 len0) := hcode
  clear hcode
  go_enter Tryz.func3, Tryz.ntmps3
  go_wp2_with (first | (go_at_call 4; go_in) | (go_at_call 5; fail))
  refine h1.mono ?_
  rintro e w1 ⟨es, bs, ea, ec, ba, bc, x, key, rfl, hsm, hdr, hxk, hb1⟩
  have HSM : Hid (Sm 200 es bs) := hsm
  have HC_ : Hid (dw.Code w1 w1.heap.size a0 len0) := (HC.out.below hb1 (Nat.le_refl _)).mono (Below.size hb1)
  clear HC
  have HC := HC_
  clear HC_
  have HB : Hid (Below w.heap.size w w1) := hb1
  have HM : Hid (w1.cell? ⟨0, 0, none⟩ = some (.int .i64 m)) := m_below hm hb1
  have HQ : Hid (Us w1 es bs ea ec ba bc) := hdr
  clear h1 hsm hdr hb1 hm
  have hal : Below w1.heap.size w1 (w1.alloc (.cells #[.slice ea es.length ec, .slice ba bs.length bc] 27)) := (Below.refl _ _).alloc (Nat.le_refl _) _
  have HC_ : Hid (dw.Code (w1.alloc (.cells #[.slice ea es.length ec, .slice ba bs.length bc] 27)) (w1.alloc (.cells #[.slice ea es.length ec, .slice ba bs.length bc] 27)).heap.size a0 len0) := (HC.out.below hal (Nat.le_refl _)).mono (Below.size hal)
  have HB_ : Hid (Below w.heap.size w (w1.alloc (.cells #[.slice ea es.length ec, .slice ba bs.length bc] 27))) := HB.out.trans (Below.mono hal (Below.size HB.out))
  have HM_ : Hid ((w1.alloc (.cells #[.slice ea es.length ec, .slice ba bs.length bc] 27)).cell? ⟨0, 0, none⟩ = some (.int .i64 m)) := m_below HM.out hal
  have HQ_ : Hid (Us (w1.alloc (.cells #[.slice ea es.length ec, .slice ba bs.length bc] 27)) es bs ea ec ba bc) := us_below HQ.out hal
  clear HC HB HM HQ
  have HC := HC_
  have HB := HB_
  have HM := HM_
  have HQ := HQ_
  clear HC_ HB_ HM_ HQ_
  have BQ : Hid ((w1.alloc (.cells #[.slice ea es.length ec, .slice ba bs.length bc] 27)).heap[w1.heap.size]? = some (.cells #[.slice ea es.length ec, .slice ba bs.length bc] 27 (0, 0))) := bnew w1 _ _
  clear hal
  have h2 := t_route (us_rr HQ.out) HSM.out (by omega) x key ⟨by omega, by omega⟩ HM.out
  have h3' := fun (W : World) (h : Us W es bs ea ec ba bc) => s_route (us_rr h) HSM.out (by omega) x key ⟨by omega, by omega⟩
  have hasc := frp.list_asc es bs x key
  have hlen2 := frp.list_len es bs x key
  have htt := HSM.out.tt
  obtain ⟨QL, hQL⟩ : ∃ y, rta.ansL es bs x key = y := ⟨_, rfl⟩
  obtain ⟨qo, hqo⟩ : ∃ y, rta.ansB es bs x key = y := ⟨_, rfl⟩
  simp only [hQL, hqo] at h2 h3' hasc hlen2
  have HQL : Hid (rtp.Asc QL ∧ QL.length ≤ 201) := ⟨hasc, by omega⟩
  clear hQL hqo hasc hlen2 htt hxk
  have x0 : (w1.alloc (.cells #[.slice ea es.length ec, .slice ba bs.length bc] 27)).cell? ⟨w1.heap.size, 0, none⟩ = some (.slice ea es.length ec) := bcell BQ.out rfl
  have x1 : (w1.alloc (.cells #[.slice ea es.length ec, .slice ba bs.length bc] 27)).cell? ⟨w1.heap.size, 1, none⟩ = some (.slice ba bs.length bc) := bcell BQ.out rfl
  go_wp2_with (go_at_call 6; fail)
  refine h2.mono ?_
  rintro e w2 ⟨la, lc, rfl, hi2, hb2⟩
  have HC_ : Hid (dw.Code w2 w2.heap.size a0 len0) := (HC.out.below hb2 (Nat.le_refl _)).mono (Below.size hb2)
  have HB_ : Hid (Below w.heap.size w w2) := HB.out.trans (Below.mono hb2 (Below.size HB.out))
  have HM_ : Hid (w2.cell? ⟨0, 0, none⟩ = some (.int .i64 m)) := m_below HM.out hb2
  have HQ_ : Hid (Us w2 es bs ea ec ba bc) := us_below HQ.out hb2
  have BQ_ : Hid (w2.heap[w1.heap.size]? = some (.cells #[.slice ea es.length ec, .slice ba bs.length bc] 27 (0, 0))) := bstay BQ.out hb2 (Array.getElem?_eq_some_iff.1 BQ.out).1
  clear HC HB HM HQ BQ
  have HC := HC_
  have HB := HB_
  have HM := HM_
  have HQ := HQ_
  have BQ := BQ_
  clear HC_ HB_ HM_ HQ_ BQ_
  clear h2 hb2 x0 x1
  have HL : Hid (Ls w2 QL la) := hi2
  clear hi2
  have x0 : w2.cell? ⟨w1.heap.size, 0, none⟩ = some (.slice ea es.length ec) := bcell BQ.out rfl
  have x1 : w2.cell? ⟨w1.heap.size, 1, none⟩ = some (.slice ba bs.length bc) := bcell BQ.out rfl
  have h3 := h3' _ HQ.out
  clear h3'
  go_wp2_with (go_at_call 7; fail)
  refine h3.mono ?_
  rintro e w3 ⟨lb, ld, rfl, hi3, hb3⟩
  have HC_ : Hid (dw.Code w3 w3.heap.size a0 len0) := (HC.out.below hb3 (Nat.le_refl _)).mono (Below.size hb3)
  have HB_ : Hid (Below w.heap.size w w3) := HB.out.trans (Below.mono hb3 (Below.size HB.out))
  have HM_ : Hid (w3.cell? ⟨0, 0, none⟩ = some (.int .i64 m)) := m_below HM.out hb3
  have HQ_ : Hid (Us w3 es bs ea ec ba bc) := us_below HQ.out hb3
  have BQ_ : Hid (w3.heap[w1.heap.size]? = some (.cells #[.slice ea es.length ec, .slice ba bs.length bc] 27 (0, 0))) := bstay BQ.out hb3 (Array.getElem?_eq_some_iff.1 BQ.out).1
  have HL_ : Hid (Ls w3 QL la) := HL.out.below hb3
  clear HC HB HM HQ BQ HL
  have HC := HC_
  have HB := HB_
  have HM := HM_
  have HQ := HQ_
  have BQ := BQ_
  have HL := HL_
  clear HC_ HB_ HM_ HQ_ BQ_ HL_
  clear h3 hb3 x0 x1
  have HW : Hid (Ls w3 QL lb) := hi3
  clear hi3
  have h4 := d_bind a0 len0 cap0 _ hlen HC.out
  go_wp2_with (go_at_call 8; fail)
  refine h4.mono ?_
  rintro e w4 ⟨ae, ab, aea, aec, aba, abc, bx, bk, bq, rfl, hsm4, hdr4, hkk, hb4⟩
  have HC_ : Hid (dw.Code w4 w4.heap.size a0 len0) := (HC.out.below hb4 (Nat.le_refl _)).mono (Below.size hb4)
  have HB_ : Hid (Below w.heap.size w w4) := HB.out.trans (Below.mono hb4 (Below.size HB.out))
  have HM_ : Hid (w4.cell? ⟨0, 0, none⟩ = some (.int .i64 m)) := m_below HM.out hb4
  have HQ_ : Hid (Us w4 es bs ea ec ba bc) := us_below HQ.out hb4
  have BQ_ : Hid (w4.heap[w1.heap.size]? = some (.cells #[.slice ea es.length ec, .slice ba bs.length bc] 27 (0, 0))) := bstay BQ.out hb4 (Array.getElem?_eq_some_iff.1 BQ.out).1
  have HL_ : Hid (Ls w4 QL la) := HL.out.below hb4
  have HW_ : Hid (Ls w4 QL lb) := HW.out.below hb4
  clear HC HB HM HQ BQ HL HW
  have HC := HC_
  have HB := HB_
  have HM := HM_
  have HQ := HQ_
  have BQ := BQ_
  have HL := HL_
  have HW := HW_
  clear HC_ HB_ HM_ HQ_ BQ_ HL_ HW_
  clear h4 hb4 
  have HA : Hid (Us w4 ae ab aea aec aba abc) := hdr4
  have HSMA : Hid (Sm 200 ae ab) := hsm4
  have HKK : Hid (bx.size ≤ 31 ∧ bk.size ≤ 100 ∧ bq.size ≤ 1) := hkk
  clear hsm4 hdr4 hkk
  have hal : Below w4.heap.size w4 (w4.alloc (.cells #[.slice aea ae.length aec, .slice aba ab.length abc] 27)) := (Below.refl _ _).alloc (Nat.le_refl _) _
  have HC_ : Hid (dw.Code (w4.alloc (.cells #[.slice aea ae.length aec, .slice aba ab.length abc] 27)) (w4.alloc (.cells #[.slice aea ae.length aec, .slice aba ab.length abc] 27)).heap.size a0 len0) := (HC.out.below hal (Nat.le_refl _)).mono (Below.size hal)
  have HB_ : Hid (Below w.heap.size w (w4.alloc (.cells #[.slice aea ae.length aec, .slice aba ab.length abc] 27))) := HB.out.trans (Below.mono hal (Below.size HB.out))
  have HM_ : Hid ((w4.alloc (.cells #[.slice aea ae.length aec, .slice aba ab.length abc] 27)).cell? ⟨0, 0, none⟩ = some (.int .i64 m)) := m_below HM.out hal
  have HQ_ : Hid (Us (w4.alloc (.cells #[.slice aea ae.length aec, .slice aba ab.length abc] 27)) es bs ea ec ba bc) := us_below HQ.out hal
  have BQ_ : Hid ((w4.alloc (.cells #[.slice aea ae.length aec, .slice aba ab.length abc] 27)).heap[w1.heap.size]? = some (.cells #[.slice ea es.length ec, .slice ba bs.length bc] 27 (0, 0))) := bstay BQ.out hal (Array.getElem?_eq_some_iff.1 BQ.out).1
  have HL_ : Hid (Ls (w4.alloc (.cells #[.slice aea ae.length aec, .slice aba ab.length abc] 27)) QL la) := HL.out.below hal
  have HW_ : Hid (Ls (w4.alloc (.cells #[.slice aea ae.length aec, .slice aba ab.length abc] 27)) QL lb) := HW.out.below hal
  have HA_ : Hid (Us (w4.alloc (.cells #[.slice aea ae.length aec, .slice aba ab.length abc] 27)) ae ab aea aec aba abc) := us_below HA.out hal
  clear HC HB HM HQ BQ HL HW HA
  have HC := HC_
  have HB := HB_
  have HM := HM_
  have HQ := HQ_
  have BQ := BQ_
  have HL := HL_
  have HW := HW_
  have HA := HA_
  clear HC_ HB_ HM_ HQ_ BQ_ HL_ HW_ HA_
  have BA : Hid ((w4.alloc (.cells #[.slice aea ae.length aec, .slice aba ab.length abc] 27)).heap[w4.heap.size]? = some (.cells #[.slice aea ae.length aec, .slice aba ab.length abc] 27 (0, 0))) := bnew w4 _ _
  clear hal
  have h5 := t_bind (us_rr HA.out) HSMA.out (by omega) bx bk bq (by have := HKK.out; omega)
  have h6' := fun (W : World) (h : Us W ae ab aea aec aba abc) => s_bind h HSMA.out (by omega) bx bk bq (by have := HKK.out; omega)
  have hsb := HSMA.out.bind (t := ⟨bx, bk, bq⟩) (by have := HKK.out; simp only; omega)
  have hp1 := @frp.bind_all ae ab ⟨bx, bk, bq⟩
  have hp2 := @frp.bind_not ae ab ⟨bx, bk, bq⟩
  obtain ⟨PB, hPB⟩ : ∃ y, bp.ansB ae ab ⟨bx, bk, bq⟩ = y := ⟨_, rfl⟩
  obtain ⟨pt, hpt⟩ : ∃ y, bp.retB ae ab ⟨bx, bk, bq⟩ = y := ⟨_, rfl⟩
  simp only [hPB, hpt] at h5 h6' hsb hp1 hp2
  have HSMB : Hid (Sm 201 ae PB) := hsb
  have HPT : Hid ((pt = true → OkR ae PB ∧ (⟨bx, bk, bq⟩ : Bi) ∈ PB) ∧ (pt = false → PB = ab)) := ⟨hp1, hp2⟩
  clear hPB hpt hsb hp1 hp2
  have x0 : (w4.alloc (.cells #[.slice aea ae.length aec, .slice aba ab.length abc] 27)).cell? ⟨w4.heap.size, 0, none⟩ = some (.slice aea ae.length aec) := bcell BA.out rfl
  have x1 : (w4.alloc (.cells #[.slice aea ae.length aec, .slice aba ab.length abc] 27)).cell? ⟨w4.heap.size, 1, none⟩ = some (.slice aba ab.length abc) := bcell BA.out rfl
  go_wp2_with (go_at_call 9; fail)
  refine h5.mono ?_
  rintro e w5 ⟨g5, c5, k5, d5, rfl, hi5, hb5⟩
  have HC_ : Hid (dw.Code w5 w5.heap.size a0 len0) := (HC.out.below hb5 (Nat.le_refl _)).mono (Below.size hb5)
  have HB_ : Hid (Below w.heap.size w w5) := HB.out.trans (Below.mono hb5 (Below.size HB.out))
  have HM_ : Hid (w5.cell? ⟨0, 0, none⟩ = some (.int .i64 m)) := m_below HM.out hb5
  have HQ_ : Hid (Us w5 es bs ea ec ba bc) := us_below HQ.out hb5
  have BQ_ : Hid (w5.heap[w1.heap.size]? = some (.cells #[.slice ea es.length ec, .slice ba bs.length bc] 27 (0, 0))) := bstay BQ.out hb5 (Array.getElem?_eq_some_iff.1 BQ.out).1
  have HL_ : Hid (Ls w5 QL la) := HL.out.below hb5
  have HW_ : Hid (Ls w5 QL lb) := HW.out.below hb5
  have HA_ : Hid (Us w5 ae ab aea aec aba abc) := us_below HA.out hb5
  have BA_ : Hid (w5.heap[w4.heap.size]? = some (.cells #[.slice aea ae.length aec, .slice aba ab.length abc] 27 (0, 0))) := bstay BA.out hb5 (Array.getElem?_eq_some_iff.1 BA.out).1
  clear HC HB HM HQ BQ HL HW HA BA
  have HC := HC_
  have HB := HB_
  have HM := HM_
  have HQ := HQ_
  have BQ := BQ_
  have HL := HL_
  have HW := HW_
  have HA := HA_
  have BA := BA_
  clear HC_ HB_ HM_ HQ_ BQ_ HL_ HW_ HA_ BA_
  clear h5 hb5 x0 x1
  have HBd : Hid (Rr w5 ae PB g5 c5 k5 d5) := hi5
  clear hi5
  have hal : Below w5.heap.size w5 (w5.alloc (.cells #[.slice g5 ae.length c5, .slice k5 PB.length d5] 27)) := (Below.refl _ _).alloc (Nat.le_refl _) _
  have HC_ : Hid (dw.Code (w5.alloc (.cells #[.slice g5 ae.length c5, .slice k5 PB.length d5] 27)) (w5.alloc (.cells #[.slice g5 ae.length c5, .slice k5 PB.length d5] 27)).heap.size a0 len0) := (HC.out.below hal (Nat.le_refl _)).mono (Below.size hal)
  have HB_ : Hid (Below w.heap.size w (w5.alloc (.cells #[.slice g5 ae.length c5, .slice k5 PB.length d5] 27))) := HB.out.trans (Below.mono hal (Below.size HB.out))
  have HM_ : Hid ((w5.alloc (.cells #[.slice g5 ae.length c5, .slice k5 PB.length d5] 27)).cell? ⟨0, 0, none⟩ = some (.int .i64 m)) := m_below HM.out hal
  have HQ_ : Hid (Us (w5.alloc (.cells #[.slice g5 ae.length c5, .slice k5 PB.length d5] 27)) es bs ea ec ba bc) := us_below HQ.out hal
  have BQ_ : Hid ((w5.alloc (.cells #[.slice g5 ae.length c5, .slice k5 PB.length d5] 27)).heap[w1.heap.size]? = some (.cells #[.slice ea es.length ec, .slice ba bs.length bc] 27 (0, 0))) := bstay BQ.out hal (Array.getElem?_eq_some_iff.1 BQ.out).1
  have HL_ : Hid (Ls (w5.alloc (.cells #[.slice g5 ae.length c5, .slice k5 PB.length d5] 27)) QL la) := HL.out.below hal
  have HW_ : Hid (Ls (w5.alloc (.cells #[.slice g5 ae.length c5, .slice k5 PB.length d5] 27)) QL lb) := HW.out.below hal
  have HA_ : Hid (Us (w5.alloc (.cells #[.slice g5 ae.length c5, .slice k5 PB.length d5] 27)) ae ab aea aec aba abc) := us_below HA.out hal
  have BA_ : Hid ((w5.alloc (.cells #[.slice g5 ae.length c5, .slice k5 PB.length d5] 27)).heap[w4.heap.size]? = some (.cells #[.slice aea ae.length aec, .slice aba ab.length abc] 27 (0, 0))) := bstay BA.out hal (Array.getElem?_eq_some_iff.1 BA.out).1
  have HBd_ : Hid (Rr (w5.alloc (.cells #[.slice g5 ae.length c5, .slice k5 PB.length d5] 27)) ae PB g5 c5 k5 d5) := HBd.out.below hal
  clear HC HB HM HQ BQ HL HW HA BA HBd
  have HC := HC_
  have HB := HB_
  have HM := HM_
  have HQ := HQ_
  have BQ := BQ_
  have HL := HL_
  have HW := HW_
  have HA := HA_
  have BA := BA_
  have HBd := HBd_
  clear HC_ HB_ HM_ HQ_ BQ_ HL_ HW_ HA_ BA_ HBd_
  have BB : Hid ((w5.alloc (.cells #[.slice g5 ae.length c5, .slice k5 PB.length d5] 27)).heap[w5.heap.size]? = some (.cells #[.slice g5 ae.length c5, .slice k5 PB.length d5] 27 (0, 0))) := bnew w5 _ _
  clear hal
  have x0 : (w5.alloc (.cells #[.slice g5 ae.length c5, .slice k5 PB.length d5] 27)).cell? ⟨w4.heap.size, 0, none⟩ = some (.slice aea ae.length aec) := bcell BA.out rfl
  have x1 : (w5.alloc (.cells #[.slice g5 ae.length c5, .slice k5 PB.length d5] 27)).cell? ⟨w4.heap.size, 1, none⟩ = some (.slice aba ab.length abc) := bcell BA.out rfl
  have h6 := h6' _ HA.out
  clear h6'
  go_wp2_with (go_at_call 10; fail)
  refine h6.mono ?_
  rintro e w6 ⟨g6, c6, k6, d6, rfl, hi6, hb6⟩
  have HC_ : Hid (dw.Code w6 w6.heap.size a0 len0) := (HC.out.below hb6 (Nat.le_refl _)).mono (Below.size hb6)
  have HB_ : Hid (Below w.heap.size w w6) := HB.out.trans (Below.mono hb6 (Below.size HB.out))
  have HM_ : Hid (w6.cell? ⟨0, 0, none⟩ = some (.int .i64 m)) := m_below HM.out hb6
  have HQ_ : Hid (Us w6 es bs ea ec ba bc) := us_below HQ.out hb6
  have BQ_ : Hid (w6.heap[w1.heap.size]? = some (.cells #[.slice ea es.length ec, .slice ba bs.length bc] 27 (0, 0))) := bstay BQ.out hb6 (Array.getElem?_eq_some_iff.1 BQ.out).1
  have HL_ : Hid (Ls w6 QL la) := HL.out.below hb6
  have HW_ : Hid (Ls w6 QL lb) := HW.out.below hb6
  have HA_ : Hid (Us w6 ae ab aea aec aba abc) := us_below HA.out hb6
  have BA_ : Hid (w6.heap[w4.heap.size]? = some (.cells #[.slice aea ae.length aec, .slice aba ab.length abc] 27 (0, 0))) := bstay BA.out hb6 (Array.getElem?_eq_some_iff.1 BA.out).1
  have HBd_ : Hid (Rr w6 ae PB g5 c5 k5 d5) := HBd.out.below hb6
  have BB_ : Hid (w6.heap[w5.heap.size]? = some (.cells #[.slice g5 ae.length c5, .slice k5 PB.length d5] 27 (0, 0))) := bstay BB.out hb6 (Array.getElem?_eq_some_iff.1 BB.out).1
  clear HC HB HM HQ BQ HL HW HA BA HBd BB
  have HC := HC_
  have HB := HB_
  have HM := HM_
  have HQ := HQ_
  have BQ := BQ_
  have HL := HL_
  have HW := HW_
  have HA := HA_
  have BA := BA_
  have HBd := HBd_
  have BB := BB_
  clear HC_ HB_ HM_ HQ_ BQ_ HL_ HW_ HA_ BA_ HBd_ BB_
  clear h6 hb6 x0 x1
  have HCd : Hid (Rw w6 ae PB g6 k6) := hi6
  clear hi6
  have hal : Below w6.heap.size w6 (w6.alloc (.cells #[.slice g6 ae.length c6, .slice k6 PB.length d6] 27)) := (Below.refl _ _).alloc (Nat.le_refl _) _
  have HC_ : Hid (dw.Code (w6.alloc (.cells #[.slice g6 ae.length c6, .slice k6 PB.length d6] 27)) (w6.alloc (.cells #[.slice g6 ae.length c6, .slice k6 PB.length d6] 27)).heap.size a0 len0) := (HC.out.below hal (Nat.le_refl _)).mono (Below.size hal)
  have HB_ : Hid (Below w.heap.size w (w6.alloc (.cells #[.slice g6 ae.length c6, .slice k6 PB.length d6] 27))) := HB.out.trans (Below.mono hal (Below.size HB.out))
  have HM_ : Hid ((w6.alloc (.cells #[.slice g6 ae.length c6, .slice k6 PB.length d6] 27)).cell? ⟨0, 0, none⟩ = some (.int .i64 m)) := m_below HM.out hal
  have HQ_ : Hid (Us (w6.alloc (.cells #[.slice g6 ae.length c6, .slice k6 PB.length d6] 27)) es bs ea ec ba bc) := us_below HQ.out hal
  have BQ_ : Hid ((w6.alloc (.cells #[.slice g6 ae.length c6, .slice k6 PB.length d6] 27)).heap[w1.heap.size]? = some (.cells #[.slice ea es.length ec, .slice ba bs.length bc] 27 (0, 0))) := bstay BQ.out hal (Array.getElem?_eq_some_iff.1 BQ.out).1
  have HL_ : Hid (Ls (w6.alloc (.cells #[.slice g6 ae.length c6, .slice k6 PB.length d6] 27)) QL la) := HL.out.below hal
  have HW_ : Hid (Ls (w6.alloc (.cells #[.slice g6 ae.length c6, .slice k6 PB.length d6] 27)) QL lb) := HW.out.below hal
  have HA_ : Hid (Us (w6.alloc (.cells #[.slice g6 ae.length c6, .slice k6 PB.length d6] 27)) ae ab aea aec aba abc) := us_below HA.out hal
  have BA_ : Hid ((w6.alloc (.cells #[.slice g6 ae.length c6, .slice k6 PB.length d6] 27)).heap[w4.heap.size]? = some (.cells #[.slice aea ae.length aec, .slice aba ab.length abc] 27 (0, 0))) := bstay BA.out hal (Array.getElem?_eq_some_iff.1 BA.out).1
  have HBd_ : Hid (Rr (w6.alloc (.cells #[.slice g6 ae.length c6, .slice k6 PB.length d6] 27)) ae PB g5 c5 k5 d5) := HBd.out.below hal
  have BB_ : Hid ((w6.alloc (.cells #[.slice g6 ae.length c6, .slice k6 PB.length d6] 27)).heap[w5.heap.size]? = some (.cells #[.slice g5 ae.length c5, .slice k5 PB.length d5] 27 (0, 0))) := bstay BB.out hal (Array.getElem?_eq_some_iff.1 BB.out).1
  have HCd_ : Hid (Rw (w6.alloc (.cells #[.slice g6 ae.length c6, .slice k6 PB.length d6] 27)) ae PB g6 k6) := HCd.out.below hal
  clear HC HB HM HQ BQ HL HW HA BA HBd BB HCd
  have HC := HC_
  have HB := HB_
  have HM := HM_
  have HQ := HQ_
  have BQ := BQ_
  have HL := HL_
  have HW := HW_
  have HA := HA_
  have BA := BA_
  have HBd := HBd_
  have BB := BB_
  have HCd := HCd_
  clear HC_ HB_ HM_ HQ_ BQ_ HL_ HW_ HA_ BA_ HBd_ BB_ HCd_
  have BC : Hid ((w6.alloc (.cells #[.slice g6 ae.length c6, .slice k6 PB.length d6] 27)).heap[w6.heap.size]? = some (.cells #[.slice g6 ae.length c6, .slice k6 PB.length d6] 27 (0, 0))) := bnew w6 _ _
  clear hal
  have h7 := d_decl a0 len0 cap0 _ hlen HC.out
  go_wp2_with (go_at_call 11; fail)
  refine h7.mono ?_
  rintro e w7 ⟨dl, dm, dla, dlc, dma, dmc, nm0, kd0, rfl, hsm7, hdr7, hdn, hb7⟩
  have HC_ : Hid (dw.Code w7 w7.heap.size a0 len0) := (HC.out.below hb7 (Nat.le_refl _)).mono (Below.size hb7)
  have HB_ : Hid (Below w.heap.size w w7) := HB.out.trans (Below.mono hb7 (Below.size HB.out))
  have HM_ : Hid (w7.cell? ⟨0, 0, none⟩ = some (.int .i64 m)) := m_below HM.out hb7
  have HQ_ : Hid (Us w7 es bs ea ec ba bc) := us_below HQ.out hb7
  have BQ_ : Hid (w7.heap[w1.heap.size]? = some (.cells #[.slice ea es.length ec, .slice ba bs.length bc] 27 (0, 0))) := bstay BQ.out hb7 (Array.getElem?_eq_some_iff.1 BQ.out).1
  have HL_ : Hid (Ls w7 QL la) := HL.out.below hb7
  have HW_ : Hid (Ls w7 QL lb) := HW.out.below hb7
  have HA_ : Hid (Us w7 ae ab aea aec aba abc) := us_below HA.out hb7
  have BA_ : Hid (w7.heap[w4.heap.size]? = some (.cells #[.slice aea ae.length aec, .slice aba ab.length abc] 27 (0, 0))) := bstay BA.out hb7 (Array.getElem?_eq_some_iff.1 BA.out).1
  have HBd_ : Hid (Rr w7 ae PB g5 c5 k5 d5) := HBd.out.below hb7
  have BB_ : Hid (w7.heap[w5.heap.size]? = some (.cells #[.slice g5 ae.length c5, .slice k5 PB.length d5] 27 (0, 0))) := bstay BB.out hb7 (Array.getElem?_eq_some_iff.1 BB.out).1
  have HCd_ : Hid (Rw w7 ae PB g6 k6) := HCd.out.below hb7
  have BC_ : Hid (w7.heap[w6.heap.size]? = some (.cells #[.slice g6 ae.length c6, .slice k6 PB.length d6] 27 (0, 0))) := bstay BC.out hb7 (Array.getElem?_eq_some_iff.1 BC.out).1
  clear HC HB HM HQ BQ HL HW HA BA HBd BB HCd BC
  have HC := HC_
  have HB := HB_
  have HM := HM_
  have HQ := HQ_
  have BQ := BQ_
  have HL := HL_
  have HW := HW_
  have HA := HA_
  have BA := BA_
  have HBd := HBd_
  have BB := BB_
  have HCd := HCd_
  have BC := BC_
  clear HC_ HB_ HM_ HQ_ BQ_ HL_ HW_ HA_ BA_ HBd_ BB_ HCd_ BC_
  clear h7 hb7 
  have HD : Hid (Us w7 dl dm dla dlc dma dmc) := hdr7
  have HSMD : Hid (Sm 200 dl dm) := hsm7
  have HDN : Hid (nm0.size ≤ 31) := hdn
  clear hsm7 hdr7 hdn HC
  have hal : Below w7.heap.size w7 (w7.alloc (.cells #[.slice dla dl.length dlc, .slice dma dm.length dmc] 27)) := (Below.refl _ _).alloc (Nat.le_refl _) _
  have HB_ : Hid (Below w.heap.size w (w7.alloc (.cells #[.slice dla dl.length dlc, .slice dma dm.length dmc] 27))) := HB.out.trans (Below.mono hal (Below.size HB.out))
  have HM_ : Hid ((w7.alloc (.cells #[.slice dla dl.length dlc, .slice dma dm.length dmc] 27)).cell? ⟨0, 0, none⟩ = some (.int .i64 m)) := m_below HM.out hal
  have HQ_ : Hid (Us (w7.alloc (.cells #[.slice dla dl.length dlc, .slice dma dm.length dmc] 27)) es bs ea ec ba bc) := us_below HQ.out hal
  have BQ_ : Hid ((w7.alloc (.cells #[.slice dla dl.length dlc, .slice dma dm.length dmc] 27)).heap[w1.heap.size]? = some (.cells #[.slice ea es.length ec, .slice ba bs.length bc] 27 (0, 0))) := bstay BQ.out hal (Array.getElem?_eq_some_iff.1 BQ.out).1
  have HL_ : Hid (Ls (w7.alloc (.cells #[.slice dla dl.length dlc, .slice dma dm.length dmc] 27)) QL la) := HL.out.below hal
  have HW_ : Hid (Ls (w7.alloc (.cells #[.slice dla dl.length dlc, .slice dma dm.length dmc] 27)) QL lb) := HW.out.below hal
  have HA_ : Hid (Us (w7.alloc (.cells #[.slice dla dl.length dlc, .slice dma dm.length dmc] 27)) ae ab aea aec aba abc) := us_below HA.out hal
  have BA_ : Hid ((w7.alloc (.cells #[.slice dla dl.length dlc, .slice dma dm.length dmc] 27)).heap[w4.heap.size]? = some (.cells #[.slice aea ae.length aec, .slice aba ab.length abc] 27 (0, 0))) := bstay BA.out hal (Array.getElem?_eq_some_iff.1 BA.out).1
  have HBd_ : Hid (Rr (w7.alloc (.cells #[.slice dla dl.length dlc, .slice dma dm.length dmc] 27)) ae PB g5 c5 k5 d5) := HBd.out.below hal
  have BB_ : Hid ((w7.alloc (.cells #[.slice dla dl.length dlc, .slice dma dm.length dmc] 27)).heap[w5.heap.size]? = some (.cells #[.slice g5 ae.length c5, .slice k5 PB.length d5] 27 (0, 0))) := bstay BB.out hal (Array.getElem?_eq_some_iff.1 BB.out).1
  have HCd_ : Hid (Rw (w7.alloc (.cells #[.slice dla dl.length dlc, .slice dma dm.length dmc] 27)) ae PB g6 k6) := HCd.out.below hal
  have BC_ : Hid ((w7.alloc (.cells #[.slice dla dl.length dlc, .slice dma dm.length dmc] 27)).heap[w6.heap.size]? = some (.cells #[.slice g6 ae.length c6, .slice k6 PB.length d6] 27 (0, 0))) := bstay BC.out hal (Array.getElem?_eq_some_iff.1 BC.out).1
  have HD_ : Hid (Us (w7.alloc (.cells #[.slice dla dl.length dlc, .slice dma dm.length dmc] 27)) dl dm dla dlc dma dmc) := us_below HD.out hal
  clear HB HM HQ BQ HL HW HA BA HBd BB HCd BC HD
  have HB := HB_
  have HM := HM_
  have HQ := HQ_
  have BQ := BQ_
  have HL := HL_
  have HW := HW_
  have HA := HA_
  have BA := BA_
  have HBd := HBd_
  have BB := BB_
  have HCd := HCd_
  have BC := BC_
  have HD := HD_
  clear HB_ HM_ HQ_ BQ_ HL_ HW_ HA_ BA_ HBd_ BB_ HCd_ BC_ HD_
  have BD : Hid ((w7.alloc (.cells #[.slice dla dl.length dlc, .slice dma dm.length dmc] 27)).heap[w7.heap.size]? = some (.cells #[.slice dla dl.length dlc, .slice dma dm.length dmc] 27 (0, 0))) := bnew w7 _ _
  clear hal
  have h8 := t_decl (us_rr HD.out) HSMD.out (by omega) nm0 kd0 (by have := HDN.out; omega)
  have h9' := fun (W : World) (h : Us W dl dm dla dlc dma dmc) => s_decl h HSMD.out (by omega) nm0 kd0 (by have := HDN.out; omega)
  have hsf := HSMD.out.decl (nn := nm0) (kd := kd0) (by have := HDN.out; omega)
  have hf1 := @frp.decl_all dl dm nm0 kd0
  obtain ⟨FL, hFL⟩ : ∃ y, dp.ansD dl dm nm0 kd0 = y := ⟨_, rfl⟩
  obtain ⟨md, hmd⟩ : ∃ y, dp.retD dl dm nm0 kd0 = y := ⟨_, rfl⟩
  simp only [hFL, hmd] at h8 h9' hsf hf1
  have HSMF : Hid (Sm 201 FL dm) := hsf
  have HMD : Hid (md = true → OkR FL dm ∧ FL.length ≤ dl.length + 1) := hf1
  clear hFL hmd hsf hf1
  have x0 : (w7.alloc (.cells #[.slice dla dl.length dlc, .slice dma dm.length dmc] 27)).cell? ⟨w7.heap.size, 0, none⟩ = some (.slice dla dl.length dlc) := bcell BD.out rfl
  have x1 : (w7.alloc (.cells #[.slice dla dl.length dlc, .slice dma dm.length dmc] 27)).cell? ⟨w7.heap.size, 1, none⟩ = some (.slice dma dm.length dmc) := bcell BD.out rfl
  go_wp2_with (go_at_call 12; fail)
  refine h8.mono ?_
  rintro e w8 ⟨g8, c8, k8, d8, rfl, hi8, hb8⟩
  have HB_ : Hid (Below w.heap.size w w8) := HB.out.trans (Below.mono hb8 (Below.size HB.out))
  have HM_ : Hid (w8.cell? ⟨0, 0, none⟩ = some (.int .i64 m)) := m_below HM.out hb8
  have HQ_ : Hid (Us w8 es bs ea ec ba bc) := us_below HQ.out hb8
  have BQ_ : Hid (w8.heap[w1.heap.size]? = some (.cells #[.slice ea es.length ec, .slice ba bs.length bc] 27 (0, 0))) := bstay BQ.out hb8 (Array.getElem?_eq_some_iff.1 BQ.out).1
  have HL_ : Hid (Ls w8 QL la) := HL.out.below hb8
  have HW_ : Hid (Ls w8 QL lb) := HW.out.below hb8
  have HA_ : Hid (Us w8 ae ab aea aec aba abc) := us_below HA.out hb8
  have BA_ : Hid (w8.heap[w4.heap.size]? = some (.cells #[.slice aea ae.length aec, .slice aba ab.length abc] 27 (0, 0))) := bstay BA.out hb8 (Array.getElem?_eq_some_iff.1 BA.out).1
  have HBd_ : Hid (Rr w8 ae PB g5 c5 k5 d5) := HBd.out.below hb8
  have BB_ : Hid (w8.heap[w5.heap.size]? = some (.cells #[.slice g5 ae.length c5, .slice k5 PB.length d5] 27 (0, 0))) := bstay BB.out hb8 (Array.getElem?_eq_some_iff.1 BB.out).1
  have HCd_ : Hid (Rw w8 ae PB g6 k6) := HCd.out.below hb8
  have BC_ : Hid (w8.heap[w6.heap.size]? = some (.cells #[.slice g6 ae.length c6, .slice k6 PB.length d6] 27 (0, 0))) := bstay BC.out hb8 (Array.getElem?_eq_some_iff.1 BC.out).1
  have HD_ : Hid (Us w8 dl dm dla dlc dma dmc) := us_below HD.out hb8
  have BD_ : Hid (w8.heap[w7.heap.size]? = some (.cells #[.slice dla dl.length dlc, .slice dma dm.length dmc] 27 (0, 0))) := bstay BD.out hb8 (Array.getElem?_eq_some_iff.1 BD.out).1
  clear HB HM HQ BQ HL HW HA BA HBd BB HCd BC HD BD
  have HB := HB_
  have HM := HM_
  have HQ := HQ_
  have BQ := BQ_
  have HL := HL_
  have HW := HW_
  have HA := HA_
  have BA := BA_
  have HBd := HBd_
  have BB := BB_
  have HCd := HCd_
  have BC := BC_
  have HD := HD_
  have BD := BD_
  clear HB_ HM_ HQ_ BQ_ HL_ HW_ HA_ BA_ HBd_ BB_ HCd_ BC_ HD_ BD_
  clear h8 hb8 x0 x1
  have HF : Hid (Rr w8 FL dm g8 c8 k8 d8) := hi8
  clear hi8
  have hal : Below w8.heap.size w8 (w8.alloc (.cells #[.slice g8 FL.length c8, .slice k8 dm.length d8] 27)) := (Below.refl _ _).alloc (Nat.le_refl _) _
  have HB_ : Hid (Below w.heap.size w (w8.alloc (.cells #[.slice g8 FL.length c8, .slice k8 dm.length d8] 27))) := HB.out.trans (Below.mono hal (Below.size HB.out))
  have HM_ : Hid ((w8.alloc (.cells #[.slice g8 FL.length c8, .slice k8 dm.length d8] 27)).cell? ⟨0, 0, none⟩ = some (.int .i64 m)) := m_below HM.out hal
  have HQ_ : Hid (Us (w8.alloc (.cells #[.slice g8 FL.length c8, .slice k8 dm.length d8] 27)) es bs ea ec ba bc) := us_below HQ.out hal
  have BQ_ : Hid ((w8.alloc (.cells #[.slice g8 FL.length c8, .slice k8 dm.length d8] 27)).heap[w1.heap.size]? = some (.cells #[.slice ea es.length ec, .slice ba bs.length bc] 27 (0, 0))) := bstay BQ.out hal (Array.getElem?_eq_some_iff.1 BQ.out).1
  have HL_ : Hid (Ls (w8.alloc (.cells #[.slice g8 FL.length c8, .slice k8 dm.length d8] 27)) QL la) := HL.out.below hal
  have HW_ : Hid (Ls (w8.alloc (.cells #[.slice g8 FL.length c8, .slice k8 dm.length d8] 27)) QL lb) := HW.out.below hal
  have HA_ : Hid (Us (w8.alloc (.cells #[.slice g8 FL.length c8, .slice k8 dm.length d8] 27)) ae ab aea aec aba abc) := us_below HA.out hal
  have BA_ : Hid ((w8.alloc (.cells #[.slice g8 FL.length c8, .slice k8 dm.length d8] 27)).heap[w4.heap.size]? = some (.cells #[.slice aea ae.length aec, .slice aba ab.length abc] 27 (0, 0))) := bstay BA.out hal (Array.getElem?_eq_some_iff.1 BA.out).1
  have HBd_ : Hid (Rr (w8.alloc (.cells #[.slice g8 FL.length c8, .slice k8 dm.length d8] 27)) ae PB g5 c5 k5 d5) := HBd.out.below hal
  have BB_ : Hid ((w8.alloc (.cells #[.slice g8 FL.length c8, .slice k8 dm.length d8] 27)).heap[w5.heap.size]? = some (.cells #[.slice g5 ae.length c5, .slice k5 PB.length d5] 27 (0, 0))) := bstay BB.out hal (Array.getElem?_eq_some_iff.1 BB.out).1
  have HCd_ : Hid (Rw (w8.alloc (.cells #[.slice g8 FL.length c8, .slice k8 dm.length d8] 27)) ae PB g6 k6) := HCd.out.below hal
  have BC_ : Hid ((w8.alloc (.cells #[.slice g8 FL.length c8, .slice k8 dm.length d8] 27)).heap[w6.heap.size]? = some (.cells #[.slice g6 ae.length c6, .slice k6 PB.length d6] 27 (0, 0))) := bstay BC.out hal (Array.getElem?_eq_some_iff.1 BC.out).1
  have HD_ : Hid (Us (w8.alloc (.cells #[.slice g8 FL.length c8, .slice k8 dm.length d8] 27)) dl dm dla dlc dma dmc) := us_below HD.out hal
  have BD_ : Hid ((w8.alloc (.cells #[.slice g8 FL.length c8, .slice k8 dm.length d8] 27)).heap[w7.heap.size]? = some (.cells #[.slice dla dl.length dlc, .slice dma dm.length dmc] 27 (0, 0))) := bstay BD.out hal (Array.getElem?_eq_some_iff.1 BD.out).1
  have HF_ : Hid (Rr (w8.alloc (.cells #[.slice g8 FL.length c8, .slice k8 dm.length d8] 27)) FL dm g8 c8 k8 d8) := HF.out.below hal
  clear HB HM HQ BQ HL HW HA BA HBd BB HCd BC HD BD HF
  have HB := HB_
  have HM := HM_
  have HQ := HQ_
  have BQ := BQ_
  have HL := HL_
  have HW := HW_
  have HA := HA_
  have BA := BA_
  have HBd := HBd_
  have BB := BB_
  have HCd := HCd_
  have BC := BC_
  have HD := HD_
  have BD := BD_
  have HF := HF_
  clear HB_ HM_ HQ_ BQ_ HL_ HW_ HA_ BA_ HBd_ BB_ HCd_ BC_ HD_ BD_ HF_
  have BF : Hid ((w8.alloc (.cells #[.slice g8 FL.length c8, .slice k8 dm.length d8] 27)).heap[w8.heap.size]? = some (.cells #[.slice g8 FL.length c8, .slice k8 dm.length d8] 27 (0, 0))) := bnew w8 _ _
  clear hal
  have x0 : (w8.alloc (.cells #[.slice g8 FL.length c8, .slice k8 dm.length d8] 27)).cell? ⟨w7.heap.size, 0, none⟩ = some (.slice dla dl.length dlc) := bcell BD.out rfl
  have x1 : (w8.alloc (.cells #[.slice g8 FL.length c8, .slice k8 dm.length d8] 27)).cell? ⟨w7.heap.size, 1, none⟩ = some (.slice dma dm.length dmc) := bcell BD.out rfl
  have h9 := h9' _ HD.out
  clear h9'
  go_wp2_with (go_at_call 13; fail)
  refine h9.mono ?_
  rintro e w9 ⟨g9, c9, k9, d9, rfl, hi9, hb9⟩
  have HB_ : Hid (Below w.heap.size w w9) := HB.out.trans (Below.mono hb9 (Below.size HB.out))
  have HM_ : Hid (w9.cell? ⟨0, 0, none⟩ = some (.int .i64 m)) := m_below HM.out hb9
  have HQ_ : Hid (Us w9 es bs ea ec ba bc) := us_below HQ.out hb9
  have BQ_ : Hid (w9.heap[w1.heap.size]? = some (.cells #[.slice ea es.length ec, .slice ba bs.length bc] 27 (0, 0))) := bstay BQ.out hb9 (Array.getElem?_eq_some_iff.1 BQ.out).1
  have HL_ : Hid (Ls w9 QL la) := HL.out.below hb9
  have HW_ : Hid (Ls w9 QL lb) := HW.out.below hb9
  have HA_ : Hid (Us w9 ae ab aea aec aba abc) := us_below HA.out hb9
  have BA_ : Hid (w9.heap[w4.heap.size]? = some (.cells #[.slice aea ae.length aec, .slice aba ab.length abc] 27 (0, 0))) := bstay BA.out hb9 (Array.getElem?_eq_some_iff.1 BA.out).1
  have HBd_ : Hid (Rr w9 ae PB g5 c5 k5 d5) := HBd.out.below hb9
  have BB_ : Hid (w9.heap[w5.heap.size]? = some (.cells #[.slice g5 ae.length c5, .slice k5 PB.length d5] 27 (0, 0))) := bstay BB.out hb9 (Array.getElem?_eq_some_iff.1 BB.out).1
  have HCd_ : Hid (Rw w9 ae PB g6 k6) := HCd.out.below hb9
  have BC_ : Hid (w9.heap[w6.heap.size]? = some (.cells #[.slice g6 ae.length c6, .slice k6 PB.length d6] 27 (0, 0))) := bstay BC.out hb9 (Array.getElem?_eq_some_iff.1 BC.out).1
  have HD_ : Hid (Us w9 dl dm dla dlc dma dmc) := us_below HD.out hb9
  have BD_ : Hid (w9.heap[w7.heap.size]? = some (.cells #[.slice dla dl.length dlc, .slice dma dm.length dmc] 27 (0, 0))) := bstay BD.out hb9 (Array.getElem?_eq_some_iff.1 BD.out).1
  have HF_ : Hid (Rr w9 FL dm g8 c8 k8 d8) := HF.out.below hb9
  have BF_ : Hid (w9.heap[w8.heap.size]? = some (.cells #[.slice g8 FL.length c8, .slice k8 dm.length d8] 27 (0, 0))) := bstay BF.out hb9 (Array.getElem?_eq_some_iff.1 BF.out).1
  clear HB HM HQ BQ HL HW HA BA HBd BB HCd BC HD BD HF BF
  have HB := HB_
  have HM := HM_
  have HQ := HQ_
  have BQ := BQ_
  have HL := HL_
  have HW := HW_
  have HA := HA_
  have BA := BA_
  have HBd := HBd_
  have BB := BB_
  have HCd := HCd_
  have BC := BC_
  have HD := HD_
  have BD := BD_
  have HF := HF_
  have BF := BF_
  clear HB_ HM_ HQ_ BQ_ HL_ HW_ HA_ BA_ HBd_ BB_ HCd_ BC_ HD_ BD_ HF_ BF_
  clear h9 hb9 x0 x1
  have HG : Hid (Rw w9 FL dm g9 k9) := hi9
  clear hi9
  have hal : Below w9.heap.size w9 (w9.alloc (.cells #[.slice g9 FL.length c9, .slice k9 dm.length d9] 27)) := (Below.refl _ _).alloc (Nat.le_refl _) _
  have HB_ : Hid (Below w.heap.size w (w9.alloc (.cells #[.slice g9 FL.length c9, .slice k9 dm.length d9] 27))) := HB.out.trans (Below.mono hal (Below.size HB.out))
  have HM_ : Hid ((w9.alloc (.cells #[.slice g9 FL.length c9, .slice k9 dm.length d9] 27)).cell? ⟨0, 0, none⟩ = some (.int .i64 m)) := m_below HM.out hal
  have HQ_ : Hid (Us (w9.alloc (.cells #[.slice g9 FL.length c9, .slice k9 dm.length d9] 27)) es bs ea ec ba bc) := us_below HQ.out hal
  have BQ_ : Hid ((w9.alloc (.cells #[.slice g9 FL.length c9, .slice k9 dm.length d9] 27)).heap[w1.heap.size]? = some (.cells #[.slice ea es.length ec, .slice ba bs.length bc] 27 (0, 0))) := bstay BQ.out hal (Array.getElem?_eq_some_iff.1 BQ.out).1
  have HL_ : Hid (Ls (w9.alloc (.cells #[.slice g9 FL.length c9, .slice k9 dm.length d9] 27)) QL la) := HL.out.below hal
  have HW_ : Hid (Ls (w9.alloc (.cells #[.slice g9 FL.length c9, .slice k9 dm.length d9] 27)) QL lb) := HW.out.below hal
  have HA_ : Hid (Us (w9.alloc (.cells #[.slice g9 FL.length c9, .slice k9 dm.length d9] 27)) ae ab aea aec aba abc) := us_below HA.out hal
  have BA_ : Hid ((w9.alloc (.cells #[.slice g9 FL.length c9, .slice k9 dm.length d9] 27)).heap[w4.heap.size]? = some (.cells #[.slice aea ae.length aec, .slice aba ab.length abc] 27 (0, 0))) := bstay BA.out hal (Array.getElem?_eq_some_iff.1 BA.out).1
  have HBd_ : Hid (Rr (w9.alloc (.cells #[.slice g9 FL.length c9, .slice k9 dm.length d9] 27)) ae PB g5 c5 k5 d5) := HBd.out.below hal
  have BB_ : Hid ((w9.alloc (.cells #[.slice g9 FL.length c9, .slice k9 dm.length d9] 27)).heap[w5.heap.size]? = some (.cells #[.slice g5 ae.length c5, .slice k5 PB.length d5] 27 (0, 0))) := bstay BB.out hal (Array.getElem?_eq_some_iff.1 BB.out).1
  have HCd_ : Hid (Rw (w9.alloc (.cells #[.slice g9 FL.length c9, .slice k9 dm.length d9] 27)) ae PB g6 k6) := HCd.out.below hal
  have BC_ : Hid ((w9.alloc (.cells #[.slice g9 FL.length c9, .slice k9 dm.length d9] 27)).heap[w6.heap.size]? = some (.cells #[.slice g6 ae.length c6, .slice k6 PB.length d6] 27 (0, 0))) := bstay BC.out hal (Array.getElem?_eq_some_iff.1 BC.out).1
  have HD_ : Hid (Us (w9.alloc (.cells #[.slice g9 FL.length c9, .slice k9 dm.length d9] 27)) dl dm dla dlc dma dmc) := us_below HD.out hal
  have BD_ : Hid ((w9.alloc (.cells #[.slice g9 FL.length c9, .slice k9 dm.length d9] 27)).heap[w7.heap.size]? = some (.cells #[.slice dla dl.length dlc, .slice dma dm.length dmc] 27 (0, 0))) := bstay BD.out hal (Array.getElem?_eq_some_iff.1 BD.out).1
  have HF_ : Hid (Rr (w9.alloc (.cells #[.slice g9 FL.length c9, .slice k9 dm.length d9] 27)) FL dm g8 c8 k8 d8) := HF.out.below hal
  have BF_ : Hid ((w9.alloc (.cells #[.slice g9 FL.length c9, .slice k9 dm.length d9] 27)).heap[w8.heap.size]? = some (.cells #[.slice g8 FL.length c8, .slice k8 dm.length d8] 27 (0, 0))) := bstay BF.out hal (Array.getElem?_eq_some_iff.1 BF.out).1
  have HG_ : Hid (Rw (w9.alloc (.cells #[.slice g9 FL.length c9, .slice k9 dm.length d9] 27)) FL dm g9 k9) := HG.out.below hal
  clear HB HM HQ BQ HL HW HA BA HBd BB HCd BC HD BD HF BF HG
  have HB := HB_
  have HM := HM_
  have HQ := HQ_
  have BQ := BQ_
  have HL := HL_
  have HW := HW_
  have HA := HA_
  have BA := BA_
  have HBd := HBd_
  have BB := BB_
  have HCd := HCd_
  have BC := BC_
  have HD := HD_
  have BD := BD_
  have HF := HF_
  have BF := BF_
  have HG := HG_
  clear HB_ HM_ HQ_ BQ_ HL_ HW_ HA_ BA_ HBd_ BB_ HCd_ BC_ HD_ BD_ HF_ BF_ HG_
  have BG : Hid ((w9.alloc (.cells #[.slice g9 FL.length c9, .slice k9 dm.length d9] 27)).heap[w9.heap.size]? = some (.cells #[.slice g9 FL.length c9, .slice k9 dm.length d9] 27 (0, 0))) := bnew w9 _ _
  clear hal
  go_wp2
  obtain ⟨w10, hw10⟩ : ∃ y, (w9.alloc (.cells #[.slice g9 FL.length c9, .slice k9 dm.length d9] 27)) = y := ⟨_, rfl⟩
  rw [hw10] at HB HM HQ BQ HL HW HA BA HBd BB HCd BC HD BD HF BF HG BG ⊢
  clear hw10
  obtain ⟨ob, hob⟩ : ∃ y, rta.okr es bs = y := ⟨_, rfl⟩
  have x0 : ∀ N : qi.Cls w10, N.x.cell? ⟨w1.heap.size, 0, none⟩ = some (.slice ea es.length ec) := fun N => bcell (bstay BQ.out N.h (Array.getElem?_eq_some_iff.1 BQ.out).1) rfl
  have x1 : ∀ N : qi.Cls w10, N.x.cell? ⟨w1.heap.size, 1, none⟩ = some (.slice ba bs.length bc) := fun N => bcell (bstay BQ.out N.h (Array.getElem?_eq_some_iff.1 BQ.out).1) rfl
  have y0 : ∀ N : qi.Cls w10, N.x.cell? ⟨w5.heap.size, 0, none⟩ = some (.slice g5 ae.length c5) := fun N => bcell (bstay BB.out N.h (Array.getElem?_eq_some_iff.1 BB.out).1) rfl
  have y1 : ∀ N : qi.Cls w10, N.x.cell? ⟨w5.heap.size, 1, none⟩ = some (.slice k5 PB.length d5) := fun N => bcell (bstay BB.out N.h (Array.getElem?_eq_some_iff.1 BB.out).1) rfl
  have z0 : ∀ N : qi.Cls w10, N.x.cell? ⟨w6.heap.size, 0, none⟩ = some (.slice g6 ae.length c6) := fun N => bcell (bstay BC.out N.h (Array.getElem?_eq_some_iff.1 BC.out).1) rfl
  have z1 : ∀ N : qi.Cls w10, N.x.cell? ⟨w6.heap.size, 1, none⟩ = some (.slice k6 PB.length d6) := fun N => bcell (bstay BC.out N.h (Array.getElem?_eq_some_iff.1 BC.out).1) rfl
  have u0 : ∀ N : qi.Cls w10, N.x.cell? ⟨w8.heap.size, 0, none⟩ = some (.slice g8 FL.length c8) := fun N => bcell (bstay BF.out N.h (Array.getElem?_eq_some_iff.1 BF.out).1) rfl
  have u1 : ∀ N : qi.Cls w10, N.x.cell? ⟨w8.heap.size, 1, none⟩ = some (.slice k8 dm.length d8) := fun N => bcell (bstay BF.out N.h (Array.getElem?_eq_some_iff.1 BF.out).1) rfl
  have r0 : ∀ N : qi.Cls w10, N.x.cell? ⟨w9.heap.size, 0, none⟩ = some (.slice g9 FL.length c9) := fun N => bcell (bstay BG.out N.h (Array.getElem?_eq_some_iff.1 BG.out).1) rfl
  have r1 : ∀ N : qi.Cls w10, N.x.cell? ⟨w9.heap.size, 1, none⟩ = some (.slice k9 dm.length d9) := fun N => bcell (bstay BG.out N.h (Array.getElem?_eq_some_iff.1 BG.out).1) rfl
  have k1 : ∀ N : qi.Cls w10, Calls Tryz.prog 14 #[.slice la QL.length lc, .slice lb QL.length ld] N.x fun e w' => e = .returned (.bool true) ∧ qi.T w10 w' := fun N => (p_texts (HL.out.below N.h) (HW.out.below N.h) (by have := HQL.out.2; omega)).mono fun e w' ⟨h1, h2⟩ => ⟨h1, Below.trans N.h (Below.mono h2 (Below.size N.h))⟩
  have k2 : ∀ N : qi.Cls w10, Calls Tryz.prog 15 #[.agg #[.slice g5 ae.length c5, .slice k5 PB.length d5], .agg #[.slice g6 ae.length c6, .slice k6 PB.length d6]] N.x fun e w' => e = .returned (.bool true) ∧ qi.T w10 w' := fun N => (p_same (HBd.out.below N.h).rw (HCd.out.below N.h) HSMB.out (by omega)).mono fun e w' ⟨h1, h2⟩ => ⟨h1, Below.trans N.h (Below.mono h2 (Below.size N.h))⟩
  have k3 : ∀ N : qi.Cls w10, Calls Tryz.prog 15 #[.agg #[.slice g8 FL.length c8, .slice k8 dm.length d8], .agg #[.slice g9 FL.length c9, .slice k9 dm.length d9]] N.x fun e w' => e = .returned (.bool true) ∧ qi.T w10 w' := fun N => (p_same (HF.out.below N.h).rw (HG.out.below N.h) HSMF.out (by omega)).mono fun e w' ⟨h1, h2⟩ => ⟨h1, Below.trans N.h (Below.mono h2 (Below.size N.h))⟩
  have k4' : ∀ N : qi.Cls w10, Calls Tryz.prog 16 #[.agg #[.slice ea es.length ec, .slice ba bs.length bc]] N.x fun e w' => e = .returned (.bool ob) ∧ Below N.x.heap.size N.x w' := fun N => by rw [← hob]; exact p_ok (us_rr (us_below HQ.out N.h)) HSM.out (by omega)
  have k4 : ∀ N : qi.Cls w10, Calls Tryz.prog 16 #[.agg #[.slice ea es.length ec, .slice ba bs.length bc]] N.x fun e w' => e = .returned (.bool ob) ∧ qi.T w10 w' := fun N => (k4' N).mono fun e w' ⟨h1, h2⟩ => ⟨h1, Below.trans N.h (Below.mono h2 (Below.size N.h))⟩
  clear k4'
  have k5' : ∀ N : qi.Cls w10, Calls Tryz.prog 17 #[.agg #[.slice ea es.length ec, .slice ba bs.length bc]] N.x fun e w' => e = .returned (.bool ob) ∧ Below N.x.heap.size N.x w' := fun N => by rw [← hob]; exact s_ok (us_rr (us_below HQ.out N.h)) HSM.out (by omega)
  have k5 : ∀ N : qi.Cls w10, Calls Tryz.prog 17 #[.agg #[.slice ea es.length ec, .slice ba bs.length bc]] N.x fun e w' => e = .returned (.bool ob) ∧ qi.T w10 w' := fun N => (k5' N).mono fun e w' ⟨h1, h2⟩ => ⟨h1, Below.trans N.h (Below.mono h2 (Below.size N.h))⟩
  clear k5'
  refine qi.region_in w10 (qi.T.refl w10) (by kernel_rfl) (by kernel_rfl) ?_
  repeat (go_big_quiet_step (first | (go_at_call 14; with_reducible refine (k1 _).mono ?_; rintro e wx ⟨rfl, hTx⟩; exact ⟨rfl, ⟨wx, hTx⟩, rfl⟩) | (go_at_call 15; with_reducible refine (k2 _).mono ?_; rintro e wx ⟨rfl, hTx⟩; exact ⟨rfl, ⟨wx, hTx⟩, rfl⟩) | (go_at_call 15; with_reducible refine (k3 _).mono ?_; rintro e wx ⟨rfl, hTx⟩; exact ⟨rfl, ⟨wx, hTx⟩, rfl⟩) | (go_at_call 16; with_reducible refine (k4 _).mono ?_; rintro e wx ⟨rfl, hTx⟩; exact ⟨rfl, ⟨wx, hTx⟩, rfl⟩) | (go_at_call 17; with_reducible refine (k5 _).mono ?_; rintro e wx ⟨rfl, hTx⟩; exact ⟨rfl, ⟨wx, hTx⟩, rfl⟩)))
  refine wpQuiet_nil ?_
  rintro _ ⟨N, rfl⟩
  have hN := N.h
  generalize N.x = v1 at hN ⊢
  clear N k1 k2 k3 k4 k5 hob x0 x1 y0 y1 z0 z1 u0 u1 r0 r1
  have hbN : Below w10.heap.size w10 v1 := hN
  have HB_ : Hid (Below w.heap.size w v1) := HB.out.trans (Below.mono hbN (Below.size HB.out))
  have HM_ : Hid (v1.cell? ⟨0, 0, none⟩ = some (.int .i64 m)) := m_below HM.out hbN
  have HQ_ : Hid (Us v1 es bs ea ec ba bc) := us_below HQ.out hbN
  have BQ_ : Hid (v1.heap[w1.heap.size]? = some (.cells #[.slice ea es.length ec, .slice ba bs.length bc] 27 (0, 0))) := bstay BQ.out hbN (Array.getElem?_eq_some_iff.1 BQ.out).1
  have HL_ : Hid (Ls v1 QL la) := HL.out.below hbN
  have HW_ : Hid (Ls v1 QL lb) := HW.out.below hbN
  have HA_ : Hid (Us v1 ae ab aea aec aba abc) := us_below HA.out hbN
  have BA_ : Hid (v1.heap[w4.heap.size]? = some (.cells #[.slice aea ae.length aec, .slice aba ab.length abc] 27 (0, 0))) := bstay BA.out hbN (Array.getElem?_eq_some_iff.1 BA.out).1
  have HBd_ : Hid (Rr v1 ae PB g5 c5 k5 d5) := HBd.out.below hbN
  have BB_ : Hid (v1.heap[w5.heap.size]? = some (.cells #[.slice g5 ae.length c5, .slice k5 PB.length d5] 27 (0, 0))) := bstay BB.out hbN (Array.getElem?_eq_some_iff.1 BB.out).1
  have HCd_ : Hid (Rw v1 ae PB g6 k6) := HCd.out.below hbN
  have BC_ : Hid (v1.heap[w6.heap.size]? = some (.cells #[.slice g6 ae.length c6, .slice k6 PB.length d6] 27 (0, 0))) := bstay BC.out hbN (Array.getElem?_eq_some_iff.1 BC.out).1
  have HD_ : Hid (Us v1 dl dm dla dlc dma dmc) := us_below HD.out hbN
  have BD_ : Hid (v1.heap[w7.heap.size]? = some (.cells #[.slice dla dl.length dlc, .slice dma dm.length dmc] 27 (0, 0))) := bstay BD.out hbN (Array.getElem?_eq_some_iff.1 BD.out).1
  have HF_ : Hid (Rr v1 FL dm g8 c8 k8 d8) := HF.out.below hbN
  have BF_ : Hid (v1.heap[w8.heap.size]? = some (.cells #[.slice g8 FL.length c8, .slice k8 dm.length d8] 27 (0, 0))) := bstay BF.out hbN (Array.getElem?_eq_some_iff.1 BF.out).1
  have HG_ : Hid (Rw v1 FL dm g9 k9) := HG.out.below hbN
  have BG_ : Hid (v1.heap[w9.heap.size]? = some (.cells #[.slice g9 FL.length c9, .slice k9 dm.length d9] 27 (0, 0))) := bstay BG.out hbN (Array.getElem?_eq_some_iff.1 BG.out).1
  clear HB HM HQ BQ HL HW HA BA HBd BB HCd BC HD BD HF BF HG BG
  have HB := HB_
  have HM := HM_
  have HQ := HQ_
  have BQ := BQ_
  have HL := HL_
  have HW := HW_
  have HA := HA_
  have BA := BA_
  have HBd := HBd_
  have BB := BB_
  have HCd := HCd_
  have BC := BC_
  have HD := HD_
  have BD := BD_
  have HF := HF_
  have BF := BF_
  have HG := HG_
  have BG := BG_
  clear HB_ HM_ HQ_ BQ_ HL_ HW_ HA_ BA_ HBd_ BB_ HCd_ BC_ HD_ BD_ HF_ BF_ HG_ BG_
  clear hN hbN
  clear HW BC HCd BG HG BQ HQ
  clear HSM
  go_wp2
  go_loopw [25] (fun x wr => ∃ k : Nat, 0 < k ∧ x = .int .i64 k ∧ Hid (Below v1.heap.size v1 wr)) (fun x _ => QL.length - (intOf x).toNat)
  case' atStart => exact ⟨1, Nat.one_pos, rfl, by first | exact Below.refl _ _ | exact (Below.refl _ _).drew⟩
  case' round =>
    obtain ⟨k, hk0, rfl, hbr⟩ := hrel
    by_cases hkl : k < QL.length
    case' pos =>
      have i2 : (k : Int) < (QL.length : Int) := by omega
      have hp0 : QL[k - 1]? = some QL[k - 1] := List.getElem?_eq_getElem (by omega)
      have hp1 : QL[k]? = some QL[k] := List.getElem?_eq_getElem hkl
      have hlt := frp.asc_at (i := k - 1) HQL.out.1 hp0 (by rw [Nat.sub_add_cancel hk0]; exact hp1)
      obtain ⟨pv, hpv⟩ : ∃ y, QL[k - 1] = y := ⟨_, rfl⟩
      obtain ⟨nv, hnv⟩ : ∃ y, QL[k] = y := ⟨_, rfl⟩
      rw [hpv] at hp0 hlt
      rw [hnv] at hp1 hlt
      have hab := ro.above.2 hlt
      simp only [Bool.or_eq_false_iff] at hab
      have hlt2 : Op.bytesLess nv.toList pv.toList = false := hab.1
      have hlt3 : (nv.toList == pv.toList) = false := hab.2
      have hLr := HL.out.below hbr.out
      obtain ⟨lg, rfl⟩ : ∃ g, la = some ⟨g, 0, none⟩ := by
        rcases hLr.ay with h | h
        · rw [h] at hkl; simp at hkl
        · exact h
      have r0 : wr.cell? ⟨lg, k - 1, none⟩ = some (.string pv) := hLr.at hp0
      have r1 : wr.cell? ⟨lg, k, none⟩ = some (.string nv) := hLr.at hp1
      have j2 : ((k - 1 : Nat) : Int) < (QL.length : Int) := by omega
      have hql := HQL.out.2
      clear hp0 hp1 hlt hpv hnv hab hLr
      go_wp2
      go_quiet (fail)
      have HBN : Hid (Below v1.heap.size v1 (wr.drewN nq)) := stx.bdrewN hbr.out nq
      go_wp2
      go_roundw
      case rel => exact ⟨k + 1, by omega, by go_num, HBN⟩
      case measure => simp [intOf]; omega
    case' neg =>
      have i2 : ¬ (k : Int) < (QL.length : Int) := by omega
      have hbw := hbr.out
      clear hbr hkl
      obtain ⟨v2, hv2⟩ : ∃ v, v = wr := ⟨_, rfl⟩
      subst hv2
      have HB_ : Hid (Below w.heap.size w v2) := HB.out.trans (Below.mono hbw (Below.size HB.out))
      have HM_ : Hid (v2.cell? ⟨0, 0, none⟩ = some (.int .i64 m)) := m_below HM.out hbw
      have HL_ : Hid (Ls v2 QL la) := HL.out.below hbw
      have HA_ : Hid (Us v2 ae ab aea aec aba abc) := us_below HA.out hbw
      have BA_ : Hid (v2.heap[w4.heap.size]? = some (.cells #[.slice aea ae.length aec, .slice aba ab.length abc] 27 (0, 0))) := bstay BA.out hbw (Array.getElem?_eq_some_iff.1 BA.out).1
      have HBd_ : Hid (Rr v2 ae PB g5 c5 k5 d5) := HBd.out.below hbw
      have BB_ : Hid (v2.heap[w5.heap.size]? = some (.cells #[.slice g5 ae.length c5, .slice k5 PB.length d5] 27 (0, 0))) := bstay BB.out hbw (Array.getElem?_eq_some_iff.1 BB.out).1
      have HD_ : Hid (Us v2 dl dm dla dlc dma dmc) := us_below HD.out hbw
      have BD_ : Hid (v2.heap[w7.heap.size]? = some (.cells #[.slice dla dl.length dlc, .slice dma dm.length dmc] 27 (0, 0))) := bstay BD.out hbw (Array.getElem?_eq_some_iff.1 BD.out).1
      have HF_ : Hid (Rr v2 FL dm g8 c8 k8 d8) := HF.out.below hbw
      have BF_ : Hid (v2.heap[w8.heap.size]? = some (.cells #[.slice g8 FL.length c8, .slice k8 dm.length d8] 27 (0, 0))) := bstay BF.out hbw (Array.getElem?_eq_some_iff.1 BF.out).1
      clear HB HM HL HA BA HBd BB HD BD HF BF
      have HB := HB_
      have HM := HM_
      have HL := HL_
      have HA := HA_
      have BA := BA_
      have HBd := HBd_
      have BB := BB_
      have HD := HD_
      have BD := BD_
      have HF := HF_
      have BF := BF_
      clear HB_ HM_ HL_ HA_ BA_ HBd_ BB_ HD_ BD_ HF_ BF_
      clear hbw hk0
      clear HL
      clear HQL
      have h10g := fun (W : World) (h : Us W ae ab aea aec aba abc) => t_unbind (us_rr h) HSMA.out (by omega) bq
      have h11' := fun (W : World) (h : Us W ae ab aea aec aba abc) => s_unbind (us_rr h) HSMA.out (by omega) bq
      have hg1 := fun (i : Nat) (b : Bi) => @frp.gone ab bq i b
      have hg2 := fun (h : OkR ae ab) => frp.unbind_all h (fun b => !db.mine bq b)
      have hg3 := sm_filter HSMA.out (fun b => !db.mine bq b)
      obtain ⟨GL, hGL⟩ : ∃ y, (ab.filter fun b => !db.mine bq b) = y := ⟨_, rfl⟩
      simp only [hGL] at h10g h11' hg1 hg2 hg3
      have HGL : Hid ((∀ (i : Nat) (b : Bi), GL[i]? = some b → (b.q.toList == bq.toList) = false) ∧ (OkR ae ab → OkR ae GL)) := ⟨hg1, hg2⟩
      have HSMG : Hid (Sm 200 ae GL) := hg3
      have HG11 : Hid (∀ (W : World) (h : Us W ae ab aea aec aba abc), Calls Tryz.prog 19 #[.agg #[.slice aea ae.length aec, .slice aba ab.length abc], .string bq] W fun e w' => ∃ ga ca gb cb, e = .returned (.agg #[.slice ga ae.length ca, .slice gb GL.length cb]) ∧ Rw w' ae GL ga gb ∧ Below W.heap.size W w') := h11'
      clear hGL hg1 hg2 hg3 h11'
      cases md
      case' true =>
        obtain ⟨z1, z2⟩ := HMD.out rfl
        have h9a := p_ok (ec := c8) (bc := d8) HF.out HSMF.out (by omega)
        rw [rta.okr_iff.2 z1] at h9a
        have u0 : v2.cell? ⟨w8.heap.size, 0, none⟩ = some (.slice g8 FL.length c8) := bcell BF.out rfl
        have u1 : v2.cell? ⟨w8.heap.size, 1, none⟩ = some (.slice k8 dm.length d8) := bcell BF.out rfl
        have x0 : v2.cell? ⟨w7.heap.size, 0, none⟩ = some (.slice dla dl.length dlc) := bcell BD.out rfl
        have x1 : v2.cell? ⟨w7.heap.size, 1, none⟩ = some (.slice dma dm.length dmc) := bcell BD.out rfl
        have hft := HSMF.out.tt
        have hdt := HSMD.out.tt
        have hw9 : IntKind.i64.wrap ((dl.length : Int) + 1) = (dl.length : Int) + 1 := by rw [IntKind.wrap_i64]; omega
        have hnd : ¬ ((dl.length : Int) + 1 < (FL.length : Int)) := by omega
        clear z1 z2 hft hdt
        go_wp2_with (go_at_call 16; fail)
        refine h9a.mono ?_
        rintro e v3 ⟨rfl, hb9a⟩
        have HB_ : Hid (Below w.heap.size w v3) := HB.out.trans (Below.mono hb9a (Below.size HB.out))
        have HM_ : Hid (v3.cell? ⟨0, 0, none⟩ = some (.int .i64 m)) := m_below HM.out hb9a
        have HA_ : Hid (Us v3 ae ab aea aec aba abc) := us_below HA.out hb9a
        have BA_ : Hid (v3.heap[w4.heap.size]? = some (.cells #[.slice aea ae.length aec, .slice aba ab.length abc] 27 (0, 0))) := bstay BA.out hb9a (Array.getElem?_eq_some_iff.1 BA.out).1
        have HBd_ : Hid (Rr v3 ae PB g5 c5 k5 d5) := HBd.out.below hb9a
        have BB_ : Hid (v3.heap[w5.heap.size]? = some (.cells #[.slice g5 ae.length c5, .slice k5 PB.length d5] 27 (0, 0))) := bstay BB.out hb9a (Array.getElem?_eq_some_iff.1 BB.out).1
        have HD_ : Hid (Us v3 dl dm dla dlc dma dmc) := us_below HD.out hb9a
        have BD_ : Hid (v3.heap[w7.heap.size]? = some (.cells #[.slice dla dl.length dlc, .slice dma dm.length dmc] 27 (0, 0))) := bstay BD.out hb9a (Array.getElem?_eq_some_iff.1 BD.out).1
        have HF_ : Hid (Rr v3 FL dm g8 c8 k8 d8) := HF.out.below hb9a
        have BF_ : Hid (v3.heap[w8.heap.size]? = some (.cells #[.slice g8 FL.length c8, .slice k8 dm.length d8] 27 (0, 0))) := bstay BF.out hb9a (Array.getElem?_eq_some_iff.1 BF.out).1
        clear HB HM HA BA HBd BB HD BD HF BF
        have HB := HB_
        have HM := HM_
        have HA := HA_
        have BA := BA_
        have HBd := HBd_
        have BB := BB_
        have HD := HD_
        have BD := BD_
        have HF := HF_
        have BF := BF_
        clear HB_ HM_ HA_ BA_ HBd_ BB_ HD_ BD_ HF_ BF_
        clear h9a hb9a u0 u1 x0 x1
        have u0 : v3.cell? ⟨w8.heap.size, 0, none⟩ = some (.slice g8 FL.length c8) := bcell BF.out rfl
        have u1 : v3.cell? ⟨w8.heap.size, 1, none⟩ = some (.slice k8 dm.length d8) := bcell BF.out rfl
        have x0 : v3.cell? ⟨w7.heap.size, 0, none⟩ = some (.slice dla dl.length dlc) := bcell BD.out rfl
        have x1 : v3.cell? ⟨w7.heap.size, 1, none⟩ = some (.slice dma dm.length dmc) := bcell BD.out rfl
        have y0 : v3.cell? ⟨w4.heap.size, 0, none⟩ = some (.slice aea ae.length aec) := bcell BA.out rfl
        have y1 : v3.cell? ⟨w4.heap.size, 1, none⟩ = some (.slice aba ab.length abc) := bcell BA.out rfl
        have h10 := h10g _ HA.out
        clear h10g
        go_wp2_with (go_at_call 18; fail)
        refine h10.mono ?_
        rintro e v4 ⟨gu, cu, hu, du, rfl, hi10, ⟨ug, rfl⟩, hb10⟩
        have HB_ : Hid (Below w.heap.size w v4) := HB.out.trans (Below.mono hb10 (Below.size HB.out))
        have HM_ : Hid (v4.cell? ⟨0, 0, none⟩ = some (.int .i64 m)) := m_below HM.out hb10
        have HA_ : Hid (Us v4 ae ab aea aec aba abc) := us_below HA.out hb10
        have BA_ : Hid (v4.heap[w4.heap.size]? = some (.cells #[.slice aea ae.length aec, .slice aba ab.length abc] 27 (0, 0))) := bstay BA.out hb10 (Array.getElem?_eq_some_iff.1 BA.out).1
        have HBd_ : Hid (Rr v4 ae PB g5 c5 k5 d5) := HBd.out.below hb10
        have BB_ : Hid (v4.heap[w5.heap.size]? = some (.cells #[.slice g5 ae.length c5, .slice k5 PB.length d5] 27 (0, 0))) := bstay BB.out hb10 (Array.getElem?_eq_some_iff.1 BB.out).1
        have HD_ : Hid (Us v4 dl dm dla dlc dma dmc) := us_below HD.out hb10
        have BD_ : Hid (v4.heap[w7.heap.size]? = some (.cells #[.slice dla dl.length dlc, .slice dma dm.length dmc] 27 (0, 0))) := bstay BD.out hb10 (Array.getElem?_eq_some_iff.1 BD.out).1
        have HF_ : Hid (Rr v4 FL dm g8 c8 k8 d8) := HF.out.below hb10
        have BF_ : Hid (v4.heap[w8.heap.size]? = some (.cells #[.slice g8 FL.length c8, .slice k8 dm.length d8] 27 (0, 0))) := bstay BF.out hb10 (Array.getElem?_eq_some_iff.1 BF.out).1
        clear HB HM HA BA HBd BB HD BD HF BF
        have HB := HB_
        have HM := HM_
        have HA := HA_
        have BA := BA_
        have HBd := HBd_
        have BB := BB_
        have HD := HD_
        have BD := BD_
        have HF := HF_
        have BF := BF_
        clear HB_ HM_ HA_ BA_ HBd_ BB_ HD_ BD_ HF_ BF_
        clear h10 hb10 u0 u1 x0 x1 y0 y1 hw9 hnd
      case' false =>
        have y0 : v2.cell? ⟨w4.heap.size, 0, none⟩ = some (.slice aea ae.length aec) := bcell BA.out rfl
        have y1 : v2.cell? ⟨w4.heap.size, 1, none⟩ = some (.slice aba ab.length abc) := bcell BA.out rfl
        have h10 := h10g _ HA.out
        clear h10g
        go_wp2_with (go_at_call 18; fail)
        refine h10.mono ?_
        rintro e v4 ⟨gu, cu, hu, du, rfl, hi10, ⟨ug, rfl⟩, hb10⟩
        have HB_ : Hid (Below w.heap.size w v4) := HB.out.trans (Below.mono hb10 (Below.size HB.out))
        have HM_ : Hid (v4.cell? ⟨0, 0, none⟩ = some (.int .i64 m)) := m_below HM.out hb10
        have HA_ : Hid (Us v4 ae ab aea aec aba abc) := us_below HA.out hb10
        have BA_ : Hid (v4.heap[w4.heap.size]? = some (.cells #[.slice aea ae.length aec, .slice aba ab.length abc] 27 (0, 0))) := bstay BA.out hb10 (Array.getElem?_eq_some_iff.1 BA.out).1
        have HBd_ : Hid (Rr v4 ae PB g5 c5 k5 d5) := HBd.out.below hb10
        have BB_ : Hid (v4.heap[w5.heap.size]? = some (.cells #[.slice g5 ae.length c5, .slice k5 PB.length d5] 27 (0, 0))) := bstay BB.out hb10 (Array.getElem?_eq_some_iff.1 BB.out).1
        have HD_ : Hid (Us v4 dl dm dla dlc dma dmc) := us_below HD.out hb10
        have BD_ : Hid (v4.heap[w7.heap.size]? = some (.cells #[.slice dla dl.length dlc, .slice dma dm.length dmc] 27 (0, 0))) := bstay BD.out hb10 (Array.getElem?_eq_some_iff.1 BD.out).1
        have HF_ : Hid (Rr v4 FL dm g8 c8 k8 d8) := HF.out.below hb10
        have BF_ : Hid (v4.heap[w8.heap.size]? = some (.cells #[.slice g8 FL.length c8, .slice k8 dm.length d8] 27 (0, 0))) := bstay BF.out hb10 (Array.getElem?_eq_some_iff.1 BF.out).1
        clear HB HM HA BA HBd BB HD BD HF BF
        have HB := HB_
        have HM := HM_
        have HA := HA_
        have BA := BA_
        have HBd := HBd_
        have BB := BB_
        have HD := HD_
        have BD := BD_
        have HF := HF_
        have BF := BF_
        clear HB_ HM_ HA_ BA_ HBd_ BB_ HD_ BD_ HF_ BF_
        clear h10 hb10 y0 y1
      all_goals
        have HU : Hid (Rr v4 ae GL gu cu (some ⟨ug, 0, none⟩) du) := hi10
        clear hi10
        clear BF HF BD HD
        clear HMD HSMF HSMD HDN
        have hal : Below v4.heap.size v4 (v4.alloc (.cells #[.slice gu ae.length cu, .slice (some ⟨ug, 0, none⟩) GL.length du] 27)) := (Below.refl _ _).alloc (Nat.le_refl _) _
        have HB_ : Hid (Below w.heap.size w (v4.alloc (.cells #[.slice gu ae.length cu, .slice (some ⟨ug, 0, none⟩) GL.length du] 27))) := HB.out.trans (Below.mono hal (Below.size HB.out))
        have HM_ : Hid ((v4.alloc (.cells #[.slice gu ae.length cu, .slice (some ⟨ug, 0, none⟩) GL.length du] 27)).cell? ⟨0, 0, none⟩ = some (.int .i64 m)) := m_below HM.out hal
        have HA_ : Hid (Us (v4.alloc (.cells #[.slice gu ae.length cu, .slice (some ⟨ug, 0, none⟩) GL.length du] 27)) ae ab aea aec aba abc) := us_below HA.out hal
        have BA_ : Hid ((v4.alloc (.cells #[.slice gu ae.length cu, .slice (some ⟨ug, 0, none⟩) GL.length du] 27)).heap[w4.heap.size]? = some (.cells #[.slice aea ae.length aec, .slice aba ab.length abc] 27 (0, 0))) := bstay BA.out hal (Array.getElem?_eq_some_iff.1 BA.out).1
        have HBd_ : Hid (Rr (v4.alloc (.cells #[.slice gu ae.length cu, .slice (some ⟨ug, 0, none⟩) GL.length du] 27)) ae PB g5 c5 k5 d5) := HBd.out.below hal
        have BB_ : Hid ((v4.alloc (.cells #[.slice gu ae.length cu, .slice (some ⟨ug, 0, none⟩) GL.length du] 27)).heap[w5.heap.size]? = some (.cells #[.slice g5 ae.length c5, .slice k5 PB.length d5] 27 (0, 0))) := bstay BB.out hal (Array.getElem?_eq_some_iff.1 BB.out).1
        have HU_ : Hid (Rr (v4.alloc (.cells #[.slice gu ae.length cu, .slice (some ⟨ug, 0, none⟩) GL.length du] 27)) ae GL gu cu (some ⟨ug, 0, none⟩) du) := HU.out.below hal
        clear HB HM HA BA HBd BB HU
        have HB := HB_
        have HM := HM_
        have HA := HA_
        have BA := BA_
        have HBd := HBd_
        have BB := BB_
        have HU := HU_
        clear HB_ HM_ HA_ BA_ HBd_ BB_ HU_
        have BU : Hid ((v4.alloc (.cells #[.slice gu ae.length cu, .slice (some ⟨ug, 0, none⟩) GL.length du] 27)).heap[v4.heap.size]? = some (.cells #[.slice gu ae.length cu, .slice (some ⟨ug, 0, none⟩) GL.length du] 27 (0, 0))) := bnew v4 _ _
        clear hal
        go_wp2
        obtain ⟨v5, hv5⟩ : ∃ y, (v4.alloc (.cells #[.slice gu ae.length cu, .slice (some ⟨ug, 0, none⟩) GL.length du] 27)) = y := ⟨_, rfl⟩
        rw [hv5] at HB HM HA BA HBd BB HU BU ⊢
        clear hv5
        obtain ⟨oa, hoa⟩ : ∃ y, rta.okr ae ab = y := ⟨_, rfl⟩
        have HS1 : Hid (∀ W : World, Below v5.heap.size v5 W → Calls Tryz.prog 19 #[.agg #[.slice aea ae.length aec, .slice aba ab.length abc], .string bq] W fun e w' => ∃ ga ca gb cb, e = .returned (.agg #[.slice ga ae.length ca, .slice gb GL.length cb]) ∧ Rw w' ae GL ga gb ∧ Below W.heap.size W w') := fun W hW => HG11.out W (us_below HA.out hW)
        have HS2 : Hid (∀ (W : World) (a b : Option Addr) (ca cb : Nat), Below v5.heap.size v5 W → Rw W ae GL a b → Calls Tryz.prog 15 #[.agg #[.slice gu ae.length cu, .slice (some ⟨ug, 0, none⟩) GL.length du], .agg #[.slice a ae.length ca, .slice b GL.length cb]] W fun e w' => e = .returned (.bool true) ∧ Below W.heap.size W w') := fun W a b ca cb hW h => p_same (HU.out.below hW).rw h HSMG.out (by omega)
        have HS3 : Hid (∀ W : World, Below v5.heap.size v5 W → Calls Tryz.prog 17 #[.agg #[.slice aea ae.length aec, .slice aba ab.length abc]] W fun e w' => e = .returned (.bool oa) ∧ Below W.heap.size W w') := fun W hW => by rw [← hoa]; exact s_ok (us_rr (us_below HA.out hW)) HSMA.out (by omega)
        have HS4 : Hid (oa = true → ∀ W : World, Below v5.heap.size v5 W → Calls Tryz.prog 16 #[.agg #[.slice gu ae.length cu, .slice (some ⟨ug, 0, none⟩) GL.length du]] W fun e w' => e = .returned (.bool true) ∧ Below W.heap.size W w') := fun ho W hW => by
          have h9 := p_ok (ec := cu) (bc := du) (HU.out.below hW) HSMG.out (by omega)
          rwa [rta.okr_iff.2 (HGL.out.2 (rta.okr_iff.1 (hoa.trans ho)))] at h9
        clear hoa HG11
        cases oa
        case' false =>
          clear HS4
          refine chs.region (σ := G2) (ws := (fun s : G2 => [(170, .agg #[.slice gu ae.length cu, .slice (some ⟨ug, 0, none⟩) GL.length du]), (171, .agg #[.slice aea ae.length aec, .slice aba ab.length abc]), (172, .string bq), (173, .agg #[.slice s.a ae.length s.ca, .slice s.b GL.length s.cb]), (174, .bool true), (175, .bool false), (176, .bool false), (177, .agg #[.slice aea ae.length aec, .slice aba ab.length abc]), (178, .bool false), (179, .bool false), (180, undef), (181, undef), (182, undef), (183, .bool false), (184, .bool false)])) (js := [3, 4, 6, 8, 9]) (S := (fun g k W => Below v5.heap.size v5 W ∧ (1 ≤ k → Rw W ae GL g.a g.b))) [10, 11, 12] [180, 181, 182] [(176, false), (179, false)] (by kernel_rfl) (by kernel_rfl) (by kernel_rfl) (fun s x hx => by simp only [List.mem_cons, List.not_mem_nil, or_false] at hx; rcases hx with rfl | rfl <;> exact dk.sets_on _ (by simp) _ rfl) (fun s x hx => by simp only [List.mem_cons, List.not_mem_nil, or_false] at hx; rcases hx with rfl | rfl | rfl <;> exact dk.sets_on _ (by simp) _ rfl) [170, 171, 172, 173, 174, 175, 176, 177, 178, 179, 180, 181, 182, 183, 184] ⟨none, 0, none, 0⟩ (by kernel_rfl) (by kernel_rfl) (fun _ => rfl) (by kernel_rfl) (by decide) ⟨(Below.refl _ _).drew, fun h => (by omega)⟩ ?_ ?_
          · refine ⟨.inr (cht.quiet 5 rfl (by decide) (.inl rfl) (by simp) (fun s => .agg #[.slice gu ae.length cu, .slice (some ⟨ug, 0, none⟩) GL.length du]) (by rintro s _ ⟨⟩; exact dk.sets_on _ (by simp) _ rfl) (fun s k' W hk' hS => by have hbBU := bstay BU.out hS.1 (Array.getElem?_eq_some_iff.1 BU.out).1; have c0 : W.cell? ⟨v4.heap.size, 0, none⟩ = some (.slice gu ae.length cu) := bcell hbBU rfl; have c1 : W.cell? ⟨v4.heap.size, 1, none⟩ = some (.slice (some ⟨ug, 0, none⟩) GL.length du) := bcell hbBU rfl; simp [execOp, go_sem, Act.eval, dk.sets_get, List.lookup, c0, c1])), ?_⟩
            refine ⟨.inr (cht.quiet 5 rfl (by decide) (.inl rfl) (by simp) (fun s => .agg #[.slice aea ae.length aec, .slice aba ab.length abc]) (by rintro s _ ⟨⟩; exact dk.sets_on _ (by simp) _ rfl) (fun s k' W hk' hS => by have hbBA := bstay BA.out hS.1 (Array.getElem?_eq_some_iff.1 BA.out).1; have c0 : W.cell? ⟨w4.heap.size, 0, none⟩ = some (.slice aea ae.length aec) := bcell hbBA rfl; have c1 : W.cell? ⟨w4.heap.size, 1, none⟩ = some (.slice aba ab.length abc) := bcell hbBA rfl; simp [execOp, go_sem, Act.eval, dk.sets_get, List.lookup, c0, c1])), ?_⟩
            refine ⟨.inr (cht.quiet 5 rfl (by decide) (.inl rfl) (by simp) (fun s => .string bq) (by rintro s _ ⟨⟩; exact dk.sets_on _ (by simp) _ rfl) (fun s k' W hk' hS => by simp [execOp, go_sem, Act.eval, dk.sets_get, List.lookup])), ?_⟩
            refine ⟨.inr (chd.call 0 [3] [173] (by kernel_rfl) (by kernel_rfl) rfl (by decide) rfl (.inl rfl) (by simp) 19 (fun s => #[.agg #[.slice aea ae.length aec, .slice aba ab.length abc], .string bq]) (fun s W hS => by exact ⟨by simp [go_sem, Act.eval, dk.sets_get, List.lookup], (HS1.out W hS.1).mono fun e w9 hh => by obtain ⟨a9, c9, b9, d9, rfl, k1, k2⟩ := hh; exact ⟨{ s with a := a9, ca := c9, b := b9, cb := d9 }, _, rfl, (by simp [chd.But]), (by rintro _ ⟨⟩; exact dk.sets_on _ (by simp) _ rfl), hS.1.trans (k2.mono hS.1.size), fun _ => k1⟩⟩)), ?_⟩
            refine ⟨.inr (chd.call 1 [4] [174] (by kernel_rfl) (by kernel_rfl) rfl (by decide) rfl (.inr ⟨⟨3, .chain⟩, by simp, rfl, rfl⟩) (by simp) 15 (fun s => #[.agg #[.slice gu ae.length cu, .slice (some ⟨ug, 0, none⟩) GL.length du], .agg #[.slice s.a ae.length s.ca, .slice s.b GL.length s.cb]]) (fun s W hS => by exact ⟨by simp [go_sem, Act.eval, dk.sets_get, List.lookup], (HS2.out W s.a s.b s.ca s.cb hS.1 (hS.2 (by omega))).mono fun e w9 hh => by obtain ⟨rfl, k2⟩ := hh; exact ⟨s, _, rfl, (by simp [chd.But]), (by rintro _ ⟨⟩; exact dk.sets_on _ (by simp) _ rfl), hS.1.trans (k2.mono hS.1.size), fun _ => (hS.2 (by omega)).below k2⟩⟩)), ?_⟩
            refine ⟨.inr (cht.quiet 5 rfl (by decide) (.inl rfl) (by simp) (fun s => .bool false) (by rintro s _ ⟨⟩; exact dk.sets_on _ (by simp) _ rfl) (fun s k' W hk' hS => by simp [execOp, go_sem, Act.eval, dk.sets_get, List.lookup])), ?_⟩
            refine ⟨.inr (chd.eff 2 [6] [176] (by kernel_rfl) (by kernel_rfl) rfl (by decide) rfl (.inr ⟨⟨4, .chain⟩, by simp, rfl, rfl⟩) (by simp) (fun s W hS => by exact ⟨s, .bool false, W, (by simp [chd.But]), (by rintro _ ⟨⟩; exact dk.sets_on _ (by simp) _ rfl), (by simp [execOp, go_sem, Act.eval, dk.sets_get, List.lookup]), hS.1, fun _ => hS.2 (by omega)⟩)), ?_⟩
            refine ⟨.inr (cht.quiet 5 rfl (by decide) (.inl rfl) (by simp) (fun s => .agg #[.slice aea ae.length aec, .slice aba ab.length abc]) (by rintro s _ ⟨⟩; exact dk.sets_on _ (by simp) _ rfl) (fun s k' W hk' hS => by have hbBA := bstay BA.out hS.1 (Array.getElem?_eq_some_iff.1 BA.out).1; have c0 : W.cell? ⟨w4.heap.size, 0, none⟩ = some (.slice aea ae.length aec) := bcell hbBA rfl; have c1 : W.cell? ⟨w4.heap.size, 1, none⟩ = some (.slice aba ab.length abc) := bcell hbBA rfl; simp [execOp, go_sem, Act.eval, dk.sets_get, List.lookup, c0, c1])), ?_⟩
            refine ⟨.inr (chd.call 3 [8] [178] (by kernel_rfl) (by kernel_rfl) rfl (by decide) rfl (.inr ⟨⟨6, .chain⟩, by simp, rfl, rfl⟩) (by simp) 17 (fun s => #[.agg #[.slice aea ae.length aec, .slice aba ab.length abc]]) (fun s W hS => by exact ⟨by simp [go_sem, Act.eval, dk.sets_get, List.lookup], (HS3.out W hS.1).mono fun e w9 hh => by obtain ⟨rfl, k2⟩ := hh; exact ⟨s, _, rfl, (by simp [chd.But]), (by rintro _ ⟨⟩; exact dk.sets_on _ (by simp) _ rfl), hS.1.trans (k2.mono hS.1.size), fun _ => (hS.2 (by omega)).below k2⟩⟩)), ?_⟩
            refine ⟨.inr (chd.eff 4 [9] [179] (by kernel_rfl) (by kernel_rfl) rfl (by decide) rfl (.inr ⟨⟨8, .chain⟩, by simp, rfl, rfl⟩) (by simp) (fun s W hS => by exact ⟨s, .bool false, W, (by simp [chd.But]), (by rintro _ ⟨⟩; exact dk.sets_on _ (by simp) _ rfl), (by simp [execOp, go_sem, Act.eval, dk.sets_get, List.lookup]), hS.1, fun _ => hS.2 (by omega)⟩)), ?_⟩
            refine ⟨.inl rfl, ?_⟩
            refine ⟨.inl rfl, ?_⟩
            refine ⟨.inl rfl, ?_⟩
            refine ⟨.inr (cht.quiet 5 rfl (by decide) (.inl rfl) (by simp) (fun s => .bool false) (by rintro s _ ⟨⟩; exact dk.sets_on _ (by simp) _ rfl) (fun s k' W hk' hS => by simp [execOp, go_sem, Act.eval, dk.sets_get, List.lookup])), ?_⟩
            exact ⟨.inr (cht.quiet 5 rfl (by decide) (.inl rfl) (by simp) (fun s => .bool false) (by rintro s _ ⟨⟩; exact dk.sets_on _ (by simp) _ rfl) (fun s k' W hk' hS => by simp [execOp, go_sem, Act.eval, dk.sets_get, List.lookup])), trivial⟩
          intro s v6 hS
          obtain ⟨hb7, hx1⟩ := hS
          clear hx1
          obtain ⟨ga1, ga2, ga3, ga4⟩ := s
          simp only [dk.sets, Act.put, List.setIfInBounds_toArray, List.set_cons_succ, List.set_cons_zero]
          clear HS1 HS2 HS3
          have HB_ : Hid (Below w.heap.size w v6) := HB.out.trans (Below.mono hb7 (Below.size HB.out))
          have HM_ : Hid (v6.cell? ⟨0, 0, none⟩ = some (.int .i64 m)) := m_below HM.out hb7
          have HA_ : Hid (Us v6 ae ab aea aec aba abc) := us_below HA.out hb7
          have BA_ : Hid (v6.heap[w4.heap.size]? = some (.cells #[.slice aea ae.length aec, .slice aba ab.length abc] 27 (0, 0))) := bstay BA.out hb7 (Array.getElem?_eq_some_iff.1 BA.out).1
          have HBd_ : Hid (Rr v6 ae PB g5 c5 k5 d5) := HBd.out.below hb7
          have BB_ : Hid (v6.heap[w5.heap.size]? = some (.cells #[.slice g5 ae.length c5, .slice k5 PB.length d5] 27 (0, 0))) := bstay BB.out hb7 (Array.getElem?_eq_some_iff.1 BB.out).1
          have HU_ : Hid (Rr v6 ae GL gu cu (some ⟨ug, 0, none⟩) du) := HU.out.below hb7
          have BU_ : Hid (v6.heap[v4.heap.size]? = some (.cells #[.slice gu ae.length cu, .slice (some ⟨ug, 0, none⟩) GL.length du] 27 (0, 0))) := bstay BU.out hb7 (Array.getElem?_eq_some_iff.1 BU.out).1
          clear HB HM HA BA HBd BB HU BU
          have HB := HB_
          have HM := HM_
          have HA := HA_
          have BA := BA_
          have HBd := HBd_
          have BB := BB_
          have HU := HU_
          have BU := BU_
          clear HB_ HM_ HA_ BA_ HBd_ BB_ HU_ BU_
          clear hb7
        case' true =>
          have HS4 := HS4.out rfl
          have HS4 : Hid _ := HS4
          refine chg.region (σ := G2) (ws := (fun s : G2 => [(170, .agg #[.slice gu ae.length cu, .slice (some ⟨ug, 0, none⟩) GL.length du]), (171, .agg #[.slice aea ae.length aec, .slice aba ab.length abc]), (172, .string bq), (173, .agg #[.slice s.a ae.length s.ca, .slice s.b GL.length s.cb]), (174, .bool true), (175, .bool false), (176, .bool false), (177, .agg #[.slice aea ae.length aec, .slice aba ab.length abc]), (178, .bool true), (179, .bool true), (180, .agg #[.slice gu ae.length cu, .slice (some ⟨ug, 0, none⟩) GL.length du]), (181, .bool true), (182, .bool false), (183, .bool false), (184, .bool false)])) (js := [3, 4, 6, 8, 9, 11]) (S := (fun g k W => Below v5.heap.size v5 W ∧ (1 ≤ k → Rw W ae GL g.a g.b))) [(176, false), (179, true)] (by kernel_rfl) (fun s x hx => by simp only [List.mem_cons, List.not_mem_nil, or_false] at hx; rcases hx with rfl | rfl <;> exact dk.sets_on _ (by simp) _ rfl) [170, 171, 172, 173, 174, 175, 176, 177, 178, 179, 180, 181, 182, 183, 184] ⟨none, 0, none, 0⟩ (by kernel_rfl) (by kernel_rfl) (fun _ => rfl) (by kernel_rfl) (by decide) ⟨(Below.refl _ _).drew, fun h => (by omega)⟩ ?_ ?_
          · refine ⟨cht.quiet 6 rfl (by decide) (.inl rfl) (by simp) (fun s => .agg #[.slice gu ae.length cu, .slice (some ⟨ug, 0, none⟩) GL.length du]) (by rintro s _ ⟨⟩; exact dk.sets_on _ (by simp) _ rfl) (fun s k' W hk' hS => by have hbBU := bstay BU.out hS.1 (Array.getElem?_eq_some_iff.1 BU.out).1; have c0 : W.cell? ⟨v4.heap.size, 0, none⟩ = some (.slice gu ae.length cu) := bcell hbBU rfl; have c1 : W.cell? ⟨v4.heap.size, 1, none⟩ = some (.slice (some ⟨ug, 0, none⟩) GL.length du) := bcell hbBU rfl; simp [execOp, go_sem, Act.eval, dk.sets_get, List.lookup, c0, c1]), ?_⟩
            refine ⟨cht.quiet 6 rfl (by decide) (.inl rfl) (by simp) (fun s => .agg #[.slice aea ae.length aec, .slice aba ab.length abc]) (by rintro s _ ⟨⟩; exact dk.sets_on _ (by simp) _ rfl) (fun s k' W hk' hS => by have hbBA := bstay BA.out hS.1 (Array.getElem?_eq_some_iff.1 BA.out).1; have c0 : W.cell? ⟨w4.heap.size, 0, none⟩ = some (.slice aea ae.length aec) := bcell hbBA rfl; have c1 : W.cell? ⟨w4.heap.size, 1, none⟩ = some (.slice aba ab.length abc) := bcell hbBA rfl; simp [execOp, go_sem, Act.eval, dk.sets_get, List.lookup, c0, c1]), ?_⟩
            refine ⟨cht.quiet 6 rfl (by decide) (.inl rfl) (by simp) (fun s => .string bq) (by rintro s _ ⟨⟩; exact dk.sets_on _ (by simp) _ rfl) (fun s k' W hk' hS => by simp [execOp, go_sem, Act.eval, dk.sets_get, List.lookup]), ?_⟩
            refine ⟨chd.call 0 [3] [173] (by kernel_rfl) (by kernel_rfl) rfl (by decide) rfl (.inl rfl) (by simp) 19 (fun s => #[.agg #[.slice aea ae.length aec, .slice aba ab.length abc], .string bq]) (fun s W hS => by exact ⟨by simp [go_sem, Act.eval, dk.sets_get, List.lookup], (HS1.out W hS.1).mono fun e w9 hh => by obtain ⟨a9, c9, b9, d9, rfl, k1, k2⟩ := hh; exact ⟨{ s with a := a9, ca := c9, b := b9, cb := d9 }, _, rfl, (by simp [chd.But]), (by rintro _ ⟨⟩; exact dk.sets_on _ (by simp) _ rfl), hS.1.trans (k2.mono hS.1.size), fun _ => k1⟩⟩), ?_⟩
            refine ⟨chd.call 1 [4] [174] (by kernel_rfl) (by kernel_rfl) rfl (by decide) rfl (.inr ⟨⟨3, .chain⟩, by simp, rfl, rfl⟩) (by simp) 15 (fun s => #[.agg #[.slice gu ae.length cu, .slice (some ⟨ug, 0, none⟩) GL.length du], .agg #[.slice s.a ae.length s.ca, .slice s.b GL.length s.cb]]) (fun s W hS => by exact ⟨by simp [go_sem, Act.eval, dk.sets_get, List.lookup], (HS2.out W s.a s.b s.ca s.cb hS.1 (hS.2 (by omega))).mono fun e w9 hh => by obtain ⟨rfl, k2⟩ := hh; exact ⟨s, _, rfl, (by simp [chd.But]), (by rintro _ ⟨⟩; exact dk.sets_on _ (by simp) _ rfl), hS.1.trans (k2.mono hS.1.size), fun _ => (hS.2 (by omega)).below k2⟩⟩), ?_⟩
            refine ⟨cht.quiet 6 rfl (by decide) (.inl rfl) (by simp) (fun s => .bool false) (by rintro s _ ⟨⟩; exact dk.sets_on _ (by simp) _ rfl) (fun s k' W hk' hS => by simp [execOp, go_sem, Act.eval, dk.sets_get, List.lookup]), ?_⟩
            refine ⟨chd.eff 2 [6] [176] (by kernel_rfl) (by kernel_rfl) rfl (by decide) rfl (.inr ⟨⟨4, .chain⟩, by simp, rfl, rfl⟩) (by simp) (fun s W hS => by exact ⟨s, .bool false, W, (by simp [chd.But]), (by rintro _ ⟨⟩; exact dk.sets_on _ (by simp) _ rfl), (by simp [execOp, go_sem, Act.eval, dk.sets_get, List.lookup]), hS.1, fun _ => hS.2 (by omega)⟩), ?_⟩
            refine ⟨cht.quiet 6 rfl (by decide) (.inl rfl) (by simp) (fun s => .agg #[.slice aea ae.length aec, .slice aba ab.length abc]) (by rintro s _ ⟨⟩; exact dk.sets_on _ (by simp) _ rfl) (fun s k' W hk' hS => by have hbBA := bstay BA.out hS.1 (Array.getElem?_eq_some_iff.1 BA.out).1; have c0 : W.cell? ⟨w4.heap.size, 0, none⟩ = some (.slice aea ae.length aec) := bcell hbBA rfl; have c1 : W.cell? ⟨w4.heap.size, 1, none⟩ = some (.slice aba ab.length abc) := bcell hbBA rfl; simp [execOp, go_sem, Act.eval, dk.sets_get, List.lookup, c0, c1]), ?_⟩
            refine ⟨chd.call 3 [8] [178] (by kernel_rfl) (by kernel_rfl) rfl (by decide) rfl (.inr ⟨⟨6, .chain⟩, by simp, rfl, rfl⟩) (by simp) 17 (fun s => #[.agg #[.slice aea ae.length aec, .slice aba ab.length abc]]) (fun s W hS => by exact ⟨by simp [go_sem, Act.eval, dk.sets_get, List.lookup], (HS3.out W hS.1).mono fun e w9 hh => by obtain ⟨rfl, k2⟩ := hh; exact ⟨s, _, rfl, (by simp [chd.But]), (by rintro _ ⟨⟩; exact dk.sets_on _ (by simp) _ rfl), hS.1.trans (k2.mono hS.1.size), fun _ => (hS.2 (by omega)).below k2⟩⟩), ?_⟩
            refine ⟨chd.eff 4 [9] [179] (by kernel_rfl) (by kernel_rfl) rfl (by decide) rfl (.inr ⟨⟨8, .chain⟩, by simp, rfl, rfl⟩) (by simp) (fun s W hS => by exact ⟨s, .bool true, W, (by simp [chd.But]), (by rintro _ ⟨⟩; exact dk.sets_on _ (by simp) _ rfl), (by simp [execOp, go_sem, Act.eval, dk.sets_get, List.lookup]), hS.1, fun _ => hS.2 (by omega)⟩), ?_⟩
            refine ⟨cht.quiet 6 rfl (by decide) (.inl rfl) (by simp) (fun s => .agg #[.slice gu ae.length cu, .slice (some ⟨ug, 0, none⟩) GL.length du]) (by rintro s _ ⟨⟩; exact dk.sets_on _ (by simp) _ rfl) (fun s k' W hk' hS => by have hbBU := bstay BU.out hS.1 (Array.getElem?_eq_some_iff.1 BU.out).1; have c0 : W.cell? ⟨v4.heap.size, 0, none⟩ = some (.slice gu ae.length cu) := bcell hbBU rfl; have c1 : W.cell? ⟨v4.heap.size, 1, none⟩ = some (.slice (some ⟨ug, 0, none⟩) GL.length du) := bcell hbBU rfl; simp [execOp, go_sem, Act.eval, dk.sets_get, List.lookup, c0, c1]), ?_⟩
            refine ⟨chd.call 5 [11] [181] (by kernel_rfl) (by kernel_rfl) rfl (by decide) rfl (.inr ⟨⟨9, .chain⟩, by simp, rfl, rfl⟩) (by simp) 16 (fun s => #[.agg #[.slice gu ae.length cu, .slice (some ⟨ug, 0, none⟩) GL.length du]]) (fun s W hS => by exact ⟨by simp [go_sem, Act.eval, dk.sets_get, List.lookup], (HS4.out W hS.1).mono fun e w9 hh => by obtain ⟨rfl, k2⟩ := hh; exact ⟨s, _, rfl, (by simp [chd.But]), (by rintro _ ⟨⟩; exact dk.sets_on _ (by simp) _ rfl), hS.1.trans (k2.mono hS.1.size), fun _ => (hS.2 (by omega)).below k2⟩⟩), ?_⟩
            refine ⟨cht.quiet 6 rfl (by decide) (.inl rfl) (by simp) (fun s => .bool false) (by rintro s _ ⟨⟩; exact dk.sets_on _ (by simp) _ rfl) (fun s k' W hk' hS => by simp [execOp, go_sem, Act.eval, dk.sets_get, List.lookup]), ?_⟩
            refine ⟨cht.quiet 6 rfl (by decide) (.inl rfl) (by simp) (fun s => .bool false) (by rintro s _ ⟨⟩; exact dk.sets_on _ (by simp) _ rfl) (fun s k' W hk' hS => by simp [execOp, go_sem, Act.eval, dk.sets_get, List.lookup]), ?_⟩
            exact ⟨cht.quiet 6 rfl (by decide) (.inl rfl) (by simp) (fun s => .bool false) (by rintro s _ ⟨⟩; exact dk.sets_on _ (by simp) _ rfl) (fun s k' W hk' hS => by simp [execOp, go_sem, Act.eval, dk.sets_get, List.lookup]), trivial⟩
          intro s v6 hS
          obtain ⟨hb7, hx1⟩ := hS
          clear hx1
          obtain ⟨ga1, ga2, ga3, ga4⟩ := s
          simp only [dk.sets, Act.put, List.setIfInBounds_toArray, List.set_cons_succ, List.set_cons_zero]
          clear HS1 HS2 HS3 HS4
          have HB_ : Hid (Below w.heap.size w v6) := HB.out.trans (Below.mono hb7 (Below.size HB.out))
          have HM_ : Hid (v6.cell? ⟨0, 0, none⟩ = some (.int .i64 m)) := m_below HM.out hb7
          have HA_ : Hid (Us v6 ae ab aea aec aba abc) := us_below HA.out hb7
          have BA_ : Hid (v6.heap[w4.heap.size]? = some (.cells #[.slice aea ae.length aec, .slice aba ab.length abc] 27 (0, 0))) := bstay BA.out hb7 (Array.getElem?_eq_some_iff.1 BA.out).1
          have HBd_ : Hid (Rr v6 ae PB g5 c5 k5 d5) := HBd.out.below hb7
          have BB_ : Hid (v6.heap[w5.heap.size]? = some (.cells #[.slice g5 ae.length c5, .slice k5 PB.length d5] 27 (0, 0))) := bstay BB.out hb7 (Array.getElem?_eq_some_iff.1 BB.out).1
          have HU_ : Hid (Rr v6 ae GL gu cu (some ⟨ug, 0, none⟩) du) := HU.out.below hb7
          have BU_ : Hid (v6.heap[v4.heap.size]? = some (.cells #[.slice gu ae.length cu, .slice (some ⟨ug, 0, none⟩) GL.length du] 27 (0, 0))) := bstay BU.out hb7 (Array.getElem?_eq_some_iff.1 BU.out).1
          clear HB HM HA BA HBd BB HU BU
          have HB := HB_
          have HM := HM_
          have HA := HA_
          have BA := BA_
          have HBd := HBd_
          have BB := BB_
          have HU := HU_
          have BU := BU_
          clear HB_ HM_ HA_ BA_ HBd_ BB_ HU_ BU_
          clear hb7
        all_goals
          cases pt
          case' false =>
            have x0 : v6.cell? ⟨w5.heap.size, 0, none⟩ = some (.slice g5 ae.length c5) := bcell BB.out rfl
            have x1 : v6.cell? ⟨w5.heap.size, 1, none⟩ = some (.slice k5 PB.length d5) := bcell BB.out rfl
            have y0 : v6.cell? ⟨w4.heap.size, 0, none⟩ = some (.slice aea ae.length aec) := bcell BA.out rfl
            have y1 : v6.cell? ⟨w4.heap.size, 1, none⟩ = some (.slice aba ab.length abc) := bcell BA.out rfl
            have h12 : Calls Tryz.prog 15 #[.agg #[.slice g5 ae.length c5, .slice k5 PB.length d5], .agg #[.slice aea ae.length aec, .slice aba ab.length abc]] v6 fun e w' => e = .returned (.bool true) ∧ Below v6.heap.size v6 w' := by
              have h9 := HBd.out
              rw [HPT.out.2 rfl] at h9 ⊢
              exact p_same h9.rw (us_rr HA.out).rw HSMA.out (by omega)
            go_wp2_with (go_at_call 15; fail)
            refine h12.mono ?_
            rintro e v7 ⟨rfl, hb12⟩
            have HBE : Hid (Below w.heap.size w v7) := HB.out.trans (Below.mono hb12 (Below.size HB.out))
            clear h12 hb12 x0 x1 y0 y1
            go_wp2
            go_ret
            exact ⟨rfl, HBE.out⟩
          case' true =>
            obtain ⟨z1, z2⟩ := HPT.out.1 rfl
            obtain ⟨z3, z4⟩ := frp.star z1 z2
            have h12 := t_route HBd.out HSMB.out (by omega) bx bk (by have := HKK.out; omega) HM.out
            have hlen2 := frp.list_len ae PB bx bk
            have htt := HSMB.out.tt
            rw [z3] at h12
            obtain ⟨PL, hPL⟩ : ∃ y, rta.ansL ae PB bx bk = y := ⟨_, rfl⟩
            rw [hPL] at h12 hlen2 z4
            have HPL : Hid (bq ∈ PL ∧ PL.length ≤ 202) := ⟨z4, by omega⟩
            have HOB : Hid (rta.okr ae PB = true) := rta.okr_iff.2 z1
            clear z1 z2 z3 z4 hPL hlen2 htt
            have x0 : v6.cell? ⟨w5.heap.size, 0, none⟩ = some (.slice g5 ae.length c5) := bcell BB.out rfl
            have x1 : v6.cell? ⟨w5.heap.size, 1, none⟩ = some (.slice k5 PB.length d5) := bcell BB.out rfl
            go_wp2_with (go_at_call 6; fail)
            refine h12.mono ?_
            rintro e v7 ⟨pa, pc, rfl, hi12, hb12⟩
            have HB_ : Hid (Below w.heap.size w v7) := HB.out.trans (Below.mono hb12 (Below.size HB.out))
            have HM_ : Hid (v7.cell? ⟨0, 0, none⟩ = some (.int .i64 m)) := m_below HM.out hb12
            have HA_ : Hid (Us v7 ae ab aea aec aba abc) := us_below HA.out hb12
            have BA_ : Hid (v7.heap[w4.heap.size]? = some (.cells #[.slice aea ae.length aec, .slice aba ab.length abc] 27 (0, 0))) := bstay BA.out hb12 (Array.getElem?_eq_some_iff.1 BA.out).1
            have HBd_ : Hid (Rr v7 ae PB g5 c5 k5 d5) := HBd.out.below hb12
            have BB_ : Hid (v7.heap[w5.heap.size]? = some (.cells #[.slice g5 ae.length c5, .slice k5 PB.length d5] 27 (0, 0))) := bstay BB.out hb12 (Array.getElem?_eq_some_iff.1 BB.out).1
            have HU_ : Hid (Rr v7 ae GL gu cu (some ⟨ug, 0, none⟩) du) := HU.out.below hb12
            have BU_ : Hid (v7.heap[v4.heap.size]? = some (.cells #[.slice gu ae.length cu, .slice (some ⟨ug, 0, none⟩) GL.length du] 27 (0, 0))) := bstay BU.out hb12 (Array.getElem?_eq_some_iff.1 BU.out).1
            clear HB HM HA BA HBd BB HU BU
            have HB := HB_
            have HM := HM_
            have HA := HA_
            have BA := BA_
            have HBd := HBd_
            have BB := BB_
            have HU := HU_
            have BU := BU_
            clear HB_ HM_ HA_ BA_ HBd_ BB_ HU_ BU_
            clear h12 hb12 x0 x1
            have HP : Hid (Ls v7 PL pa) := hi12
            clear hi12
            go_wp2
            go_loopw [29, 30] (fun y x wr => ∃ k : Nat, k ≤ PL.length ∧ x = .int .i64 k ∧ y = .bool (has bq (PL.take k)) ∧ Hid (Below v7.heap.size v7 wr)) (fun _ x _ => PL.length - (intOf x).toNat)
            case' atStart => exact ⟨0, Nat.zero_le _, rfl, rfl, by first | exact Below.refl _ _ | exact (Below.refl _ _).drew⟩
            case' round =>
              obtain ⟨k, hk, rfl, rfl, hbr⟩ := hrel
              by_cases hkl : k < PL.length
              case' pos =>
                have i2 : (k : Int) < (PL.length : Int) := by omega
                have hp0 : PL[k]? = some PL[k] := List.getElem?_eq_getElem hkl
                have htk : PL.take (k + 1) = PL.take k ++ [PL[k]] := by rw [List.take_add_one, hp0]; rfl
                obtain ⟨pv, hpv⟩ : ∃ y, PL[k] = y := ⟨_, rfl⟩
                rw [hpv] at hp0 htk
                have hLr := HP.out.below hbr.out
                obtain ⟨lg, rfl⟩ : ∃ g, pa = some ⟨g, 0, none⟩ := by
                  rcases hLr.ay with h | h
                  · rw [h] at hkl; simp at hkl
                  · exact h
                have r0 : wr.cell? ⟨lg, k, none⟩ = some (.string pv) := hLr.at hp0
                have HN : Hid (has bq (PL.take (k + 1)) = (has bq (PL.take k) || (pv.toList == bq.toList))) := by rw [htk]; exact has_app _ _ _
                have hql := HPL.out.2
                clear hp0 htk hpv hLr
                obtain ⟨sb, hsb⟩ : ∃ y, has bq (PL.take k) = y := ⟨_, rfl⟩
                rw [hsb] at HN ⊢
                obtain ⟨eb, heb⟩ : ∃ y, (pv.toList == bq.toList) = y := ⟨_, rfl⟩
                cases sb
                all_goals
                  go_wp2
                  go_roundw
                  case rel => exact ⟨k + 1, by omega, by go_num, by rw [HN.out]; first | rfl | (rw [heb]; rfl) | simp, hbr⟩
                  case measure => simp [intOf]; omega
              case' neg =>
                obtain rfl : k = PL.length := by omega
                have i2 : ¬ (PL.length : Int) < (PL.length : Int) := by omega
                have hyt : has bq (PL.take PL.length) = true := by rw [List.take_length]; exact has_mem HPL.out.1
                rw [hyt]
                have hbw := hbr.out
                clear hbr hkl hyt
                obtain ⟨v8, hv8⟩ : ∃ v, v = wr := ⟨_, rfl⟩
                subst hv8
                have HB_ : Hid (Below w.heap.size w v8) := HB.out.trans (Below.mono hbw (Below.size HB.out))
                have HM_ : Hid (v8.cell? ⟨0, 0, none⟩ = some (.int .i64 m)) := m_below HM.out hbw
                have HA_ : Hid (Us v8 ae ab aea aec aba abc) := us_below HA.out hbw
                have BA_ : Hid (v8.heap[w4.heap.size]? = some (.cells #[.slice aea ae.length aec, .slice aba ab.length abc] 27 (0, 0))) := bstay BA.out hbw (Array.getElem?_eq_some_iff.1 BA.out).1
                have HBd_ : Hid (Rr v8 ae PB g5 c5 k5 d5) := HBd.out.below hbw
                have BB_ : Hid (v8.heap[w5.heap.size]? = some (.cells #[.slice g5 ae.length c5, .slice k5 PB.length d5] 27 (0, 0))) := bstay BB.out hbw (Array.getElem?_eq_some_iff.1 BB.out).1
                have HU_ : Hid (Rr v8 ae GL gu cu (some ⟨ug, 0, none⟩) du) := HU.out.below hbw
                have BU_ : Hid (v8.heap[v4.heap.size]? = some (.cells #[.slice gu ae.length cu, .slice (some ⟨ug, 0, none⟩) GL.length du] 27 (0, 0))) := bstay BU.out hbw (Array.getElem?_eq_some_iff.1 BU.out).1
                have HP_ : Hid (Ls v8 PL pa) := HP.out.below hbw
                clear HB HM HA BA HBd BB HU BU HP
                have HB := HB_
                have HM := HM_
                have HA := HA_
                have BA := BA_
                have HBd := HBd_
                have BB := BB_
                have HU := HU_
                have BU := BU_
                have HP := HP_
                clear HB_ HM_ HA_ BA_ HBd_ BB_ HU_ BU_ HP_
                clear hbw hk
                clear HP
                clear HPL
                have u0 : v8.cell? ⟨v4.heap.size, 0, none⟩ = some (.slice gu ae.length cu) := bcell BU.out rfl
                have u1 : v8.cell? ⟨v4.heap.size, 1, none⟩ = some (.slice (some ⟨ug, 0, none⟩) GL.length du) := bcell BU.out rfl
                go_wp2
                clear u0 u1
                go_loopw [31] (fun x wr => ∃ k : Nat, k ≤ GL.length ∧ x = .int .i64 k ∧ Hid (Below v8.heap.size v8 wr)) (fun x _ => GL.length - (intOf x).toNat)
                case' atStart => exact ⟨0, Nat.zero_le _, rfl, by first | exact Below.refl _ _ | exact (Below.refl _ _).drew⟩
                case' round =>
                  obtain ⟨k, hk, rfl, hbr⟩ := hrel
                  have hgt := HSMG.out.tt
                  have hUr := HU.out.below hbr.out
                  have hBr : wr.heap[v4.heap.size]? = some (.cells #[.slice gu ae.length cu, .slice (some ⟨ug, 0, none⟩) GL.length du] 27 (0, 0)) := bstay BU.out hbr.out (Array.getElem?_eq_some_iff.1 BU.out).1
                  have u1 : wr.cell? ⟨v4.heap.size, 1, none⟩ = some (.slice (some ⟨ug, 0, none⟩) GL.length du) := bcell hBr rfl
                  by_cases hkl : k < GL.length
                  case' pos =>
                    have i2 : (k : Int) < (GL.length : Int) := by omega
                    have hp0 : GL[k]? = some GL[k] := List.getElem?_eq_getElem hkl
                    have hlt3 := HGL.out.1 _ _ hp0
                    obtain ⟨⟨gx, gk, gq⟩, hgv⟩ : ∃ y, GL[k] = y := ⟨_, rfl⟩
                    rw [hgv] at hp0 hlt3
                    have r0 := hUr.queue hp0
                    simp only at hlt3 r0
                    clear hp0 hgv hUr hBr
                    go_wp2
                    go_roundw
                    case rel => exact ⟨k + 1, by omega, by go_num, hbr⟩
                    case measure => simp [intOf]; omega
                  case' neg =>
                    obtain rfl : k = GL.length := by omega
                    have i2 : ¬ (GL.length : Int) < (GL.length : Int) := by omega
                    have hbw := hbr.out
                    clear hbr hkl hUr hBr hgt
                    obtain ⟨v9, hv9⟩ : ∃ v, v = wr := ⟨_, rfl⟩
                    subst hv9
                    have HB_ : Hid (Below w.heap.size w v9) := HB.out.trans (Below.mono hbw (Below.size HB.out))
                    have HM_ : Hid (v9.cell? ⟨0, 0, none⟩ = some (.int .i64 m)) := m_below HM.out hbw
                    have HA_ : Hid (Us v9 ae ab aea aec aba abc) := us_below HA.out hbw
                    have BA_ : Hid (v9.heap[w4.heap.size]? = some (.cells #[.slice aea ae.length aec, .slice aba ab.length abc] 27 (0, 0))) := bstay BA.out hbw (Array.getElem?_eq_some_iff.1 BA.out).1
                    have HBd_ : Hid (Rr v9 ae PB g5 c5 k5 d5) := HBd.out.below hbw
                    have BB_ : Hid (v9.heap[w5.heap.size]? = some (.cells #[.slice g5 ae.length c5, .slice k5 PB.length d5] 27 (0, 0))) := bstay BB.out hbw (Array.getElem?_eq_some_iff.1 BB.out).1
                    have HU_ : Hid (Rr v9 ae GL gu cu (some ⟨ug, 0, none⟩) du) := HU.out.below hbw
                    have BU_ : Hid (v9.heap[v4.heap.size]? = some (.cells #[.slice gu ae.length cu, .slice (some ⟨ug, 0, none⟩) GL.length du] 27 (0, 0))) := bstay BU.out hbw (Array.getElem?_eq_some_iff.1 BU.out).1
                    clear HB HM HA BA HBd BB HU BU
                    have HB := HB_
                    have HM := HM_
                    have HA := HA_
                    have BA := BA_
                    have HBd := HBd_
                    have BB := BB_
                    have HU := HU_
                    have BU := BU_
                    clear HB_ HM_ HA_ BA_ HBd_ BB_ HU_ BU_
                    clear hbw hk
                    have h13 := p_ok (ec := c5) (bc := d5) HBd.out HSMB.out (by omega)
                    rw [HOB.out] at h13
                    have x0 : v9.cell? ⟨w5.heap.size, 0, none⟩ = some (.slice g5 ae.length c5) := bcell BB.out rfl
                    have x1 : v9.cell? ⟨w5.heap.size, 1, none⟩ = some (.slice k5 PB.length d5) := bcell BB.out rfl
                    go_wp2_with (go_at_call 16; fail)
                    refine h13.mono ?_
                    rintro e v10 ⟨rfl, hb13⟩
                    have HBE : Hid (Below w.heap.size w v10) := HB.out.trans (Below.mono hb13 (Below.size HB.out))
                    clear h13 hb13 x0 x1
                    go_wp2
                    go_ret
                    exact ⟨rfl, HBE.out⟩
end Go.Proofs.YtnooibeohdfcmaaGreatDoor.rwk
