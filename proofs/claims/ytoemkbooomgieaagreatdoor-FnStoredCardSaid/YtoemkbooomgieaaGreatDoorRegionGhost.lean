/- A region that draws its order, whose operations may leave values that hang on what was drawn: the frame behind it is given by a ghost, which an operation may turn at its own temporary. -/
import Derived.Test.YtoemkbooomgieaaGreatDoorRegionDone
namespace Go.Proofs.YtoemkbooomgieaaGreatDoor.gh
open Go.Proofs.YtoemkbooomgieaaGreatDoor.dn

/-- two frames that differ at most where o writes -/
structure Agree (o : Oper) (f f' : Act) : Prop where
  defers : f'.defers = f.defers
  size : f'.tmps.size = f.tmps.size
  same : ∀ s, o.dst ≠ some s → f'.tmps[s]? = f.tmps[s]?
theorem Agree.refl (o : Oper) (f : Act) : Agree o f f := ⟨rfl, rfl, fun _ _ => rfl⟩

section
variable {σ : Type} {P : Program} {ops : Array Oper} {a0 : Act} {fin : σ → Act} {C : σ → (Nat → Bool) → World → Prop} {Q : Exit → Act → World → Prop}

/-- operation i, once those that it waits for are done -/
def Step (P : Program) (fin : σ → Act) (C : σ → (Nat → Bool) → World → Prop) (Q : Exit → Act → World → Prop) (i : Nat) (o : Oper) : Prop :=
  ∀ (s : σ) (L : Nat → Bool) (w : World) (a : Act), (∀ x ∈ o.op.operands, a.eval x = (fin s).eval x) → (∀ e ∈ o.after, Region.binds .any e = true → L e.on = true) → L i = false → C s L w →
    ∀ K : Act → World → Prop, (∀ (s' : σ) (v : Value) (w' : World), Agree o (fin s) (fin s') → (∀ d, o.dst = some d → (fin s').tmps[d]? = some v) → C s' (more L i) w' → K (a.put o.dst v) w') → o.wp P a w K Q

/-- an operation that leaves one value, out of the frame as it is -/
theorem step_val {i : Nat} {o : Oper} (hsel : ∀ cs b, o.op ≠ .select cs b)
    (h : ∀ (s : σ) (L : Nat → Bool) (w : World), (∀ e ∈ o.after, Region.binds .any e = true → L e.on = true) → L i = false → C s L w →
      ∃ s' v, Agree o (fin s) (fin s') ∧ (∀ d, o.dst = some d → (fin s').tmps[d]? = some v) ∧ left P v (C s' (more L i)) ((execOp (fin s).eval o).run P w)) : Step P fin C Q i o := by
  intro s L w a ha hd h0 hC K hK
  obtain ⟨s', v, hag, hv, hleft⟩ := h s L w hd h0 hC
  unfold Oper.wp
  rw [execOp_congr o hsel ha]
  generalize (execOp (fin s).eval o).run P w = r at *
  cases r with
  | ok n w' =>
    cases n <;> simp only [left] at hleft <;> simp only [Oper.upon]
    case value u =>
      obtain ⟨rfl, hD⟩ := hleft
      exact hK s' _ _ hag hv hD
    case skip =>
      obtain ⟨rfl, hD⟩ := hleft
      exact hK s' _ _ hag hv hD
    case enter f args =>
      exact hleft.mono fun e w'' ⟨he, hD⟩ => by subst he; exact hK s' _ _ hag hv hD
  | halt x w' => simp only [left] at hleft

theorem Fr.turn {s s' : σ} {L : Nat → Bool} {a : Act} (h : Fr ops a0 (fin s) L a) {i : Nat} {o : Oper} (hi : ops[i]? = some o) (hf : Fine ops o i) (h0 : L i = false) (hag : Agree o (fin s) (fin s')) : Fr ops a0 (fin s') L a := by
  refine ⟨h.defers.trans hag.defers.symm, h.size.trans hag.size.symm, fun j p q hj hp hL => ?_, h.rest⟩
  have hne : o.dst ≠ some q := fun e => by
    have := hf.alone q e j p hj hp
    subst this
    rw [h0] at hL
    cases hL
  rw [hag.same q hne]
  exact h.done j p q hj hp hL

theorem any_done (hok : okB ops = true) (hfin : ∀ (g : σ) (s : Nat), (∀ (i : Nat) (o : Oper), ops[i]? = some o → o.dst ≠ some s) → a0.tmps[s]? = (fin g).tmps[s]?)
    (hstep : ∀ (i : Nat) (o : Oper), ops[i]? = some o → Step P fin C Q i o) (hend : ∀ (s : σ) (L : Nat → Bool) (w : World), (∀ i, i < ops.size → L i = true) → C s L w → Q .normal (fin s) w) :
    ∀ (fuel : Nat) (l : Array Bool) (s : σ) (a : Act) (w : World), l.size = ops.size → undone l ≤ fuel → Fr ops a0 (fin s) (fun j => l.getD j false) a → C s (fun j => l.getD j false) w → wpAny P .any ops Q fuel l a w := by
  intro fuel
  have fin_of : ∀ (l : Array Bool) (s : σ) (a : Act) (w : World), l.size = ops.size → Fr ops a0 (fin s) (fun j => l.getD j false) a → C s (fun j => l.getD j false) w → Region.ready .any ops l = [] → Q .normal a w := by
    intro l s a w hs hfr hC hr
    have hall := ready_nil hs hok hr
    have hL : ∀ i, i < ops.size → (fun j => l.getD j false) i = true := fun i hi => hall i i (Nat.le_refl _) hi
    rw [hfr.all (hfin s) hL]
    exact hend s _ w hL hC
  induction fuel with
  | zero =>
    intro l s a w hs hu hfr hC
    have hr : Region.ready .any ops l = [] := by
      cases hr : Region.ready .any ops l with
      | nil => rfl
      | cons i r =>
        obtain ⟨hlt, hb, _⟩ := ready_spec hs (show i ∈ Region.ready .any ops l by rw [hr]; simp)
        exfalso
        unfold undone at hu
        have h0 : l.toList.filter (fun b => !b) = [] := List.eq_nil_of_length_eq_zero (by omega)
        have hm : false ∈ l.toList := by
          rw [Array.getD_eq_getD_getElem?, Array.getElem?_eq_getElem hlt] at hb
          simp only [Option.getD_some] at hb
          rw [← hb]
          simp
        have := List.filter_eq_nil_iff.1 h0 false hm
        simp at this
    exact ⟨hr, fin_of l s a w hs hfr hC hr⟩
  | succ fuel ih =>
    intro l s a w hs hu hfr hC
    refine ⟨fun hr => fin_of l s a w hs hfr hC hr, fun i hi => ?_⟩
    obtain ⟨hlt, hb, o, ho, hd⟩ := ready_spec hs hi
    have hf := fine_of hok ho
    have hs' : (l.setIfInBounds i true).size = ops.size := by simpa using hs
    have hu' : undone (l.setIfInBounds i true) ≤ fuel := by
      have h1 := undone_set l.toList i (by
        rw [Array.getD_eq_getD_getElem?, Array.getElem?_eq_getElem hlt] at hb
        simp only [Option.getD_some] at hb
        simp [hlt, hb])
      unfold undone at hu ⊢
      rw [Array.toList_setIfInBounds]
      omega
    have hw : Region.wanted o (yielded ops a.tmps) = true := by simp [Region.wanted, hf.guard]
    unfold wpOp
    rw [ho]
    simp only [hw, if_true]
    left
    refine hstep i o ho s (fun j => l.getD j false) w a (hfr.reads hf (hfin s) hd) hd hb hC _ (fun s' v w' hag hv hD => ?_)
    have hfr' := (Fr.turn hfr ho hf hb hag).step ho hf hv
    rw [← more_set l hlt] at hfr' hD
    exact ih _ _ _ _ hs' hu' hfr' hD

/-- each operation of a list that is written out, by its number -/
def Each (P : Program) (fin : σ → Act) (C : σ → (Nat → Bool) → World → Prop) (Q : Exit → Act → World → Prop) : Nat → List Oper → Prop
  | _, [] => True
  | n, o :: r => Step P fin C Q n o ∧ Each P fin C Q (n + 1) r

theorem each_get : ∀ (l : List Oper) (n : Nat), Each P fin C Q n l → ∀ (i : Nat) (o : Oper), l[i]? = some o → Step P fin C Q (n + i) o
  | [], _, _, i, o, h => by simp at h
  | x :: r, n, h, 0, o, ho => by simp at ho; subst ho; exact h.1
  | x :: r, n, h, i + 1, o, ho => by
    have := each_get r (n + 1) h.2 i o (by simpa using ho)
    rwa [show n + (i + 1) = n + 1 + i by omega]

/-- the slots of a list are alike in both -/
def Kept (a b : Array Value) : List Nat → Prop
  | [] => True
  | s :: r => a[s]? = b[s]? ∧ Kept a b r
theorem kept_get {a b : Array Value} : ∀ (l : List Nat), Kept a b l → ∀ s ∈ l, a[s]? = b[s]?
  | [], _, s, h => by cases h
  | x :: r, hk, s, h => by
    rcases List.mem_cons.1 h with rfl | h
    · exact hk.1
    · exact kept_get r hk.2 s h

theorem region_ghost {id : Nat} {l : List Oper} {w : World} (fin : σ → Act) (C : σ → (Nat → Bool) → World → Prop) (s0 : σ) (hm : P.follows .mixedOrders = true) (hok : okB l.toArray = true)
    (hdef : a0.defers = (fin s0).defers) (hsz : ∀ s, a0.tmps.size = (fin s).tmps.size) (ks : List Nat) (hks : ((List.range a0.tmps.size).filter fun s => !keepB l s) = ks) (hkeep : ∀ g, Kept a0.tmps (fin g).tmps ks)
    (hC : C s0 (fun _ => false) w.drew) (hstep : Each P fin C Q 0 l) (hend : ∀ (s : σ) (L : Nat → Bool) (w' : World), (∀ i, i < l.length → L i = true) → C s L w' → Q .normal (fin s) w') :
    (Code.region id l.toArray true).wp P Q a0 w := by
  refine wp_region_any hm ?_
  have hL0 : (fun j => (Array.replicate l.toArray.size false).getD j false) = fun _ => false := by
    funext j
    simp only [Array.getD_eq_getD_getElem?, Array.getElem?_replicate]
    split <;> rfl
  refine any_done (a0 := a0) (fin := fin) (C := C) hok (fun g s hs => ?_) (fun i o hi => ?_) (fun s L w' hL hD => hend s L w' (fun i hi => hL i (by simpa using hi)) hD) _ _ s0 _ _ (by simp) ?_ ?_ ?_
  · by_cases hlt : s < a0.tmps.size
    · refine kept_get ks (hkeep g) s ?_
      rw [← hks, List.mem_filter]
      refine ⟨by simpa using hlt, ?_⟩
      rw [Bool.not_eq_true']
      unfold keepB
      rw [List.any_eq_false]
      intro o ho
      obtain ⟨i, hi⟩ := List.getElem?_of_mem ho
      have := hs i o (by simpa using hi)
      simpa using this
    · rw [Array.getElem?_eq_none (by omega), Array.getElem?_eq_none (by rw [← hsz]; omega)]
  · have := each_get l 0 hstep i o (by simpa using hi)
    rwa [Nat.zero_add] at this
  · unfold undone
    refine Nat.le_trans (List.length_filter_le _ _) (by simp)
  · rw [hL0]
    exact ⟨hdef, hsz s0, fun i o s _ _ h => (by cases h), fun s _ => rfl⟩
  · rw [hL0]
    exact hC
end
end Go.Proofs.YtoemkbooomgieaaGreatDoor.gh
