/- A region that draws its order, whose operations may leave values that hang on what was drawn: the frame behind it is given by a ghost, which an operation may turn wherever no operation has been done. -/
import Derived.Test.YtnooibeohdfcmaaGreatDoorDoneKit
import Derived.Test.YtnooibeohdfcmaaGreatDoorRegionGhost

/- An operation of a region that draws its order, which enters a function whose answer is known only behind it. -/
namespace Go.Proofs.YtnooibeohdfcmaaGreatDoor.stc
set_option linter.unusedVariables false

/-- an operation that enters a function: what comes back is known only behind it -/
theorem step_call {σ : Type} {P : Program} {fin : σ → Act} {C : σ → (Nat → Bool) → World → Prop} {Q : Exit → Act → World → Prop} {i : Nat} {o : Oper} (hsel : ∀ cs b, o.op ≠ .select cs b) (f : FuncId) (args : Array Value)
    (h : ∀ (s : σ) (L : Nat → Bool) (w : World), (∀ e ∈ o.after, Region.binds .any e = true → L e.on = true) → L i = false → C s L w →
      (execOp (fin s).eval o).run P w = .ok (.enter f args) w ∧ Calls P f args w fun e w' => ∃ s' v, e = .returned v ∧ gh.Agree o (fin s) (fin s') ∧ (∀ d, o.dst = some d → (fin s').tmps[d]? = some v) ∧ C s' (dn.more L i) w') : gh.Step P fin C Q i o := by
  intro s L w a ha hd h0 hC K hK
  obtain ⟨hr, hc⟩ := h s L w hd h0 hC
  unfold Oper.wp
  rw [execOp_congr o hsel ha, hr]
  simp only [Oper.upon]
  exact hc.mono fun e w'' ⟨s', v, he, hag, hv, hD⟩ => by subst he; exact hK s' _ _ hag hv hD
end Go.Proofs.YtnooibeohdfcmaaGreatDoor.stc

/- A region that draws its order, whose operations with an effect wait for one another: they are done in one order, the others wherever they come. -/
namespace Go.Proofs.YtnooibeohdfcmaaGreatDoor.chn
open Go.Proofs.YtnooibeohdfcmaaGreatDoor.dn
set_option linter.unusedVariables false

/-- what is done waited for what it must; of the operations js the first k are done, and the world is as S says -/
def Cn {σ : Type} (l : List Oper) (js : List Nat) (S : σ → Nat → World → Prop) (s : σ) (L : Nat → Bool) (w : World) : Prop :=
  (∀ (i : Nat) (o : Oper), l[i]? = some o → L i = true → ∀ e ∈ o.after, Region.binds .any e = true → L e.on = true) ∧
  ∃ k, k ≤ js.length ∧ (∀ (m j : Nat), js[m]? = some j → L j = decide (m < k)) ∧ S s k w
theorem on (L : Nat → Bool) (i : Nat) : more L i i = true := by unfold more; rw [if_pos rfl]
theorem off (L : Nat → Bool) {i j : Nat} (h : j ≠ i) : more L i j = L j := by unfold more; rw [if_neg h]
theorem up {L : Nat → Bool} {i j : Nat} (h : L j = true) : more L i j = true := by
  unfold more
  split
  · rfl
  · exact h
theorem shut {l : List Oper} {L : Nat → Bool} {i : Nat} {o : Oper} (hl : l[i]? = some o) (hd : ∀ e ∈ o.after, Region.binds .any e = true → L e.on = true) (h : ∀ (i : Nat) (o : Oper), l[i]? = some o → L i = true → ∀ e ∈ o.after, Region.binds .any e = true → L e.on = true) :
    ∀ (i' : Nat) (o' : Oper), l[i']? = some o' → more L i i' = true → ∀ e ∈ o'.after, Region.binds .any e = true → more L i e.on = true := fun i' o' hl' hL e he hb => by
  by_cases hi : i' = i
  · subst hi
    rw [hl] at hl'
    cases hl'
    exact up (hd e he hb)
  · rw [off L hi] at hL
    exact up (h i' o' hl' hL e he hb)
section
variable {σ : Type} {P : Program} {act : Act} {ws : σ → List (Nat × Value)} {l : List Oper} {js : List Nat} {S : σ → Nat → World → Prop} {Q : Exit → Act → World → Prop} {i : Nat} {o : Oper}
/-- an operation without an effect, which the m-th of those with one waits for (or none does: m is how many they are) -/
theorem quiet (m : Nat) (hl : l[i]? = some o) (hi : i ∉ js) (hm : m = js.length ∨ ∃ j oj, js[m]? = some j ∧ l[j]? = some oj ∧ ∃ e ∈ oj.after, Region.binds .any e = true ∧ e.on = i) (hsel : ∀ cs b, o.op ≠ .select cs b) (u : σ → Value)
    (hd : ∀ s d, o.dst = some d → (dk.sets act (ws s)).tmps[d]? = some (u s)) (hrun : ∀ s k W, k ≤ m → S s k W → (execOp (dk.sets act (ws s)).eval o).run P W = .ok (.value (u s)) W) : gh.Step P (fun s => dk.sets act (ws s)) (Cn l js S) Q i o := by
  refine gh.step_val hsel fun s L W hdp h0 hC => ⟨s, u s, gh.Agree.refl _ _, hd s, ?_⟩
  obtain ⟨hc, k, hk, hL, hS⟩ := hC
  have hkm : k ≤ m := by
    rcases hm with rfl | ⟨j, oj, hj, hoj, e, he, hb, hon⟩
    · exact hk
    · rcases Nat.lt_or_ge m k with h | h
      · have h1 : L j = true := by rw [hL m j hj]; simpa using h
        have := hc j oj hoj h1 e he hb
        rw [hon, h0] at this
        cases this
      · exact h
  rw [hrun s k W hkm hS]
  refine ⟨rfl, shut hl hdp hc, k, hk, fun m' j hj => ?_, hS⟩
  rw [off L (fun e => hi (by rw [← e]; exact List.mem_of_getElem? hj))]
  exact hL m' j hj
theorem at_m {L : Nat → Bool} {k m : Nat} (hk : ∀ (m j : Nat), js[m]? = some j → L j = decide (m < k)) (hm : js[m]? = some i) (h0 : L i = false) (hdep : m = 0 ∨ ∃ e ∈ o.after, Region.binds .any e = true ∧ js[m - 1]? = some e.on) (hd : ∀ e ∈ o.after, Region.binds .any e = true → L e.on = true) : k = m := by
  have h1 := hk m i hm
  rw [h0] at h1
  have h2 : ¬ m < k := fun h => by simp [h] at h1
  rcases hdep with rfl | ⟨e, he, hb, hj⟩
  · omega
  · have h3 := hk (m - 1) e.on hj
    rw [hd e he hb] at h3
    have h4 : m - 1 < k := by simpa using h3.symm
    omega
theorem next_m {L : Nat → Bool} {m : Nat} (hnd : js.Nodup) (hm : js[m]? = some i) (hk : ∀ (m' j : Nat), js[m']? = some j → L j = decide (m' < m)) : ∀ (m' j : Nat), js[m']? = some j → more L i j = decide (m' < m + 1) := fun m' j hj => by
  by_cases hji : j = i
  · subst hji
    have h1 := (List.getElem?_eq_some_iff.1 hj)
    have h2 := (List.getElem?_eq_some_iff.1 hm)
    obtain ⟨a1, b1⟩ := h1
    obtain ⟨a2, b2⟩ := h2
    have : m' = m := by
      rcases Nat.lt_trichotomy m' m with h | h | h
      · exact absurd (b1.trans b2.symm) (List.pairwise_iff_getElem.1 hnd m' m a1 a2 h)
      · exact h
      · exact absurd (b2.trans b1.symm) (List.pairwise_iff_getElem.1 hnd m m' a2 a1 h)
    subst this
    rw [on]
    simp
  · rw [off L hji, hk m' j hj]
    have : m' ≠ m := fun e => by subst e; rw [hm] at hj; cases hj; exact hji rfl
    by_cases h : m' < m
    · simp [h, Nat.lt_succ_of_lt h]
    · simp [h, show ¬ m' < m + 1 by omega]
/-- the m-th of those with an effect -/
theorem eff (m : Nat) (hl : l[i]? = some o) (hnd : js.Nodup) (hm : js[m]? = some i) (hdep : m = 0 ∨ ∃ e ∈ o.after, Region.binds .any e = true ∧ js[m - 1]? = some e.on) (hsel : ∀ cs b, o.op ≠ .select cs b)
    (h : ∀ s W, S s m W → ∃ s' v, gh.Agree o (dk.sets act (ws s)) (dk.sets act (ws s')) ∧ (∀ d, o.dst = some d → (dk.sets act (ws s')).tmps[d]? = some v) ∧ left P v (S s' (m + 1)) ((execOp (dk.sets act (ws s)).eval o).run P W)) : gh.Step P (fun s => dk.sets act (ws s)) (Cn l js S) Q i o := by
  refine gh.step_val hsel fun s L W hdp h0 hC => ?_
  obtain ⟨hc, k, hk, hL, hS⟩ := hC
  obtain rfl := at_m hL hm h0 hdep hdp
  obtain ⟨s', v, h1, h2, h3⟩ := h s W hS
  refine ⟨s', v, h1, h2, ?_⟩
  have hlt := (List.getElem?_eq_some_iff.1 hm).1
  have hnew : ∀ W', S s' (k + 1) W' → Cn l js S s' (more L i) W' := fun W' hS' => ⟨shut hl hdp hc, k + 1, hlt, next_m hnd hm hL, hS'⟩
  generalize (execOp (dk.sets act (ws s)).eval o).run P W = r at *
  cases r with
  | ok n w' =>
    cases n <;> simp only [left] at h3 ⊢
    case value u => exact ⟨h3.1, hnew _ h3.2⟩
    case skip => exact ⟨h3.1, hnew _ h3.2⟩
    case enter f args => exact h3.mono fun e w'' ⟨he, hD⟩ => ⟨he, hnew _ hD⟩
  | halt x w' => simp only [left] at h3
/-- one of them that enters a function whose answer is known only behind it -/
theorem call (m : Nat) (hl : l[i]? = some o) (hnd : js.Nodup) (hm : js[m]? = some i) (hdep : m = 0 ∨ ∃ e ∈ o.after, Region.binds .any e = true ∧ js[m - 1]? = some e.on) (hsel : ∀ cs b, o.op ≠ .select cs b) (f : FuncId) (args : Array Value)
    (h : ∀ s W, S s m W → (execOp (dk.sets act (ws s)).eval o).run P W = .ok (.enter f args) W ∧ Calls P f args W fun e w' => ∃ s' v, e = .returned v ∧ gh.Agree o (dk.sets act (ws s)) (dk.sets act (ws s')) ∧ (∀ d, o.dst = some d → (dk.sets act (ws s')).tmps[d]? = some v) ∧ S s' (m + 1) w') : gh.Step P (fun s => dk.sets act (ws s)) (Cn l js S) Q i o := by
  refine stc.step_call hsel f args fun s L W hdp h0 hC => ?_
  obtain ⟨hc, k, hk, hL, hS⟩ := hC
  obtain rfl := at_m hL hm h0 hdep hdp
  obtain ⟨h1, h2⟩ := h s W hS
  have hlt := (List.getElem?_eq_some_iff.1 hm).1
  exact ⟨h1, h2.mono fun e w' ⟨s', v, he, ha, hv, hS'⟩ => ⟨s', v, he, ha, hv, shut hl hdp hc, k + 1, hlt, next_m hnd hm hL, hS'⟩⟩
theorem val {v : Value} {D : World → Prop} {r : Result Next} {w' : World} (h : r = .ok (.value v) w') (hD : D w') : left P v D r := by rw [h]; exact ⟨rfl, hD⟩
theorem skip {D : World → Prop} {r : Result Next} {w' : World} (h : r = .ok .skip w') (hD : D w') : left P undef D r := by rw [h]; exact ⟨rfl, hD⟩
/-- one of them that stores -/
theorem sto (m : Nat) (hl : l[i]? = some o) (hnd : js.Nodup) (hm : js[m]? = some i) (hdep : m = 0 ∨ ∃ e ∈ o.after, Region.binds .any e = true ∧ js[m - 1]? = some e.on) (hsel : ∀ cs b, o.op ≠ .select cs b) (hdst : o.dst = none)
    (h : ∀ s W, S s m W → ∃ w', (execOp (dk.sets act (ws s)).eval o).run P W = .ok .skip w' ∧ S s (m + 1) w') : gh.Step P (fun s => dk.sets act (ws s)) (Cn l js S) Q i o := by
  refine eff m hl hnd hm hdep hsel fun s W hS => ?_
  obtain ⟨w', h1, h2⟩ := h s W hS
  exact ⟨s, undef, gh.Agree.refl _ _, fun d hd => (by rw [hdst] at hd; cases hd), skip h1 h2⟩
/-- the whole region -/
theorem region {id : Nat} {w : World} (ks : List Nat) (s0 : σ) (hm : P.follows .mixedOrders = true) (hok : okB l.toArray = true) (hw : ∀ g, (ws g).map (·.1) = ks) (hks : (ks.all fun t => keepB l t) = true) (hjs : ∀ j ∈ js, j < l.length) (hS : S s0 0 w.drew)
    (hstep : gh.Each P (fun g => dk.sets act (ws g)) (Cn l js S) Q 0 l) (hend : ∀ s w', S s js.length w' → Q .normal (dk.sets act (ws s)) w') : (Code.region id l.toArray true).wp P Q act w := by
  refine dk.region_gsets ws ks (Cn l js S) s0 hm hok hw hks ⟨fun i o _ h => (by cases h), 0, Nat.zero_le _, fun m j _ => by simp, hS⟩ hstep fun s L w' hL hC => ?_
  obtain ⟨_, k, hk, hLk, hS'⟩ := hC
  have : k = js.length := by
    rcases Nat.lt_or_ge k js.length with h | h
    · have h1 := hLk k js[k] (List.getElem?_eq_getElem h)
      rw [hL _ (hjs _ (List.getElem_mem h))] at h1
      simp at h1
    · omega
  subst this
  exact hend s w' hS'
end
end Go.Proofs.YtnooibeohdfcmaaGreatDoor.chn

/- A region that draws its order, whose operations may leave values that hang on what was drawn: the frame behind it is given by a ghost, which an operation may turn wherever no operation has been done. -/
namespace Go.Proofs.YtnooibeohdfcmaaGreatDoor.gt
open Go.Proofs.YtnooibeohdfcmaaGreatDoor.dn

/-- two frames that are alike wherever an operation has been done -/
structure Turn (ops : Array Oper) (L : Nat → Bool) (f f' : Act) : Prop where
  defers : f'.defers = f.defers
  size : f'.tmps.size = f.tmps.size
  same : ∀ (j : Nat) (p : Oper) (q : Nat), ops[j]? = some p → p.dst = some q → L j = true → f'.tmps[q]? = f.tmps[q]?
theorem Turn.refl (ops : Array Oper) (L : Nat → Bool) (f : Act) : Turn ops L f f := ⟨rfl, rfl, fun _ _ _ _ _ _ => rfl⟩

section
variable {σ : Type} {P : Program} {ops : Array Oper} {a0 : Act} {fin : σ → Act} {C : σ → (Nat → Bool) → World → Prop} {Q : Exit → Act → World → Prop}

/-- operation i, once those that it waits for are done -/
def Step (P : Program) (ops : Array Oper) (fin : σ → Act) (C : σ → (Nat → Bool) → World → Prop) (Q : Exit → Act → World → Prop) (i : Nat) (o : Oper) : Prop :=
  ∀ (s : σ) (L : Nat → Bool) (w : World) (a : Act), (∀ x ∈ o.op.operands, a.eval x = (fin s).eval x) → (∀ e ∈ o.after, Region.binds .any e = true → L e.on = true) → L i = false → C s L w →
    ∀ K : Act → World → Prop, (∀ (s' : σ) (v : Value) (w' : World), Turn ops L (fin s) (fin s') → (∀ d, o.dst = some d → (fin s').tmps[d]? = some v) → C s' (more L i) w' → K (a.put o.dst v) w') → o.wp P a w K Q

/-- an operation that leaves one value, out of the frame as it is -/
theorem step_val {i : Nat} {o : Oper} (hsel : ∀ cs b, o.op ≠ .select cs b)
    (h : ∀ (s : σ) (L : Nat → Bool) (w : World), (∀ e ∈ o.after, Region.binds .any e = true → L e.on = true) → L i = false → C s L w →
      ∃ s' v, Turn ops L (fin s) (fin s') ∧ (∀ d, o.dst = some d → (fin s').tmps[d]? = some v) ∧ left P v (C s' (more L i)) ((execOp (fin s).eval o).run P w)) : Step P ops fin C Q i o := by
  intro s L w a ha hd h0 hC K hK
  obtain ⟨s', v, hag, hv, hleft⟩ := h s L w hd h0 hC
  unfold Oper.wp
  rw [execOp_congr o hsel ha]
  generalize (execOp (fin s).eval o).run P w = r at *
  cases r with
  | ok n w' =>
    cases n <;> simp only [left] at hleft <;> simp only [Oper.upon]
    case value u =>
      obtain ⟨rfl, hD⟩ := hleft
      exact hK s' _ _ hag hv hD
    case skip =>
      obtain ⟨rfl, hD⟩ := hleft
      exact hK s' _ _ hag hv hD
    case enter f args =>
      exact hleft.mono fun e w'' ⟨he, hD⟩ => by subst he; exact hK s' _ _ hag hv hD
  | halt x w' => simp only [left] at hleft

theorem Fr.turn {s s' : σ} {L : Nat → Bool} {a : Act} (h : Fr ops a0 (fin s) L a) (hag : Turn ops L (fin s) (fin s')) : Fr ops a0 (fin s') L a := by
  refine ⟨h.defers.trans hag.defers.symm, h.size.trans hag.size.symm, fun j p q hj hp hL => ?_, h.rest⟩
  rw [hag.same j p q hj hp hL]
  exact h.done j p q hj hp hL

theorem any_done (hok : okB ops = true) (hfin : ∀ (g : σ) (s : Nat), (∀ (i : Nat) (o : Oper), ops[i]? = some o → o.dst ≠ some s) → a0.tmps[s]? = (fin g).tmps[s]?)
    (hstep : ∀ (i : Nat) (o : Oper), ops[i]? = some o → Step P ops fin C Q i o) (hend : ∀ (s : σ) (L : Nat → Bool) (w : World), (∀ i, i < ops.size → L i = true) → C s L w → Q .normal (fin s) w) :
    ∀ (fuel : Nat) (l : Array Bool) (s : σ) (a : Act) (w : World), l.size = ops.size → undone l ≤ fuel → Fr ops a0 (fin s) (fun j => l.getD j false) a → C s (fun j => l.getD j false) w → wpAny P .any ops Q fuel l a w := by
  intro fuel
  have fin_of : ∀ (l : Array Bool) (s : σ) (a : Act) (w : World), l.size = ops.size → Fr ops a0 (fin s) (fun j => l.getD j false) a → C s (fun j => l.getD j false) w → Region.ready .any ops l = [] → Q .normal a w := by
    intro l s a w hs hfr hC hr
    have hall := ready_nil hs hok hr
    have hL : ∀ i, i < ops.size → (fun j => l.getD j false) i = true := fun i hi => hall i i (Nat.le_refl _) hi
    rw [hfr.all (hfin s) hL]
    exact hend s _ w hL hC
  induction fuel with
  | zero =>
    intro l s a w hs hu hfr hC
    have hr : Region.ready .any ops l = [] := by
      cases hr : Region.ready .any ops l with
      | nil => rfl
      | cons i r =>
        obtain ⟨hlt, hb, _⟩ := ready_spec hs (show i ∈ Region.ready .any ops l by rw [hr]; simp)
        exfalso
        unfold undone at hu
        have h0 : l.toList.filter (fun b => !b) = [] := List.eq_nil_of_length_eq_zero (by omega)
        have hm : false ∈ l.toList := by
          rw [Array.getD_eq_getD_getElem?, Array.getElem?_eq_getElem hlt] at hb
          simp only [Option.getD_some] at hb
          rw [← hb]
          simp
        have := List.filter_eq_nil_iff.1 h0 false hm
        simp at this
    exact ⟨hr, fin_of l s a w hs hfr hC hr⟩
  | succ fuel ih =>
    intro l s a w hs hu hfr hC
    refine ⟨fun hr => fin_of l s a w hs hfr hC hr, fun i hi => ?_⟩
    obtain ⟨hlt, hb, o, ho, hd⟩ := ready_spec hs hi
    have hf := fine_of hok ho
    have hs' : (l.setIfInBounds i true).size = ops.size := by simpa using hs
    have hu' : undone (l.setIfInBounds i true) ≤ fuel := by
      have h1 := undone_set l.toList i (by
        rw [Array.getD_eq_getD_getElem?, Array.getElem?_eq_getElem hlt] at hb
        simp only [Option.getD_some] at hb
        simp [hlt, hb])
      unfold undone at hu ⊢
      rw [Array.toList_setIfInBounds]
      omega
    have hw : Region.wanted o (yielded ops a.tmps) = true := by simp [Region.wanted, hf.guard]
    unfold wpOp
    rw [ho]
    simp only [hw, if_true]
    left
    refine hstep i o ho s (fun j => l.getD j false) w a (hfr.reads hf (hfin s) hd) hd hb hC _ (fun s' v w' hag hv hD => ?_)
    have hfr' := (Fr.turn hfr hag).step ho hf hv
    rw [← more_set l hlt] at hfr' hD
    exact ih _ _ _ _ hs' hu' hfr' hD

/-- each operation of a list that is written out, by its number -/
def Each (P : Program) (ops : Array Oper) (fin : σ → Act) (C : σ → (Nat → Bool) → World → Prop) (Q : Exit → Act → World → Prop) : Nat → List Oper → Prop
  | _, [] => True
  | n, o :: r => Step P ops fin C Q n o ∧ Each P ops fin C Q (n + 1) r

theorem each_get : ∀ (l : List Oper) (n : Nat), Each P ops fin C Q n l → ∀ (i : Nat) (o : Oper), l[i]? = some o → Step P ops fin C Q (n + i) o
  | [], _, _, i, o, h => by simp at h
  | x :: r, n, h, 0, o, ho => by simp at ho; subst ho; exact h.1
  | x :: r, n, h, i + 1, o, ho => by
    have := each_get r (n + 1) h.2 i o (by simpa using ho)
    rwa [show n + (i + 1) = n + 1 + i by omega]

theorem region_ghost {id : Nat} {l : List Oper} {w : World} (fin : σ → Act) (C : σ → (Nat → Bool) → World → Prop) (s0 : σ) (hm : P.follows .mixedOrders = true) (hok : okB l.toArray = true)
    (hdef : a0.defers = (fin s0).defers) (hsz : ∀ s, a0.tmps.size = (fin s).tmps.size) (ks : List Nat) (hks : ((List.range a0.tmps.size).filter fun s => !keepB l s) = ks) (hkeep : ∀ g, gh.Kept a0.tmps (fin g).tmps ks)
    (hC : C s0 (fun _ => false) w.drew) (hstep : Each P l.toArray fin C Q 0 l) (hend : ∀ (s : σ) (L : Nat → Bool) (w' : World), (∀ i, i < l.length → L i = true) → C s L w' → Q .normal (fin s) w') :
    (Code.region id l.toArray true).wp P Q a0 w := by
  refine wp_region_any hm ?_
  have hL0 : (fun j => (Array.replicate l.toArray.size false).getD j false) = fun _ => false := by
    funext j
    simp only [Array.getD_eq_getD_getElem?, Array.getElem?_replicate]
    split <;> rfl
  refine any_done (a0 := a0) (fin := fin) (C := C) hok (fun g s hs => ?_) (fun i o hi => ?_) (fun s L w' hL hD => hend s L w' (fun i hi => hL i (by simpa using hi)) hD) _ _ s0 _ _ (by simp) ?_ ?_ ?_
  · by_cases hlt : s < a0.tmps.size
    · refine gh.kept_get ks (hkeep g) s ?_
      rw [← hks, List.mem_filter]
      refine ⟨by simpa using hlt, ?_⟩
      rw [Bool.not_eq_true']
      unfold keepB
      rw [List.any_eq_false]
      intro o ho
      obtain ⟨i, hi⟩ := List.getElem?_of_mem ho
      have := hs i o (by simpa using hi)
      simpa using this
    · rw [Array.getElem?_eq_none (by omega), Array.getElem?_eq_none (by rw [← hsz]; omega)]
  · have := each_get l 0 hstep i o (by simpa using hi)
    rwa [Nat.zero_add] at this
  · unfold undone
    refine Nat.le_trans (List.length_filter_le _ _) (by simp)
  · rw [hL0]
    exact ⟨hdef, hsz s0, fun i o s _ _ h => (by cases h), fun s _ => rfl⟩
  · rw [hL0]
    exact hC
end
end Go.Proofs.YtnooibeohdfcmaaGreatDoor.gt
