/- FnStored: what stands on the way, and how each round turns it. -/
import Derived.Test.YtoemkbooomgieaaGreatDoorRegionGhost
import Derived.Test.YtoemkbooomgieaaGreatDoorDw27
import Derived.Test.YtoemkbooomgieaaGreatDoorDw01

/- A region that draws its order, whose operations may leave values that hang on what was drawn: the frame behind it is given by a ghost, which an operation may turn wherever no operation has been done. -/
namespace Go.Proofs.YtoemkbooomgieaaGreatDoor.gt
open Go.Proofs.YtoemkbooomgieaaGreatDoor.dn

/-- two frames that are alike wherever an operation has been done -/
structure Turn (ops : Array Oper) (L : Nat → Bool) (f f' : Act) : Prop where
  defers : f'.defers = f.defers
  size : f'.tmps.size = f.tmps.size
  same : ∀ (j : Nat) (p : Oper) (q : Nat), ops[j]? = some p → p.dst = some q → L j = true → f'.tmps[q]? = f.tmps[q]?
theorem Turn.refl (ops : Array Oper) (L : Nat → Bool) (f : Act) : Turn ops L f f := ⟨rfl, rfl, fun _ _ _ _ _ _ => rfl⟩

section
variable {σ : Type} {P : Program} {ops : Array Oper} {a0 : Act} {fin : σ → Act} {C : σ → (Nat → Bool) → World → Prop} {Q : Exit → Act → World → Prop}

/-- operation i, once those that it waits for are done -/
def Step (P : Program) (ops : Array Oper) (fin : σ → Act) (C : σ → (Nat → Bool) → World → Prop) (Q : Exit → Act → World → Prop) (i : Nat) (o : Oper) : Prop :=
  ∀ (s : σ) (L : Nat → Bool) (w : World) (a : Act), (∀ x ∈ o.op.operands, a.eval x = (fin s).eval x) → (∀ e ∈ o.after, Region.binds .any e = true → L e.on = true) → L i = false → C s L w →
    ∀ K : Act → World → Prop, (∀ (s' : σ) (v : Value) (w' : World), Turn ops L (fin s) (fin s') → (∀ d, o.dst = some d → (fin s').tmps[d]? = some v) → C s' (more L i) w' → K (a.put o.dst v) w') → o.wp P a w K Q

/-- an operation that leaves one value, out of the frame as it is -/
theorem step_val {i : Nat} {o : Oper} (hsel : ∀ cs b, o.op ≠ .select cs b)
    (h : ∀ (s : σ) (L : Nat → Bool) (w : World), (∀ e ∈ o.after, Region.binds .any e = true → L e.on = true) → L i = false → C s L w →
      ∃ s' v, Turn ops L (fin s) (fin s') ∧ (∀ d, o.dst = some d → (fin s').tmps[d]? = some v) ∧ left P v (C s' (more L i)) ((execOp (fin s).eval o).run P w)) : Step P ops fin C Q i o := by
  intro s L w a ha hd h0 hC K hK
  obtain ⟨s', v, hag, hv, hleft⟩ := h s L w hd h0 hC
  unfold Oper.wp
  rw [execOp_congr o hsel ha]
  generalize (execOp (fin s).eval o).run P w = r at *
  cases r with
  | ok n w' =>
    cases n <;> simp only [left] at hleft <;> simp only [Oper.upon]
    case value u =>
      obtain ⟨rfl, hD⟩ := hleft
      exact hK s' _ _ hag hv hD
    case skip =>
      obtain ⟨rfl, hD⟩ := hleft
      exact hK s' _ _ hag hv hD
    case enter f args =>
      exact hleft.mono fun e w'' ⟨he, hD⟩ => by subst he; exact hK s' _ _ hag hv hD
  | halt x w' => simp only [left] at hleft

theorem Fr.turn {s s' : σ} {L : Nat → Bool} {a : Act} (h : Fr ops a0 (fin s) L a) (hag : Turn ops L (fin s) (fin s')) : Fr ops a0 (fin s') L a := by
  refine ⟨h.defers.trans hag.defers.symm, h.size.trans hag.size.symm, fun j p q hj hp hL => ?_, h.rest⟩
  rw [hag.same j p q hj hp hL]
  exact h.done j p q hj hp hL

theorem any_done (hok : okB ops = true) (hfin : ∀ (g : σ) (s : Nat), (∀ (i : Nat) (o : Oper), ops[i]? = some o → o.dst ≠ some s) → a0.tmps[s]? = (fin g).tmps[s]?)
    (hstep : ∀ (i : Nat) (o : Oper), ops[i]? = some o → Step P ops fin C Q i o) (hend : ∀ (s : σ) (L : Nat → Bool) (w : World), (∀ i, i < ops.size → L i = true) → C s L w → Q .normal (fin s) w) :
    ∀ (fuel : Nat) (l : Array Bool) (s : σ) (a : Act) (w : World), l.size = ops.size → undone l ≤ fuel → Fr ops a0 (fin s) (fun j => l.getD j false) a → C s (fun j => l.getD j false) w → wpAny P .any ops Q fuel l a w := by
  intro fuel
  have fin_of : ∀ (l : Array Bool) (s : σ) (a : Act) (w : World), l.size = ops.size → Fr ops a0 (fin s) (fun j => l.getD j false) a → C s (fun j => l.getD j false) w → Region.ready .any ops l = [] → Q .normal a w := by
    intro l s a w hs hfr hC hr
    have hall := ready_nil hs hok hr
    have hL : ∀ i, i < ops.size → (fun j => l.getD j false) i = true := fun i hi => hall i i (Nat.le_refl _) hi
    rw [hfr.all (hfin s) hL]
    exact hend s _ w hL hC
  induction fuel with
  | zero =>
    intro l s a w hs hu hfr hC
    have hr : Region.ready .any ops l = [] := by
      cases hr : Region.ready .any ops l with
      | nil => rfl
      | cons i r =>
        obtain ⟨hlt, hb, _⟩ := ready_spec hs (show i ∈ Region.ready .any ops l by rw [hr]; simp)
        exfalso
        unfold undone at hu
        have h0 : l.toList.filter (fun b => !b) = [] := List.eq_nil_of_length_eq_zero (by omega)
        have hm : false ∈ l.toList := by
          rw [Array.getD_eq_getD_getElem?, Array.getElem?_eq_getElem hlt] at hb
          simp only [Option.getD_some] at hb
          rw [← hb]
          simp
        have := List.filter_eq_nil_iff.1 h0 false hm
        simp at this
    exact ⟨hr, fin_of l s a w hs hfr hC hr⟩
  | succ fuel ih =>
    intro l s a w hs hu hfr hC
    refine ⟨fun hr => fin_of l s a w hs hfr hC hr, fun i hi => ?_⟩
    obtain ⟨hlt, hb, o, ho, hd⟩ := ready_spec hs hi
    have hf := fine_of hok ho
    have hs' : (l.setIfInBounds i true).size = ops.size := by simpa using hs
    have hu' : undone (l.setIfInBounds i true) ≤ fuel := by
      have h1 := undone_set l.toList i (by
        rw [Array.getD_eq_getD_getElem?, Array.getElem?_eq_getElem hlt] at hb
        simp only [Option.getD_some] at hb
        simp [hlt, hb])
      unfold undone at hu ⊢
      rw [Array.toList_setIfInBounds]
      omega
    have hw : Region.wanted o (yielded ops a.tmps) = true := by simp [Region.wanted, hf.guard]
    unfold wpOp
    rw [ho]
    simp only [hw, if_true]
    left
    refine hstep i o ho s (fun j => l.getD j false) w a (hfr.reads hf (hfin s) hd) hd hb hC _ (fun s' v w' hag hv hD => ?_)
    have hfr' := (Fr.turn hfr hag).step ho hf hv
    rw [← more_set l hlt] at hfr' hD
    exact ih _ _ _ _ hs' hu' hfr' hD

/-- each operation of a list that is written out, by its number -/
def Each (P : Program) (ops : Array Oper) (fin : σ → Act) (C : σ → (Nat → Bool) → World → Prop) (Q : Exit → Act → World → Prop) : Nat → List Oper → Prop
  | _, [] => True
  | n, o :: r => Step P ops fin C Q n o ∧ Each P ops fin C Q (n + 1) r

theorem each_get : ∀ (l : List Oper) (n : Nat), Each P ops fin C Q n l → ∀ (i : Nat) (o : Oper), l[i]? = some o → Step P ops fin C Q (n + i) o
  | [], _, _, i, o, h => by simp at h
  | x :: r, n, h, 0, o, ho => by simp at ho; subst ho; exact h.1
  | x :: r, n, h, i + 1, o, ho => by
    have := each_get r (n + 1) h.2 i o (by simpa using ho)
    rwa [show n + (i + 1) = n + 1 + i by omega]

theorem region_ghost {id : Nat} {l : List Oper} {w : World} (fin : σ → Act) (C : σ → (Nat → Bool) → World → Prop) (s0 : σ) (hm : P.follows .mixedOrders = true) (hok : okB l.toArray = true)
    (hdef : a0.defers = (fin s0).defers) (hsz : ∀ s, a0.tmps.size = (fin s).tmps.size) (ks : List Nat) (hks : ((List.range a0.tmps.size).filter fun s => !keepB l s) = ks) (hkeep : ∀ g, gh.Kept a0.tmps (fin g).tmps ks)
    (hC : C s0 (fun _ => false) w.drew) (hstep : Each P l.toArray fin C Q 0 l) (hend : ∀ (s : σ) (L : Nat → Bool) (w' : World), (∀ i, i < l.length → L i = true) → C s L w' → Q .normal (fin s) w') :
    (Code.region id l.toArray true).wp P Q a0 w := by
  refine wp_region_any hm ?_
  have hL0 : (fun j => (Array.replicate l.toArray.size false).getD j false) = fun _ => false := by
    funext j
    simp only [Array.getD_eq_getD_getElem?, Array.getElem?_replicate]
    split <;> rfl
  refine any_done (a0 := a0) (fin := fin) (C := C) hok (fun g s hs => ?_) (fun i o hi => ?_) (fun s L w' hL hD => hend s L w' (fun i hi => hL i (by simpa using hi)) hD) _ _ s0 _ _ (by simp) ?_ ?_ ?_
  · by_cases hlt : s < a0.tmps.size
    · refine gh.kept_get ks (hkeep g) s ?_
      rw [← hks, List.mem_filter]
      refine ⟨by simpa using hlt, ?_⟩
      rw [Bool.not_eq_true']
      unfold keepB
      rw [List.any_eq_false]
      intro o ho
      obtain ⟨i, hi⟩ := List.getElem?_of_mem ho
      have := hs i o (by simpa using hi)
      simpa using this
    · rw [Array.getElem?_eq_none (by omega), Array.getElem?_eq_none (by rw [← hsz]; omega)]
  · have := each_get l 0 hstep i o (by simpa using hi)
    rwa [Nat.zero_add] at this
  · unfold undone
    refine Nat.le_trans (List.length_filter_le _ _) (by simp)
  · rw [hL0]
    exact ⟨hdef, hsz s0, fun i o s _ _ h => (by cases h), fun s _ => rfl⟩
  · rw [hL0]
    exact hC
end
end Go.Proofs.YtoemkbooomgieaaGreatDoor.gt

/- A region that draws its order, whose operations with an effect wait for one another (as in ChainKit); what one of them leaves may show in the temporaries of those that wait for it. -/
namespace Go.Proofs.YtoemkbooomgieaaGreatDoor.cht
open Go.Proofs.YtoemkbooomgieaaGreatDoor.dn
open Go.Proofs.YtoemkbooomgieaaGreatDoor.chn (Cn on off up shut at_m next_m)
set_option linter.unusedVariables false

/-- the slots of the operations zs are qz, and each of zs is i or waits for one ahead of it in zs -/
def waitB (l : List Oper) (i : Nat) : List Nat → List Nat → Bool
  | _, [] => true
  | ys, z :: zs => ((z == i) || (match l[z]? with | some o => o.after.any fun e => Region.binds .any e && ys.contains e.on | none => false)) && waitB l i (z :: ys) zs
def slotB (l : List Oper) (zs qz : List Nat) : Bool := (List.range l.length).all fun j => match l[j]? with | some o => (match o.dst with | some q => !(qz.contains q) || zs.contains j | none => true) | none => true
theorem wait_not {l : List Oper} {i : Nat} {L : Nat → Bool} (hc : ∀ (i : Nat) (o : Oper), l[i]? = some o → L i = true → ∀ e ∈ o.after, Region.binds .any e = true → L e.on = true) (h0 : L i = false) : ∀ (zs ys : List Nat), (∀ y ∈ ys, L y = false) → waitB l i ys zs = true → ∀ z ∈ zs, L z = false
  | [], _, _, _, z, hz => by cases hz
  | x :: zs, ys, hy, hw, z, hz => by
    simp only [waitB, Bool.and_eq_true, Bool.or_eq_true] at hw
    have hx : L x = false := by
      rcases hw.1 with h | h
      · rw [beq_iff_eq] at h; rw [h]; exact h0
      · cases ho : l[x]? with
        | none => rw [ho] at h; cases h
        | some o =>
          rw [ho] at h
          simp only [Array.any_eq_true, Bool.and_eq_true, List.contains_iff_mem] at h
          obtain ⟨n, hn, hb, hm⟩ := h
          cases hL : L x with
          | false => rfl
          | true =>
            have := hc x o ho hL _ (Array.getElem_mem hn) hb
            rw [hy _ hm] at this
            cases this
    rcases List.mem_cons.1 hz with rfl | hz
    · exact hx
    · exact wait_not hc h0 zs (x :: ys) (fun y hy' => by rcases List.mem_cons.1 hy' with rfl | h; exact hx; exact hy y h) hw.2 z hz
theorem slot_in {l : List Oper} {zs qz : List Nat} (h : slotB l zs qz = true) {j : Nat} {o : Oper} {q : Nat} (hj : l[j]? = some o) (hq : o.dst = some q) (hm : q ∈ qz) : j ∈ zs := by
  have hlt := (List.getElem?_eq_some_iff.1 hj).1
  have := List.all_eq_true.1 h j (List.mem_range.2 hlt)
  rw [hj] at this
  simp only [hq] at this
  simp only [Bool.or_eq_true, Bool.not_eq_true', List.contains_iff_mem] at this
  rcases this with h1 | h1
  · exact absurd hm (by simpa using h1)
  · exact h1
theorem turn_of {l : List Oper} {L : Nat → Bool} {zs qz : List Nat} {a : Act} {ws ws' : List (Nat × Value)} (hz : ∀ z ∈ zs, L z = false) (hs : slotB l zs qz = true) (h : ∀ q, q ∉ qz → ws'.lookup q = ws.lookup q) : gt.Turn l.toArray L (dk.sets a ws) (dk.sets a ws') := by
  refine ⟨by rw [dk.sets_defers, dk.sets_defers], by rw [dk.sets_size, dk.sets_size], fun j p q hj hp hL => ?_⟩
  have hq : q ∉ qz := fun hm => by
    have := hz j (slot_in hs (by simpa using hj) hp hm)
    rw [this] at hL
    cases hL
  rw [dk.sets_get, dk.sets_get, h q hq]
theorem lookup_but {A B B' : List (Nat × Value)} {qz : List Nat} (h1 : B.map (·.1) = qz) (h2 : B'.map (·.1) = qz) {q : Nat} (hq : q ∉ qz) : (A ++ B').lookup q = (A ++ B).lookup q := by
  have no : ∀ C : List (Nat × Value), q ∉ C.map (·.1) → C.lookup q = none := fun C hC => by
    induction C with
    | nil => rfl
    | cons x r ih =>
      obtain ⟨t, v⟩ := x
      simp only [List.map_cons, List.mem_cons, not_or] at hC
      rw [List.lookup_cons, beq_false_of_ne hC.1]
      exact ih hC.2
  induction A with
  | nil => rw [List.nil_append, List.nil_append, no B (by rw [h1]; exact hq), no B' (by rw [h2]; exact hq)]
  | cons x r ih =>
    obtain ⟨t, v⟩ := x
    rw [List.cons_append, List.cons_append, List.lookup_cons, List.lookup_cons, ih]
section
variable {σ : Type} {P : Program} {act : Act} {ws : σ → List (Nat × Value)} {l : List Oper} {js : List Nat} {S : σ → Nat → World → Prop} {Q : Exit → Act → World → Prop} {i : Nat} {o : Oper}
/-- an operation without an effect, which the m-th of those with one waits for (or none does: m is how many they are) -/
theorem quiet (m : Nat) (hl : l[i]? = some o) (hi : i ∉ js) (hm : m = js.length ∨ ∃ j oj, js[m]? = some j ∧ l[j]? = some oj ∧ ∃ e ∈ oj.after, Region.binds .any e = true ∧ e.on = i) (hsel : ∀ cs b, o.op ≠ .select cs b) (u : σ → Value)
    (hd : ∀ s d, o.dst = some d → (dk.sets act (ws s)).tmps[d]? = some (u s)) (hrun : ∀ s k W, k ≤ m → S s k W → (execOp (dk.sets act (ws s)).eval o).run P W = .ok (.value (u s)) W) : gt.Step P l.toArray (fun s => dk.sets act (ws s)) (Cn l js S) Q i o := by
  refine gt.step_val hsel fun s L W hdp h0 hC => ⟨s, u s, gt.Turn.refl _ _ _, hd s, ?_⟩
  obtain ⟨hc, k, hk, hL, hS⟩ := hC
  have hkm : k ≤ m := by
    rcases hm with rfl | ⟨j, oj, hj, hoj, e, he, hb, hon⟩
    · exact hk
    · rcases Nat.lt_or_ge m k with h | h
      · have h1 : L j = true := by rw [hL m j hj]; simpa using h
        have := hc j oj hoj h1 e he hb
        rw [hon, h0] at this
        cases this
      · exact h
  rw [hrun s k W hkm hS]
  refine ⟨rfl, shut hl hdp hc, k, hk, fun m' j hj => ?_, hS⟩
  rw [off L (fun e => hi (by rw [← e]; exact List.mem_of_getElem? hj))]
  exact hL m' j hj
/-- the m-th of those with an effect -/
theorem eff (m : Nat) (zs qz : List Nat) (hz : waitB l i [] zs = true) (hq : slotB l zs qz = true) (hl : l[i]? = some o) (hnd : js.Nodup) (hm : js[m]? = some i) (hdep : m = 0 ∨ ∃ e ∈ o.after, Region.binds .any e = true ∧ js[m - 1]? = some e.on) (hsel : ∀ cs b, o.op ≠ .select cs b)
    (h : ∀ s W, S s m W → ∃ s' v, (∀ q, q ∉ qz → (ws s').lookup q = (ws s).lookup q) ∧ (∀ d, o.dst = some d → (dk.sets act (ws s')).tmps[d]? = some v) ∧ left P v (S s' (m + 1)) ((execOp (dk.sets act (ws s)).eval o).run P W)) : gt.Step P l.toArray (fun s => dk.sets act (ws s)) (Cn l js S) Q i o := by
  refine gt.step_val hsel fun s L W hdp h0 hC => ?_
  obtain ⟨hc, k, hk, hL, hS⟩ := hC
  obtain rfl := at_m hL hm h0 hdep hdp
  obtain ⟨s', v, h1, h2, h3⟩ := h s W hS
  refine ⟨s', v, turn_of (wait_not hc h0 zs [] (fun y hy => by cases hy) hz) hq h1, h2, ?_⟩
  have hlt := (List.getElem?_eq_some_iff.1 hm).1
  have hnew : ∀ W', S s' (k + 1) W' → Cn l js S s' (more L i) W' := fun W' hS' => ⟨shut hl hdp hc, k + 1, hlt, next_m hnd hm hL, hS'⟩
  generalize (execOp (dk.sets act (ws s)).eval o).run P W = r at *
  cases r with
  | ok n w' =>
    cases n <;> simp only [left] at h3 ⊢
    case value u => exact ⟨h3.1, hnew _ h3.2⟩
    case skip => exact ⟨h3.1, hnew _ h3.2⟩
    case enter f args => exact h3.mono fun e w'' ⟨he, hD⟩ => ⟨he, hnew _ hD⟩
  | halt x w' => simp only [left] at h3
/-- one of them that enters a function whose answer is known only behind it -/
theorem call (m : Nat) (zs qz : List Nat) (hz : waitB l i [] zs = true) (hq : slotB l zs qz = true) (hl : l[i]? = some o) (hnd : js.Nodup) (hm : js[m]? = some i) (hdep : m = 0 ∨ ∃ e ∈ o.after, Region.binds .any e = true ∧ js[m - 1]? = some e.on) (hsel : ∀ cs b, o.op ≠ .select cs b) (f : FuncId) (args : Array Value)
    (h : ∀ s W, S s m W → (execOp (dk.sets act (ws s)).eval o).run P W = .ok (.enter f args) W ∧ Calls P f args W fun e w' => ∃ s' v, e = .returned v ∧ (∀ q, q ∉ qz → (ws s').lookup q = (ws s).lookup q) ∧ (∀ d, o.dst = some d → (dk.sets act (ws s')).tmps[d]? = some v) ∧ S s' (m + 1) w') : gt.Step P l.toArray (fun s => dk.sets act (ws s)) (Cn l js S) Q i o := by
  intro s L W a ha hdp h0 hC K hK
  obtain ⟨hc, k, hk, hL, hS⟩ := hC
  obtain rfl := at_m hL hm h0 hdep hdp
  obtain ⟨h1, h2⟩ := h s W hS
  have hlt := (List.getElem?_eq_some_iff.1 hm).1
  unfold Oper.wp
  rw [execOp_congr o hsel ha, h1]
  simp only [Oper.upon]
  exact h2.mono fun e w' ⟨s', v, he, ht, hv, hS'⟩ => by
    subst he
    exact hK s' _ _ (turn_of (wait_not hc h0 zs [] (fun y hy => by cases hy) hz) hq ht) hv ⟨shut hl hdp hc, k + 1, hlt, next_m hnd hm hL, hS'⟩
theorem val {v : Value} {D : World → Prop} {r : Result Next} {w' : World} (h : r = .ok (.value v) w') (hD : D w') : left P v D r := by rw [h]; exact ⟨rfl, hD⟩
theorem skip {D : World → Prop} {r : Result Next} {w' : World} (h : r = .ok .skip w') (hD : D w') : left P undef D r := by rw [h]; exact ⟨rfl, hD⟩
/-- one of them that stores -/
theorem sto (m : Nat) (hl : l[i]? = some o) (hnd : js.Nodup) (hm : js[m]? = some i) (hdep : m = 0 ∨ ∃ e ∈ o.after, Region.binds .any e = true ∧ js[m - 1]? = some e.on) (hsel : ∀ cs b, o.op ≠ .select cs b) (hdst : o.dst = none)
    (h : ∀ s W, S s m W → ∃ w', (execOp (dk.sets act (ws s)).eval o).run P W = .ok .skip w' ∧ S s (m + 1) w') : gt.Step P l.toArray (fun s => dk.sets act (ws s)) (Cn l js S) Q i o := by
  refine eff m [] [] rfl (by simp only [slotB, List.all_eq_true]; intro x _; split; (split <;> rfl); rfl) hl hnd hm hdep hsel fun s W hS => ?_
  obtain ⟨w', h1, h2⟩ := h s W hS
  exact ⟨s, undef, fun _ _ => rfl, fun d hd => (by rw [hdst] at hd; cases hd), skip h1 h2⟩
/-- the whole region -/
theorem region {id : Nat} {w : World} (ks : List Nat) (s0 : σ) (hm : P.follows .mixedOrders = true) (hok : okB l.toArray = true) (hw : ∀ g, (ws g).map (·.1) = ks) (hks : (ks.all fun t => keepB l t) = true) (hjs : ∀ j ∈ js, j < l.length) (hS : S s0 0 w.drew)
    (hstep : gt.Each P l.toArray (fun g => dk.sets act (ws g)) (Cn l js S) Q 0 l) (hend : ∀ s w', S s js.length w' → Q .normal (dk.sets act (ws s)) w') : (Code.region id l.toArray true).wp P Q act w := by
  refine gt.region_ghost (fun g => dk.sets act (ws g)) (Cn l js S) s0 hm hok (dk.sets_defers act _).symm (fun s => (dk.sets_size act (ws s)).symm) _ rfl (fun g => dk.kept_of _ (dk.keeps (ws g) (hw g) hks)) ⟨fun i o _ h => (by cases h), 0, Nat.zero_le _, fun m j _ => by simp, hS⟩ hstep fun s L w' hL hC => ?_
  obtain ⟨_, k, hk, hLk, hS'⟩ := hC
  have : k = js.length := by
    rcases Nat.lt_or_ge k js.length with h | h
    · have h1 := hLk k js[k] (List.getElem?_eq_getElem h)
      rw [hL _ (hjs _ (List.getElem_mem h))] at h1
      simp at h1
    · omega
  subst this
  exact hend s w' hS'
end
end Go.Proofs.YtoemkbooomgieaaGreatDoor.cht

/- As ChainTurn: a call whose arguments hang on what was drawn before it, in a region that draws its order. -/
namespace Go.Proofs.YtoemkbooomgieaaGreatDoor.chd
open Go.Proofs.YtoemkbooomgieaaGreatDoor.dn
open Go.Proofs.YtoemkbooomgieaaGreatDoor.chn (Cn on off up shut at_m next_m)
set_option linter.unusedVariables false

/-- two lists of slots that are alike but at the slots qz -/
def But (qz : List Nat) : List (Nat × Value) → List (Nat × Value) → Prop
  | [], [] => True
  | x :: r, y :: t => x.1 = y.1 ∧ (x.1 ∈ qz ∨ x.2 = y.2) ∧ But qz r t
  | _, _ => False
theorem but_lookup {qz : List Nat} : ∀ (a b : List (Nat × Value)), But qz a b → ∀ q, q ∉ qz → b.lookup q = a.lookup q
  | [], [], _, q, hq => rfl
  | x :: r, y :: t, h, q, hq => by
    obtain ⟨t1, v1⟩ := x
    obtain ⟨t2, v2⟩ := y
    obtain ⟨h1, h2, h3⟩ := h
    obtain rfl : t1 = t2 := h1
    rw [List.lookup_cons, List.lookup_cons, but_lookup r t h3 q hq]
    cases hb : q == t1 with
    | false => rfl
    | true =>
      have e : q = t1 := by simpa using hb
      rcases h2 with h2 | h2
      · exact absurd (e ▸ h2) hq
      · have e2 : v1 = v2 := h2
        rw [e2]
  | [], _ :: _, h, _, _ => by cases h
  | _ :: _, [], h, _, _ => by cases h
section
variable {σ : Type} {P : Program} {act : Act} {ws : σ → List (Nat × Value)} {l : List Oper} {js : List Nat} {S : σ → Nat → World → Prop} {Q : Exit → Act → World → Prop} {i : Nat} {o : Oper}
theorem call (m : Nat) (zs qz : List Nat) (hz : cht.waitB l i [] zs = true) (hq : cht.slotB l zs qz = true) (hl : l[i]? = some o) (hnd : js.Nodup) (hm : js[m]? = some i) (hdep : m = 0 ∨ ∃ e ∈ o.after, Region.binds .any e = true ∧ js[m - 1]? = some e.on) (hsel : ∀ cs b, o.op ≠ .select cs b) (f : FuncId) (args : σ → Array Value)
    (h : ∀ s W, S s m W → (execOp (dk.sets act (ws s)).eval o).run P W = .ok (.enter f (args s)) W ∧ Calls P f (args s) W fun e w' => ∃ s' v, e = .returned v ∧ But qz (ws s) (ws s') ∧ (∀ d, o.dst = some d → (dk.sets act (ws s')).tmps[d]? = some v) ∧ S s' (m + 1) w') : gt.Step P l.toArray (fun s => dk.sets act (ws s)) (Cn l js S) Q i o := by
  intro s L w a ha hdp h0 hC K hK
  obtain ⟨hc, k, hk, hL, hS⟩ := hC
  obtain rfl := at_m hL hm h0 hdep hdp
  obtain ⟨h1, h2⟩ := h s w hS
  have hlt := (List.getElem?_eq_some_iff.1 hm).1
  unfold Oper.wp
  rw [execOp_congr o hsel ha, h1]
  simp only [Oper.upon]
  exact h2.mono fun e w' ⟨s', v, he, ht, hv, hS'⟩ => by
    subst he
    exact hK s' _ _ (cht.turn_of (cht.wait_not hc h0 zs [] (fun y hy => by cases hy) hz) hq (but_lookup _ _ ht)) hv ⟨shut hl hdp hc, k + 1, hlt, next_m hnd hm hL, hS'⟩
/-- one of them that makes memory or reckons with what was drawn -/
theorem eff (m : Nat) (zs qz : List Nat) (hz : cht.waitB l i [] zs = true) (hq : cht.slotB l zs qz = true) (hl : l[i]? = some o) (hnd : js.Nodup) (hm : js[m]? = some i) (hdep : m = 0 ∨ ∃ e ∈ o.after, Region.binds .any e = true ∧ js[m - 1]? = some e.on) (hsel : ∀ cs b, o.op ≠ .select cs b)
    (h : ∀ s W, S s m W → ∃ s' v w', But qz (ws s) (ws s') ∧ (∀ d, o.dst = some d → (dk.sets act (ws s')).tmps[d]? = some v) ∧ (execOp (dk.sets act (ws s)).eval o).run P W = .ok (.value v) w' ∧ S s' (m + 1) w') : gt.Step P l.toArray (fun s => dk.sets act (ws s)) (Cn l js S) Q i o :=
  cht.eff m zs qz hz hq hl hnd hm hdep hsel fun s W hS => by
    obtain ⟨s', v, w', h1, h2, h3, h4⟩ := h s W hS
    exact ⟨s', v, but_lookup _ _ h1, h2, cht.val h3 h4⟩
end
/-- an append's run within a region -/
theorem app_run {P : Program} {act : Act} {o : Oper} {i j : Nat} {T : TypeId} {x y z : Value} {W W' : World} (hop : o.op = .call { callee := .builtin .append, args := #[.tmp i, .tmp j], argTypes := #[T, T] }) (hi : act.eval (.tmp i) = x) (hj : act.eval (.tmp j) = y) (hr : (Builtin.append_ #[T, T] o.type #[x, y]).run P W = .ok z W') : (execOp act.eval o).run P W = .ok (.value z) W' := by
  unfold execOp
  simp only [hop, resolve, invoke, builtin, Sem.run_bind, Sem.run_pure, Result.andThen_ok, List.map_toArray, List.map_cons, List.map_nil, hi, hj, hr]
end Go.Proofs.YtoemkbooomgieaaGreatDoor.chd

/- As ChainDraw, with one operation more that makes memory wherever it comes: it waits for none of those with an effect, and one of them waits for it. -/
namespace Go.Proofs.YtoemkbooomgieaaGreatDoor.chf
open Go.Proofs.YtoemkbooomgieaaGreatDoor.dn
open Go.Proofs.YtoemkbooomgieaaGreatDoor.chn (on off up shut at_m next_m)
open Go.Proofs.YtoemkbooomgieaaGreatDoor.chd (But but_lookup)
set_option linter.unusedVariables false

/-- of the operations js the first k are done, j0 is done or not, and the world is as S says -/
def Cf {σ : Type} (l : List Oper) (js : List Nat) (j0 : Nat) (S : σ → Nat → Bool → World → Prop) (s : σ) (L : Nat → Bool) (w : World) : Prop :=
  (∀ (i : Nat) (o : Oper), l[i]? = some o → L i = true → ∀ e ∈ o.after, Region.binds .any e = true → L e.on = true) ∧
  ∃ k, k ≤ js.length ∧ (∀ (m j : Nat), js[m]? = some j → L j = decide (m < k)) ∧ S s k (L j0) w
section
variable {σ : Type} {P : Program} {act : Act} {ws : σ → List (Nat × Value)} {l : List Oper} {js : List Nat} {j0 : Nat} {S : σ → Nat → Bool → World → Prop} {Q : Exit → Act → World → Prop} {i : Nat} {o : Oper}
theorem k_le {L : Nat → Bool} {k m : Nat} (hc : ∀ (i : Nat) (o : Oper), l[i]? = some o → L i = true → ∀ e ∈ o.after, Region.binds .any e = true → L e.on = true) (hk : k ≤ js.length) (hL : ∀ (m j : Nat), js[m]? = some j → L j = decide (m < k)) (h0 : L i = false)
    (hm : m = js.length ∨ ∃ j oj, js[m]? = some j ∧ l[j]? = some oj ∧ ∃ e ∈ oj.after, Region.binds .any e = true ∧ e.on = i) : k ≤ m := by
  rcases hm with rfl | ⟨j, oj, hj, hoj, e, he, hb, hon⟩
  · exact hk
  · rcases Nat.lt_or_ge m k with h | h
    · have h1 : L j = true := by rw [hL m j hj]; simpa using h
      have := hc j oj hoj h1 e he hb
      rw [hon, h0] at this
      cases this
    · exact h
theorem quiet (m : Nat) (hl : l[i]? = some o) (hi : i ∉ js) (hi0 : i ≠ j0) (hm : m = js.length ∨ ∃ j oj, js[m]? = some j ∧ l[j]? = some oj ∧ ∃ e ∈ oj.after, Region.binds .any e = true ∧ e.on = i) (hsel : ∀ cs b, o.op ≠ .select cs b) (u : σ → Value)
    (hd : ∀ s d, o.dst = some d → (dk.sets act (ws s)).tmps[d]? = some (u s)) (hrun : ∀ s k b W, k ≤ m → S s k b W → (execOp (dk.sets act (ws s)).eval o).run P W = .ok (.value (u s)) W) : gt.Step P l.toArray (fun s => dk.sets act (ws s)) (Cf l js j0 S) Q i o := by
  refine gt.step_val hsel fun s L W hdp h0 hC => ⟨s, u s, gt.Turn.refl _ _ _, hd s, ?_⟩
  obtain ⟨hc, k, hk, hL, hS⟩ := hC
  rw [hrun s k _ W (k_le hc hk hL h0 hm) hS]
  refine ⟨rfl, shut hl hdp hc, k, hk, fun m' j hj => ?_, by rw [off L (Ne.symm hi0)]; exact hS⟩
  rw [off L (fun e => hi (by rw [← e]; exact List.mem_of_getElem? hj))]
  exact hL m' j hj
/-- the operation that makes memory wherever it comes -/
theorem free (m : Nat) (hl : l[i]? = some o) (hi : i ∉ js) (hi0 : i = j0) (hm : m = js.length ∨ ∃ j oj, js[m]? = some j ∧ l[j]? = some oj ∧ ∃ e ∈ oj.after, Region.binds .any e = true ∧ e.on = i) (zs qz : List Nat) (hz : cht.waitB l i [] zs = true) (hq : cht.slotB l zs qz = true) (hsel : ∀ cs b, o.op ≠ .select cs b)
    (h : ∀ s k W, k ≤ m → S s k false W → ∃ s' v w', But qz (ws s) (ws s') ∧ (∀ d, o.dst = some d → (dk.sets act (ws s')).tmps[d]? = some v) ∧ (execOp (dk.sets act (ws s)).eval o).run P W = .ok (.value v) w' ∧ S s' k true w') : gt.Step P l.toArray (fun s => dk.sets act (ws s)) (Cf l js j0 S) Q i o := by
  subst hi0
  refine gt.step_val hsel fun s L W hdp h0 hC => ?_
  obtain ⟨hc, k, hk, hL, hS⟩ := hC
  rw [h0] at hS
  obtain ⟨s', v, w', h1, h2, h3, h4⟩ := h s k W (k_le hc hk hL h0 hm) hS
  refine ⟨s', v, cht.turn_of (cht.wait_not hc h0 zs [] (fun y hy => by cases hy) hz) hq (but_lookup _ _ h1), h2, ?_⟩
  rw [h3]
  refine ⟨rfl, shut hl hdp hc, k, hk, fun m' j hj => ?_, by rw [on]; exact h4⟩
  rw [off L (fun e => hi (by rw [← e]; exact List.mem_of_getElem? hj))]
  exact hL m' j hj
theorem call (m : Nat) (zs qz : List Nat) (hz : cht.waitB l i [] zs = true) (hq : cht.slotB l zs qz = true) (hl : l[i]? = some o) (hnd : js.Nodup) (hi0 : i ≠ j0) (hm : js[m]? = some i) (hdep : m = 0 ∨ ∃ e ∈ o.after, Region.binds .any e = true ∧ js[m - 1]? = some e.on) (hsel : ∀ cs b, o.op ≠ .select cs b) (f : FuncId) (args : σ → Array Value)
    (h : ∀ s b W, ((∃ e ∈ o.after, Region.binds .any e = true ∧ e.on = j0) → b = true) → S s m b W → (execOp (dk.sets act (ws s)).eval o).run P W = .ok (.enter f (args s)) W ∧ Calls P f (args s) W fun e w' => ∃ s' v, e = .returned v ∧ But qz (ws s) (ws s') ∧ (∀ d, o.dst = some d → (dk.sets act (ws s')).tmps[d]? = some v) ∧ S s' (m + 1) b w') : gt.Step P l.toArray (fun s => dk.sets act (ws s)) (Cf l js j0 S) Q i o := by
  intro s L w a ha hdp h0 hC K hK
  obtain ⟨hc, k, hk, hL, hS⟩ := hC
  obtain rfl := at_m hL hm h0 hdep hdp
  obtain ⟨h1, h2⟩ := h s (L j0) w (fun ⟨e, he, hb, hon⟩ => by rw [← hon]; exact hdp e he hb) hS
  have hlt := (List.getElem?_eq_some_iff.1 hm).1
  unfold Oper.wp
  rw [execOp_congr o hsel ha, h1]
  simp only [Oper.upon]
  exact h2.mono fun e w' ⟨s', v, he, ht, hv, hS'⟩ => by
    subst he
    exact hK s' _ _ (cht.turn_of (cht.wait_not hc h0 zs [] (fun y hy => by cases hy) hz) hq (but_lookup _ _ ht)) hv ⟨shut hl hdp hc, k + 1, hlt, next_m hnd hm hL, by rw [off L (Ne.symm hi0)]; exact hS'⟩
theorem eff (m : Nat) (zs qz : List Nat) (hz : cht.waitB l i [] zs = true) (hq : cht.slotB l zs qz = true) (hl : l[i]? = some o) (hnd : js.Nodup) (hi0 : i ≠ j0) (hm : js[m]? = some i) (hdep : m = 0 ∨ ∃ e ∈ o.after, Region.binds .any e = true ∧ js[m - 1]? = some e.on) (hsel : ∀ cs b, o.op ≠ .select cs b)
    (h : ∀ s b W, S s m b W → ∃ s' v w', But qz (ws s) (ws s') ∧ (∀ d, o.dst = some d → (dk.sets act (ws s')).tmps[d]? = some v) ∧ (execOp (dk.sets act (ws s)).eval o).run P W = .ok (.value v) w' ∧ S s' (m + 1) b w') : gt.Step P l.toArray (fun s => dk.sets act (ws s)) (Cf l js j0 S) Q i o := by
  refine gt.step_val hsel fun s L W hdp h0 hC => ?_
  obtain ⟨hc, k, hk, hL, hS⟩ := hC
  obtain rfl := at_m hL hm h0 hdep hdp
  obtain ⟨s', v, w', h1, h2, h3, h4⟩ := h s _ W hS
  have hlt := (List.getElem?_eq_some_iff.1 hm).1
  refine ⟨s', v, cht.turn_of (cht.wait_not hc h0 zs [] (fun y hy => by cases hy) hz) hq (but_lookup _ _ h1), h2, ?_⟩
  rw [h3]
  exact ⟨rfl, shut hl hdp hc, k + 1, hlt, next_m hnd hm hL, by rw [off L (Ne.symm hi0)]; exact h4⟩
theorem sto (m : Nat) (hl : l[i]? = some o) (hnd : js.Nodup) (hi0 : i ≠ j0) (hm : js[m]? = some i) (hdep : m = 0 ∨ ∃ e ∈ o.after, Region.binds .any e = true ∧ js[m - 1]? = some e.on) (hsel : ∀ cs b, o.op ≠ .select cs b) (hdst : o.dst = none)
    (h : ∀ s b W, S s m b W → ∃ w', (execOp (dk.sets act (ws s)).eval o).run P W = .ok .skip w' ∧ S s (m + 1) b w') : gt.Step P l.toArray (fun s => dk.sets act (ws s)) (Cf l js j0 S) Q i o := by
  refine gt.step_val hsel fun s L W hdp h0 hC => ?_
  obtain ⟨hc, k, hk, hL, hS⟩ := hC
  obtain rfl := at_m hL hm h0 hdep hdp
  obtain ⟨w', h1, h2⟩ := h s _ W hS
  have hlt := (List.getElem?_eq_some_iff.1 hm).1
  refine ⟨s, undef, gt.Turn.refl _ _ _, fun d hd => (by rw [hdst] at hd; cases hd), ?_⟩
  rw [h1]
  exact ⟨rfl, shut hl hdp hc, k + 1, hlt, next_m hnd hm hL, by rw [off L (Ne.symm hi0)]; exact h2⟩
theorem region {id : Nat} {w : World} (ks : List Nat) (s0 : σ) (hm : P.follows .mixedOrders = true) (hok : okB l.toArray = true) (hw : ∀ g, (ws g).map (·.1) = ks) (hks : (ks.all fun t => keepB l t) = true) (hjs : ∀ j ∈ js, j < l.length) (hj0 : j0 < l.length) (hS : S s0 0 false w.drew)
    (hstep : gt.Each P l.toArray (fun g => dk.sets act (ws g)) (Cf l js j0 S) Q 0 l) (hend : ∀ s w', S s js.length true w' → Q .normal (dk.sets act (ws s)) w') : (Code.region id l.toArray true).wp P Q act w := by
  refine gt.region_ghost (fun g => dk.sets act (ws g)) (Cf l js j0 S) s0 hm hok (dk.sets_defers act _).symm (fun s => (dk.sets_size act (ws s)).symm) _ rfl (fun g => dk.kept_of _ (dk.keeps (ws g) (hw g) hks)) ⟨fun i o _ h => (by cases h), 0, Nat.zero_le _, fun m j _ => by simp, hS⟩ hstep fun s L w' hL hC => ?_
  obtain ⟨_, k, hk, hLk, hS'⟩ := hC
  rw [hL _ hj0] at hS'
  have : k = js.length := by
    rcases Nat.lt_or_ge k js.length with h | h
    · have h1 := hLk k js[k] (List.getElem?_eq_getElem h)
      rw [hL _ (hjs _ (List.getElem_mem h))] at h1
      simp at h1
    · omega
  subst this
  exact hend s w' hS'
end
end Go.Proofs.YtoemkbooomgieaaGreatDoor.chf

/- FnStored: what stands on the way, and how each round turns it. -/
namespace Go.Proofs.YtoemkbooomgieaaGreatDoor.swt
section
open Go.Proofs.YtoemkbooomgieaaGreatDoor.dn Go.Proofs.YtoemkbooomgieaaGreatDoor.chf
open Go.Proofs.YtoemkbooomgieaaGreatDoor.chn (on off up shut at_m next_m)
variable {σ : Type} {P : Program} {act : Act} {ws : σ → List (Nat × Value)} {l : List Oper} {js : List Nat} {j0 : Nat} {S : σ → Nat → Bool → World → Prop} {Q : Exit → Act → World → Prop} {i : Nat} {o : Oper}
/-- a store that waits for the operation that makes memory wherever it comes -/
theorem sto (m : Nat) (hl : l[i]? = some o) (hnd : js.Nodup) (hi0 : i ≠ j0) (hm : js[m]? = some i) (hdep : m = 0 ∨ ∃ e ∈ o.after, Region.binds .any e = true ∧ js[m - 1]? = some e.on) (hw : ∃ e ∈ o.after, Region.binds .any e = true ∧ e.on = j0) (hsel : ∀ cs b, o.op ≠ .select cs b) (hdst : o.dst = none)
    (h : ∀ s W, S s m true W → ∃ w', (execOp (dk.sets act (ws s)).eval o).run P W = .ok .skip w' ∧ S s (m + 1) true w') : gt.Step P l.toArray (fun s => dk.sets act (ws s)) (Cf l js j0 S) Q i o := by
  refine gt.step_val hsel fun s L W hdp h0 hC => ?_
  obtain ⟨hc, k, hk, hL, hS⟩ := hC
  obtain rfl := at_m hL hm h0 hdep hdp
  obtain ⟨e, he, hb, hon⟩ := hw
  have hj : L j0 = true := by rw [← hon]; exact hdp e he hb
  rw [hj] at hS
  obtain ⟨w', h1, h2⟩ := h s W hS
  have hlt := (List.getElem?_eq_some_iff.1 hm).1
  refine ⟨s, undef, gt.Turn.refl _ _ _, fun d hd => (by rw [hdst] at hd; cases hd), ?_⟩
  rw [h1]
  exact ⟨rfl, shut hl hdp hc, k + 1, hlt, next_m hnd hm hL, by rw [off L (Ne.symm hi0), hj]; exact h2⟩
end
open Go.ChangeShapes Go.WideShapes Go.ChangeAt Go.RowKit Go.Proofs.YtoemkbooomgieaaGreatDoor.fl Go.Proofs.YtoemkbooomgieaaGreatDoor.fo Go.Proofs.YtoemkbooomgieaaGreatDoor.dw Go.Proofs.YtoemkbooomgieaaGreatDoor.rn Go.Proofs.YtoemkbooomgieaaGreatDoor.rcI Go.Proofs.YtoemkbooomgieaaGreatDoor.sok Go.Proofs.YtoemkbooomgieaaGreatDoor.sdl Go.Proofs.YtoemkbooomgieaaGreatDoor.sdi Go.Proofs.YtoemkbooomgieaaGreatDoor.swl
set_option linter.unusedVariables false

def cI (z : Int) : List Value := [Value.int .i64 z]
/-- what was drawn, and where it lies -/
structure Wd (w W1 : World) (rs : List Rn) (is : List Int) (va ua : Option Addr) : Prop where
  bel : Below w.heap.size w W1
  tb : TB W1
  vr : VR W1 W1.heap.size va rs
  nm : Row cI 1 W1 W1.heap.size ua is
  fit : ∀ r ∈ rs, bs.Fit r.l
  near : ∀ z ∈ is, -2 ≤ z ∧ z ≤ 2
/-- at the head of a round: the store in its box, the lists laid by -/
structure Ws (W1 : World) (ys : List flP.Pr) (R : List (List flP.Pr)) (ya : Option Addr) (yc : Nat) (ra : Option Addr) (rc : Nat) (lg : ByteArray) (sf : Int) (v : Value) (K : List Rn) (safe : Nat) (X : World) : Prop where
  bel : Below W1.heap.size W1 X
  box : X.heap[W1.heap.size]? = some (.cells #[.slice ya ys.length yc, .slice ra R.length rc, .string lg, .int .i64 sf] 32 (0, 0))
  tab : Tb X (W1.heap.size + 1) ys R ya yc ra rc
  sl : Sl (W1.heap.size + 1) X v K
  iv : Iv lg sf ys R (K.map (·.l)) safe
/-- behind StoreDo: the next store in a box of its own, at n -/
structure Wx (W1 : World) (ys : List flP.Pr) (R : List (List flP.Pr)) (ya : Option Addr) (yc : Nat) (ra : Option Addr) (rc : Nat) (lg : ByteArray) (sf : Int) (n : Nat) (Y : List flP.Pr) (Q : List (List flP.Pr)) (sa : Option Addr) (sc : Nat) (ta : Option Addr) (tc : Nat) (l2 : ByteArray) (s2 : Int) (v : Value) (K : List Rn) (safe : Nat) (X : World) : Prop where
  bel : Below W1.heap.size W1 X
  box : X.heap[W1.heap.size]? = some (.cells #[.slice ya ys.length yc, .slice ra R.length rc, .string lg, .int .i64 sf] 32 (0, 0))
  ne : W1.heap.size < n
  nxt : X.heap[n]? = some (.cells #[.slice sa Y.length sc, .slice ta Q.length tc, .string l2, .int .i64 s2] 32 (0, 0))
  tab : Tb X (W1.heap.size + 1) Y Q sa sc ta tc
  sl : Sl (W1.heap.size + 1) X v K
  iv : Iv l2 s2 Y Q (K.map (·.l)) safe
/-- what StoreDo said -/
structure G3 where
  n : Nat
  sa : Option Addr
  sc : Nat
  ta : Option Addr
  tc : Nat
  Y : List flP.Pr
  Q : List (List flP.Pr)
  l : ByteArray
  o : Bool
def An (lg : ByteArray) (sf : Int) (ys : List flP.Pr) (R S : List (List flP.Pr)) (safe : Nat) (g : G3) : Prop := (g.o = true → Iv g.l sf g.Y g.Q (S ++ [all0 g.Y g.Q]) safe) ∧ (g.o = false → g.Y = ys ∧ g.Q = R ∧ g.l = lg)
/-- while StoreDo is asked and its answer is put down: k steps with an effect, b whether the box is made -/
structure S3 (X : World) (lg : ByteArray) (sf : Int) (ys : List flP.Pr) (R S : List (List flP.Pr)) (safe : Nat) (g : G3) (k : Nat) (b : Bool) (W : World) : Prop where
  bel : Below X.heap.size X W
  box : b = true → X.heap.size ≤ g.n ∧ (k ≤ 1 → W.heap[g.n]? = some (.cells #[.slice none 0 0, .slice none 0 0, .string ⟨#[]⟩, .int .i64 0] 32 (0, 0)))
  ans : 1 ≤ k → An lg sf ys R S safe g ∧ Ta W X.heap.size g.Y g.Q g.sa g.sc g.ta g.tc
  pro : 1 ≤ k → b = true → k ≤ 1 → ∀ W', Tn W W' (fun z => z = g.n) → Ta W' X.heap.size g.Y g.Q g.sa g.sc g.ta g.tc
  fin : 2 ≤ k → W.heap[g.n]? = some (.cells #[.slice g.sa g.Y.length g.sc, .slice g.ta g.Q.length g.tc, .string g.l, .int .i64 sf] 32 (0, 0))
/-- what StoreStep said, and while it is put down -/
structure G4 where
  sa : Option Addr
  sc : Nat
  ta : Option Addr
  tc : Nat
def S4 (X : World) (n : Nat) (Y : List flP.Pr) (Q : List (List flP.Pr)) (l2 : ByteArray) (s2 : Int) (g4 : G4) (k : Nat) (W : World) : Prop :=
  ∃ W0, Below X.heap.size X W0 ∧ (k ≤ 1 → W = W0) ∧ (1 ≤ k → Ta W0 X.heap.size Y Q g4.sa g4.sc g4.ta g4.tc) ∧ (2 ≤ k → W = ((((W0.setCell ⟨n, 0, none⟩ (.slice g4.sa Y.length g4.sc)).setCell ⟨n, 1, none⟩ (.slice g4.ta Q.length g4.tc)).setCell ⟨n, 2, none⟩ (.string l2)).setCell ⟨n, 3, none⟩ (.int .i64 s2)))
section
variable {g4 : G4} {w W1 X X' W : World} {rs : List Rn} {is : List Int} {va ua : Option Addr} {n : Nat} {ys Y Y' : List flP.Pr} {R Q Q' S : List (List flP.Pr)} {ya ra sa ta sa' ta' : Option Addr} {yc rc sc tc sc' tc' : Nat} {lg l2 l3 : ByteArray} {sf s2 s3 : Int} {v : Value} {K : List Rn} {safe safe' : Nat} {g : G3} {b : Bool} {k : Nat}
theorem Ws.lt (h : Ws W1 ys R ya yc ra rc lg sf v K safe X) : W1.heap.size < X.heap.size := (Array.getElem?_eq_some_iff.1 h.box).1
theorem Ws.on (h : Ws W1 ys R ya yc ra rc lg sf v K safe X) (hb : Below X.heap.size X X') : Ws W1 ys R ya yc ra rc lg sf v K safe X' :=
  ⟨h.bel.trans (hb.mono h.bel.size), bstay h.box hb h.lt, h.tab.on hb, h.sl.on hb, h.iv⟩
theorem Wx.lt (h : Wx W1 ys R ya yc ra rc lg sf n Y Q sa sc ta tc l2 s2 v K safe X) : n < X.heap.size := (Array.getElem?_eq_some_iff.1 h.nxt).1
theorem Wx.on (h : Wx W1 ys R ya yc ra rc lg sf n Y Q sa sc ta tc l2 s2 v K safe X) (hb : Below X.heap.size X X') : Wx W1 ys R ya yc ra rc lg sf n Y Q sa sc ta tc l2 s2 v K safe X' :=
  ⟨h.bel.trans (hb.mono h.bel.size), bstay h.box hb (Nat.lt_trans h.ne h.lt), h.ne, bstay h.nxt hb h.lt, h.tab.on hb, h.sl.on hb, h.iv⟩
theorem flat_int (l : List Int) : l.flatMap cI = l.map (Value.int .i64) := by
  induction l with
  | nil => rfl
  | cons z t ih => rw [List.flatMap_cons, ih]; rfl
theorem row_of {B : Nat} {a : Option Addr} {l : List flP.Pr} {c : Nat} (h : X.ownsRow B 61 3 (.slice a l.length c) l.length (l.flatMap flP.c)) : Row flP.c 3 X X.heap.size a l := by
  obtain ⟨a', c', e, h1⟩ := own_row flP.c_len h
  cases e
  exact h1
theorem fit_of {l : List flP.Pr} (h : l.length ≤ 61 ∧ ∀ e ∈ l, dba.Sml e) : bs.Fit l := ⟨by omega, fun e he => by
  have := h.2 e he
  unfold dba.Sml at this
  omega⟩
theorem wf_sf {lg : ByteArray} {sf : Int} (h : 0 ≤ sf ∧ sf ≤ lg.size) (hl : lg.size ≤ 200000) : (Lit.int .i64 sf).wf = true := by
  simp [Lit.wf, IntKind.min, IntKind.max, IntKind.signed, IntKind.bits]
  omega
theorem ft_0 : Ft [] [] := ⟨Nat.zero_le _, Nat.zero_le _, fun e he => (by cases he), fun l hl => (by cases hl)⟩
theorem all_0 : all0 [] [] = [] := by
  have h := iv_0.top
  rw [recs_0] at h
  simpa using h.symm
/-- at the first round -/
theorem ws_0 {X1 w2 : World} {a : Option Addr} {c : Nat} (hb : Below W1.heap.size W1 X1) (hx : X1.heap[W1.heap.size]? = some (.cells #[.slice none 0 0, .slice none 0 0, .string ⟨#[]⟩, .int .i64 0] 32 (0, 0))) (ho : w2.ownsRow X1.heap.size 61 3 (.slice a 0 c) 0 []) (h2 : Below X1.heap.size X1 w2) :
    Ws W1 [] [] none 0 none 0 ⟨#[]⟩ 0 (.slice (some ⟨w2.heap.size, 0, none⟩) ([(⟨a, c, []⟩ : Rn)]).length 1) [⟨a, c, []⟩] 0 (w2.alloc (.cells #[.slice a 0 c] 28)) := by
  have hlt := (Array.getElem?_eq_some_iff.1 hx).1
  have h3 : Below X1.heap.size X1 (w2.alloc (.cells #[.slice a 0 c] 28)) := h2.alloc h2.size _
  refine ⟨hb.trans (h3.mono hb.size), bstay hx h3 hlt, tb_0 _ _, ⟨⟨rfl, .inr ⟨w2.heap.size, 1, _, rfl, by have := h2.size; omega, bnew w2 _ _, Nat.le_refl _, by unfold maxLen; omega, rfl, rfl⟩⟩, fun r hr => ?_⟩, iv_0⟩
  rw [List.mem_singleton.1 hr]
  exact (dlf.own_low' ho hlt).alloc _
theorem tn4 (X : World) (b : Nat) (u0 u1 u2 u3 : Value) : Tn X ((((X.setCell ⟨b, 0, none⟩ (u0)).setCell ⟨b, 1, none⟩ (u1)).setCell ⟨b, 2, none⟩ (u2)).setCell ⟨b, 3, none⟩ (u3)) (fun z => z = b) := Tn.set (Tn.set (Tn.set (Tn.set (Tn.refl X (fun z => z = b)) (S := fun z => z = b) rfl 0 _) (S := fun z => z = b) rfl 1 _) (S := fun z => z = b) rfl 2 _) (S := fun z => z = b) rfl 3 _
theorem sl4 {B : Nat} (h : Sl B X v K) {cur : Array Value} (hb : X.heap[n]? = some (.cells cur 32 (0, 0))) (u0 u1 u2 u3 : Value) : Sl B ((((X.setCell ⟨n, 0, none⟩ (u0)).setCell ⟨n, 1, none⟩ (u1)).setCell ⟨n, 2, none⟩ (u2)).setCell ⟨n, 3, none⟩ (u3)) v K :=
  (((h.set hb).set (bset hb 0 u0)).set (bset (bset hb 0 u0) 1 u1)).set (bset (bset (bset hb 0 u0) 1 u1) 2 u2)
/-- the store's box is written with a table laid out above it -/
theorem Ws.put (h : Ws W1 ys R ya yc ra rc lg sf v K safe X) (ht : Ta X (W1.heap.size + 1) Y Q sa sc ta tc) (hi : Iv l2 s2 Y Q (K.map (·.l)) safe') : Ws W1 Y Q sa sc ta tc l2 s2 v K safe' ((((X.setCell ⟨W1.heap.size, 0, none⟩ (.slice sa Y.length sc)).setCell ⟨W1.heap.size, 1, none⟩ (.slice ta Q.length tc)).setCell ⟨W1.heap.size, 2, none⟩ (.string l2)).setCell ⟨W1.heap.size, 3, none⟩ (.int .i64 s2)) :=
  ⟨h.bel.trans ((tn4 X W1.heap.size _ _ _ _).below h.bel.size (fun k hk => by omega)), bset (bset (bset (bset h.box 0 _) 1 _) 2 _) 3 _, ht.tb.turn (tn4 X W1.heap.size _ _ _ _) (fun k hk => by omega), sl4 h.sl h.box _ _ _ _, hi⟩
theorem Wx.put (h : Wx W1 ys R ya yc ra rc lg sf n Y Q sa sc ta tc l2 s2 v K safe X) : Ws W1 Y Q sa sc ta tc l2 s2 v K safe ((((X.setCell ⟨W1.heap.size, 0, none⟩ (.slice sa Y.length sc)).setCell ⟨W1.heap.size, 1, none⟩ (.slice ta Q.length tc)).setCell ⟨W1.heap.size, 2, none⟩ (.string l2)).setCell ⟨W1.heap.size, 3, none⟩ (.int .i64 s2)) :=
  ⟨h.bel.trans ((tn4 X W1.heap.size _ _ _ _).below h.bel.size (fun k hk => by omega)), bset (bset (bset (bset h.box 0 _) 1 _) 2 _) 3 _, h.tab.turn (tn4 X W1.heap.size _ _ _ _) (fun k hk => by omega), sl4 h.sl h.box _ _ _ _, h.iv⟩
/-- the next store's box is written -/
theorem Wx.step (h : Wx W1 ys R ya yc ra rc lg sf n Y' Q' sa' sc' ta' tc' l3 s3 v K safe X) {B : Nat} (hB : n < B) (ht : Ta X B Y Q sa sc ta tc) (hi : Iv l2 s2 Y Q (K.map (·.l)) safe) : Wx W1 ys R ya yc ra rc lg sf n Y Q sa sc ta tc l2 s2 v K safe ((((X.setCell ⟨n, 0, none⟩ (.slice sa Y.length sc)).setCell ⟨n, 1, none⟩ (.slice ta Q.length tc)).setCell ⟨n, 2, none⟩ (.string l2)).setCell ⟨n, 3, none⟩ (.int .i64 s2)) :=
  ⟨h.bel.trans ((tn4 X n _ _ _ _).below h.bel.size (fun k hk => by have := h.ne; omega)), boff (boff (boff (boff h.box _ _ _ (Nat.ne_of_lt h.ne)) _ _ _ (Nat.ne_of_lt h.ne)) _ _ _ (Nat.ne_of_lt h.ne)) _ _ _ (Nat.ne_of_lt h.ne), h.ne, bset (bset (bset (bset h.nxt 0 _) 1 _) 2 _) 3 _, (ht.turn (tn4 X n _ _ _ _) (fun k hk => by omega)).tb.wide (by have := h.ne; omega), sl4 h.sl h.nxt _ _ _ _, hi⟩
theorem S3.start : S3 X lg sf ys R S safe g 0 false X.drew := ⟨(Below.refl _ _).drew, fun h => (by cases h), fun h => (by omega), fun h => (by omega), fun h => (by omega)⟩
theorem S3.free (h : S3 X lg sf ys R S safe g k false W) (hk : k ≤ 1) : S3 X lg sf ys R S safe { g with n := W.heap.size } k true (W.alloc (.cells #[.slice none 0 0, .slice none 0 0, .string ⟨#[]⟩, .int .i64 0] 32)) := by
  have hal : Below W.heap.size W (W.alloc (.cells #[.slice none 0 0, .slice none 0 0, .string ⟨#[]⟩, .int .i64 0] 32)) := (Below.refl _ _).alloc (Nat.le_refl _) _
  refine ⟨h.bel.trans (hal.mono h.bel.size), fun _ => ⟨h.bel.size, fun _ => bnew W _ _⟩, fun h1 => ⟨(h.ans h1).1, (h.ans h1).2.on hal⟩, fun h1 _ _ W' ht => ?_, fun h2 => (by omega)⟩
  exact (h.ans h1).2.on (hal.trans (ht.below (by simp) (fun z hz => by show W.heap.size ≤ z; rw [show z = W.heap.size from hz]; exact Nat.le_refl _)))
theorem S3.call (h : S3 X lg sf ys R S safe g 0 b W) {W' : World} {Y Q : List _} {sa ta : Option Addr} {sc tc : Nat} {l : ByteArray} {o : Bool} (hb : Below W.heap.size W W') (ht : Ta W' W.heap.size Y Q sa sc ta tc) (ha : An lg sf ys R S safe ⟨g.n, sa, sc, ta, tc, Y, Q, l, o⟩) : S3 X lg sf ys R S safe ⟨g.n, sa, sc, ta, tc, Y, Q, l, o⟩ 1 b W' := by
  refine ⟨h.bel.trans (hb.mono h.bel.size), fun e => ⟨(h.box e).1, fun _ => ?_⟩, fun _ => ⟨ha, ht.wide h.bel.size⟩, fun _ e _ W9 ht9 => ?_, fun h2 => (by omega)⟩
  · have hx := (h.box e).2 (Nat.zero_le _)
    exact bstay hx hb (Array.getElem?_eq_some_iff.1 hx).1
  · have hx := (h.box e).2 (Nat.zero_le _)
    have hl : g.n < W.heap.size := (Array.getElem?_eq_some_iff.1 hx).1
    exact (ht.turn ht9 (fun z hz => by rw [show z = g.n from hz]; exact hl)).wide h.bel.size
theorem S3.sto (h : S3 X lg sf ys R S safe g 1 true W) : S3 X lg sf ys R S safe g 2 true ((((W.setCell ⟨g.n, 0, none⟩ (.slice g.sa g.Y.length g.sc)).setCell ⟨g.n, 1, none⟩ (.slice g.ta g.Q.length g.tc)).setCell ⟨g.n, 2, none⟩ (.string g.l)).setCell ⟨g.n, 3, none⟩ (.int .i64 sf)) := by
  obtain ⟨h1, h2⟩ := h.box rfl
  have hx := h2 (Nat.le_refl _)
  refine ⟨h.bel.trans ((tn4 W g.n _ _ _ _).below h.bel.size (fun z hz => by rw [show z = g.n from hz]; exact h1)), fun _ => ⟨h1, fun h9 => (by omega)⟩, fun _ => ⟨(h.ans (Nat.le_refl _)).1, h.pro (Nat.le_refl _) rfl (Nat.le_refl _) _ (tn4 W g.n _ _ _ _)⟩, fun _ _ h9 => (by omega), fun _ => bset (bset (bset (bset hx 0 _) 1 _) 2 _) 3 _⟩
/-- one list more laid by -/
theorem S3.app (h : S3 X lg sf ys R (K.map (·.l)) safe g 2 true W) (hw : Ws W1 ys R ya yc ra rc lg sf v K safe X) (ho : g.o = true) (hK : K.length ≤ 100) {a : Option Addr} {c : Nat} {W2 : World} (hb : Below W.heap.size W W2) (hr : W2.ownsRow W.heap.size 61 3 (.slice a (all0 g.Y g.Q).length c) (all0 g.Y g.Q).length ((all0 g.Y g.Q).flatMap flP.c)) (t : TypeId) :
    ∃ v' Z, (Builtin.append_ #[24, 24] t #[v, .slice (some ⟨W2.heap.size, 0, none⟩) 1 1]).run Tryz.prog (W2.alloc (.cells #[.slice a (all0 g.Y g.Q).length c] 28)) = .ok v' Z ∧ Wx W1 ys R ya yc ra rc lg sf g.n g.Y g.Q g.sa g.sc g.ta g.tc g.l sf v' (K ++ [⟨a, c, all0 g.Y g.Q⟩]) safe Z := by
  obtain ⟨⟨hyes, _⟩, hta⟩ := h.ans (by omega)
  have hall : Below W2.heap.size W2 (W2.alloc (.cells #[.slice a (all0 g.Y g.Q).length c] 28)) := (Below.refl _ _).alloc (Nat.le_refl _) _
  have hbA := hb.trans (hall.mono hb.size)
  have hXW := h.bel.size
  have hXA := h.bel.trans (hbA.mono hXW)
  have hlt := hw.lt
  have hn := (h.box rfl).1
  have hnx := h.fin (Nat.le_refl _)
  have hnA := bstay hnx hbA (Array.getElem?_eq_some_iff.1 hnx).1
  have hbx := bstay hw.box hXA hlt
  obtain ⟨v', Z, hrun, hsl, hgr, hlo⟩ := (hw.sl.on hXA).app (bnew W2 #[.slice a (all0 g.Y g.Q).length c] 28) ((dlf.own_low' hr (by omega)).alloc _) hK (by have := hXA.size; omega) t
  refine ⟨v', Z, hrun, ?_⟩
  have htn : Tn (W2.alloc (.cells #[.slice a (all0 g.Y g.Q).length c] 28)) Z (fun k => some k = v.ownBlock) := ⟨hgr.os, hgr.tape, hgr.output, hgr.size, fun k hk hs => hgr.block k hk hs⟩
  have hvX : ∀ k, v.ownBlock = some k → k < X.heap.size := fun k hk => (hw.sl.out.lt k hk).2
  have hty : ∀ (k : Nat) (cur : Array Value), (W2.alloc (.cells #[.slice a (all0 g.Y g.Q).length c] 28)).heap[k]? = some (.cells cur 32 (0, 0)) → Z.heap[k]? = some (.cells cur 32 (0, 0)) := fun k cur hk => by
    rw [hgr.block k (Array.getElem?_eq_some_iff.1 hk).1 (fun e => by
      have h9 := own_block (hw.sl.on hXA).out hk (by decide)
      rcases h9 with h9 | h9
      · rw [h9] at e; cases e
      · exact h9 e.symm)]
    exact hk
  refine ⟨(hw.bel.trans (hXA.mono hw.bel.size)).grown hgr (by have := hw.bel.size; have := hXA.size; omega) (fun k hk => by have := hlo k hk; omega), hty _ _ hbx, by omega, hty _ _ hnA, ?_, hsl, ?_⟩
  · exact (((hta.on hbA).turn htn (fun k hk => hvX k hk.symm)).tb).wide (by omega)
  · rw [List.map_append]
    exact hyes ho
/-- nothing was taken -/
theorem S3.same (h : S3 X lg sf ys R (K.map (·.l)) safe g 2 true W) (hw : Ws W1 ys R ya yc ra rc lg sf v K safe X) (ho : g.o = false) : Wx W1 ys R ya yc ra rc lg sf g.n g.Y g.Q g.sa g.sc g.ta g.tc g.l sf v K safe W := by
  obtain ⟨⟨_, hno⟩, hta⟩ := h.ans (by omega)
  obtain ⟨e1, e2, e3⟩ := hno ho
  have hlt := hw.lt
  have hn := (h.box rfl).1
  have hw2 := hw.on h.bel
  refine ⟨hw2.bel, hw2.box, by omega, h.fin (Nat.le_refl _), hta.tb.wide (by omega), hw2.sl, ?_⟩
  rw [e1, e2, e3]
  exact hw.iv
theorem Wd.row (h : Wd w W1 rs is va ua) (hb : Below W1.heap.size W1 X) {i : Nat} {r : Rn} (hi : rs[i]? = some r) : bs.Fit r.l ∧ Row flP.c 3 X X.heap.size r.a r.l :=
  ⟨h.fit r (List.mem_of_getElem? hi), (h.vr.inn hb).2 r (List.mem_of_getElem? hi)⟩
/-- what StoreDo says of the store in the box -/
theorem p_do (h : Ws W1 ys R ya yc ra rc lg sf v K safe X) (hd : Wd w W1 rs is va ua) {i : Nat} {r : Rn} (hi : rs[i]? = some r) (hsf : (Lit.int .i64 sf).wf = true) (hlg : lg.size ≤ 1048576) (hb : Below X.heap.size X W) :
    Calls Tryz.prog 8 #[.agg #[.slice ya ys.length yc, .slice ra R.length rc, .string lg, .int .i64 sf], .slice r.a r.l.length r.c] W fun e w' => ∃ Y Q sa sc ta tc l o, e = .returned (.tuple #[.agg #[.slice sa (Y : List flP.Pr).length sc, .slice ta (Q : List (List flP.Pr)).length tc, .string l, .int .i64 sf], .bool o]) ∧ Ta w' W.heap.size Y Q sa sc ta tc ∧ (∀ n, An lg sf ys R (K.map (·.l)) safe ⟨n, sa, sc, ta, tc, Y, Q, l, o⟩) ∧ Below W.heap.size W w' := by
  have h2 := h.on hb
  obtain ⟨hf, hr⟩ := hd.row h2.bel hi
  refine (sdd.store_do r.l r.a r.c h2.tab.pt (ok_ft (okS_okB h.iv.ok)) hlg hsf (hd.tb.on h2.bel) hf hr).mono ?_
  rintro e w' ⟨⟨Y, Q, sa, sc, ta, tc, rfl, hta, hcan, _, hok⟩ | ⟨sa, sc, ta, tc, rfl, hta⟩, hb'⟩
  · exact ⟨Y, Q, sa, sc, ta, tc, _, true, rfl, hta, fun n => ⟨fun _ => h.iv.do hcan hok, fun e => (by cases e)⟩, hb'⟩
  · exact ⟨ys, R, sa, sc, ta, tc, _, false, rfl, hta, fun n => ⟨fun e => (by cases e), fun _ => ⟨rfl, rfl, rfl⟩⟩, hb'⟩
theorem S4.start : S4 X n Y Q l2 s2 g4 0 X.drew := ⟨X.drew, (Below.refl _ _).drew, fun _ => rfl, fun h => (by omega), fun h => (by omega)⟩
theorem S4.call (h : S4 X n Y Q l2 s2 g4 0 W) {W' : World} (hb : Below W.heap.size W W') (ht : Ta W' W.heap.size Y Q sa sc ta tc) : S4 X n Y Q l2 s2 ⟨sa, sc, ta, tc⟩ 1 W' := by
  obtain ⟨W0, h1, h2, _, _⟩ := h
  obtain rfl := h2 (by omega)
  exact ⟨W', h1.trans (hb.mono h1.size), fun _ => rfl, fun _ => ht.wide h1.size, fun h => (by omega)⟩
theorem S4.sto (h : S4 X n Y Q l2 s2 g4 1 W) : S4 X n Y Q l2 s2 g4 2 ((((W.setCell ⟨n, 0, none⟩ (.slice g4.sa Y.length g4.sc)).setCell ⟨n, 1, none⟩ (.slice g4.ta Q.length g4.tc)).setCell ⟨n, 2, none⟩ (.string l2)).setCell ⟨n, 3, none⟩ (.int .i64 s2)) := by
  obtain ⟨W0, h1, h2, h3, _⟩ := h
  obtain rfl := h2 (by omega)
  exact ⟨W, h1, fun h => (by omega), fun _ => h3 (by omega), fun _ => rfl⟩
/-- what sameStore says where nothing was taken -/
theorem S3.samecall (h : S3 X lg sf ys R (K.map (·.l)) safe g 2 true W) (hw : Ws W1 ys R ya yc ra rc lg sf v K safe X) (ho : g.o = false) :
    Calls Tryz.prog 9 #[.agg #[.slice g.sa g.Y.length g.sc, .slice g.ta g.Q.length g.tc, .string g.l, .int .i64 sf], .agg #[.slice ya ys.length yc, .slice ra R.length rc, .string lg, .int .i64 sf]] W fun e w' => e = .returned (.bool true) ∧ Below W.heap.size W w' := by
  obtain ⟨⟨_, hno⟩, hta⟩ := h.ans (by omega)
  obtain ⟨e1, e2, e3⟩ := hno ho
  have h2 := hta.pt
  rw [e1, e2] at h2
  rw [e1, e2, e3]
  exact sms.same_store lg sf h2 (hw.on h.bel).tab.pt (ok_ft (okS_okB hw.iv.ok))
theorem s4_bel (h : Wx W1 ys R ya yc ra rc lg sf n Y' Q' sa' sc' ta' tc' l3 s3 v K safe X) (hS : S4 X n Y Q l2 s2 g4 k W) : Below W1.heap.size W1 W := by
  obtain ⟨W0, h1, h2, _, h4⟩ := hS
  have hb := h.bel.trans (h1.mono h.bel.size)
  by_cases hk : k ≤ 1
  · rw [h2 hk]
    exact hb
  · rw [h4 (by omega)]
    exact hb.trans ((tn4 W0 n _ _ _ _).below hb.size (fun z hz => by have := h.ne; omega))
theorem len_of {w : World} {B n : Nat} {U : TypeId} {s : Nat} {v : Value} {xs : List Value} (h : w.ownsRow B U s v n xs) : n ≤ maxLen := by
  obtain ⟨_, ⟨_, h0⟩ | ⟨g, cap, cur, _, _, _, h1, h2, _⟩⟩ := h
  · rw [h0]
    exact Nat.zero_le _
  · exact Nat.le_trans h1 h2
theorem own4 {B m s : Nat} {U : TypeId} {v : Value} {xs : List Value} (h : X.ownsRow B U s v m xs) (hn : n < B) (u0 u1 u2 u3 : Value) : (((((X.setCell ⟨n, 0, none⟩ (u0)).setCell ⟨n, 1, none⟩ (u1)).setCell ⟨n, 2, none⟩ (u2)).setCell ⟨n, 3, none⟩ (u3))).ownsRow B U s v m xs := by
  have ht := tn4 X n u0 u1 u2 u3
  refine h.kept (row := some n) ⟨ht.os, ht.tape, ht.output, ht.size, fun k hk hne => ht.block k hk (fun e => hne (by rw [show k = n from e]))⟩ ?_
  cases hv : v.ownBlock with
  | none => exact .inl rfl
  | some g =>
    right
    intro e
    have h1 := (h.lt g hv).1
    have h2 : g = n := Option.some.inj e
    omega
theorem Wd.list (h : Wd w W1 rs is va ua) {i : Nat} {r : Rn} (hi : rs[i]? = some r) : ∃ b off, va = some ⟨b, off, none⟩ ∧ ∀ X, Below W1.heap.size W1 X → X.cell? ⟨b, off + i, none⟩ = some (.slice r.a r.l.length r.c) := by
  rcases h.vr.1 with h1 | ⟨b, off, ha, hlt, hc⟩
  · rw [h1] at hi; cases hi
  · refine ⟨b, off, ha, fun X hX => ?_⟩
    have := hc i r hi 0 _ rfl
    rw [Nat.mul_one, Nat.add_zero] at this
    exact (hX.cell (p := ⟨b, off + i, none⟩) hlt).trans this
theorem Wd.num (h : Wd w W1 rs is va ua) {i : Nat} {z : Int} (hi : is[i]? = some z) : ∃ b off, ua = some ⟨b, off, none⟩ ∧ ∀ X, Below W1.heap.size W1 X → X.cell? ⟨b, off + i, none⟩ = some (.int .i64 z) := by
  rcases h.nm with h1 | ⟨b, off, ha, hlt, hc⟩
  · rw [h1] at hi; cases hi
  · refine ⟨b, off, ha, fun X hX => ?_⟩
    have := hc i z hi 0 _ rfl
    rw [Nat.mul_one, Nat.add_zero] at this
    exact (hX.cell (p := ⟨b, off + i, none⟩) hlt).trans this
end
end Go.Proofs.YtoemkbooomgieaaGreatDoor.swt
