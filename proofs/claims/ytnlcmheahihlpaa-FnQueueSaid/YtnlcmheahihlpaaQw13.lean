/- As ChainTurn: a call whose arguments hang on what was drawn before it, in a region that draws its order. -/
import Derived.Test.YtnlcmheahihlpaaRegionGhost
import Derived.Test.YtnlcmheahihlpaaQw12

/- A region that draws its order, whose operations may leave values that hang on what was drawn: the frame behind it is given by a ghost, which an operation may turn wherever no operation has been done. -/
namespace Go.Proofs.Ytnlcmheahihlpaa.gt
open Go.Proofs.Ytnlcmheahihlpaa.dn

/-- two frames that are alike wherever an operation has been done -/
structure Turn (ops : Array Oper) (L : Nat → Bool) (f f' : Act) : Prop where
  defers : f'.defers = f.defers
  size : f'.tmps.size = f.tmps.size
  same : ∀ (j : Nat) (p : Oper) (q : Nat), ops[j]? = some p → p.dst = some q → L j = true → f'.tmps[q]? = f.tmps[q]?
theorem Turn.refl (ops : Array Oper) (L : Nat → Bool) (f : Act) : Turn ops L f f := ⟨rfl, rfl, fun _ _ _ _ _ _ => rfl⟩

section
variable {σ : Type} {P : Program} {ops : Array Oper} {a0 : Act} {fin : σ → Act} {C : σ → (Nat → Bool) → World → Prop} {Q : Exit → Act → World → Prop}

/-- operation i, once those that it waits for are done -/
def Step (P : Program) (ops : Array Oper) (fin : σ → Act) (C : σ → (Nat → Bool) → World → Prop) (Q : Exit → Act → World → Prop) (i : Nat) (o : Oper) : Prop :=
  ∀ (s : σ) (L : Nat → Bool) (w : World) (a : Act), (∀ x ∈ o.op.operands, a.eval x = (fin s).eval x) → (∀ e ∈ o.after, Region.binds .any e = true → L e.on = true) → L i = false → C s L w →
    ∀ K : Act → World → Prop, (∀ (s' : σ) (v : Value) (w' : World), Turn ops L (fin s) (fin s') → (∀ d, o.dst = some d → (fin s').tmps[d]? = some v) → C s' (more L i) w' → K (a.put o.dst v) w') → o.wp P a w K Q

/-- an operation that leaves one value, out of the frame as it is -/
theorem step_val {i : Nat} {o : Oper} (hsel : ∀ cs b, o.op ≠ .select cs b)
    (h : ∀ (s : σ) (L : Nat → Bool) (w : World), (∀ e ∈ o.after, Region.binds .any e = true → L e.on = true) → L i = false → C s L w →
      ∃ s' v, Turn ops L (fin s) (fin s') ∧ (∀ d, o.dst = some d → (fin s').tmps[d]? = some v) ∧ left P v (C s' (more L i)) ((execOp (fin s).eval o).run P w)) : Step P ops fin C Q i o := by
  intro s L w a ha hd h0 hC K hK
  obtain ⟨s', v, hag, hv, hleft⟩ := h s L w hd h0 hC
  unfold Oper.wp
  rw [execOp_congr o hsel ha]
  generalize (execOp (fin s).eval o).run P w = r at *
  cases r with
  | ok n w' =>
    cases n <;> simp only [left] at hleft <;> simp only [Oper.upon]
    case value u =>
      obtain ⟨rfl, hD⟩ := hleft
      exact hK s' _ _ hag hv hD
    case skip =>
      obtain ⟨rfl, hD⟩ := hleft
      exact hK s' _ _ hag hv hD
    case enter f args =>
      exact hleft.mono fun e w'' ⟨he, hD⟩ => by subst he; exact hK s' _ _ hag hv hD
  | halt x w' => simp only [left] at hleft

theorem Fr.turn {s s' : σ} {L : Nat → Bool} {a : Act} (h : Fr ops a0 (fin s) L a) (hag : Turn ops L (fin s) (fin s')) : Fr ops a0 (fin s') L a := by
  refine ⟨h.defers.trans hag.defers.symm, h.size.trans hag.size.symm, fun j p q hj hp hL => ?_, h.rest⟩
  rw [hag.same j p q hj hp hL]
  exact h.done j p q hj hp hL

theorem any_done (hok : okB ops = true) (hfin : ∀ (g : σ) (s : Nat), (∀ (i : Nat) (o : Oper), ops[i]? = some o → o.dst ≠ some s) → a0.tmps[s]? = (fin g).tmps[s]?)
    (hstep : ∀ (i : Nat) (o : Oper), ops[i]? = some o → Step P ops fin C Q i o) (hend : ∀ (s : σ) (L : Nat → Bool) (w : World), (∀ i, i < ops.size → L i = true) → C s L w → Q .normal (fin s) w) :
    ∀ (fuel : Nat) (l : Array Bool) (s : σ) (a : Act) (w : World), l.size = ops.size → undone l ≤ fuel → Fr ops a0 (fin s) (fun j => l.getD j false) a → C s (fun j => l.getD j false) w → wpAny P .any ops Q fuel l a w := by
  intro fuel
  have fin_of : ∀ (l : Array Bool) (s : σ) (a : Act) (w : World), l.size = ops.size → Fr ops a0 (fin s) (fun j => l.getD j false) a → C s (fun j => l.getD j false) w → Region.ready .any ops l = [] → Q .normal a w := by
    intro l s a w hs hfr hC hr
    have hall := ready_nil hs hok hr
    have hL : ∀ i, i < ops.size → (fun j => l.getD j false) i = true := fun i hi => hall i i (Nat.le_refl _) hi
    rw [hfr.all (hfin s) hL]
    exact hend s _ w hL hC
  induction fuel with
  | zero =>
    intro l s a w hs hu hfr hC
    have hr : Region.ready .any ops l = [] := by
      cases hr : Region.ready .any ops l with
      | nil => rfl
      | cons i r =>
        obtain ⟨hlt, hb, _⟩ := ready_spec hs (show i ∈ Region.ready .any ops l by rw [hr]; simp)
        exfalso
        unfold undone at hu
        have h0 : l.toList.filter (fun b => !b) = [] := List.eq_nil_of_length_eq_zero (by omega)
        have hm : false ∈ l.toList := by
          rw [Array.getD_eq_getD_getElem?, Array.getElem?_eq_getElem hlt] at hb
          simp only [Option.getD_some] at hb
          rw [← hb]
          simp
        have := List.filter_eq_nil_iff.1 h0 false hm
        simp at this
    exact ⟨hr, fin_of l s a w hs hfr hC hr⟩
  | succ fuel ih =>
    intro l s a w hs hu hfr hC
    refine ⟨fun hr => fin_of l s a w hs hfr hC hr, fun i hi => ?_⟩
    obtain ⟨hlt, hb, o, ho, hd⟩ := ready_spec hs hi
    have hf := fine_of hok ho
    have hs' : (l.setIfInBounds i true).size = ops.size := by simpa using hs
    have hu' : undone (l.setIfInBounds i true) ≤ fuel := by
      have h1 := undone_set l.toList i (by
        rw [Array.getD_eq_getD_getElem?, Array.getElem?_eq_getElem hlt] at hb
        simp only [Option.getD_some] at hb
        simp [hlt, hb])
      unfold undone at hu ⊢
      rw [Array.toList_setIfInBounds]
      omega
    have hw : Region.wanted o (yielded ops a.tmps) = true := by simp [Region.wanted, hf.guard]
    unfold wpOp
    rw [ho]
    simp only [hw, if_true]
    left
    refine hstep i o ho s (fun j => l.getD j false) w a (hfr.reads hf (hfin s) hd) hd hb hC _ (fun s' v w' hag hv hD => ?_)
    have hfr' := (Fr.turn hfr hag).step ho hf hv
    rw [← more_set l hlt] at hfr' hD
    exact ih _ _ _ _ hs' hu' hfr' hD

/-- each operation of a list that is written out, by its number -/
def Each (P : Program) (ops : Array Oper) (fin : σ → Act) (C : σ → (Nat → Bool) → World → Prop) (Q : Exit → Act → World → Prop) : Nat → List Oper → Prop
  | _, [] => True
  | n, o :: r => Step P ops fin C Q n o ∧ Each P ops fin C Q (n + 1) r

theorem each_get : ∀ (l : List Oper) (n : Nat), Each P ops fin C Q n l → ∀ (i : Nat) (o : Oper), l[i]? = some o → Step P ops fin C Q (n + i) o
  | [], _, _, i, o, h => by simp at h
  | x :: r, n, h, 0, o, ho => by simp at ho; subst ho; exact h.1
  | x :: r, n, h, i + 1, o, ho => by
    have := each_get r (n + 1) h.2 i o (by simpa using ho)
    rwa [show n + (i + 1) = n + 1 + i by omega]

theorem region_ghost {id : Nat} {l : List Oper} {w : World} (fin : σ → Act) (C : σ → (Nat → Bool) → World → Prop) (s0 : σ) (hm : P.follows .mixedOrders = true) (hok : okB l.toArray = true)
    (hdef : a0.defers = (fin s0).defers) (hsz : ∀ s, a0.tmps.size = (fin s).tmps.size) (ks : List Nat) (hks : ((List.range a0.tmps.size).filter fun s => !keepB l s) = ks) (hkeep : ∀ g, gh.Kept a0.tmps (fin g).tmps ks)
    (hC : C s0 (fun _ => false) w.drew) (hstep : Each P l.toArray fin C Q 0 l) (hend : ∀ (s : σ) (L : Nat → Bool) (w' : World), (∀ i, i < l.length → L i = true) → C s L w' → Q .normal (fin s) w') :
    (Code.region id l.toArray true).wp P Q a0 w := by
  refine wp_region_any hm ?_
  have hL0 : (fun j => (Array.replicate l.toArray.size false).getD j false) = fun _ => false := by
    funext j
    simp only [Array.getD_eq_getD_getElem?, Array.getElem?_replicate]
    split <;> rfl
  refine any_done (a0 := a0) (fin := fin) (C := C) hok (fun g s hs => ?_) (fun i o hi => ?_) (fun s L w' hL hD => hend s L w' (fun i hi => hL i (by simpa using hi)) hD) _ _ s0 _ _ (by simp) ?_ ?_ ?_
  · by_cases hlt : s < a0.tmps.size
    · refine gh.kept_get ks (hkeep g) s ?_
      rw [← hks, List.mem_filter]
      refine ⟨by simpa using hlt, ?_⟩
      rw [Bool.not_eq_true']
      unfold keepB
      rw [List.any_eq_false]
      intro o ho
      obtain ⟨i, hi⟩ := List.getElem?_of_mem ho
      have := hs i o (by simpa using hi)
      simpa using this
    · rw [Array.getElem?_eq_none (by omega), Array.getElem?_eq_none (by rw [← hsz]; omega)]
  · have := each_get l 0 hstep i o (by simpa using hi)
    rwa [Nat.zero_add] at this
  · unfold undone
    refine Nat.le_trans (List.length_filter_le _ _) (by simp)
  · rw [hL0]
    exact ⟨hdef, hsz s0, fun i o s _ _ h => (by cases h), fun s _ => rfl⟩
  · rw [hL0]
    exact hC
end
end Go.Proofs.Ytnlcmheahihlpaa.gt

/- A region that draws its order, whose operations with an effect wait for one another (as in ChainKit); what one of them leaves may show in the temporaries of those that wait for it. -/
namespace Go.Proofs.Ytnlcmheahihlpaa.cht
open Go.Proofs.Ytnlcmheahihlpaa.dn
open Go.Proofs.Ytnlcmheahihlpaa.chn (Cn on off up shut at_m next_m)
set_option linter.unusedVariables false

/-- the slots of the operations zs are qz, and each of zs is i or waits for one ahead of it in zs -/
def waitB (l : List Oper) (i : Nat) : List Nat → List Nat → Bool
  | _, [] => true
  | ys, z :: zs => ((z == i) || (match l[z]? with | some o => o.after.any fun e => Region.binds .any e && ys.contains e.on | none => false)) && waitB l i (z :: ys) zs
def slotB (l : List Oper) (zs qz : List Nat) : Bool := (List.range l.length).all fun j => match l[j]? with | some o => (match o.dst with | some q => !(qz.contains q) || zs.contains j | none => true) | none => true
theorem wait_not {l : List Oper} {i : Nat} {L : Nat → Bool} (hc : ∀ (i : Nat) (o : Oper), l[i]? = some o → L i = true → ∀ e ∈ o.after, Region.binds .any e = true → L e.on = true) (h0 : L i = false) : ∀ (zs ys : List Nat), (∀ y ∈ ys, L y = false) → waitB l i ys zs = true → ∀ z ∈ zs, L z = false
  | [], _, _, _, z, hz => by cases hz
  | x :: zs, ys, hy, hw, z, hz => by
    simp only [waitB, Bool.and_eq_true, Bool.or_eq_true] at hw
    have hx : L x = false := by
      rcases hw.1 with h | h
      · rw [beq_iff_eq] at h; rw [h]; exact h0
      · cases ho : l[x]? with
        | none => rw [ho] at h; cases h
        | some o =>
          rw [ho] at h
          simp only [Array.any_eq_true, Bool.and_eq_true, List.contains_iff_mem] at h
          obtain ⟨n, hn, hb, hm⟩ := h
          cases hL : L x with
          | false => rfl
          | true =>
            have := hc x o ho hL _ (Array.getElem_mem hn) hb
            rw [hy _ hm] at this
            cases this
    rcases List.mem_cons.1 hz with rfl | hz
    · exact hx
    · exact wait_not hc h0 zs (x :: ys) (fun y hy' => by rcases List.mem_cons.1 hy' with rfl | h; exact hx; exact hy y h) hw.2 z hz
theorem slot_in {l : List Oper} {zs qz : List Nat} (h : slotB l zs qz = true) {j : Nat} {o : Oper} {q : Nat} (hj : l[j]? = some o) (hq : o.dst = some q) (hm : q ∈ qz) : j ∈ zs := by
  have hlt := (List.getElem?_eq_some_iff.1 hj).1
  have := List.all_eq_true.1 h j (List.mem_range.2 hlt)
  rw [hj] at this
  simp only [hq] at this
  simp only [Bool.or_eq_true, Bool.not_eq_true', List.contains_iff_mem] at this
  rcases this with h1 | h1
  · exact absurd hm (by simpa using h1)
  · exact h1
theorem turn_of {l : List Oper} {L : Nat → Bool} {zs qz : List Nat} {a : Act} {ws ws' : List (Nat × Value)} (hz : ∀ z ∈ zs, L z = false) (hs : slotB l zs qz = true) (h : ∀ q, q ∉ qz → ws'.lookup q = ws.lookup q) : gt.Turn l.toArray L (dk.sets a ws) (dk.sets a ws') := by
  refine ⟨by rw [dk.sets_defers, dk.sets_defers], by rw [dk.sets_size, dk.sets_size], fun j p q hj hp hL => ?_⟩
  have hq : q ∉ qz := fun hm => by
    have := hz j (slot_in hs (by simpa using hj) hp hm)
    rw [this] at hL
    cases hL
  rw [dk.sets_get, dk.sets_get, h q hq]
theorem lookup_but {A B B' : List (Nat × Value)} {qz : List Nat} (h1 : B.map (·.1) = qz) (h2 : B'.map (·.1) = qz) {q : Nat} (hq : q ∉ qz) : (A ++ B').lookup q = (A ++ B).lookup q := by
  have no : ∀ C : List (Nat × Value), q ∉ C.map (·.1) → C.lookup q = none := fun C hC => by
    induction C with
    | nil => rfl
    | cons x r ih =>
      obtain ⟨t, v⟩ := x
      simp only [List.map_cons, List.mem_cons, not_or] at hC
      rw [List.lookup_cons, beq_false_of_ne hC.1]
      exact ih hC.2
  induction A with
  | nil => rw [List.nil_append, List.nil_append, no B (by rw [h1]; exact hq), no B' (by rw [h2]; exact hq)]
  | cons x r ih =>
    obtain ⟨t, v⟩ := x
    rw [List.cons_append, List.cons_append, List.lookup_cons, List.lookup_cons, ih]
section
variable {σ : Type} {P : Program} {act : Act} {ws : σ → List (Nat × Value)} {l : List Oper} {js : List Nat} {S : σ → Nat → World → Prop} {Q : Exit → Act → World → Prop} {i : Nat} {o : Oper}
/-- an operation without an effect, which the m-th of those with one waits for (or none does: m is how many they are) -/
theorem quiet (m : Nat) (hl : l[i]? = some o) (hi : i ∉ js) (hm : m = js.length ∨ ∃ j oj, js[m]? = some j ∧ l[j]? = some oj ∧ ∃ e ∈ oj.after, Region.binds .any e = true ∧ e.on = i) (hsel : ∀ cs b, o.op ≠ .select cs b) (u : σ → Value)
    (hd : ∀ s d, o.dst = some d → (dk.sets act (ws s)).tmps[d]? = some (u s)) (hrun : ∀ s k W, k ≤ m → S s k W → (execOp (dk.sets act (ws s)).eval o).run P W = .ok (.value (u s)) W) : gt.Step P l.toArray (fun s => dk.sets act (ws s)) (Cn l js S) Q i o := by
  refine gt.step_val hsel fun s L W hdp h0 hC => ⟨s, u s, gt.Turn.refl _ _ _, hd s, ?_⟩
  obtain ⟨hc, k, hk, hL, hS⟩ := hC
  have hkm : k ≤ m := by
    rcases hm with rfl | ⟨j, oj, hj, hoj, e, he, hb, hon⟩
    · exact hk
    · rcases Nat.lt_or_ge m k with h | h
      · have h1 : L j = true := by rw [hL m j hj]; simpa using h
        have := hc j oj hoj h1 e he hb
        rw [hon, h0] at this
        cases this
      · exact h
  rw [hrun s k W hkm hS]
  refine ⟨rfl, shut hl hdp hc, k, hk, fun m' j hj => ?_, hS⟩
  rw [off L (fun e => hi (by rw [← e]; exact List.mem_of_getElem? hj))]
  exact hL m' j hj
/-- the m-th of those with an effect -/
theorem eff (m : Nat) (zs qz : List Nat) (hz : waitB l i [] zs = true) (hq : slotB l zs qz = true) (hl : l[i]? = some o) (hnd : js.Nodup) (hm : js[m]? = some i) (hdep : m = 0 ∨ ∃ e ∈ o.after, Region.binds .any e = true ∧ js[m - 1]? = some e.on) (hsel : ∀ cs b, o.op ≠ .select cs b)
    (h : ∀ s W, S s m W → ∃ s' v, (∀ q, q ∉ qz → (ws s').lookup q = (ws s).lookup q) ∧ (∀ d, o.dst = some d → (dk.sets act (ws s')).tmps[d]? = some v) ∧ left P v (S s' (m + 1)) ((execOp (dk.sets act (ws s)).eval o).run P W)) : gt.Step P l.toArray (fun s => dk.sets act (ws s)) (Cn l js S) Q i o := by
  refine gt.step_val hsel fun s L W hdp h0 hC => ?_
  obtain ⟨hc, k, hk, hL, hS⟩ := hC
  obtain rfl := at_m hL hm h0 hdep hdp
  obtain ⟨s', v, h1, h2, h3⟩ := h s W hS
  refine ⟨s', v, turn_of (wait_not hc h0 zs [] (fun y hy => by cases hy) hz) hq h1, h2, ?_⟩
  have hlt := (List.getElem?_eq_some_iff.1 hm).1
  have hnew : ∀ W', S s' (k + 1) W' → Cn l js S s' (more L i) W' := fun W' hS' => ⟨shut hl hdp hc, k + 1, hlt, next_m hnd hm hL, hS'⟩
  generalize (execOp (dk.sets act (ws s)).eval o).run P W = r at *
  cases r with
  | ok n w' =>
    cases n <;> simp only [left] at h3 ⊢
    case value u => exact ⟨h3.1, hnew _ h3.2⟩
    case skip => exact ⟨h3.1, hnew _ h3.2⟩
    case enter f args => exact h3.mono fun e w'' ⟨he, hD⟩ => ⟨he, hnew _ hD⟩
  | halt x w' => simp only [left] at h3
/-- one of them that enters a function whose answer is known only behind it -/
theorem call (m : Nat) (zs qz : List Nat) (hz : waitB l i [] zs = true) (hq : slotB l zs qz = true) (hl : l[i]? = some o) (hnd : js.Nodup) (hm : js[m]? = some i) (hdep : m = 0 ∨ ∃ e ∈ o.after, Region.binds .any e = true ∧ js[m - 1]? = some e.on) (hsel : ∀ cs b, o.op ≠ .select cs b) (f : FuncId) (args : Array Value)
    (h : ∀ s W, S s m W → (execOp (dk.sets act (ws s)).eval o).run P W = .ok (.enter f args) W ∧ Calls P f args W fun e w' => ∃ s' v, e = .returned v ∧ (∀ q, q ∉ qz → (ws s').lookup q = (ws s).lookup q) ∧ (∀ d, o.dst = some d → (dk.sets act (ws s')).tmps[d]? = some v) ∧ S s' (m + 1) w') : gt.Step P l.toArray (fun s => dk.sets act (ws s)) (Cn l js S) Q i o := by
  intro s L W a ha hdp h0 hC K hK
  obtain ⟨hc, k, hk, hL, hS⟩ := hC
  obtain rfl := at_m hL hm h0 hdep hdp
  obtain ⟨h1, h2⟩ := h s W hS
  have hlt := (List.getElem?_eq_some_iff.1 hm).1
  unfold Oper.wp
  rw [execOp_congr o hsel ha, h1]
  simp only [Oper.upon]
  exact h2.mono fun e w' ⟨s', v, he, ht, hv, hS'⟩ => by
    subst he
    exact hK s' _ _ (turn_of (wait_not hc h0 zs [] (fun y hy => by cases hy) hz) hq ht) hv ⟨shut hl hdp hc, k + 1, hlt, next_m hnd hm hL, hS'⟩
theorem val {v : Value} {D : World → Prop} {r : Result Next} {w' : World} (h : r = .ok (.value v) w') (hD : D w') : left P v D r := by rw [h]; exact ⟨rfl, hD⟩
theorem skip {D : World → Prop} {r : Result Next} {w' : World} (h : r = .ok .skip w') (hD : D w') : left P undef D r := by rw [h]; exact ⟨rfl, hD⟩
/-- one of them that stores -/
theorem sto (m : Nat) (hl : l[i]? = some o) (hnd : js.Nodup) (hm : js[m]? = some i) (hdep : m = 0 ∨ ∃ e ∈ o.after, Region.binds .any e = true ∧ js[m - 1]? = some e.on) (hsel : ∀ cs b, o.op ≠ .select cs b) (hdst : o.dst = none)
    (h : ∀ s W, S s m W → ∃ w', (execOp (dk.sets act (ws s)).eval o).run P W = .ok .skip w' ∧ S s (m + 1) w') : gt.Step P l.toArray (fun s => dk.sets act (ws s)) (Cn l js S) Q i o := by
  refine eff m [] [] rfl (by simp only [slotB, List.all_eq_true]; intro x _; split; (split <;> rfl); rfl) hl hnd hm hdep hsel fun s W hS => ?_
  obtain ⟨w', h1, h2⟩ := h s W hS
  exact ⟨s, undef, fun _ _ => rfl, fun d hd => (by rw [hdst] at hd; cases hd), skip h1 h2⟩
/-- the whole region -/
theorem region {id : Nat} {w : World} (ks : List Nat) (s0 : σ) (hm : P.follows .mixedOrders = true) (hok : okB l.toArray = true) (hw : ∀ g, (ws g).map (·.1) = ks) (hks : (ks.all fun t => keepB l t) = true) (hjs : ∀ j ∈ js, j < l.length) (hS : S s0 0 w.drew)
    (hstep : gt.Each P l.toArray (fun g => dk.sets act (ws g)) (Cn l js S) Q 0 l) (hend : ∀ s w', S s js.length w' → Q .normal (dk.sets act (ws s)) w') : (Code.region id l.toArray true).wp P Q act w := by
  refine gt.region_ghost (fun g => dk.sets act (ws g)) (Cn l js S) s0 hm hok (dk.sets_defers act _).symm (fun s => (dk.sets_size act (ws s)).symm) _ rfl (fun g => dk.kept_of _ (dk.keeps (ws g) (hw g) hks)) ⟨fun i o _ h => (by cases h), 0, Nat.zero_le _, fun m j _ => by simp, hS⟩ hstep fun s L w' hL hC => ?_
  obtain ⟨_, k, hk, hLk, hS'⟩ := hC
  have : k = js.length := by
    rcases Nat.lt_or_ge k js.length with h | h
    · have h1 := hLk k js[k] (List.getElem?_eq_getElem h)
      rw [hL _ (hjs _ (List.getElem_mem h))] at h1
      simp at h1
    · omega
  subst this
  exact hend s w' hS'
end
end Go.Proofs.Ytnlcmheahihlpaa.cht

/- As ChainTurn: a call whose arguments hang on what was drawn before it, in a region that draws its order. -/
namespace Go.Proofs.Ytnlcmheahihlpaa.chd
open Go.Proofs.Ytnlcmheahihlpaa.dn
open Go.Proofs.Ytnlcmheahihlpaa.chn (Cn on off up shut at_m next_m)
set_option linter.unusedVariables false

/-- two lists of slots that are alike but at the slots qz -/
def But (qz : List Nat) : List (Nat × Value) → List (Nat × Value) → Prop
  | [], [] => True
  | x :: r, y :: t => x.1 = y.1 ∧ (x.1 ∈ qz ∨ x.2 = y.2) ∧ But qz r t
  | _, _ => False
theorem but_lookup {qz : List Nat} : ∀ (a b : List (Nat × Value)), But qz a b → ∀ q, q ∉ qz → b.lookup q = a.lookup q
  | [], [], _, q, hq => rfl
  | x :: r, y :: t, h, q, hq => by
    obtain ⟨t1, v1⟩ := x
    obtain ⟨t2, v2⟩ := y
    obtain ⟨h1, h2, h3⟩ := h
    obtain rfl : t1 = t2 := h1
    rw [List.lookup_cons, List.lookup_cons, but_lookup r t h3 q hq]
    cases hb : q == t1 with
    | false => rfl
    | true =>
      have e : q = t1 := by simpa using hb
      rcases h2 with h2 | h2
      · exact absurd (e ▸ h2) hq
      · have e2 : v1 = v2 := h2
        rw [e2]
  | [], _ :: _, h, _, _ => by cases h
  | _ :: _, [], h, _, _ => by cases h
section
variable {σ : Type} {P : Program} {act : Act} {ws : σ → List (Nat × Value)} {l : List Oper} {js : List Nat} {S : σ → Nat → World → Prop} {Q : Exit → Act → World → Prop} {i : Nat} {o : Oper}
theorem call (m : Nat) (zs qz : List Nat) (hz : cht.waitB l i [] zs = true) (hq : cht.slotB l zs qz = true) (hl : l[i]? = some o) (hnd : js.Nodup) (hm : js[m]? = some i) (hdep : m = 0 ∨ ∃ e ∈ o.after, Region.binds .any e = true ∧ js[m - 1]? = some e.on) (hsel : ∀ cs b, o.op ≠ .select cs b) (f : FuncId) (args : σ → Array Value)
    (h : ∀ s W, S s m W → (execOp (dk.sets act (ws s)).eval o).run P W = .ok (.enter f (args s)) W ∧ Calls P f (args s) W fun e w' => ∃ s' v, e = .returned v ∧ But qz (ws s) (ws s') ∧ (∀ d, o.dst = some d → (dk.sets act (ws s')).tmps[d]? = some v) ∧ S s' (m + 1) w') : gt.Step P l.toArray (fun s => dk.sets act (ws s)) (Cn l js S) Q i o := by
  intro s L w a ha hdp h0 hC K hK
  obtain ⟨hc, k, hk, hL, hS⟩ := hC
  obtain rfl := at_m hL hm h0 hdep hdp
  obtain ⟨h1, h2⟩ := h s w hS
  have hlt := (List.getElem?_eq_some_iff.1 hm).1
  unfold Oper.wp
  rw [execOp_congr o hsel ha, h1]
  simp only [Oper.upon]
  exact h2.mono fun e w' ⟨s', v, he, ht, hv, hS'⟩ => by
    subst he
    exact hK s' _ _ (cht.turn_of (cht.wait_not hc h0 zs [] (fun y hy => by cases hy) hz) hq (but_lookup _ _ ht)) hv ⟨shut hl hdp hc, k + 1, hlt, next_m hnd hm hL, hS'⟩
/-- one of them that makes memory or reckons with what was drawn -/
theorem eff (m : Nat) (zs qz : List Nat) (hz : cht.waitB l i [] zs = true) (hq : cht.slotB l zs qz = true) (hl : l[i]? = some o) (hnd : js.Nodup) (hm : js[m]? = some i) (hdep : m = 0 ∨ ∃ e ∈ o.after, Region.binds .any e = true ∧ js[m - 1]? = some e.on) (hsel : ∀ cs b, o.op ≠ .select cs b)
    (h : ∀ s W, S s m W → ∃ s' v w', But qz (ws s) (ws s') ∧ (∀ d, o.dst = some d → (dk.sets act (ws s')).tmps[d]? = some v) ∧ (execOp (dk.sets act (ws s)).eval o).run P W = .ok (.value v) w' ∧ S s' (m + 1) w') : gt.Step P l.toArray (fun s => dk.sets act (ws s)) (Cn l js S) Q i o :=
  cht.eff m zs qz hz hq hl hnd hm hdep hsel fun s W hS => by
    obtain ⟨s', v, w', h1, h2, h3, h4⟩ := h s W hS
    exact ⟨s', v, but_lookup _ _ h1, h2, cht.val h3 h4⟩
end
/-- an append's run within a region -/
theorem app_run {P : Program} {act : Act} {o : Oper} {i j : Nat} {T : TypeId} {x y z : Value} {W W' : World} (hop : o.op = .call { callee := .builtin .append, args := #[.tmp i, .tmp j], argTypes := #[T, T] }) (hi : act.eval (.tmp i) = x) (hj : act.eval (.tmp j) = y) (hr : (Builtin.append_ #[T, T] o.type #[x, y]).run P W = .ok z W') : (execOp act.eval o).run P W = .ok (.value z) W' := by
  unfold execOp
  simp only [hop, resolve, invoke, builtin, Sem.run_bind, Sem.run_pure, Result.andThen_ok, List.map_toArray, List.map_cons, List.map_nil, hi, hj, hr]
end Go.Proofs.Ytnlcmheahihlpaa.chd
