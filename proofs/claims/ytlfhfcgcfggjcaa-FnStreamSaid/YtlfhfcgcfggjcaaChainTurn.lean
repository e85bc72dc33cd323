/- A region that draws its order, whose operations with an effect wait for one another (as in ChainKit); what one of them leaves may show in the temporaries of those that wait for it. -/
import Derived.Test.YtlfhfcgcfggjcaaChainKit
import Derived.Test.YtlfhfcgcfggjcaaRegionTurn
namespace Go.Proofs.Ytlfhfcgcfggjcaa.cht
open Go.Proofs.Ytlfhfcgcfggjcaa.dn
open Go.Proofs.Ytlfhfcgcfggjcaa.chn (Cn on off up shut at_m next_m)
set_option linter.unusedVariables false

/-- the slots of the operations zs are qz, and each of zs is i or waits for one ahead of it in zs -/
def waitB (l : List Oper) (i : Nat) : List Nat → List Nat → Bool
  | _, [] => true
  | ys, z :: zs => ((z == i) || (match l[z]? with | some o => o.after.any fun e => Region.binds .any e && ys.contains e.on | none => false)) && waitB l i (z :: ys) zs
def slotB (l : List Oper) (zs qz : List Nat) : Bool := (List.range l.length).all fun j => match l[j]? with | some o => (match o.dst with | some q => !(qz.contains q) || zs.contains j | none => true) | none => true
theorem wait_not {l : List Oper} {i : Nat} {L : Nat → Bool} (hc : ∀ (i : Nat) (o : Oper), l[i]? = some o → L i = true → ∀ e ∈ o.after, Region.binds .any e = true → L e.on = true) (h0 : L i = false) : ∀ (zs ys : List Nat), (∀ y ∈ ys, L y = false) → waitB l i ys zs = true → ∀ z ∈ zs, L z = false
  | [], _, _, _, z, hz => by cases hz
  | x :: zs, ys, hy, hw, z, hz => by
    simp only [waitB, Bool.and_eq_true, Bool.or_eq_true] at hw
    have hx : L x = false := by
      rcases hw.1 with h | h
      · rw [beq_iff_eq] at h; rw [h]; exact h0
      · cases ho : l[x]? with
        | none => rw [ho] at h; cases h
        | some o =>
          rw [ho] at h
          simp only [Array.any_eq_true, Bool.and_eq_true, List.contains_iff_mem] at h
          obtain ⟨n, hn, hb, hm⟩ := h
          cases hL : L x with
          | false => rfl
          | true =>
            have := hc x o ho hL _ (Array.getElem_mem hn) hb
            rw [hy _ hm] at this
            cases this
    rcases List.mem_cons.1 hz with rfl | hz
    · exact hx
    · exact wait_not hc h0 zs (x :: ys) (fun y hy' => by rcases List.mem_cons.1 hy' with rfl | h; exact hx; exact hy y h) hw.2 z hz
theorem slot_in {l : List Oper} {zs qz : List Nat} (h : slotB l zs qz = true) {j : Nat} {o : Oper} {q : Nat} (hj : l[j]? = some o) (hq : o.dst = some q) (hm : q ∈ qz) : j ∈ zs := by
  have hlt := (List.getElem?_eq_some_iff.1 hj).1
  have := List.all_eq_true.1 h j (List.mem_range.2 hlt)
  rw [hj] at this
  simp only [hq] at this
  simp only [Bool.or_eq_true, Bool.not_eq_true', List.contains_iff_mem] at this
  rcases this with h1 | h1
  · exact absurd hm (by simpa using h1)
  · exact h1
theorem turn_of {l : List Oper} {L : Nat → Bool} {zs qz : List Nat} {a : Act} {ws ws' : List (Nat × Value)} (hz : ∀ z ∈ zs, L z = false) (hs : slotB l zs qz = true) (h : ∀ q, q ∉ qz → ws'.lookup q = ws.lookup q) : gt.Turn l.toArray L (dk.sets a ws) (dk.sets a ws') := by
  refine ⟨by rw [dk.sets_defers, dk.sets_defers], by rw [dk.sets_size, dk.sets_size], fun j p q hj hp hL => ?_⟩
  have hq : q ∉ qz := fun hm => by
    have := hz j (slot_in hs (by simpa using hj) hp hm)
    rw [this] at hL
    cases hL
  rw [dk.sets_get, dk.sets_get, h q hq]
theorem lookup_but {A B B' : List (Nat × Value)} {qz : List Nat} (h1 : B.map (·.1) = qz) (h2 : B'.map (·.1) = qz) {q : Nat} (hq : q ∉ qz) : (A ++ B').lookup q = (A ++ B).lookup q := by
  have no : ∀ C : List (Nat × Value), q ∉ C.map (·.1) → C.lookup q = none := fun C hC => by
    induction C with
    | nil => rfl
    | cons x r ih =>
      obtain ⟨t, v⟩ := x
      simp only [List.map_cons, List.mem_cons, not_or] at hC
      rw [List.lookup_cons, beq_false_of_ne hC.1]
      exact ih hC.2
  induction A with
  | nil => rw [List.nil_append, List.nil_append, no B (by rw [h1]; exact hq), no B' (by rw [h2]; exact hq)]
  | cons x r ih =>
    obtain ⟨t, v⟩ := x
    rw [List.cons_append, List.cons_append, List.lookup_cons, List.lookup_cons, ih]
section
variable {σ : Type} {P : Program} {act : Act} {ws : σ → List (Nat × Value)} {l : List Oper} {js : List Nat} {S : σ → Nat → World → Prop} {Q : Exit → Act → World → Prop} {i : Nat} {o : Oper}
/-- an operation without an effect, which the m-th of those with one waits for (or none does: m is how many they are) -/
theorem quiet (m : Nat) (hl : l[i]? = some o) (hi : i ∉ js) (hm : m = js.length ∨ ∃ j oj, js[m]? = some j ∧ l[j]? = some oj ∧ ∃ e ∈ oj.after, Region.binds .any e = true ∧ e.on = i) (hsel : ∀ cs b, o.op ≠ .select cs b) (u : σ → Value)
    (hd : ∀ s d, o.dst = some d → (dk.sets act (ws s)).tmps[d]? = some (u s)) (hrun : ∀ s k W, k ≤ m → S s k W → (execOp (dk.sets act (ws s)).eval o).run P W = .ok (.value (u s)) W) : gt.Step P l.toArray (fun s => dk.sets act (ws s)) (Cn l js S) Q i o := by
  refine gt.step_val hsel fun s L W hdp h0 hC => ⟨s, u s, gt.Turn.refl _ _ _, hd s, ?_⟩
  obtain ⟨hc, k, hk, hL, hS⟩ := hC
  have hkm : k ≤ m := by
    rcases hm with rfl | ⟨j, oj, hj, hoj, e, he, hb, hon⟩
    · exact hk
    · rcases Nat.lt_or_ge m k with h | h
      · have h1 : L j = true := by rw [hL m j hj]; simpa using h
        have := hc j oj hoj h1 e he hb
        rw [hon, h0] at this
        cases this
      · exact h
  rw [hrun s k W hkm hS]
  refine ⟨rfl, shut hl hdp hc, k, hk, fun m' j hj => ?_, hS⟩
  rw [off L (fun e => hi (by rw [← e]; exact List.mem_of_getElem? hj))]
  exact hL m' j hj
/-- the m-th of those with an effect -/
theorem eff (m : Nat) (zs qz : List Nat) (hz : waitB l i [] zs = true) (hq : slotB l zs qz = true) (hl : l[i]? = some o) (hnd : js.Nodup) (hm : js[m]? = some i) (hdep : m = 0 ∨ ∃ e ∈ o.after, Region.binds .any e = true ∧ js[m - 1]? = some e.on) (hsel : ∀ cs b, o.op ≠ .select cs b)
    (h : ∀ s W, S s m W → ∃ s' v, (∀ q, q ∉ qz → (ws s').lookup q = (ws s).lookup q) ∧ (∀ d, o.dst = some d → (dk.sets act (ws s')).tmps[d]? = some v) ∧ left P v (S s' (m + 1)) ((execOp (dk.sets act (ws s)).eval o).run P W)) : gt.Step P l.toArray (fun s => dk.sets act (ws s)) (Cn l js S) Q i o := by
  refine gt.step_val hsel fun s L W hdp h0 hC => ?_
  obtain ⟨hc, k, hk, hL, hS⟩ := hC
  obtain rfl := at_m hL hm h0 hdep hdp
  obtain ⟨s', v, h1, h2, h3⟩ := h s W hS
  refine ⟨s', v, turn_of (wait_not hc h0 zs [] (fun y hy => by cases hy) hz) hq h1, h2, ?_⟩
  have hlt := (List.getElem?_eq_some_iff.1 hm).1
  have hnew : ∀ W', S s' (k + 1) W' → Cn l js S s' (more L i) W' := fun W' hS' => ⟨shut hl hdp hc, k + 1, hlt, next_m hnd hm hL, hS'⟩
  generalize (execOp (dk.sets act (ws s)).eval o).run P W = r at *
  cases r with
  | ok n w' =>
    cases n <;> simp only [left] at h3 ⊢
    case value u => exact ⟨h3.1, hnew _ h3.2⟩
    case skip => exact ⟨h3.1, hnew _ h3.2⟩
    case enter f args => exact h3.mono fun e w'' ⟨he, hD⟩ => ⟨he, hnew _ hD⟩
  | halt x w' => simp only [left] at h3
/-- one of them that enters a function whose answer is known only behind it -/
theorem call (m : Nat) (zs qz : List Nat) (hz : waitB l i [] zs = true) (hq : slotB l zs qz = true) (hl : l[i]? = some o) (hnd : js.Nodup) (hm : js[m]? = some i) (hdep : m = 0 ∨ ∃ e ∈ o.after, Region.binds .any e = true ∧ js[m - 1]? = some e.on) (hsel : ∀ cs b, o.op ≠ .select cs b) (f : FuncId) (args : Array Value)
    (h : ∀ s W, S s m W → (execOp (dk.sets act (ws s)).eval o).run P W = .ok (.enter f args) W ∧ Calls P f args W fun e w' => ∃ s' v, e = .returned v ∧ (∀ q, q ∉ qz → (ws s').lookup q = (ws s).lookup q) ∧ (∀ d, o.dst = some d → (dk.sets act (ws s')).tmps[d]? = some v) ∧ S s' (m + 1) w') : gt.Step P l.toArray (fun s => dk.sets act (ws s)) (Cn l js S) Q i o := by
  intro s L W a ha hdp h0 hC K hK
  obtain ⟨hc, k, hk, hL, hS⟩ := hC
  obtain rfl := at_m hL hm h0 hdep hdp
  obtain ⟨h1, h2⟩ := h s W hS
  have hlt := (List.getElem?_eq_some_iff.1 hm).1
  unfold Oper.wp
  rw [execOp_congr o hsel ha, h1]
  simp only [Oper.upon]
  exact h2.mono fun e w' ⟨s', v, he, ht, hv, hS'⟩ => by
    subst he
    exact hK s' _ _ (turn_of (wait_not hc h0 zs [] (fun y hy => by cases hy) hz) hq ht) hv ⟨shut hl hdp hc, k + 1, hlt, next_m hnd hm hL, hS'⟩
theorem val {v : Value} {D : World → Prop} {r : Result Next} {w' : World} (h : r = .ok (.value v) w') (hD : D w') : left P v D r := by rw [h]; exact ⟨rfl, hD⟩
theorem skip {D : World → Prop} {r : Result Next} {w' : World} (h : r = .ok .skip w') (hD : D w') : left P undef D r := by rw [h]; exact ⟨rfl, hD⟩
/-- one of them that stores -/
theorem sto (m : Nat) (hl : l[i]? = some o) (hnd : js.Nodup) (hm : js[m]? = some i) (hdep : m = 0 ∨ ∃ e ∈ o.after, Region.binds .any e = true ∧ js[m - 1]? = some e.on) (hsel : ∀ cs b, o.op ≠ .select cs b) (hdst : o.dst = none)
    (h : ∀ s W, S s m W → ∃ w', (execOp (dk.sets act (ws s)).eval o).run P W = .ok .skip w' ∧ S s (m + 1) w') : gt.Step P l.toArray (fun s => dk.sets act (ws s)) (Cn l js S) Q i o := by
  refine eff m [] [] rfl (by simp only [slotB, List.all_eq_true]; intro x _; split; (split <;> rfl); rfl) hl hnd hm hdep hsel fun s W hS => ?_
  obtain ⟨w', h1, h2⟩ := h s W hS
  exact ⟨s, undef, fun _ _ => rfl, fun d hd => (by rw [hdst] at hd; cases hd), skip h1 h2⟩
/-- the whole region -/
theorem region {id : Nat} {w : World} (ks : List Nat) (s0 : σ) (hm : P.follows .mixedOrders = true) (hok : okB l.toArray = true) (hw : ∀ g, (ws g).map (·.1) = ks) (hks : (ks.all fun t => keepB l t) = true) (hjs : ∀ j ∈ js, j < l.length) (hS : S s0 0 w.drew)
    (hstep : gt.Each P l.toArray (fun g => dk.sets act (ws g)) (Cn l js S) Q 0 l) (hend : ∀ s w', S s js.length w' → Q .normal (dk.sets act (ws s)) w') : (Code.region id l.toArray true).wp P Q act w := by
  refine gt.region_ghost (fun g => dk.sets act (ws g)) (Cn l js S) s0 hm hok (dk.sets_defers act _).symm (fun s => (dk.sets_size act (ws s)).symm) _ rfl (fun g => dk.kept_of _ (dk.keeps (ws g) (hw g) hks)) ⟨fun i o _ h => (by cases h), 0, Nat.zero_le _, fun m j _ => by simp, hS⟩ hstep fun s L w' hL hC => ?_
  obtain ⟨_, k, hk, hLk, hS'⟩ := hC
  have : k = js.length := by
    rcases Nat.lt_or_ge k js.length with h | h
    · have h1 := hLk k js[k] (List.getElem?_eq_getElem h)
      rw [hL _ (hjs _ (List.getElem_mem h))] at h1
      simp at h1
    · omega
  subst this
  exact hend s w' hS'
end
end Go.Proofs.Ytlfhfcgcfggjcaa.cht
