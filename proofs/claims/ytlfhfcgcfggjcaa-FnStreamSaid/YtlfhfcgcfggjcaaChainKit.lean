/- A region that draws its order, whose operations with an effect wait for one another: they are done in one order, the others wherever they come. -/
import Derived.Test.YtlfhfcgcfggjcaaDoneKit
import Derived.Test.YtlfhfcgcfggjcaaStepCall
namespace Go.Proofs.Ytlfhfcgcfggjcaa.chn
open Go.Proofs.Ytlfhfcgcfggjcaa.dn
set_option linter.unusedVariables false

/-- what is done waited for what it must; of the operations js the first k are done, and the world is as S says -/
def Cn {σ : Type} (l : List Oper) (js : List Nat) (S : σ → Nat → World → Prop) (s : σ) (L : Nat → Bool) (w : World) : Prop :=
  (∀ (i : Nat) (o : Oper), l[i]? = some o → L i = true → ∀ e ∈ o.after, Region.binds .any e = true → L e.on = true) ∧
  ∃ k, k ≤ js.length ∧ (∀ (m j : Nat), js[m]? = some j → L j = decide (m < k)) ∧ S s k w
theorem on (L : Nat → Bool) (i : Nat) : more L i i = true := by unfold more; rw [if_pos rfl]
theorem off (L : Nat → Bool) {i j : Nat} (h : j ≠ i) : more L i j = L j := by unfold more; rw [if_neg h]
theorem up {L : Nat → Bool} {i j : Nat} (h : L j = true) : more L i j = true := by
  unfold more
  split
  · rfl
  · exact h
theorem shut {l : List Oper} {L : Nat → Bool} {i : Nat} {o : Oper} (hl : l[i]? = some o) (hd : ∀ e ∈ o.after, Region.binds .any e = true → L e.on = true) (h : ∀ (i : Nat) (o : Oper), l[i]? = some o → L i = true → ∀ e ∈ o.after, Region.binds .any e = true → L e.on = true) :
    ∀ (i' : Nat) (o' : Oper), l[i']? = some o' → more L i i' = true → ∀ e ∈ o'.after, Region.binds .any e = true → more L i e.on = true := fun i' o' hl' hL e he hb => by
  by_cases hi : i' = i
  · subst hi
    rw [hl] at hl'
    cases hl'
    exact up (hd e he hb)
  · rw [off L hi] at hL
    exact up (h i' o' hl' hL e he hb)
section
variable {σ : Type} {P : Program} {act : Act} {ws : σ → List (Nat × Value)} {l : List Oper} {js : List Nat} {S : σ → Nat → World → Prop} {Q : Exit → Act → World → Prop} {i : Nat} {o : Oper}
/-- an operation without an effect, which the m-th of those with one waits for (or none does: m is how many they are) -/
theorem quiet (m : Nat) (hl : l[i]? = some o) (hi : i ∉ js) (hm : m = js.length ∨ ∃ j oj, js[m]? = some j ∧ l[j]? = some oj ∧ ∃ e ∈ oj.after, Region.binds .any e = true ∧ e.on = i) (hsel : ∀ cs b, o.op ≠ .select cs b) (u : σ → Value)
    (hd : ∀ s d, o.dst = some d → (dk.sets act (ws s)).tmps[d]? = some (u s)) (hrun : ∀ s k W, k ≤ m → S s k W → (execOp (dk.sets act (ws s)).eval o).run P W = .ok (.value (u s)) W) : gh.Step P (fun s => dk.sets act (ws s)) (Cn l js S) Q i o := by
  refine gh.step_val hsel fun s L W hdp h0 hC => ⟨s, u s, gh.Agree.refl _ _, hd s, ?_⟩
  obtain ⟨hc, k, hk, hL, hS⟩ := hC
  have hkm : k ≤ m := by
    rcases hm with rfl | ⟨j, oj, hj, hoj, e, he, hb, hon⟩
    · exact hk
    · rcases Nat.lt_or_ge m k with h | h
      · have h1 : L j = true := by rw [hL m j hj]; simpa using h
        have := hc j oj hoj h1 e he hb
        rw [hon, h0] at this
        cases this
      · exact h
  rw [hrun s k W hkm hS]
  refine ⟨rfl, shut hl hdp hc, k, hk, fun m' j hj => ?_, hS⟩
  rw [off L (fun e => hi (by rw [← e]; exact List.mem_of_getElem? hj))]
  exact hL m' j hj
theorem at_m {L : Nat → Bool} {k m : Nat} (hk : ∀ (m j : Nat), js[m]? = some j → L j = decide (m < k)) (hm : js[m]? = some i) (h0 : L i = false) (hdep : m = 0 ∨ ∃ e ∈ o.after, Region.binds .any e = true ∧ js[m - 1]? = some e.on) (hd : ∀ e ∈ o.after, Region.binds .any e = true → L e.on = true) : k = m := by
  have h1 := hk m i hm
  rw [h0] at h1
  have h2 : ¬ m < k := fun h => by simp [h] at h1
  rcases hdep with rfl | ⟨e, he, hb, hj⟩
  · omega
  · have h3 := hk (m - 1) e.on hj
    rw [hd e he hb] at h3
    have h4 : m - 1 < k := by simpa using h3.symm
    omega
theorem next_m {L : Nat → Bool} {m : Nat} (hnd : js.Nodup) (hm : js[m]? = some i) (hk : ∀ (m' j : Nat), js[m']? = some j → L j = decide (m' < m)) : ∀ (m' j : Nat), js[m']? = some j → more L i j = decide (m' < m + 1) := fun m' j hj => by
  by_cases hji : j = i
  · subst hji
    have h1 := (List.getElem?_eq_some_iff.1 hj)
    have h2 := (List.getElem?_eq_some_iff.1 hm)
    obtain ⟨a1, b1⟩ := h1
    obtain ⟨a2, b2⟩ := h2
    have : m' = m := by
      rcases Nat.lt_trichotomy m' m with h | h | h
      · exact absurd (b1.trans b2.symm) (List.pairwise_iff_getElem.1 hnd m' m a1 a2 h)
      · exact h
      · exact absurd (b2.trans b1.symm) (List.pairwise_iff_getElem.1 hnd m m' a2 a1 h)
    subst this
    rw [on]
    simp
  · rw [off L hji, hk m' j hj]
    have : m' ≠ m := fun e => by subst e; rw [hm] at hj; cases hj; exact hji rfl
    by_cases h : m' < m
    · simp [h, Nat.lt_succ_of_lt h]
    · simp [h, show ¬ m' < m + 1 by omega]
/-- the m-th of those with an effect -/
theorem eff (m : Nat) (hl : l[i]? = some o) (hnd : js.Nodup) (hm : js[m]? = some i) (hdep : m = 0 ∨ ∃ e ∈ o.after, Region.binds .any e = true ∧ js[m - 1]? = some e.on) (hsel : ∀ cs b, o.op ≠ .select cs b)
    (h : ∀ s W, S s m W → ∃ s' v, gh.Agree o (dk.sets act (ws s)) (dk.sets act (ws s')) ∧ (∀ d, o.dst = some d → (dk.sets act (ws s')).tmps[d]? = some v) ∧ left P v (S s' (m + 1)) ((execOp (dk.sets act (ws s)).eval o).run P W)) : gh.Step P (fun s => dk.sets act (ws s)) (Cn l js S) Q i o := by
  refine gh.step_val hsel fun s L W hdp h0 hC => ?_
  obtain ⟨hc, k, hk, hL, hS⟩ := hC
  obtain rfl := at_m hL hm h0 hdep hdp
  obtain ⟨s', v, h1, h2, h3⟩ := h s W hS
  refine ⟨s', v, h1, h2, ?_⟩
  have hlt := (List.getElem?_eq_some_iff.1 hm).1
  have hnew : ∀ W', S s' (k + 1) W' → Cn l js S s' (more L i) W' := fun W' hS' => ⟨shut hl hdp hc, k + 1, hlt, next_m hnd hm hL, hS'⟩
  generalize (execOp (dk.sets act (ws s)).eval o).run P W = r at *
  cases r with
  | ok n w' =>
    cases n <;> simp only [left] at h3 ⊢
    case value u => exact ⟨h3.1, hnew _ h3.2⟩
    case skip => exact ⟨h3.1, hnew _ h3.2⟩
    case enter f args => exact h3.mono fun e w'' ⟨he, hD⟩ => ⟨he, hnew _ hD⟩
  | halt x w' => simp only [left] at h3
/-- one of them that enters a function whose answer is known only behind it -/
theorem call (m : Nat) (hl : l[i]? = some o) (hnd : js.Nodup) (hm : js[m]? = some i) (hdep : m = 0 ∨ ∃ e ∈ o.after, Region.binds .any e = true ∧ js[m - 1]? = some e.on) (hsel : ∀ cs b, o.op ≠ .select cs b) (f : FuncId) (args : Array Value)
    (h : ∀ s W, S s m W → (execOp (dk.sets act (ws s)).eval o).run P W = .ok (.enter f args) W ∧ Calls P f args W fun e w' => ∃ s' v, e = .returned v ∧ gh.Agree o (dk.sets act (ws s)) (dk.sets act (ws s')) ∧ (∀ d, o.dst = some d → (dk.sets act (ws s')).tmps[d]? = some v) ∧ S s' (m + 1) w') : gh.Step P (fun s => dk.sets act (ws s)) (Cn l js S) Q i o := by
  refine stc.step_call hsel f args fun s L W hdp h0 hC => ?_
  obtain ⟨hc, k, hk, hL, hS⟩ := hC
  obtain rfl := at_m hL hm h0 hdep hdp
  obtain ⟨h1, h2⟩ := h s W hS
  have hlt := (List.getElem?_eq_some_iff.1 hm).1
  exact ⟨h1, h2.mono fun e w' ⟨s', v, he, ha, hv, hS'⟩ => ⟨s', v, he, ha, hv, shut hl hdp hc, k + 1, hlt, next_m hnd hm hL, hS'⟩⟩
theorem val {v : Value} {D : World → Prop} {r : Result Next} {w' : World} (h : r = .ok (.value v) w') (hD : D w') : left P v D r := by rw [h]; exact ⟨rfl, hD⟩
theorem skip {D : World → Prop} {r : Result Next} {w' : World} (h : r = .ok .skip w') (hD : D w') : left P undef D r := by rw [h]; exact ⟨rfl, hD⟩
/-- one of them that stores -/
theorem sto (m : Nat) (hl : l[i]? = some o) (hnd : js.Nodup) (hm : js[m]? = some i) (hdep : m = 0 ∨ ∃ e ∈ o.after, Region.binds .any e = true ∧ js[m - 1]? = some e.on) (hsel : ∀ cs b, o.op ≠ .select cs b) (hdst : o.dst = none)
    (h : ∀ s W, S s m W → ∃ w', (execOp (dk.sets act (ws s)).eval o).run P W = .ok .skip w' ∧ S s (m + 1) w') : gh.Step P (fun s => dk.sets act (ws s)) (Cn l js S) Q i o := by
  refine eff m hl hnd hm hdep hsel fun s W hS => ?_
  obtain ⟨w', h1, h2⟩ := h s W hS
  exact ⟨s, undef, gh.Agree.refl _ _, fun d hd => (by rw [hdst] at hd; cases hd), skip h1 h2⟩
/-- the whole region -/
theorem region {id : Nat} {w : World} (ks : List Nat) (s0 : σ) (hm : P.follows .mixedOrders = true) (hok : okB l.toArray = true) (hw : ∀ g, (ws g).map (·.1) = ks) (hks : (ks.all fun t => keepB l t) = true) (hjs : ∀ j ∈ js, j < l.length) (hS : S s0 0 w.drew)
    (hstep : gh.Each P (fun g => dk.sets act (ws g)) (Cn l js S) Q 0 l) (hend : ∀ s w', S s js.length w' → Q .normal (dk.sets act (ws s)) w') : (Code.region id l.toArray true).wp P Q act w := by
  refine dk.region_gsets ws ks (Cn l js S) s0 hm hok hw hks ⟨fun i o _ h => (by cases h), 0, Nat.zero_le _, fun m j _ => by simp, hS⟩ hstep fun s L w' hL hC => ?_
  obtain ⟨_, k, hk, hLk, hS'⟩ := hC
  have : k = js.length := by
    rcases Nat.lt_or_ge k js.length with h | h
    · have h1 := hLk k js[k] (List.getElem?_eq_getElem h)
      rw [hL _ (hjs _ (List.getElem_mem h))] at h1
      simp at h1
    · omega
  subst this
  exact hend s w' hS'
end
end Go.Proofs.Ytlfhfcgcfggjcaa.chn
