/- The specification's draw of routes: what stands on the way, and its steps. -/
import Derived.Test.YtnooibeohdfcmaaGreatDoorRw05
import Derived.Test.YtnooibeohdfcmaaGreatDoorRw04
import Derived.Maps.AppendAt

/- A region that draws its order, whose operations with an effect wait for one another (as in ChainKit); what one of them leaves may show in the temporaries of those that wait for it. -/
namespace Go.Proofs.YtnooibeohdfcmaaGreatDoor.cht
open Go.Proofs.YtnooibeohdfcmaaGreatDoor.dn
open Go.Proofs.YtnooibeohdfcmaaGreatDoor.chn (Cn on off up shut at_m next_m)
set_option linter.unusedVariables false

/-- the slots of the operations zs are qz, and each of zs is i or waits for one ahead of it in zs -/
def waitB (l : List Oper) (i : Nat) : List Nat → List Nat → Bool
  | _, [] => true
  | ys, z :: zs => ((z == i) || (match l[z]? with | some o => o.after.any fun e => Region.binds .any e && ys.contains e.on | none => false)) && waitB l i (z :: ys) zs
def slotB (l : List Oper) (zs qz : List Nat) : Bool := (List.range l.length).all fun j => match l[j]? with | some o => (match o.dst with | some q => !(qz.contains q) || zs.contains j | none => true) | none => true
theorem wait_not {l : List Oper} {i : Nat} {L : Nat → Bool} (hc : ∀ (i : Nat) (o : Oper), l[i]? = some o → L i = true → ∀ e ∈ o.after, Region.binds .any e = true → L e.on = true) (h0 : L i = false) : ∀ (zs ys : List Nat), (∀ y ∈ ys, L y = false) → waitB l i ys zs = true → ∀ z ∈ zs, L z = false
  | [], _, _, _, z, hz => by cases hz
  | x :: zs, ys, hy, hw, z, hz => by
    simp only [waitB, Bool.and_eq_true, Bool.or_eq_true] at hw
    have hx : L x = false := by
      rcases hw.1 with h | h
      · rw [beq_iff_eq] at h; rw [h]; exact h0
      · cases ho : l[x]? with
        | none => rw [ho] at h; cases h
        | some o =>
          rw [ho] at h
          simp only [Array.any_eq_true, Bool.and_eq_true, List.contains_iff_mem] at h
          obtain ⟨n, hn, hb, hm⟩ := h
          cases hL : L x with
          | false => rfl
          | true =>
            have := hc x o ho hL _ (Array.getElem_mem hn) hb
            rw [hy _ hm] at this
            cases this
    rcases List.mem_cons.1 hz with rfl | hz
    · exact hx
    · exact wait_not hc h0 zs (x :: ys) (fun y hy' => by rcases List.mem_cons.1 hy' with rfl | h; exact hx; exact hy y h) hw.2 z hz
theorem slot_in {l : List Oper} {zs qz : List Nat} (h : slotB l zs qz = true) {j : Nat} {o : Oper} {q : Nat} (hj : l[j]? = some o) (hq : o.dst = some q) (hm : q ∈ qz) : j ∈ zs := by
  have hlt := (List.getElem?_eq_some_iff.1 hj).1
  have := List.all_eq_true.1 h j (List.mem_range.2 hlt)
  rw [hj] at this
  simp only [hq] at this
  simp only [Bool.or_eq_true, Bool.not_eq_true', List.contains_iff_mem] at this
  rcases this with h1 | h1
  · exact absurd hm (by simpa using h1)
  · exact h1
theorem turn_of {l : List Oper} {L : Nat → Bool} {zs qz : List Nat} {a : Act} {ws ws' : List (Nat × Value)} (hz : ∀ z ∈ zs, L z = false) (hs : slotB l zs qz = true) (h : ∀ q, q ∉ qz → ws'.lookup q = ws.lookup q) : gt.Turn l.toArray L (dk.sets a ws) (dk.sets a ws') := by
  refine ⟨by rw [dk.sets_defers, dk.sets_defers], by rw [dk.sets_size, dk.sets_size], fun j p q hj hp hL => ?_⟩
  have hq : q ∉ qz := fun hm => by
    have := hz j (slot_in hs (by simpa using hj) hp hm)
    rw [this] at hL
    cases hL
  rw [dk.sets_get, dk.sets_get, h q hq]
theorem lookup_but {A B B' : List (Nat × Value)} {qz : List Nat} (h1 : B.map (·.1) = qz) (h2 : B'.map (·.1) = qz) {q : Nat} (hq : q ∉ qz) : (A ++ B').lookup q = (A ++ B).lookup q := by
  have no : ∀ C : List (Nat × Value), q ∉ C.map (·.1) → C.lookup q = none := fun C hC => by
    induction C with
    | nil => rfl
    | cons x r ih =>
      obtain ⟨t, v⟩ := x
      simp only [List.map_cons, List.mem_cons, not_or] at hC
      rw [List.lookup_cons, beq_false_of_ne hC.1]
      exact ih hC.2
  induction A with
  | nil => rw [List.nil_append, List.nil_append, no B (by rw [h1]; exact hq), no B' (by rw [h2]; exact hq)]
  | cons x r ih =>
    obtain ⟨t, v⟩ := x
    rw [List.cons_append, List.cons_append, List.lookup_cons, List.lookup_cons, ih]
section
variable {σ : Type} {P : Program} {act : Act} {ws : σ → List (Nat × Value)} {l : List Oper} {js : List Nat} {S : σ → Nat → World → Prop} {Q : Exit → Act → World → Prop} {i : Nat} {o : Oper}
/-- an operation without an effect, which the m-th of those with one waits for (or none does: m is how many they are) -/
theorem quiet (m : Nat) (hl : l[i]? = some o) (hi : i ∉ js) (hm : m = js.length ∨ ∃ j oj, js[m]? = some j ∧ l[j]? = some oj ∧ ∃ e ∈ oj.after, Region.binds .any e = true ∧ e.on = i) (hsel : ∀ cs b, o.op ≠ .select cs b) (u : σ → Value)
    (hd : ∀ s d, o.dst = some d → (dk.sets act (ws s)).tmps[d]? = some (u s)) (hrun : ∀ s k W, k ≤ m → S s k W → (execOp (dk.sets act (ws s)).eval o).run P W = .ok (.value (u s)) W) : gt.Step P l.toArray (fun s => dk.sets act (ws s)) (Cn l js S) Q i o := by
  refine gt.step_val hsel fun s L W hdp h0 hC => ⟨s, u s, gt.Turn.refl _ _ _, hd s, ?_⟩
  obtain ⟨hc, k, hk, hL, hS⟩ := hC
  have hkm : k ≤ m := by
    rcases hm with rfl | ⟨j, oj, hj, hoj, e, he, hb, hon⟩
    · exact hk
    · rcases Nat.lt_or_ge m k with h | h
      · have h1 : L j = true := by rw [hL m j hj]; simpa using h
        have := hc j oj hoj h1 e he hb
        rw [hon, h0] at this
        cases this
      · exact h
  rw [hrun s k W hkm hS]
  refine ⟨rfl, shut hl hdp hc, k, hk, fun m' j hj => ?_, hS⟩
  rw [off L (fun e => hi (by rw [← e]; exact List.mem_of_getElem? hj))]
  exact hL m' j hj
/-- the m-th of those with an effect -/
theorem eff (m : Nat) (zs qz : List Nat) (hz : waitB l i [] zs = true) (hq : slotB l zs qz = true) (hl : l[i]? = some o) (hnd : js.Nodup) (hm : js[m]? = some i) (hdep : m = 0 ∨ ∃ e ∈ o.after, Region.binds .any e = true ∧ js[m - 1]? = some e.on) (hsel : ∀ cs b, o.op ≠ .select cs b)
    (h : ∀ s W, S s m W → ∃ s' v, (∀ q, q ∉ qz → (ws s').lookup q = (ws s).lookup q) ∧ (∀ d, o.dst = some d → (dk.sets act (ws s')).tmps[d]? = some v) ∧ left P v (S s' (m + 1)) ((execOp (dk.sets act (ws s)).eval o).run P W)) : gt.Step P l.toArray (fun s => dk.sets act (ws s)) (Cn l js S) Q i o := by
  refine gt.step_val hsel fun s L W hdp h0 hC => ?_
  obtain ⟨hc, k, hk, hL, hS⟩ := hC
  obtain rfl := at_m hL hm h0 hdep hdp
  obtain ⟨s', v, h1, h2, h3⟩ := h s W hS
  refine ⟨s', v, turn_of (wait_not hc h0 zs [] (fun y hy => by cases hy) hz) hq h1, h2, ?_⟩
  have hlt := (List.getElem?_eq_some_iff.1 hm).1
  have hnew : ∀ W', S s' (k + 1) W' → Cn l js S s' (more L i) W' := fun W' hS' => ⟨shut hl hdp hc, k + 1, hlt, next_m hnd hm hL, hS'⟩
  generalize (execOp (dk.sets act (ws s)).eval o).run P W = r at *
  cases r with
  | ok n w' =>
    cases n <;> simp only [left] at h3 ⊢
    case value u => exact ⟨h3.1, hnew _ h3.2⟩
    case skip => exact ⟨h3.1, hnew _ h3.2⟩
    case enter f args => exact h3.mono fun e w'' ⟨he, hD⟩ => ⟨he, hnew _ hD⟩
  | halt x w' => simp only [left] at h3
/-- one of them that enters a function whose answer is known only behind it -/
theorem call (m : Nat) (zs qz : List Nat) (hz : waitB l i [] zs = true) (hq : slotB l zs qz = true) (hl : l[i]? = some o) (hnd : js.Nodup) (hm : js[m]? = some i) (hdep : m = 0 ∨ ∃ e ∈ o.after, Region.binds .any e = true ∧ js[m - 1]? = some e.on) (hsel : ∀ cs b, o.op ≠ .select cs b) (f : FuncId) (args : Array Value)
    (h : ∀ s W, S s m W → (execOp (dk.sets act (ws s)).eval o).run P W = .ok (.enter f args) W ∧ Calls P f args W fun e w' => ∃ s' v, e = .returned v ∧ (∀ q, q ∉ qz → (ws s').lookup q = (ws s).lookup q) ∧ (∀ d, o.dst = some d → (dk.sets act (ws s')).tmps[d]? = some v) ∧ S s' (m + 1) w') : gt.Step P l.toArray (fun s => dk.sets act (ws s)) (Cn l js S) Q i o := by
  intro s L W a ha hdp h0 hC K hK
  obtain ⟨hc, k, hk, hL, hS⟩ := hC
  obtain rfl := at_m hL hm h0 hdep hdp
  obtain ⟨h1, h2⟩ := h s W hS
  have hlt := (List.getElem?_eq_some_iff.1 hm).1
  unfold Oper.wp
  rw [execOp_congr o hsel ha, h1]
  simp only [Oper.upon]
  exact h2.mono fun e w' ⟨s', v, he, ht, hv, hS'⟩ => by
    subst he
    exact hK s' _ _ (turn_of (wait_not hc h0 zs [] (fun y hy => by cases hy) hz) hq ht) hv ⟨shut hl hdp hc, k + 1, hlt, next_m hnd hm hL, hS'⟩
theorem val {v : Value} {D : World → Prop} {r : Result Next} {w' : World} (h : r = .ok (.value v) w') (hD : D w') : left P v D r := by rw [h]; exact ⟨rfl, hD⟩
theorem skip {D : World → Prop} {r : Result Next} {w' : World} (h : r = .ok .skip w') (hD : D w') : left P undef D r := by rw [h]; exact ⟨rfl, hD⟩
/-- one of them that stores -/
theorem sto (m : Nat) (hl : l[i]? = some o) (hnd : js.Nodup) (hm : js[m]? = some i) (hdep : m = 0 ∨ ∃ e ∈ o.after, Region.binds .any e = true ∧ js[m - 1]? = some e.on) (hsel : ∀ cs b, o.op ≠ .select cs b) (hdst : o.dst = none)
    (h : ∀ s W, S s m W → ∃ w', (execOp (dk.sets act (ws s)).eval o).run P W = .ok .skip w' ∧ S s (m + 1) w') : gt.Step P l.toArray (fun s => dk.sets act (ws s)) (Cn l js S) Q i o := by
  refine eff m [] [] rfl (by simp only [slotB, List.all_eq_true]; intro x _; split; (split <;> rfl); rfl) hl hnd hm hdep hsel fun s W hS => ?_
  obtain ⟨w', h1, h2⟩ := h s W hS
  exact ⟨s, undef, fun _ _ => rfl, fun d hd => (by rw [hdst] at hd; cases hd), skip h1 h2⟩
/-- the whole region -/
theorem region {id : Nat} {w : World} (ks : List Nat) (s0 : σ) (hm : P.follows .mixedOrders = true) (hok : okB l.toArray = true) (hw : ∀ g, (ws g).map (·.1) = ks) (hks : (ks.all fun t => keepB l t) = true) (hjs : ∀ j ∈ js, j < l.length) (hS : S s0 0 w.drew)
    (hstep : gt.Each P l.toArray (fun g => dk.sets act (ws g)) (Cn l js S) Q 0 l) (hend : ∀ s w', S s js.length w' → Q .normal (dk.sets act (ws s)) w') : (Code.region id l.toArray true).wp P Q act w := by
  refine gt.region_ghost (fun g => dk.sets act (ws g)) (Cn l js S) s0 hm hok (dk.sets_defers act _).symm (fun s => (dk.sets_size act (ws s)).symm) _ rfl (fun g => dk.kept_of _ (dk.keeps (ws g) (hw g) hks)) ⟨fun i o _ h => (by cases h), 0, Nat.zero_le _, fun m j _ => by simp, hS⟩ hstep fun s L w' hL hC => ?_
  obtain ⟨_, k, hk, hLk, hS'⟩ := hC
  have : k = js.length := by
    rcases Nat.lt_or_ge k js.length with h | h
    · have h1 := hLk k js[k] (List.getElem?_eq_getElem h)
      rw [hL _ (hjs _ (List.getElem_mem h))] at h1
      simp at h1
    · omega
  subst this
  exact hend s w' hS'
end
end Go.Proofs.YtnooibeohdfcmaaGreatDoor.cht

/- As ChainTurn: a call whose arguments hang on what was drawn before it, in a region that draws its order. -/
namespace Go.Proofs.YtnooibeohdfcmaaGreatDoor.chd
open Go.Proofs.YtnooibeohdfcmaaGreatDoor.dn
open Go.Proofs.YtnooibeohdfcmaaGreatDoor.chn (Cn on off up shut at_m next_m)
set_option linter.unusedVariables false

/-- two lists of slots that are alike but at the slots qz -/
def But (qz : List Nat) : List (Nat × Value) → List (Nat × Value) → Prop
  | [], [] => True
  | x :: r, y :: t => x.1 = y.1 ∧ (x.1 ∈ qz ∨ x.2 = y.2) ∧ But qz r t
  | _, _ => False
theorem but_lookup {qz : List Nat} : ∀ (a b : List (Nat × Value)), But qz a b → ∀ q, q ∉ qz → b.lookup q = a.lookup q
  | [], [], _, q, hq => rfl
  | x :: r, y :: t, h, q, hq => by
    obtain ⟨t1, v1⟩ := x
    obtain ⟨t2, v2⟩ := y
    obtain ⟨h1, h2, h3⟩ := h
    obtain rfl : t1 = t2 := h1
    rw [List.lookup_cons, List.lookup_cons, but_lookup r t h3 q hq]
    cases hb : q == t1 with
    | false => rfl
    | true =>
      have e : q = t1 := by simpa using hb
      rcases h2 with h2 | h2
      · exact absurd (e ▸ h2) hq
      · have e2 : v1 = v2 := h2
        rw [e2]
  | [], _ :: _, h, _, _ => by cases h
  | _ :: _, [], h, _, _ => by cases h
section
variable {σ : Type} {P : Program} {act : Act} {ws : σ → List (Nat × Value)} {l : List Oper} {js : List Nat} {S : σ → Nat → World → Prop} {Q : Exit → Act → World → Prop} {i : Nat} {o : Oper}
theorem call (m : Nat) (zs qz : List Nat) (hz : cht.waitB l i [] zs = true) (hq : cht.slotB l zs qz = true) (hl : l[i]? = some o) (hnd : js.Nodup) (hm : js[m]? = some i) (hdep : m = 0 ∨ ∃ e ∈ o.after, Region.binds .any e = true ∧ js[m - 1]? = some e.on) (hsel : ∀ cs b, o.op ≠ .select cs b) (f : FuncId) (args : σ → Array Value)
    (h : ∀ s W, S s m W → (execOp (dk.sets act (ws s)).eval o).run P W = .ok (.enter f (args s)) W ∧ Calls P f (args s) W fun e w' => ∃ s' v, e = .returned v ∧ But qz (ws s) (ws s') ∧ (∀ d, o.dst = some d → (dk.sets act (ws s')).tmps[d]? = some v) ∧ S s' (m + 1) w') : gt.Step P l.toArray (fun s => dk.sets act (ws s)) (Cn l js S) Q i o := by
  intro s L w a ha hdp h0 hC K hK
  obtain ⟨hc, k, hk, hL, hS⟩ := hC
  obtain rfl := at_m hL hm h0 hdep hdp
  obtain ⟨h1, h2⟩ := h s w hS
  have hlt := (List.getElem?_eq_some_iff.1 hm).1
  unfold Oper.wp
  rw [execOp_congr o hsel ha, h1]
  simp only [Oper.upon]
  exact h2.mono fun e w' ⟨s', v, he, ht, hv, hS'⟩ => by
    subst he
    exact hK s' _ _ (cht.turn_of (cht.wait_not hc h0 zs [] (fun y hy => by cases hy) hz) hq (but_lookup _ _ ht)) hv ⟨shut hl hdp hc, k + 1, hlt, next_m hnd hm hL, hS'⟩
/-- one of them that makes memory or reckons with what was drawn -/
theorem eff (m : Nat) (zs qz : List Nat) (hz : cht.waitB l i [] zs = true) (hq : cht.slotB l zs qz = true) (hl : l[i]? = some o) (hnd : js.Nodup) (hm : js[m]? = some i) (hdep : m = 0 ∨ ∃ e ∈ o.after, Region.binds .any e = true ∧ js[m - 1]? = some e.on) (hsel : ∀ cs b, o.op ≠ .select cs b)
    (h : ∀ s W, S s m W → ∃ s' v w', But qz (ws s) (ws s') ∧ (∀ d, o.dst = some d → (dk.sets act (ws s')).tmps[d]? = some v) ∧ (execOp (dk.sets act (ws s)).eval o).run P W = .ok (.value v) w' ∧ S s' (m + 1) w') : gt.Step P l.toArray (fun s => dk.sets act (ws s)) (Cn l js S) Q i o :=
  cht.eff m zs qz hz hq hl hnd hm hdep hsel fun s W hS => by
    obtain ⟨s', v, w', h1, h2, h3, h4⟩ := h s W hS
    exact ⟨s', v, but_lookup _ _ h1, h2, cht.val h3 h4⟩
end
/-- an append's run within a region -/
theorem app_run {P : Program} {act : Act} {o : Oper} {i j : Nat} {T : TypeId} {x y z : Value} {W W' : World} (hop : o.op = .call { callee := .builtin .append, args := #[.tmp i, .tmp j], argTypes := #[T, T] }) (hi : act.eval (.tmp i) = x) (hj : act.eval (.tmp j) = y) (hr : (Builtin.append_ #[T, T] o.type #[x, y]).run P W = .ok z W') : (execOp act.eval o).run P W = .ok (.value z) W' := by
  unfold execOp
  simp only [hop, resolve, invoke, builtin, Sem.run_bind, Sem.run_pure, Result.andThen_ok, List.map_toArray, List.map_cons, List.map_nil, hi, hj, hr]
end Go.Proofs.YtnooibeohdfcmaaGreatDoor.chd

/- The specification's draw of routes: what stands on the way, and its steps. -/
namespace Go.Proofs.YtnooibeohdfcmaaGreatDoor.dtr
open Go.ChangeShapes Go.WideShapes Go.ChangeAt Go.RowKit Go.Proofs.YtnooibeohdfcmaaGreatDoor.fl Go.Proofs.YtnooibeohdfcmaaGreatDoor.dw Go.Proofs.YtnooibeohdfcmaaGreatDoor.rr Go.Proofs.YtnooibeohdfcmaaGreatDoor.ro Go.Proofs.YtnooibeohdfcmaaGreatDoor.su Go.Proofs.YtnooibeohdfcmaaGreatDoor.rwy Go.Proofs.YtnooibeohdfcmaaGreatDoor.dlr
set_option linter.unusedVariables false

/-- a cell set in a block of another type -/
theorem own_cell {W : World} {B b o n s : Nat} {U V : TypeId} {v u : Value} {xs : List Value} {cur : Array Value} (h : W.ownsRow B U s v n xs) (hb : W.heap[b]? = some (.cells cur V (0, 0))) (hUV : U ≠ V) : (W.setCell ⟨b, o, none⟩ u).ownsRow B U s v n xs := by
  refine h.kept (row := some b) ⟨rfl, rfl, rfl, by simp, fun k hk hne => Below.heap_setCell _ _ _ _ (fun e => hne (by rw [e]))⟩ ?_
  obtain ⟨_, ⟨rfl, _⟩ | ⟨g, cap, cur', rfl, h2, h3, _⟩⟩ := h
  · exact .inl rfl
  · refine .inr (fun e => ?_)
    have e2 : g = b := by simpa [Value.ownBlock] using e
    subst e2
    rw [hb] at h3
    simp at h3
    exact hUV h3.2.symm
theorem res2_at {W : World} {b : Nat} {T : TypeId} {y0 y1 : Value} (h : W.heap[b]? = some (.cells #[y0, y1] T (0, 0))) (x0 x1 : Value) : (res2 W b x0 x1).heap[b]? = some (.cells #[x0, x1] T (0, 0)) := by
  have := bset (bset h 0 x0) 1 x1
  simp only [List.setIfInBounds_toArray, List.set_cons_zero, List.set_cons_succ] at this
  exact this
theorem res2_off {W : World} {b g : Nat} {o : Obj} (h : W.heap[g]? = some o) (hne : g ≠ b) (x0 x1 : Value) : (res2 W b x0 x1).heap[g]? = some o := boff (boff h b 0 x0 hne) b 1 x1 hne
theorem own_res2 {W : World} {B b n s : Nat} {U V : TypeId} {v : Value} {xs : List Value} {y0 y1 : Value} (h : W.ownsRow B U s v n xs) (hb : W.heap[b]? = some (.cells #[y0, y1] V (0, 0))) (hUV : U ≠ V) (x0 x1 : Value) : (res2 W b x0 x1).ownsRow B U s v n xs :=
  own_cell (own_cell h hb hUV) (bset hb 0 x0) hUV
theorem res2_on {W : World} {b : Nat} (x0 x1 : Value) : On b W (res2 W b x0 x1) := (((On.refl b W).setCell 0 x0).setCell 1 x1)
theorem tr_cell {W : World} {B b o : Nat} {u : Value} {cur : Array Value} {es : List Ex} {bs : List Bi} {ea ba : Option Addr} {ec bc : Nat} (h : Tr B W es bs ea ec ba bc) (hb : W.heap[b]? = some (.cells cur 27 (0, 0))) : Tr B (W.setCell ⟨b, o, none⟩ u) es bs ea ec ba bc :=
  ⟨own_cell h.oe hb (by decide), own_cell h.ob hb (by decide)⟩
theorem tr_res2 {W : World} {B b : Nat} {y0 y1 : Value} {es : List Ex} {bs : List Bi} {ea ba : Option Addr} {ec bc : Nat} (h : Tr B W es bs ea ec ba bc) (hb : W.heap[b]? = some (.cells #[y0, y1] 27 (0, 0))) (x0 x1 : Value) : Tr B (res2 W b x0 x1) es bs ea ec ba bc :=
  ⟨own_res2 h.oe hb (by decide) .., own_res2 h.ob hb (by decide) ..⟩
/-- what stands on the way -/
structure St (p : Nat) (a : Option Addr) (len cap : Nat) (w : World) (es : List Ex) (bs : List Bi) (ea : Option Addr) (ec : Nat) (ba : Option Addr) (bc : Nat) (W : World) : Prop where
  rb : W.heap[w.heap.size]? = some (.cells #[.slice none 0 0, .slice none 0 0] 27 (0, 0))
  sb : W.heap[w.heap.size + 1]? = some (.cells #[.slice ea es.length ec, .slice ba bs.length bc] 27 (0, 0))
  dr : Tr (w.heap.size + 2) W es bs ea ec ba bc
  cur : Cur W p a len cap
  on : On p w W
  hp : p < w.heap.size
/-- routes that a step answers -/
def Nw (w : World) (j : Nat) (v : Value) (W : World) : Prop := ∃ (es : List Ex) (bs : List Bi) (ea : Option Addr) (ec : Nat) (ba : Option Addr) (bc : Nat), v = .agg #[.slice ea es.length ec, .slice ba bs.length bc] ∧ Sm (j + 1) es bs ∧ Tr (w.heap.size + 2) W es bs ea ec ba bc
/-- the same, stored in block nb -/
def Fin (w : World) (j nb : Nat) (W : World) : Prop := ∃ (es : List Ex) (bs : List Bi) (ea : Option Addr) (ec : Nat) (ba : Option Addr) (bc : Nat), W.heap[nb]? = some (.cells #[.slice ea es.length ec, .slice ba bs.length bc] 27 (0, 0)) ∧ Sm (j + 1) es bs ∧ Tr (w.heap.size + 2) W es bs ea ec ba bc
structure G where
  x : Nat
  y : Nat
  a : Nat
  t : ByteArray
  u : ByteArray
  c : ByteArray
  v : Value
  b : Bool
section
variable {p : Nat} {a : Option Addr} {len cap : Nat} {w W W' : World} {es : List Ex} {bs : List Bi} {ea : Option Addr} {ec : Nat} {ba : Option Addr} {bc : Nat} {nb j c k : Nat} {pre : G → Nat → World → Prop} {g g' : G}
theorem St.size (h : St p a len cap w es bs ea ec ba bc W) : w.heap.size + 2 ≤ W.heap.size := (Array.getElem?_eq_some_iff.1 h.sb).1
theorem st_block {b : Nat} {o : Obj} (h : W.heap[b]? = some o) (hb : On p W W') (hne : b ≠ p) : W'.heap[b]? = some o := (hb.block b (Array.getElem?_eq_some_iff.1 h).1 (fun e => hne (Option.some.inj e))).trans h
theorem St.draw (h : St p a len cap w es bs ea ec ba bc W) (hc : Cur W' p a len cap) (hb : On p W W') : St p a len cap w es bs ea ec ba bc W' := by
  have hp := h.hp
  exact ⟨st_block h.rb hb (by omega), st_block h.sb hb (by omega), h.dr.on hb (by omega), hc, h.on.trans hb, hp⟩
theorem St.step (h : St p a len cap w es bs ea ec ba bc W) (hb : Below W.heap.size W W') : St p a len cap w es bs ea ec ba bc W' :=
  ⟨bstay h.rb hb (Array.getElem?_eq_some_iff.1 h.rb).1, bstay h.sb hb (Array.getElem?_eq_some_iff.1 h.sb).1, h.dr.below hb, h.cur.below hb, h.on.trans (On.of_below hb), h.hp⟩
theorem St.alloc (h : St p a len cap w es bs ea ec ba bc W) (o : Obj) : St p a len cap w es bs ea ec ba bc (W.alloc o) := h.step ((Below.refl _ _).alloc (Nat.le_refl _) _)
theorem st_0 (hc : Cur w p a len cap) : St p a len cap w [] [] none 0 none 0 ((w.alloc (.cells #[.slice none 0 0, .slice none 0 0] 27)).alloc (.cells #[.slice none 0 0, .slice none 0 0] 27)) := by
  refine ⟨bold (bnew w _ _) _, ?_, nil_tr _ _, (hc.alloc _).alloc _, ((On.refl _ _).alloc _).alloc _, hc.lt⟩
  have h := bnew (w.alloc (.cells #[.slice none 0 0, .slice none 0 0] 27)) #[.slice none 0 0, .slice none 0 0] 27
  rw [World.size_alloc] at h
  exact h
/-- the box takes another content -/
theorem St.put {es' : List Ex} {bs' : List Bi} {ea' : Option Addr} {ec' : Nat} {ba' : Option Addr} {bc' : Nat} (h : St p a len cap w es bs ea ec ba bc W) (hd : Tr (w.heap.size + 2) W es' bs' ea' ec' ba' bc') : St p a len cap w es' bs' ea' ec' ba' bc' (res2 W (w.heap.size + 1) (.slice ea' es'.length ec') (.slice ba' bs'.length bc')) := by
  have hp := h.hp
  exact ⟨res2_off h.rb (by omega) .., res2_at h.sb .., tr_res2 hd h.sb .., h.cur.grown (row := some (w.heap.size + 1)) (res2_on ..) (fun k hk => by have := Option.some.inj hk; omega), h.on.grown (row := some (w.heap.size + 1)) (res2_on ..) (fun k hk => by have := Option.some.inj hk; omega), hp⟩
/-- another block takes a content -/
theorem St.res {y0 y1 : Value} (h : St p a len cap w es bs ea ec ba bc W) (hb : W.heap[nb]? = some (.cells #[y0, y1] 27 (0, 0))) (hn : w.heap.size + 2 ≤ nb) (x0 x1 : Value) : St p a len cap w es bs ea ec ba bc (res2 W nb x0 x1) := by
  have hp := h.hp
  exact ⟨res2_off h.rb (by omega) .., res2_off h.sb (by omega) .., tr_res2 h.dr hb .., h.cur.grown (row := some nb) (res2_on ..) (fun k hk => by have := Option.some.inj hk; omega), h.on.grown (row := some nb) (res2_on ..) (fun k hk => by have := Option.some.inj hk; omega), hp⟩
/-- a step's region: c effects and then the store into the block nb -/
structure Sx (p : Nat) (a : Option Addr) (len cap : Nat) (w : World) (es : List Ex) (bs : List Bi) (ea : Option Addr) (ec : Nat) (ba : Option Addr) (bc : Nat) (nb j c : Nat) (pre : G → Nat → World → Prop) (g : G) (k : Nat) (W : World) : Prop where
  st : St p a len cap w es bs ea ec ba bc W
  pre : pre g k W
  old : k ≤ c → W.heap[nb]? = some (.cells #[.slice ea es.length ec, .slice ba bs.length bc] 27 (0, 0))
  nw : k = c → Nw w j g.v W
  fin : k = c + 1 → Fin w j nb W
theorem Sx.draw (h : Sx p a len cap w es bs ea ec ba bc nb j c pre g k W) (hk : k + 1 < c) (hn : p < nb) (hc : Cur W' p a len cap) (hb : On p W W') (hp : pre g' (k + 1) W') : Sx p a len cap w es bs ea ec ba bc nb j c pre g' (k + 1) W' :=
  ⟨h.st.draw hc hb, hp, fun _ => st_block (h.old (by omega)) hb (by omega), fun e => (by omega), fun e => (by omega)⟩
theorem Sx.same (h : Sx p a len cap w es bs ea ec ba bc nb j c pre g k W) (hk : k < c) (hb : Below W.heap.size W W') (hp : pre g' k W') : Sx p a len cap w es bs ea ec ba bc nb j c pre g' k W' :=
  ⟨h.st.step hb, hp, fun _ => bstay (h.old (by omega)) hb (Array.getElem?_eq_some_iff.1 (h.old (by omega))).1, fun e => (by omega), fun e => (by omega)⟩
theorem Sx.last (h : Sx p a len cap w es bs ea ec ba bc nb j c pre g k W) (hk : k + 1 = c) (hb : Below W.heap.size W W') (hn : Nw w j g'.v W') (hp : pre g' (k + 1) W') : Sx p a len cap w es bs ea ec ba bc nb j c pre g' (k + 1) W' :=
  ⟨h.st.step hb, hp, fun _ => bstay (h.old (by omega)) hb (Array.getElem?_eq_some_iff.1 (h.old (by omega))).1, fun _ => hn, fun e => (by omega)⟩
theorem Sx.sto (h : Sx p a len cap w es bs ea ec ba bc nb j c pre g c W) (hn : w.heap.size + 2 ≤ nb) (hp : ∀ W', pre g (c + 1) W') : ∃ (es' : List Ex) (bs' : List Bi) (ea' : Option Addr) (ec' : Nat) (ba' : Option Addr) (bc' : Nat), g.v = .agg #[.slice ea' es'.length ec', .slice ba' bs'.length bc'] ∧
    (W.cell? ⟨nb, 0, none⟩ = some (.slice ea es.length ec) ∧ W.cell? ⟨nb, 1, none⟩ = some (.slice ba bs.length bc)) ∧ (∀ i, W.frozen? ⟨nb, i, none⟩ = false) ∧
    Sx p a len cap w es bs ea ec ba bc nb j c pre g (c + 1) (res2 W nb (.slice ea' es'.length ec') (.slice ba' bs'.length bc')) := by
  obtain ⟨es', bs', ea', ec', ba', bc', hv, hsm, hd⟩ := h.nw rfl
  have ho := h.old (Nat.le_refl _)
  exact ⟨es', bs', ea', ec', ba', bc', hv, ⟨bcell ho rfl, bcell ho rfl⟩, fun i => bfree ho i, h.st.res ho hn .., hp _, fun e => (by omega), fun e => (by omega), fun _ => ⟨es', bs', ea', ec', ba', bc', res2_at ho .., hsm, tr_res2 hd ho ..⟩⟩
theorem St.declQ (h : St p a len cap w es bs ea ec ba bc W) (hsm : Sm j es bs) (hj : j ≤ 100) (nn : ByteArray) (kd : Int) (hn : nn.size ≤ 40) : Calls Tryz.prog 13 #[.agg #[.slice ea es.length ec, .slice ba bs.length bc], .string nn, .int .i64 kd] W fun e w' => (∃ v b, e = .returned (.tuple #[v, .bool b]) ∧ Nw w j v w') ∧ Below W.heap.size W w' := by
  have hz := h.size
  refine ((h.dr.use (by omega)).decl hsm (by omega) nn kd hn).mono ?_
  rintro e w' ⟨ea', ba', ce, cb, rfl, h1, h2, hb⟩
  exact ⟨⟨_, _, rfl, _, _, ea', ce, ba', cb, rfl, hsm.decl hn, (⟨h1, h2⟩ : Tr _ w' _ _ ea' ce ba' cb).low (by omega)⟩, hb⟩
theorem St.bindQ (h : St p a len cap w es bs ea ec ba bc W) (hsm : Sm j es bs) (hj : j ≤ 100) (x k q : ByteArray) (hx : x.size ≤ 40 ∧ k.size ≤ 100 ∧ q.size ≤ 40) : Calls Tryz.prog 10 #[.agg #[.slice ea es.length ec, .slice ba bs.length bc], .string x, .string k, .string q] W fun e w' => (∃ v b, e = .returned (.tuple #[v, .bool b]) ∧ Nw w j v w') ∧ Below W.heap.size W w' := by
  have hz := h.size
  refine ((h.dr.use (by omega)).bind hsm (by omega) x k q hx).mono ?_
  rintro e w' ⟨ea', ba', ce, cb, rfl, h1, h2, hb⟩
  exact ⟨⟨_, _, rfl, _, _, ea', ce, ba', cb, rfl, hsm.bind hx, (⟨h1, h2⟩ : Tr _ w' _ _ ea' ce ba' cb).low (by omega)⟩, hb⟩
theorem own_block {B n s b : Nat} {U V : TypeId} {v : Value} {xs : List Value} {cur : Array Value} (h : W.ownsRow B U s v n xs) (hb : W.heap[b]? = some (.cells cur V (0, 0))) (hUV : U ≠ V) : v.ownBlock ≠ some b := by
  obtain ⟨_, ⟨rfl, _⟩ | ⟨g, cap, cur', rfl, h2, h3, _⟩⟩ := h
  · intro e; cases e
  · intro e
    have e2 : g = b := by simpa [Value.ownBlock] using e
    subst e2
    rw [hb] at h3
    simp at h3
    exact hUV h3.2.symm
theorem own_apart {B B' n n' s s' : Nat} {U V : TypeId} {v v' : Value} {xs xs' : List Value} (h : W.ownsRow B U s v n xs) (h' : W.ownsRow B' V s' v' n' xs') (hUV : U ≠ V) : v.ownBlock = none ∨ v.ownBlock ≠ v'.ownBlock := by
  obtain ⟨_, ⟨rfl, _⟩ | ⟨g, cap, cur', rfl, h2, h3, _⟩⟩ := h'
  · cases hv : v.ownBlock with
    | none => exact .inl rfl
    | some b => exact .inr (fun e => by cases e)
  · exact .inr (own_block h h3 hUV)
theorem cadd {g j : Nat} : (⟨g, 0, none⟩ : Addr).add j = ⟨g, j, none⟩ := by unfold Addr.add; split <;> simp_all
theorem own_slice {B n q : Nat} {T : TypeId} {v : Value} {xs : List Value} (h : W.ownsRow B T n v q xs) : ∃ b c, v = .slice b q c := by
  obtain ⟨_, ⟨rfl, h0⟩ | ⟨g, cap, cur, rfl, _⟩⟩ := h
  · exact ⟨none, 0, by rw [h0]⟩
  · exact ⟨_, cap, rfl⟩
theorem grown_at {w w' : World} {r : Option Nat} {b : Nat} {o : Obj} (hg : w.grownBy w' r) (h : w.heap[b]? = some o) (hr : r ≠ some b) : w'.heap[b]? = some o := (hg.block b (Array.getElem?_eq_some_iff.1 h).1 (fun e => hr e.symm)).trans h
/-- one more exchange -/
theorem St.appE (h : St p a len cap w es bs ea ec ba bc W) {gb : Nat} (e : Ex) (hb : W.heap[gb]? = some (.cells #[.string e.n, .int .i64 e.k] 75 (0, 0))) (hl : es.length ≤ 1000) (t : TypeId) :
    ∃ ea' ec' Y, (Builtin.append_ #[24, 24] t #[.slice ea es.length ec, .slice (some ⟨gb, 0, none⟩) 1 1]).run Tryz.prog W = .ok (.slice ea' (es.length + 1) ec') Y ∧ (Y.cell? ⟨w.heap.size + 1, 0, none⟩ = some (.slice ea es.length ec) ∧ Y.frozen? ⟨w.heap.size + 1, 0, none⟩ = false) ∧
      St p a len cap w (es ++ [e]) bs ea' ec' ba bc (Y.setCell ⟨w.heap.size + 1, 0, none⟩ (.slice ea' (es.length + 1) ec')) := by
  obtain ⟨i0, hi, hz0, hz1, hz2⟩ := su.infoE
  have hsz := h.size
  have hp := h.hp
  have hoe : W.ownsRow (w.heap.size + 2) 75 2 (.slice ea es.length ec) es.length (es.flatMap cE) := h.dr.oe
  obtain ⟨v', Y, hr, ho, hgr, _, _⟩ := run_append_own_at (P := Tryz.prog) W (w.heap.size + 2) 24 t 75 i0 (.agg #[.string ByteArray.empty, .int .i64 0]) 2 24 Tryz.underlying24 hi hz0 hz1 hz2 rfl (by decide) _ es.length _ hoe ⟨gb, 0, none⟩ 1 1 (cE e) rfl (fun j u hu => by rw [cadd]; exact bcell hb (by simpa [cE] using hu)) (by intro u hu; simp [cE] at hu; rcases hu with rfl | rfl <;> rfl) (by unfold maxLen; omega) (by omega) (by omega)
  obtain ⟨ea', ec', rfl⟩ := own_slice ho
  have hlt : ∀ g, (Value.slice ea es.length ec).ownBlock = some g → w.heap.size + 2 ≤ g := fun g hg => (hoe.lt g hg).1
  have hrb := grown_at hgr h.rb (own_block hoe h.rb (by decide))
  have hsb := grown_at hgr h.sb (own_block hoe h.sb (by decide))
  have hob : OC Y (w.heap.size + 2) ba bc bs := World.ownsRow.kept h.dr.ob hgr (own_apart h.dr.ob hoe (by decide))
  have hon := h.on.grown hgr (fun k hk => by have := hlt k hk; omega)
  have hcu := h.cur.grown hgr (fun k hk => by have := hlt k hk; omega)
  have ho2 : OA Y (w.heap.size + 2) ea' ec' (es ++ [e]) := by
    unfold OA
    rw [List.length_append, List.flatMap_append, List.flatMap_singleton]
    exact ho
  refine ⟨ea', ec', Y, hr, ⟨bcell hsb rfl, bfree hsb 0⟩, boff hrb _ _ _ (by omega), ?_, tr_cell ⟨ho2, hob⟩ hsb, hcu.grown (row := some (w.heap.size + 1)) (On.setCell (On.refl _ _) 0 _) (fun k hk => by have := Option.some.inj hk; omega), hon.grown (row := some (w.heap.size + 1)) (On.setCell (On.refl _ _) 0 _) (fun k hk => by have := Option.some.inj hk; omega), hp⟩
  rw [List.length_append]
  exact bset hsb 0 _
/-- one more binding -/
theorem St.appB (h : St p a len cap w es bs ea ec ba bc W) {gb : Nat} (e : Bi) (hb : W.heap[gb]? = some (.cells #[.string e.x, .string e.k, .string e.q] 45 (0, 0))) (hl : bs.length ≤ 1000) (t : TypeId) :
    ∃ ba' bc' Y, (Builtin.append_ #[25, 25] t #[.slice ba bs.length bc, .slice (some ⟨gb, 0, none⟩) 1 1]).run Tryz.prog W = .ok (.slice ba' (bs.length + 1) bc') Y ∧ (Y.cell? ⟨w.heap.size + 1, 1, none⟩ = some (.slice ba bs.length bc) ∧ Y.frozen? ⟨w.heap.size + 1, 1, none⟩ = false) ∧
      St p a len cap w es (bs ++ [e]) ea ec ba' bc' (Y.setCell ⟨w.heap.size + 1, 1, none⟩ (.slice ba' (bs.length + 1) bc')) := by
  obtain ⟨i0, hi, hz0, hz1, hz2⟩ := su.infoB
  have hsz := h.size
  have hp := h.hp
  have hoe : W.ownsRow (w.heap.size + 2) 45 3 (.slice ba bs.length bc) bs.length (bs.flatMap cB) := h.dr.ob
  obtain ⟨v', Y, hr, ho, hgr, _, _⟩ := run_append_own_at (P := Tryz.prog) W (w.heap.size + 2) 25 t 45 i0 (.agg #[.string ByteArray.empty, .string ByteArray.empty, .string ByteArray.empty]) 3 48 Tryz.underlying25 hi hz0 hz1 hz2 rfl (by decide) _ bs.length _ hoe ⟨gb, 0, none⟩ 1 1 (cB e) rfl (fun j u hu => by rw [cadd]; exact bcell hb (by simpa [cB] using hu)) (by intro u hu; simp [cB] at hu; rcases hu with rfl | rfl | rfl <;> rfl) (by unfold maxLen; omega) (by omega) (by omega)
  obtain ⟨ba', bc', rfl⟩ := own_slice ho
  have hlt : ∀ g, (Value.slice ba bs.length bc).ownBlock = some g → w.heap.size + 2 ≤ g := fun g hg => (hoe.lt g hg).1
  have hrb := grown_at hgr h.rb (own_block hoe h.rb (by decide))
  have hsb := grown_at hgr h.sb (own_block hoe h.sb (by decide))
  have hob : OA Y (w.heap.size + 2) ea ec es := World.ownsRow.kept h.dr.oe hgr (own_apart h.dr.oe hoe (by decide))
  have hon := h.on.grown hgr (fun k hk => by have := hlt k hk; omega)
  have hcu := h.cur.grown hgr (fun k hk => by have := hlt k hk; omega)
  have ho2 : OC Y (w.heap.size + 2) ba' bc' (bs ++ [e]) := by
    unfold OC
    rw [List.length_append, List.flatMap_append, List.flatMap_singleton]
    exact ho
  refine ⟨ba', bc', Y, hr, ⟨bcell hsb rfl, bfree hsb 1⟩, boff hrb _ _ _ (by omega), ?_, tr_cell ⟨hob, ho2⟩ hsb, hcu.grown (row := some (w.heap.size + 1)) (On.setCell (On.refl _ _) 1 _) (fun k hk => by have := Option.some.inj hk; omega), hon.grown (row := some (w.heap.size + 1)) (On.setCell (On.refl _ _) 1 _) (fun k hk => by have := Option.some.inj hk; omega), hp⟩
  rw [List.length_append]
  exact bset hsb 1 _
/-- the answer is laid -/
theorem St.done (h : St p a len cap w es bs ea ec ba bc W) (x0 x1 : Value) : Tr w.heap.size (res2 W w.heap.size x0 x1) es bs ea ec ba bc ∧ Cur (res2 W w.heap.size x0 x1) p a len cap ∧ On p w (res2 W w.heap.size x0 x1) := by
  have hp := h.hp
  exact ⟨(tr_res2 h.dr h.rb ..).low (by omega), h.cur.grown (row := some w.heap.size) (res2_on ..) (fun k hk => by have := Option.some.inj hk; omega), h.on.grown (row := some w.heap.size) (res2_on ..) (fun k hk => by have := Option.some.inj hk; omega)⟩
end
end Go.Proofs.YtnooibeohdfcmaaGreatDoor.dtr
