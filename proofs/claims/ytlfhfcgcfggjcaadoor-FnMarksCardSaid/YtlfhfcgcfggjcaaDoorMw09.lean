/- The specification's draw of a stream: what stands on the way, and a step of it: trimmed, marked, put. -/
import Derived.Test.YtlfhfcgcfggjcaaDoorMw08
import Derived.Test.YtlfhfcgcfggjcaaDoorMw01
import Derived.Maps.AppendAt

/- A region that draws its order, whose operations with an effect wait for one another (as in ChainKit); what one of them leaves may show in the temporaries of those that wait for it. -/
namespace Go.Proofs.YtlfhfcgcfggjcaaDoor.cht
open Go.Proofs.YtlfhfcgcfggjcaaDoor.dn
open Go.Proofs.YtlfhfcgcfggjcaaDoor.chn (Cn on off up shut at_m next_m)
set_option linter.unusedVariables false

/-- the slots of the operations zs are qz, and each of zs is i or waits for one ahead of it in zs -/
def waitB (l : List Oper) (i : Nat) : List Nat → List Nat → Bool
  | _, [] => true
  | ys, z :: zs => ((z == i) || (match l[z]? with | some o => o.after.any fun e => Region.binds .any e && ys.contains e.on | none => false)) && waitB l i (z :: ys) zs
def slotB (l : List Oper) (zs qz : List Nat) : Bool := (List.range l.length).all fun j => match l[j]? with | some o => (match o.dst with | some q => !(qz.contains q) || zs.contains j | none => true) | none => true
theorem wait_not {l : List Oper} {i : Nat} {L : Nat → Bool} (hc : ∀ (i : Nat) (o : Oper), l[i]? = some o → L i = true → ∀ e ∈ o.after, Region.binds .any e = true → L e.on = true) (h0 : L i = false) : ∀ (zs ys : List Nat), (∀ y ∈ ys, L y = false) → waitB l i ys zs = true → ∀ z ∈ zs, L z = false
  | [], _, _, _, z, hz => by cases hz
  | x :: zs, ys, hy, hw, z, hz => by
    simp only [waitB, Bool.and_eq_true, Bool.or_eq_true] at hw
    have hx : L x = false := by
      rcases hw.1 with h | h
      · rw [beq_iff_eq] at h; rw [h]; exact h0
      · cases ho : l[x]? with
        | none => rw [ho] at h; cases h
        | some o =>
          rw [ho] at h
          simp only [Array.any_eq_true, Bool.and_eq_true, List.contains_iff_mem] at h
          obtain ⟨n, hn, hb, hm⟩ := h
          cases hL : L x with
          | false => rfl
          | true =>
            have := hc x o ho hL _ (Array.getElem_mem hn) hb
            rw [hy _ hm] at this
            cases this
    rcases List.mem_cons.1 hz with rfl | hz
    · exact hx
    · exact wait_not hc h0 zs (x :: ys) (fun y hy' => by rcases List.mem_cons.1 hy' with rfl | h; exact hx; exact hy y h) hw.2 z hz
theorem slot_in {l : List Oper} {zs qz : List Nat} (h : slotB l zs qz = true) {j : Nat} {o : Oper} {q : Nat} (hj : l[j]? = some o) (hq : o.dst = some q) (hm : q ∈ qz) : j ∈ zs := by
  have hlt := (List.getElem?_eq_some_iff.1 hj).1
  have := List.all_eq_true.1 h j (List.mem_range.2 hlt)
  rw [hj] at this
  simp only [hq] at this
  simp only [Bool.or_eq_true, Bool.not_eq_true', List.contains_iff_mem] at this
  rcases this with h1 | h1
  · exact absurd hm (by simpa using h1)
  · exact h1
theorem turn_of {l : List Oper} {L : Nat → Bool} {zs qz : List Nat} {a : Act} {ws ws' : List (Nat × Value)} (hz : ∀ z ∈ zs, L z = false) (hs : slotB l zs qz = true) (h : ∀ q, q ∉ qz → ws'.lookup q = ws.lookup q) : gt.Turn l.toArray L (dk.sets a ws) (dk.sets a ws') := by
  refine ⟨by rw [dk.sets_defers, dk.sets_defers], by rw [dk.sets_size, dk.sets_size], fun j p q hj hp hL => ?_⟩
  have hq : q ∉ qz := fun hm => by
    have := hz j (slot_in hs (by simpa using hj) hp hm)
    rw [this] at hL
    cases hL
  rw [dk.sets_get, dk.sets_get, h q hq]
theorem lookup_but {A B B' : List (Nat × Value)} {qz : List Nat} (h1 : B.map (·.1) = qz) (h2 : B'.map (·.1) = qz) {q : Nat} (hq : q ∉ qz) : (A ++ B').lookup q = (A ++ B).lookup q := by
  have no : ∀ C : List (Nat × Value), q ∉ C.map (·.1) → C.lookup q = none := fun C hC => by
    induction C with
    | nil => rfl
    | cons x r ih =>
      obtain ⟨t, v⟩ := x
      simp only [List.map_cons, List.mem_cons, not_or] at hC
      rw [List.lookup_cons, beq_false_of_ne hC.1]
      exact ih hC.2
  induction A with
  | nil => rw [List.nil_append, List.nil_append, no B (by rw [h1]; exact hq), no B' (by rw [h2]; exact hq)]
  | cons x r ih =>
    obtain ⟨t, v⟩ := x
    rw [List.cons_append, List.cons_append, List.lookup_cons, List.lookup_cons, ih]
section
variable {σ : Type} {P : Program} {act : Act} {ws : σ → List (Nat × Value)} {l : List Oper} {js : List Nat} {S : σ → Nat → World → Prop} {Q : Exit → Act → World → Prop} {i : Nat} {o : Oper}
/-- an operation without an effect, which the m-th of those with one waits for (or none does: m is how many they are) -/
theorem quiet (m : Nat) (hl : l[i]? = some o) (hi : i ∉ js) (hm : m = js.length ∨ ∃ j oj, js[m]? = some j ∧ l[j]? = some oj ∧ ∃ e ∈ oj.after, Region.binds .any e = true ∧ e.on = i) (hsel : ∀ cs b, o.op ≠ .select cs b) (u : σ → Value)
    (hd : ∀ s d, o.dst = some d → (dk.sets act (ws s)).tmps[d]? = some (u s)) (hrun : ∀ s k W, k ≤ m → S s k W → (execOp (dk.sets act (ws s)).eval o).run P W = .ok (.value (u s)) W) : gt.Step P l.toArray (fun s => dk.sets act (ws s)) (Cn l js S) Q i o := by
  refine gt.step_val hsel fun s L W hdp h0 hC => ⟨s, u s, gt.Turn.refl _ _ _, hd s, ?_⟩
  obtain ⟨hc, k, hk, hL, hS⟩ := hC
  have hkm : k ≤ m := by
    rcases hm with rfl | ⟨j, oj, hj, hoj, e, he, hb, hon⟩
    · exact hk
    · rcases Nat.lt_or_ge m k with h | h
      · have h1 : L j = true := by rw [hL m j hj]; simpa using h
        have := hc j oj hoj h1 e he hb
        rw [hon, h0] at this
        cases this
      · exact h
  rw [hrun s k W hkm hS]
  refine ⟨rfl, shut hl hdp hc, k, hk, fun m' j hj => ?_, hS⟩
  rw [off L (fun e => hi (by rw [← e]; exact List.mem_of_getElem? hj))]
  exact hL m' j hj
/-- the m-th of those with an effect -/
theorem eff (m : Nat) (zs qz : List Nat) (hz : waitB l i [] zs = true) (hq : slotB l zs qz = true) (hl : l[i]? = some o) (hnd : js.Nodup) (hm : js[m]? = some i) (hdep : m = 0 ∨ ∃ e ∈ o.after, Region.binds .any e = true ∧ js[m - 1]? = some e.on) (hsel : ∀ cs b, o.op ≠ .select cs b)
    (h : ∀ s W, S s m W → ∃ s' v, (∀ q, q ∉ qz → (ws s').lookup q = (ws s).lookup q) ∧ (∀ d, o.dst = some d → (dk.sets act (ws s')).tmps[d]? = some v) ∧ left P v (S s' (m + 1)) ((execOp (dk.sets act (ws s)).eval o).run P W)) : gt.Step P l.toArray (fun s => dk.sets act (ws s)) (Cn l js S) Q i o := by
  refine gt.step_val hsel fun s L W hdp h0 hC => ?_
  obtain ⟨hc, k, hk, hL, hS⟩ := hC
  obtain rfl := at_m hL hm h0 hdep hdp
  obtain ⟨s', v, h1, h2, h3⟩ := h s W hS
  refine ⟨s', v, turn_of (wait_not hc h0 zs [] (fun y hy => by cases hy) hz) hq h1, h2, ?_⟩
  have hlt := (List.getElem?_eq_some_iff.1 hm).1
  have hnew : ∀ W', S s' (k + 1) W' → Cn l js S s' (more L i) W' := fun W' hS' => ⟨shut hl hdp hc, k + 1, hlt, next_m hnd hm hL, hS'⟩
  generalize (execOp (dk.sets act (ws s)).eval o).run P W = r at *
  cases r with
  | ok n w' =>
    cases n <;> simp only [left] at h3 ⊢
    case value u => exact ⟨h3.1, hnew _ h3.2⟩
    case skip => exact ⟨h3.1, hnew _ h3.2⟩
    case enter f args => exact h3.mono fun e w'' ⟨he, hD⟩ => ⟨he, hnew _ hD⟩
  | halt x w' => simp only [left] at h3
/-- one of them that enters a function whose answer is known only behind it -/
theorem call (m : Nat) (zs qz : List Nat) (hz : waitB l i [] zs = true) (hq : slotB l zs qz = true) (hl : l[i]? = some o) (hnd : js.Nodup) (hm : js[m]? = some i) (hdep : m = 0 ∨ ∃ e ∈ o.after, Region.binds .any e = true ∧ js[m - 1]? = some e.on) (hsel : ∀ cs b, o.op ≠ .select cs b) (f : FuncId) (args : Array Value)
    (h : ∀ s W, S s m W → (execOp (dk.sets act (ws s)).eval o).run P W = .ok (.enter f args) W ∧ Calls P f args W fun e w' => ∃ s' v, e = .returned v ∧ (∀ q, q ∉ qz → (ws s').lookup q = (ws s).lookup q) ∧ (∀ d, o.dst = some d → (dk.sets act (ws s')).tmps[d]? = some v) ∧ S s' (m + 1) w') : gt.Step P l.toArray (fun s => dk.sets act (ws s)) (Cn l js S) Q i o := by
  intro s L W a ha hdp h0 hC K hK
  obtain ⟨hc, k, hk, hL, hS⟩ := hC
  obtain rfl := at_m hL hm h0 hdep hdp
  obtain ⟨h1, h2⟩ := h s W hS
  have hlt := (List.getElem?_eq_some_iff.1 hm).1
  unfold Oper.wp
  rw [execOp_congr o hsel ha, h1]
  simp only [Oper.upon]
  exact h2.mono fun e w' ⟨s', v, he, ht, hv, hS'⟩ => by
    subst he
    exact hK s' _ _ (turn_of (wait_not hc h0 zs [] (fun y hy => by cases hy) hz) hq ht) hv ⟨shut hl hdp hc, k + 1, hlt, next_m hnd hm hL, hS'⟩
theorem val {v : Value} {D : World → Prop} {r : Result Next} {w' : World} (h : r = .ok (.value v) w') (hD : D w') : left P v D r := by rw [h]; exact ⟨rfl, hD⟩
theorem skip {D : World → Prop} {r : Result Next} {w' : World} (h : r = .ok .skip w') (hD : D w') : left P undef D r := by rw [h]; exact ⟨rfl, hD⟩
/-- one of them that stores -/
theorem sto (m : Nat) (hl : l[i]? = some o) (hnd : js.Nodup) (hm : js[m]? = some i) (hdep : m = 0 ∨ ∃ e ∈ o.after, Region.binds .any e = true ∧ js[m - 1]? = some e.on) (hsel : ∀ cs b, o.op ≠ .select cs b) (hdst : o.dst = none)
    (h : ∀ s W, S s m W → ∃ w', (execOp (dk.sets act (ws s)).eval o).run P W = .ok .skip w' ∧ S s (m + 1) w') : gt.Step P l.toArray (fun s => dk.sets act (ws s)) (Cn l js S) Q i o := by
  refine eff m [] [] rfl (by simp only [slotB, List.all_eq_true]; intro x _; split; (split <;> rfl); rfl) hl hnd hm hdep hsel fun s W hS => ?_
  obtain ⟨w', h1, h2⟩ := h s W hS
  exact ⟨s, undef, fun _ _ => rfl, fun d hd => (by rw [hdst] at hd; cases hd), skip h1 h2⟩
/-- the whole region -/
theorem region {id : Nat} {w : World} (ks : List Nat) (s0 : σ) (hm : P.follows .mixedOrders = true) (hok : okB l.toArray = true) (hw : ∀ g, (ws g).map (·.1) = ks) (hks : (ks.all fun t => keepB l t) = true) (hjs : ∀ j ∈ js, j < l.length) (hS : S s0 0 w.drew)
    (hstep : gt.Each P l.toArray (fun g => dk.sets act (ws g)) (Cn l js S) Q 0 l) (hend : ∀ s w', S s js.length w' → Q .normal (dk.sets act (ws s)) w') : (Code.region id l.toArray true).wp P Q act w := by
  refine gt.region_ghost (fun g => dk.sets act (ws g)) (Cn l js S) s0 hm hok (dk.sets_defers act _).symm (fun s => (dk.sets_size act (ws s)).symm) _ rfl (fun g => dk.kept_of _ (dk.keeps (ws g) (hw g) hks)) ⟨fun i o _ h => (by cases h), 0, Nat.zero_le _, fun m j _ => by simp, hS⟩ hstep fun s L w' hL hC => ?_
  obtain ⟨_, k, hk, hLk, hS'⟩ := hC
  have : k = js.length := by
    rcases Nat.lt_or_ge k js.length with h | h
    · have h1 := hLk k js[k] (List.getElem?_eq_getElem h)
      rw [hL _ (hjs _ (List.getElem_mem h))] at h1
      simp at h1
    · omega
  subst this
  exact hend s w' hS'
end
end Go.Proofs.YtlfhfcgcfggjcaaDoor.cht

/- As ChainTurn: a call whose arguments hang on what was drawn before it, in a region that draws its order. -/
namespace Go.Proofs.YtlfhfcgcfggjcaaDoor.chd
open Go.Proofs.YtlfhfcgcfggjcaaDoor.dn
open Go.Proofs.YtlfhfcgcfggjcaaDoor.chn (Cn on off up shut at_m next_m)
set_option linter.unusedVariables false

/-- two lists of slots that are alike but at the slots qz -/
def But (qz : List Nat) : List (Nat × Value) → List (Nat × Value) → Prop
  | [], [] => True
  | x :: r, y :: t => x.1 = y.1 ∧ (x.1 ∈ qz ∨ x.2 = y.2) ∧ But qz r t
  | _, _ => False
theorem but_lookup {qz : List Nat} : ∀ (a b : List (Nat × Value)), But qz a b → ∀ q, q ∉ qz → b.lookup q = a.lookup q
  | [], [], _, q, hq => rfl
  | x :: r, y :: t, h, q, hq => by
    obtain ⟨t1, v1⟩ := x
    obtain ⟨t2, v2⟩ := y
    obtain ⟨h1, h2, h3⟩ := h
    obtain rfl : t1 = t2 := h1
    rw [List.lookup_cons, List.lookup_cons, but_lookup r t h3 q hq]
    cases hb : q == t1 with
    | false => rfl
    | true =>
      have e : q = t1 := by simpa using hb
      rcases h2 with h2 | h2
      · exact absurd (e ▸ h2) hq
      · have e2 : v1 = v2 := h2
        rw [e2]
  | [], _ :: _, h, _, _ => by cases h
  | _ :: _, [], h, _, _ => by cases h
section
variable {σ : Type} {P : Program} {act : Act} {ws : σ → List (Nat × Value)} {l : List Oper} {js : List Nat} {S : σ → Nat → World → Prop} {Q : Exit → Act → World → Prop} {i : Nat} {o : Oper}
theorem call (m : Nat) (zs qz : List Nat) (hz : cht.waitB l i [] zs = true) (hq : cht.slotB l zs qz = true) (hl : l[i]? = some o) (hnd : js.Nodup) (hm : js[m]? = some i) (hdep : m = 0 ∨ ∃ e ∈ o.after, Region.binds .any e = true ∧ js[m - 1]? = some e.on) (hsel : ∀ cs b, o.op ≠ .select cs b) (f : FuncId) (args : σ → Array Value)
    (h : ∀ s W, S s m W → (execOp (dk.sets act (ws s)).eval o).run P W = .ok (.enter f (args s)) W ∧ Calls P f (args s) W fun e w' => ∃ s' v, e = .returned v ∧ But qz (ws s) (ws s') ∧ (∀ d, o.dst = some d → (dk.sets act (ws s')).tmps[d]? = some v) ∧ S s' (m + 1) w') : gt.Step P l.toArray (fun s => dk.sets act (ws s)) (Cn l js S) Q i o := by
  intro s L w a ha hdp h0 hC K hK
  obtain ⟨hc, k, hk, hL, hS⟩ := hC
  obtain rfl := at_m hL hm h0 hdep hdp
  obtain ⟨h1, h2⟩ := h s w hS
  have hlt := (List.getElem?_eq_some_iff.1 hm).1
  unfold Oper.wp
  rw [execOp_congr o hsel ha, h1]
  simp only [Oper.upon]
  exact h2.mono fun e w' ⟨s', v, he, ht, hv, hS'⟩ => by
    subst he
    exact hK s' _ _ (cht.turn_of (cht.wait_not hc h0 zs [] (fun y hy => by cases hy) hz) hq (but_lookup _ _ ht)) hv ⟨shut hl hdp hc, k + 1, hlt, next_m hnd hm hL, hS'⟩
/-- one of them that makes memory or reckons with what was drawn -/
theorem eff (m : Nat) (zs qz : List Nat) (hz : cht.waitB l i [] zs = true) (hq : cht.slotB l zs qz = true) (hl : l[i]? = some o) (hnd : js.Nodup) (hm : js[m]? = some i) (hdep : m = 0 ∨ ∃ e ∈ o.after, Region.binds .any e = true ∧ js[m - 1]? = some e.on) (hsel : ∀ cs b, o.op ≠ .select cs b)
    (h : ∀ s W, S s m W → ∃ s' v w', But qz (ws s) (ws s') ∧ (∀ d, o.dst = some d → (dk.sets act (ws s')).tmps[d]? = some v) ∧ (execOp (dk.sets act (ws s)).eval o).run P W = .ok (.value v) w' ∧ S s' (m + 1) w') : gt.Step P l.toArray (fun s => dk.sets act (ws s)) (Cn l js S) Q i o :=
  cht.eff m zs qz hz hq hl hnd hm hdep hsel fun s W hS => by
    obtain ⟨s', v, w', h1, h2, h3, h4⟩ := h s W hS
    exact ⟨s', v, but_lookup _ _ h1, h2, cht.val h3 h4⟩
end
/-- an append's run within a region -/
theorem app_run {P : Program} {act : Act} {o : Oper} {i j : Nat} {T : TypeId} {x y z : Value} {W W' : World} (hop : o.op = .call { callee := .builtin .append, args := #[.tmp i, .tmp j], argTypes := #[T, T] }) (hi : act.eval (.tmp i) = x) (hj : act.eval (.tmp j) = y) (hr : (Builtin.append_ #[T, T] o.type #[x, y]).run P W = .ok z W') : (execOp act.eval o).run P W = .ok (.value z) W' := by
  unfold execOp
  simp only [hop, resolve, invoke, builtin, Sem.run_bind, Sem.run_pure, Result.andThen_ok, List.map_toArray, List.map_cons, List.map_nil, hi, hj, hr]
end Go.Proofs.YtlfhfcgcfggjcaaDoor.chd

/- The specification's draw of a stream: what stands on the way, and a step of it: trimmed, marked, put. -/
namespace Go.Proofs.YtlfhfcgcfggjcaaDoor.dst
open Go.ChangeShapes Go.WideShapes Go.ChangeAt Go.RowKit Go.Proofs.YtlfhfcgcfggjcaaDoor.fl Go.Proofs.YtlfhfcgcfggjcaaDoor.dw Go.Proofs.YtlfhfcgcfggjcaaDoor.rr Go.Proofs.YtlfhfcgcfggjcaaDoor.st Go.Proofs.YtlfhfcgcfggjcaaDoor.scp Go.Proofs.YtlfhfcgcfggjcaaDoor.spw Go.Proofs.YtlfhfcgcfggjcaaDoor.dsl
set_option linter.unusedVariables false

/-- a cell set in a block of another type -/
theorem own_cell {W : World} {B b o n s : Nat} {U V : TypeId} {v u : Value} {xs : List Value} {cur : Array Value} (h : W.ownsRow B U s v n xs) (hb : W.heap[b]? = some (.cells cur V (0, 0))) (hUV : U ≠ V) : (W.setCell ⟨b, o, none⟩ u).ownsRow B U s v n xs := by
  refine h.kept (row := some b) ⟨rfl, rfl, rfl, by simp, fun k hk hne => Below.heap_setCell _ _ _ _ (fun e => hne (by rw [e]))⟩ ?_
  obtain ⟨_, ⟨rfl, _⟩ | ⟨g, cap, cur', rfl, h2, h3, _⟩⟩ := h
  · exact .inl rfl
  · refine .inr (fun e => ?_)
    have e2 : g = b := by simpa [Value.ownBlock] using e
    subst e2
    rw [hb] at h3
    simp at h3
    exact hUV h3.2.symm
theorem res5_at {W : World} {b : Nat} {T : TypeId} {y0 y1 y2 y3 y4 : Value} (h : W.heap[b]? = some (.cells #[y0, y1, y2, y3, y4] T (0, 0))) (x0 x1 x2 x3 x4 : Value) : (res5 W b x0 x1 x2 x3 x4).heap[b]? = some (.cells #[x0, x1, x2, x3, x4] T (0, 0)) := by
  have := bset (bset (bset (bset (bset h 0 x0) 1 x1) 2 x2) 3 x3) 4 x4
  simp only [List.setIfInBounds_toArray, List.set_cons_zero, List.set_cons_succ] at this
  exact this
theorem res5_off {W : World} {b g : Nat} {o : Obj} (h : W.heap[g]? = some o) (hne : g ≠ b) (x0 x1 x2 x3 x4 : Value) : (res5 W b x0 x1 x2 x3 x4).heap[g]? = some o :=
  boff (boff (boff (boff (boff h b 0 x0 hne) b 1 x1 hne) b 2 x2 hne) b 3 x3 hne) b 4 x4 hne
theorem own_res5 {W : World} {B b n s : Nat} {U V : TypeId} {v : Value} {xs : List Value} {y0 y1 y2 y3 y4 : Value} (h : W.ownsRow B U s v n xs) (hb : W.heap[b]? = some (.cells #[y0, y1, y2, y3, y4] V (0, 0))) (hUV : U ≠ V) (x0 x1 x2 x3 x4 : Value) : (res5 W b x0 x1 x2 x3 x4).ownsRow B U s v n xs :=
  own_cell (own_cell (own_cell (own_cell (own_cell h hb hUV) (bset hb 0 x0) hUV) (bset (bset hb 0 x0) 1 x1) hUV) (bset (bset (bset hb 0 x0) 1 x1) 2 x2) hUV) (bset (bset (bset (bset hb 0 x0) 1 x1) 2 x2) 3 x3) hUV
theorem res5_on {W : World} {b : Nat} (x0 x1 x2 x3 x4 : Value) : On b W (res5 W b x0 x1 x2 x3 x4) := (((((On.refl b W).setCell 0 x0).setCell 1 x1).setCell 2 x2).setCell 3 x3).setCell 4 x4
/-- what stands on the way -/
structure St (p : Nat) (a : Option Addr) (len cap : Nat) (w : World) (lo nx : Int) (es : List flY.En) (ms : List Ex) (ga : Option Addr) (cg : Nat) (ha : Option Addr) (ch : Nat) (W : World) : Prop where
  rb : W.heap[w.heap.size]? = some (.cells #[.string ⟨#[]⟩, .int .i64 0, .int .i64 0, .slice none 0 0, .slice none 0 0] 27 (0, 0))
  sb : W.heap[w.heap.size + 1]? = some (.cells #[.string ⟨#[115]⟩, .int .i64 lo, .int .i64 nx, .slice ga es.length cg, .slice ha ms.length ch] 27 (0, 0))
  dr : Dr (w.heap.size + 2) W es ms ga cg ha ch
  cur : Cur W p a len cap
  on : On p w W
  hp : p < w.heap.size
/-- a stream that a step answers -/
def Nw (w : World) (j : Nat) (v : Value) (W : World) : Prop := ∃ (lo nx : Int) (es : List flY.En) (ms : List Ex) (ga : Option Addr) (cg : Nat) (ha : Option Addr) (ch : Nat), v = .agg #[.string ⟨#[115]⟩, .int .i64 lo, .int .i64 nx, .slice ga es.length cg, .slice ha ms.length ch] ∧ Sm (j + 1) nx es ms ∧ Dr (w.heap.size + 2) W es ms ga cg ha ch
/-- the same, stored in block nb -/
def Fin (w : World) (j nb : Nat) (W : World) : Prop := ∃ (lo nx : Int) (es : List flY.En) (ms : List Ex) (ga : Option Addr) (cg : Nat) (ha : Option Addr) (ch : Nat), W.heap[nb]? = some (.cells #[.string ⟨#[115]⟩, .int .i64 lo, .int .i64 nx, .slice ga es.length cg, .slice ha ms.length ch] 27 (0, 0)) ∧ Sm (j + 1) nx es ms ∧ Dr (w.heap.size + 2) W es ms ga cg ha ch
structure G where
  x : Nat
  y : Nat
  a : Nat
  t : ByteArray
  u : Int
  v : Value
  b : Bool
section
variable {p : Nat} {a : Option Addr} {len cap : Nat} {w W W' : World} {lo nx : Int} {es : List flY.En} {ms : List Ex} {ga : Option Addr} {cg : Nat} {ha : Option Addr} {ch : Nat} {nb j c k : Nat} {pre : G → Nat → World → Prop} {g g' : G}
theorem St.size (h : St p a len cap w lo nx es ms ga cg ha ch W) : w.heap.size + 2 ≤ W.heap.size := (Array.getElem?_eq_some_iff.1 h.sb).1
theorem st_block {b : Nat} {o : Obj} (h : W.heap[b]? = some o) (hb : On p W W') (hne : b ≠ p) : W'.heap[b]? = some o := (hb.block b (Array.getElem?_eq_some_iff.1 h).1 (fun e => hne (Option.some.inj e))).trans h
theorem St.draw (h : St p a len cap w lo nx es ms ga cg ha ch W) (hc : Cur W' p a len cap) (hb : On p W W') : St p a len cap w lo nx es ms ga cg ha ch W' := by
  have hp := h.hp
  exact ⟨st_block h.rb hb (by omega), st_block h.sb hb (by omega), h.dr.on hb (by omega), hc, h.on.trans hb, hp⟩
theorem St.step (h : St p a len cap w lo nx es ms ga cg ha ch W) (hb : Below W.heap.size W W') : St p a len cap w lo nx es ms ga cg ha ch W' :=
  ⟨bstay h.rb hb (Array.getElem?_eq_some_iff.1 h.rb).1, bstay h.sb hb (Array.getElem?_eq_some_iff.1 h.sb).1, h.dr.below hb, h.cur.below hb, h.on.trans (On.of_below hb), h.hp⟩
theorem St.alloc (h : St p a len cap w lo nx es ms ga cg ha ch W) (o : Obj) : St p a len cap w lo nx es ms ga cg ha ch (W.alloc o) := h.step ((Below.refl _ _).alloc (Nat.le_refl _) _)
theorem st_0 (hc : Cur w p a len cap) : St p a len cap w 0 0 [] [] none 0 none 0 ((w.alloc (.cells #[.string ⟨#[]⟩, .int .i64 0, .int .i64 0, .slice none 0 0, .slice none 0 0] 27)).alloc (.cells #[.string ⟨#[115]⟩, .int .i64 0, .int .i64 0, .slice none 0 0, .slice none 0 0] 27)) := by
  refine ⟨bold (bnew w _ _) _, ?_, nil_dr _ _, (hc.alloc _).alloc _, ((On.refl _ _).alloc _).alloc _, hc.lt⟩
  have := bnew (w.alloc (.cells #[.string ⟨#[]⟩, .int .i64 0, .int .i64 0, .slice none 0 0, .slice none 0 0] 27)) #[.string ⟨#[115]⟩, .int .i64 0, .int .i64 0, .slice none 0 0, .slice none 0 0] 27
  rwa [World.size_alloc] at this
theorem cur_res5 {b : Nat} {y0 y1 y2 y3 y4 : Value} (h : Cur W p a len cap) (hne : p < b) (x0 x1 x2 x3 x4 : Value) : Cur (res5 W b x0 x1 x2 x3 x4) p a len cap :=
  h.grown (row := some b) (res5_on x0 x1 x2 x3 x4) (fun k hk => by have := Option.some.inj hk; omega)
theorem St.res (h : St p a len cap w lo nx es ms ga cg ha ch W) {T : TypeId} {y0 y1 y2 y3 y4 : Value} (hb : W.heap[nb]? = some (.cells #[y0, y1, y2, y3, y4] 27 (0, 0))) (hn : w.heap.size + 2 ≤ nb) (x0 x1 x2 x3 x4 : Value) : St p a len cap w lo nx es ms ga cg ha ch (res5 W nb x0 x1 x2 x3 x4) := by
  have hp := h.hp
  exact ⟨res5_off h.rb (by omega) .., res5_off h.sb (by omega) .., ⟨own_res5 h.dr.oe hb (by decide) .., own_res5 h.dr.om hb (by decide) ..⟩, h.cur.grown (row := some nb) (res5_on x0 x1 x2 x3 x4) (fun k hk => by have := Option.some.inj hk; omega), h.on.grown (row := some nb) (res5_on x0 x1 x2 x3 x4) (fun k hk => by have := Option.some.inj hk; omega), hp⟩
/-- the stream itself is set anew -/
theorem St.put (h : St p a len cap w lo nx es ms ga cg ha ch W) {lo' nx' : Int} {es' : List flY.En} {ms' : List Ex} {ga' : Option Addr} {cg' : Nat} {ha' : Option Addr} {ch' : Nat} (hd : Dr (w.heap.size + 2) W es' ms' ga' cg' ha' ch') :
    St p a len cap w lo' nx' es' ms' ga' cg' ha' ch' (res5 W (w.heap.size + 1) (.string ⟨#[115]⟩) (.int .i64 lo') (.int .i64 nx') (.slice ga' es'.length cg') (.slice ha' ms'.length ch')) := by
  have hp := h.hp
  exact ⟨res5_off h.rb (by omega) .., res5_at h.sb .., ⟨own_res5 hd.oe h.sb (by decide) .., own_res5 hd.om h.sb (by decide) ..⟩, h.cur.grown (row := some (w.heap.size + 1)) (res5_on _ _ _ _ _) (fun k hk => by have := Option.some.inj hk; omega), h.on.grown (row := some (w.heap.size + 1)) (res5_on _ _ _ _ _) (fun k hk => by have := Option.some.inj hk; omega), hp⟩
/-- a step's region: c effects and then the store into the block nb -/
structure Sx (p : Nat) (a : Option Addr) (len cap : Nat) (w : World) (lo nx : Int) (es : List flY.En) (ms : List Ex) (ga : Option Addr) (cg : Nat) (ha : Option Addr) (ch : Nat) (nb j c : Nat) (pre : G → Nat → World → Prop) (g : G) (k : Nat) (W : World) : Prop where
  st : St p a len cap w lo nx es ms ga cg ha ch W
  pre : pre g k W
  old : k ≤ c → W.heap[nb]? = some (.cells #[.string ⟨#[115]⟩, .int .i64 lo, .int .i64 nx, .slice ga es.length cg, .slice ha ms.length ch] 27 (0, 0))
  nw : k = c → Nw w j g.v W
  fin : k = c + 1 → Fin w j nb W
theorem Sx.draw (h : Sx p a len cap w lo nx es ms ga cg ha ch nb j c pre g k W) (hk : k + 1 < c) (hn : p < nb) (hc : Cur W' p a len cap) (hb : On p W W') (hp : pre g' (k + 1) W') : Sx p a len cap w lo nx es ms ga cg ha ch nb j c pre g' (k + 1) W' :=
  ⟨h.st.draw hc hb, hp, fun _ => st_block (h.old (by omega)) hb (by omega), fun e => (by omega), fun e => (by omega)⟩
theorem Sx.step (h : Sx p a len cap w lo nx es ms ga cg ha ch nb j c pre g k W) (hk : k + 1 < c) (hb : Below W.heap.size W W') (hp : pre g' (k + 1) W') : Sx p a len cap w lo nx es ms ga cg ha ch nb j c pre g' (k + 1) W' :=
  ⟨h.st.step hb, hp, fun _ => bstay (h.old (by omega)) hb (Array.getElem?_eq_some_iff.1 (h.old (by omega))).1, fun e => (by omega), fun e => (by omega)⟩
theorem Sx.last (h : Sx p a len cap w lo nx es ms ga cg ha ch nb j c pre g k W) (hk : k + 1 = c) (hb : Below W.heap.size W W') (hn : Nw w j g'.v W') (hp : pre g' (k + 1) W') : Sx p a len cap w lo nx es ms ga cg ha ch nb j c pre g' (k + 1) W' :=
  ⟨h.st.step hb, hp, fun _ => bstay (h.old (by omega)) hb (Array.getElem?_eq_some_iff.1 (h.old (by omega))).1, fun _ => hn, fun e => (by omega)⟩
theorem Sx.sto (h : Sx p a len cap w lo nx es ms ga cg ha ch nb j c pre g c W) (hn : w.heap.size + 2 ≤ nb) (hp : ∀ W', pre g (c + 1) W') : ∃ (lo' nx' : Int) (es' : List flY.En) (ms' : List Ex) (ga' : Option Addr) (cg' : Nat) (ha' : Option Addr) (ch' : Nat), g.v = .agg #[.string ⟨#[115]⟩, .int .i64 lo', .int .i64 nx', .slice ga' es'.length cg', .slice ha' ms'.length ch'] ∧
    (W.cell? ⟨nb, 0, none⟩ = some (.string ⟨#[115]⟩) ∧ W.cell? ⟨nb, 1, none⟩ = some (.int .i64 lo) ∧ W.cell? ⟨nb, 2, none⟩ = some (.int .i64 nx) ∧ W.cell? ⟨nb, 3, none⟩ = some (.slice ga es.length cg) ∧ W.cell? ⟨nb, 4, none⟩ = some (.slice ha ms.length ch)) ∧ (∀ i, W.frozen? ⟨nb, i, none⟩ = false) ∧
    Sx p a len cap w lo nx es ms ga cg ha ch nb j c pre g (c + 1) (res5 W nb (.string ⟨#[115]⟩) (.int .i64 lo') (.int .i64 nx') (.slice ga' es'.length cg') (.slice ha' ms'.length ch')) := by
  obtain ⟨lo', nx', es', ms', ga', cg', ha', ch', hv, hsm, hd⟩ := h.nw rfl
  have ho := h.old (Nat.le_refl _)
  refine ⟨lo', nx', es', ms', ga', cg', ha', ch', hv, ⟨bcell ho rfl, bcell ho rfl, bcell ho rfl, bcell ho rfl, bcell ho rfl⟩, fun i => bfree ho i, h.st.res (T := 27) ho hn .., hp _, fun e => (by omega), fun e => (by omega), fun _ => ⟨lo', nx', es', ms', ga', cg', ha', ch', res5_at ho .., hsm, own_res5 hd.oe ho (by decide) .., own_res5 hd.om ho (by decide) ..⟩⟩
theorem St.use (h : St p a len cap w lo nx es ms ga cg ha ch W) : ∃ g k, apo.NA ga g es.length cg ∧ apo.NA ha k ms.length ch ∧ RY W g es ∧ RE W k ms ∧ es.length ≤ cg ∧ ms.length ≤ ch := h.dr.use (by have := h.size; omega)
theorem sn_small : (⟨#[115]⟩ : ByteArray).size ≤ 1000 := by decide
theorem St.trim (h : St p a len cap w lo nx es ms ga cg ha ch W) (hsm : Sm j nx es ms) (hj : j ≤ 100) (c o : Int) : Calls Tryd.prog 39 #[.agg #[.string ⟨#[115]⟩, .int .i64 lo, .int .i64 nx, .slice ga es.length cg, .slice ha ms.length ch], .int .i64 c, .int .i64 o] W fun e w' => (∃ v, e = .returned v ∧ Nw w j v w') ∧ Below W.heap.size W w' := by
  obtain ⟨g, k, n1, n2, r1, r2, l1, l2⟩ := h.use
  refine (strm.spec_trim ⟨#[115]⟩ lo nx es ms g k cg ch c o W (hsm.fit (by omega) sn_small) r1 r2 ga ha n1 n2).mono ?_
  rintro e w' ⟨sa, ce, sb, cb, rfl, m1, m2, hb⟩
  exact ⟨⟨_, rfl, _, _, _, _, _, _, _, _, rfl, hsm.trim.more (by omega), (dr_of m1 m2).low h.size⟩, hb⟩
theorem St.mark (h : St p a len cap w lo nx es ms ga cg ha ch W) (hsm : Sm j nx es ms) (hj : j ≤ 100) (r : ByteArray) (hr : r.size ≤ 2) (o : Int) : Calls Tryd.prog 7 #[.agg #[.string ⟨#[115]⟩, .int .i64 lo, .int .i64 nx, .slice ga es.length cg, .slice ha ms.length ch], .string r, .int .i64 o] W fun e w' => (∃ v b, e = .returned (.tuple #[v, .bool b]) ∧ Nw w j v w') ∧ Below W.heap.size W w' := by
  obtain ⟨g, k, n1, n2, r1, r2, l1, l2⟩ := h.use
  refine (smk.spec_mark ⟨#[115]⟩ lo nx es ms g k cg ch r o W (hsm.fit (by omega) sn_small) (by omega) r1 r2 ga ha n1 n2 l2).mono ?_
  rintro e w' ⟨sa, ce, sb, cb, rfl, m1, m2, hb⟩
  exact ⟨⟨_, _, rfl, _, _, _, _, _, _, _, _, rfl, hsm.mark hr, (dr_of m1 m2).low h.size⟩, hb⟩
theorem St.putS (h : St p a len cap w lo nx es ms ga cg ha ch W) (hsm : Sm j nx es ms) (hj : j ≤ 100) (t : Int) (b : ByteArray) (hr : b.size ≤ 3) : Calls Tryd.prog 40 #[.agg #[.string ⟨#[115]⟩, .int .i64 lo, .int .i64 nx, .slice ga es.length cg, .slice ha ms.length ch], .int .i64 t, .string b] W fun e w' => (∃ v b, e = .returned (.tuple #[v, .bool b]) ∧ Nw w j v w') ∧ Below W.heap.size W w' := by
  obtain ⟨g, k, n1, n2, r1, r2, l1, l2⟩ := h.use
  refine (sput.spec_put ⟨#[115]⟩ lo nx es ms g k cg ch t b W (hsm.fit (by omega) sn_small) (by omega) r1 r2 ga ha n1 n2).mono ?_
  rintro e w' ⟨sa, ce, sb, cb, rfl, m1, m2, hb⟩
  exact ⟨⟨_, _, rfl, _, _, _, _, _, _, _, _, rfl, hsm.put hr, (dr_of m1 m2).low h.size⟩, hb⟩
/-- one field of the stream is set anew -/
theorem St.low (h : St p a len cap w lo nx es ms ga cg ha ch W) (z : Int) : St p a len cap w z nx es ms ga cg ha ch (W.setCell ⟨w.heap.size + 1, 1, none⟩ (.int .i64 z)) := by
  have hp := h.hp
  exact ⟨boff h.rb _ _ _ (by omega), bset h.sb 1 _, ⟨own_cell h.dr.oe h.sb (by decide), own_cell h.dr.om h.sb (by decide)⟩, h.cur.grown (row := some (w.heap.size + 1)) (On.setCell (On.refl _ _) 1 _) (fun k hk => by have := Option.some.inj hk; omega), h.on.grown (row := some (w.heap.size + 1)) (On.setCell (On.refl _ _) 1 _) (fun k hk => by have := Option.some.inj hk; omega), hp⟩
theorem St.next (h : St p a len cap w lo nx es ms ga cg ha ch W) (z : Int) : St p a len cap w lo z es ms ga cg ha ch (W.setCell ⟨w.heap.size + 1, 2, none⟩ (.int .i64 z)) := by
  have hp := h.hp
  exact ⟨boff h.rb _ _ _ (by omega), bset h.sb 2 _, ⟨own_cell h.dr.oe h.sb (by decide), own_cell h.dr.om h.sb (by decide)⟩, h.cur.grown (row := some (w.heap.size + 1)) (On.setCell (On.refl _ _) 2 _) (fun k hk => by have := Option.some.inj hk; omega), h.on.grown (row := some (w.heap.size + 1)) (On.setCell (On.refl _ _) 2 _) (fun k hk => by have := Option.some.inj hk; omega), hp⟩
theorem own_block {B n s b : Nat} {U V : TypeId} {v : Value} {xs : List Value} {cur : Array Value} (h : W.ownsRow B U s v n xs) (hb : W.heap[b]? = some (.cells cur V (0, 0))) (hUV : U ≠ V) : v.ownBlock ≠ some b := by
  obtain ⟨_, ⟨rfl, _⟩ | ⟨g, cap, cur', rfl, h2, h3, _⟩⟩ := h
  · intro e; cases e
  · intro e
    have e2 : g = b := by simpa [Value.ownBlock] using e
    subst e2
    rw [hb] at h3
    simp at h3
    exact hUV h3.2.symm
theorem own_apart {B B' n n' s s' : Nat} {U V : TypeId} {v v' : Value} {xs xs' : List Value} (h : W.ownsRow B U s v n xs) (h' : W.ownsRow B' V s' v' n' xs') (hUV : U ≠ V) : v.ownBlock = none ∨ v.ownBlock ≠ v'.ownBlock := by
  obtain ⟨_, ⟨rfl, _⟩ | ⟨g, cap, cur', rfl, h2, h3, _⟩⟩ := h'
  · cases hv : v.ownBlock with
    | none => exact .inl rfl
    | some b => exact .inr (fun e => by cases e)
  · exact .inr (own_block h h3 hUV)
theorem infoE : (Tryd.prog.info? 43).map (fun i => (i.zero, i.size, i.bytes)) = some (some (.agg #[.int .i64 0, .int .i64 0, .string ByteArray.empty]), 3, 32) := by kernel_rfl
theorem infoM : (Tryd.prog.info? 45).map (fun i => (i.zero, i.size, i.bytes)) = some (some (.agg #[.string ByteArray.empty, .int .i64 0]), 2, 24) := by kernel_rfl
theorem cadd {g j : Nat} : (⟨g, 0, none⟩ : Addr).add j = ⟨g, j, none⟩ := by unfold Addr.add; split <;> simp_all
theorem own_slice {B n q : Nat} {T : TypeId} {v : Value} {xs : List Value} (h : W.ownsRow B T n v q xs) : ∃ b c, v = .slice b q c := by
  obtain ⟨_, ⟨rfl, h0⟩ | ⟨g, cap, cur, rfl, _⟩⟩ := h
  · exact ⟨none, 0, by rw [h0]⟩
  · exact ⟨_, cap, rfl⟩
/-- one more mark -/
theorem St.appM (h : St p a len cap w lo nx es ms ga cg ha ch W) {gb : Nat} {r : ByteArray} {o : Int} (hb : W.heap[gb]? = some (.cells #[.string r, .int .i64 o] 45 (0, 0))) (hl : ms.length ≤ 1000) (t : TypeId) :
    ∃ ha' ch' Y, (Builtin.append_ #[25, 25] t #[.slice ha ms.length ch, .slice (some ⟨gb, 0, none⟩) 1 1]).run Tryd.prog W = .ok (.slice ha' (ms.length + 1) ch') Y ∧ Y.cell? ⟨w.heap.size + 1, 4, none⟩ = some (.slice ha ms.length ch) ∧ Y.frozen? ⟨w.heap.size + 1, 4, none⟩ = false ∧
      St p a len cap w lo nx es (ms ++ [⟨r, o⟩]) ga cg ha' ch' (Y.setCell ⟨w.heap.size + 1, 4, none⟩ (.slice ha' (ms.length + 1) ch')) := by
  obtain ⟨i0, hi, hz0, hz1, hz2⟩ := info_parts infoM
  have hsz := h.size
  have hp := h.hp
  obtain ⟨v', Y, hr, ho, hgr, _, _⟩ := run_append_own_at (P := Tryd.prog) W (w.heap.size + 2) 25 t 45 i0 (.agg #[.string ByteArray.empty, .int .i64 0]) 2 24 Tryd.underlying25 hi hz0 hz1 hz2 rfl (by decide) _ ms.length _ h.dr.om ⟨gb, 0, none⟩ 1 1 [.string r, .int .i64 o] rfl (fun j u hu => by rw [cadd]; exact bcell hb (by simpa using hu)) (by intro u hu; simp at hu; rcases hu with rfl | rfl <;> rfl) (by unfold maxLen; omega) (by omega) (by omega)
  obtain ⟨ha', ch', rfl⟩ := own_slice ho
  have hlt : ∀ g, (Value.slice ha ms.length ch).ownBlock = some g → w.heap.size + 2 ≤ g := fun g hg => (h.dr.om.lt g hg).1
  have n0 := own_block h.dr.om h.rb (by decide)
  have n1 := own_block h.dr.om h.sb (by decide)
  have hrb := grown_at hgr h.rb n0
  have hsb := grown_at hgr h.sb n1
  have hoe := h.dr.oe.kept hgr (own_apart h.dr.oe h.dr.om (by decide))
  have hon := h.on.grown hgr (fun k hk => by have := hlt k hk; omega)
  have hcu := h.cur.grown hgr (fun k hk => by have := hlt k hk; omega)
  have ho2 : Y.ownsRow (w.heap.size + 2) 45 2 (.slice ha' (ms ++ [⟨r, o⟩] : List Ex).length ch') (ms ++ [⟨r, o⟩] : List Ex).length ((ms ++ [⟨r, o⟩] : List Ex).flatMap flK.c) := by
    rw [List.length_append, List.flatMap_append]
    exact ho
  refine ⟨ha', ch', Y, hr, bcell hsb rfl, bfree hsb 4, boff hrb _ _ _ (by omega), ?_, ⟨own_cell hoe hsb (by decide), own_cell ho2 hsb (by decide)⟩, hcu.grown (row := some (w.heap.size + 1)) (On.setCell (On.refl _ _) 4 _) (fun k hk => by have := Option.some.inj hk; omega), hon.grown (row := some (w.heap.size + 1)) (On.setCell (On.refl _ _) 4 _) (fun k hk => by have := Option.some.inj hk; omega), hp⟩
  rw [List.length_append]
  exact bset hsb 4 _
/-- one more entry -/
theorem St.appE (h : St p a len cap w lo nx es ms ga cg ha ch W) {gb : Nat} {o tt : Int} {b : ByteArray} (hb : W.heap[gb]? = some (.cells #[.int .i64 o, .int .i64 tt, .string b] 43 (0, 0))) (hl : es.length ≤ 1000) (t : TypeId) :
    ∃ ga' cg' Y, (Builtin.append_ #[24, 24] t #[.slice ga es.length cg, .slice (some ⟨gb, 0, none⟩) 1 1]).run Tryd.prog W = .ok (.slice ga' (es.length + 1) cg') Y ∧ (Y.cell? ⟨w.heap.size + 1, 3, none⟩ = some (.slice ga es.length cg) ∧ Y.cell? ⟨w.heap.size + 1, 2, none⟩ = some (.int .i64 nx) ∧ Y.frozen? ⟨w.heap.size + 1, 3, none⟩ = false ∧ Y.frozen? ⟨w.heap.size + 1, 2, none⟩ = false) ∧
      St p a len cap w lo nx (es ++ [⟨o, tt, b⟩]) ms ga' cg' ha ch (Y.setCell ⟨w.heap.size + 1, 3, none⟩ (.slice ga' (es.length + 1) cg')) := by
  obtain ⟨i0, hi, hz0, hz1, hz2⟩ := info_parts infoE
  have hsz := h.size
  have hp := h.hp
  obtain ⟨v', Y, hr, ho, hgr, _, _⟩ := run_append_own_at (P := Tryd.prog) W (w.heap.size + 2) 24 t 43 i0 (.agg #[.int .i64 0, .int .i64 0, .string ByteArray.empty]) 3 32 Tryd.underlying24 hi hz0 hz1 hz2 rfl (by decide) _ es.length _ h.dr.oe ⟨gb, 0, none⟩ 1 1 [.int .i64 o, .int .i64 tt, .string b] rfl (fun j u hu => by rw [cadd]; exact bcell hb (by simpa using hu)) (by intro u hu; simp at hu; rcases hu with rfl | rfl | rfl <;> rfl) (by unfold maxLen; omega) (by omega) (by omega)
  obtain ⟨ga', cg', rfl⟩ := own_slice ho
  have hlt : ∀ g, (Value.slice ga es.length cg).ownBlock = some g → w.heap.size + 2 ≤ g := fun g hg => (h.dr.oe.lt g hg).1
  have n0 := own_block h.dr.oe h.rb (by decide)
  have n1 := own_block h.dr.oe h.sb (by decide)
  have hrb := grown_at hgr h.rb n0
  have hsb := grown_at hgr h.sb n1
  have hom := h.dr.om.kept hgr (own_apart h.dr.om h.dr.oe (by decide))
  have hon := h.on.grown hgr (fun k hk => by have := hlt k hk; omega)
  have hcu := h.cur.grown hgr (fun k hk => by have := hlt k hk; omega)
  have ho2 : Y.ownsRow (w.heap.size + 2) 43 3 (.slice ga' (es ++ [⟨o, tt, b⟩] : List flY.En).length cg') (es ++ [⟨o, tt, b⟩] : List flY.En).length ((es ++ [⟨o, tt, b⟩] : List flY.En).flatMap flY.c) := by
    rw [List.length_append, List.flatMap_append]
    exact ho
  refine ⟨ga', cg', Y, hr, ⟨bcell hsb rfl, bcell hsb rfl, bfree hsb 3, bfree hsb 2⟩, boff hrb _ _ _ (by omega), ?_, ⟨own_cell ho2 hsb (by decide), own_cell hom hsb (by decide)⟩, hcu.grown (row := some (w.heap.size + 1)) (On.setCell (On.refl _ _) 3 _) (fun k hk => by have := Option.some.inj hk; omega), hon.grown (row := some (w.heap.size + 1)) (On.setCell (On.refl _ _) 3 _) (fun k hk => by have := Option.some.inj hk; omega), hp⟩
  rw [List.length_append]
  exact bset hsb 3 _
/-- the first entry's time is set -/
theorem St.time {e : flY.En} {r : List flY.En} {g : Nat} (h : St p a len cap w lo nx (e :: r) ms (some ⟨g, 0, none⟩) cg ha ch W) (z : Int) :
    W.cell? ⟨g, 1, none⟩ = some (.int .i64 e.t) ∧ W.frozen? ⟨g, 1, none⟩ = false ∧ St p a len cap w lo nx (⟨e.o, z, e.b⟩ :: r) ms (some ⟨g, 0, none⟩) cg ha ch (W.setCell ⟨g, 1, none⟩ (.int .i64 z)) := by
  have hp := h.hp
  have ho := h.dr.oe
  obtain ⟨h0, ⟨h1, _⟩ | ⟨g', cap', cur, h1, h2, h3, h4, h5, h6, h7⟩⟩ := h.dr.oe
  · cases h1
  cases h1
  have n0 := own_block h.dr.oe h.rb (by decide)
  have n1 := own_block h.dr.oe h.sb (by decide)
  have hm := own_cell (o := 1) (u := .int .i64 z) h.dr.om h3 (by decide)
  have hry := (ry_owns ho).2 0 e rfl
  have hon := h.on.grown (row := some g) (w' := W.setCell ⟨g, 1, none⟩ (.int .i64 z)) (On.setCell (On.refl _ _) 1 _) (fun k hk => by have := Option.some.inj hk; omega)
  have hcu := h.cur.grown (row := some g) (w' := W.setCell ⟨g, 1, none⟩ (.int .i64 z)) (On.setCell (On.refl _ _) 1 _) (fun k hk => by have := Option.some.inj hk; omega)
  refine ⟨hry.2.1, bfree h3 1, boff h.rb _ _ _ (fun e => n0 (by rw [e]; rfl)), boff h.sb _ _ _ (fun e => n1 (by rw [e]; rfl)), ⟨⟨h0, .inr ⟨g, cg, _, rfl, h2, bset h3 1 _, h4, h5, by simpa using h6, ?_⟩⟩, hm⟩, hcu, hon, hp⟩
  have h8 : (cur.setIfInBounds 1 (.int .i64 z)).toList.take ((e :: r).length * 3) = ((cur.toList.take ((e :: r).length * 3)).set 1 (.int .i64 z)) := by
    rw [Array.toList_setIfInBounds, List.take_set]
  show (cur.setIfInBounds 1 (.int .i64 z)).toList.take ((⟨e.o, z, e.b⟩ :: r : List flY.En).length * 3) = _
  rw [show (⟨e.o, z, e.b⟩ :: r : List flY.En).length = (e :: r).length from rfl, h8, h7]
  rfl
/-- the answer is laid -/
theorem St.done (h : St p a len cap w lo nx es ms ga cg ha ch W) (x0 x1 x2 x3 x4 : Value) : Dr w.heap.size (res5 W w.heap.size x0 x1 x2 x3 x4) es ms ga cg ha ch ∧ Cur (res5 W w.heap.size x0 x1 x2 x3 x4) p a len cap ∧ On p w (res5 W w.heap.size x0 x1 x2 x3 x4) := by
  have hp := h.hp
  exact ⟨Dr.low ⟨own_res5 h.dr.oe h.rb (by decide) .., own_res5 h.dr.om h.rb (by decide) ..⟩ (by omega), h.cur.grown (row := some w.heap.size) (res5_on x0 x1 x2 x3 x4) (fun k hk => by have := Option.some.inj hk; omega), h.on.grown (row := some w.heap.size) (res5_on x0 x1 x2 x3 x4) (fun k hk => by have := Option.some.inj hk; omega)⟩
end
end Go.Proofs.YtlfhfcgcfggjcaaDoor.dst
