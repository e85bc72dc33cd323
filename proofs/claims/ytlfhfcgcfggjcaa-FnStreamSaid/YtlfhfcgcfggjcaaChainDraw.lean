/- As ChainTurn: a call whose arguments hang on what was drawn before it, in a region that draws its order. -/
import Derived.Test.YtlfhfcgcfggjcaaChainTurn
namespace Go.Proofs.Ytlfhfcgcfggjcaa.chd
open Go.Proofs.Ytlfhfcgcfggjcaa.dn
open Go.Proofs.Ytlfhfcgcfggjcaa.chn (Cn on off up shut at_m next_m)
set_option linter.unusedVariables false

/-- two lists of slots that are alike but at the slots qz -/
def But (qz : List Nat) : List (Nat × Value) → List (Nat × Value) → Prop
  | [], [] => True
  | x :: r, y :: t => x.1 = y.1 ∧ (x.1 ∈ qz ∨ x.2 = y.2) ∧ But qz r t
  | _, _ => False
theorem but_lookup {qz : List Nat} : ∀ (a b : List (Nat × Value)), But qz a b → ∀ q, q ∉ qz → b.lookup q = a.lookup q
  | [], [], _, q, hq => rfl
  | x :: r, y :: t, h, q, hq => by
    obtain ⟨t1, v1⟩ := x
    obtain ⟨t2, v2⟩ := y
    obtain ⟨h1, h2, h3⟩ := h
    obtain rfl : t1 = t2 := h1
    rw [List.lookup_cons, List.lookup_cons, but_lookup r t h3 q hq]
    cases hb : q == t1 with
    | false => rfl
    | true =>
      have e : q = t1 := by simpa using hb
      rcases h2 with h2 | h2
      · exact absurd (e ▸ h2) hq
      · have e2 : v1 = v2 := h2
        rw [e2]
  | [], _ :: _, h, _, _ => by cases h
  | _ :: _, [], h, _, _ => by cases h
section
variable {σ : Type} {P : Program} {act : Act} {ws : σ → List (Nat × Value)} {l : List Oper} {js : List Nat} {S : σ → Nat → World → Prop} {Q : Exit → Act → World → Prop} {i : Nat} {o : Oper}
theorem call (m : Nat) (zs qz : List Nat) (hz : cht.waitB l i [] zs = true) (hq : cht.slotB l zs qz = true) (hl : l[i]? = some o) (hnd : js.Nodup) (hm : js[m]? = some i) (hdep : m = 0 ∨ ∃ e ∈ o.after, Region.binds .any e = true ∧ js[m - 1]? = some e.on) (hsel : ∀ cs b, o.op ≠ .select cs b) (f : FuncId) (args : σ → Array Value)
    (h : ∀ s W, S s m W → (execOp (dk.sets act (ws s)).eval o).run P W = .ok (.enter f (args s)) W ∧ Calls P f (args s) W fun e w' => ∃ s' v, e = .returned v ∧ But qz (ws s) (ws s') ∧ (∀ d, o.dst = some d → (dk.sets act (ws s')).tmps[d]? = some v) ∧ S s' (m + 1) w') : gt.Step P l.toArray (fun s => dk.sets act (ws s)) (Cn l js S) Q i o := by
  intro s L w a ha hdp h0 hC K hK
  obtain ⟨hc, k, hk, hL, hS⟩ := hC
  obtain rfl := at_m hL hm h0 hdep hdp
  obtain ⟨h1, h2⟩ := h s w hS
  have hlt := (List.getElem?_eq_some_iff.1 hm).1
  unfold Oper.wp
  rw [execOp_congr o hsel ha, h1]
  simp only [Oper.upon]
  exact h2.mono fun e w' ⟨s', v, he, ht, hv, hS'⟩ => by
    subst he
    exact hK s' _ _ (cht.turn_of (cht.wait_not hc h0 zs [] (fun y hy => by cases hy) hz) hq (but_lookup _ _ ht)) hv ⟨shut hl hdp hc, k + 1, hlt, next_m hnd hm hL, hS'⟩
/-- one of them that makes memory or reckons with what was drawn -/
theorem eff (m : Nat) (zs qz : List Nat) (hz : cht.waitB l i [] zs = true) (hq : cht.slotB l zs qz = true) (hl : l[i]? = some o) (hnd : js.Nodup) (hm : js[m]? = some i) (hdep : m = 0 ∨ ∃ e ∈ o.after, Region.binds .any e = true ∧ js[m - 1]? = some e.on) (hsel : ∀ cs b, o.op ≠ .select cs b)
    (h : ∀ s W, S s m W → ∃ s' v w', But qz (ws s) (ws s') ∧ (∀ d, o.dst = some d → (dk.sets act (ws s')).tmps[d]? = some v) ∧ (execOp (dk.sets act (ws s)).eval o).run P W = .ok (.value v) w' ∧ S s' (m + 1) w') : gt.Step P l.toArray (fun s => dk.sets act (ws s)) (Cn l js S) Q i o :=
  cht.eff m zs qz hz hq hl hnd hm hdep hsel fun s W hS => by
    obtain ⟨s', v, w', h1, h2, h3, h4⟩ := h s W hS
    exact ⟨s', v, but_lookup _ _ h1, h2, cht.val h3 h4⟩
end
/-- an append's run within a region -/
theorem app_run {P : Program} {act : Act} {o : Oper} {i j : Nat} {T : TypeId} {x y z : Value} {W W' : World} (hop : o.op = .call { callee := .builtin .append, args := #[.tmp i, .tmp j], argTypes := #[T, T] }) (hi : act.eval (.tmp i) = x) (hj : act.eval (.tmp j) = y) (hr : (Builtin.append_ #[T, T] o.type #[x, y]).run P W = .ok z W') : (execOp act.eval o).run P W = .ok (.value z) W' := by
  unfold execOp
  simp only [hop, resolve, invoke, builtin, Sem.run_bind, Sem.run_pure, Result.andThen_ok, List.map_toArray, List.map_cons, List.map_nil, hi, hj, hr]
end Go.Proofs.Ytlfhfcgcfggjcaa.chd
