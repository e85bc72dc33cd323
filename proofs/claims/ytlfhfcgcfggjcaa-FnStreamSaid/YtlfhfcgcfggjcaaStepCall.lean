/- An operation of a region that draws its order, which enters a function whose answer is known only behind it. -/
import Derived.Test.YtlfhfcgcfggjcaaDoneKit
namespace Go.Proofs.Ytlfhfcgcfggjcaa.stc
set_option linter.unusedVariables false

/-- an operation that enters a function: what comes back is known only behind it -/
theorem step_call {σ : Type} {P : Program} {fin : σ → Act} {C : σ → (Nat → Bool) → World → Prop} {Q : Exit → Act → World → Prop} {i : Nat} {o : Oper} (hsel : ∀ cs b, o.op ≠ .select cs b) (f : FuncId) (args : Array Value)
    (h : ∀ (s : σ) (L : Nat → Bool) (w : World), (∀ e ∈ o.after, Region.binds .any e = true → L e.on = true) → L i = false → C s L w →
      (execOp (fin s).eval o).run P w = .ok (.enter f args) w ∧ Calls P f args w fun e w' => ∃ s' v, e = .returned v ∧ gh.Agree o (fin s) (fin s') ∧ (∀ d, o.dst = some d → (fin s').tmps[d]? = some v) ∧ C s' (dn.more L i) w') : gh.Step P fin C Q i o := by
  intro s L w a ha hd h0 hC K hK
  obtain ⟨hr, hc⟩ := h s L w hd h0 hC
  unfold Oper.wp
  rw [execOp_congr o hsel ha, hr]
  simp only [Oper.upon]
  exact hc.mono fun e w'' ⟨s', v, he, hag, hv, hD⟩ => by subst he; exact hK s' _ _ hag hv hD
end Go.Proofs.Ytlfhfcgcfggjcaa.stc
