/- The law FnExactQueueOk holds: at every queue that the law admits, of any memory, the program QueueOk answers as the specification (which is QueueOk of the document, chapter 5) and writes into nothing of it; no condition of my own. -/
import Derived.Test.YtoanmdbfikhgoaaQueueOkLaw
import Derived.Test.YtoanmdbfikhgoaaQueueArg
import Derived.WalkKit
import Derived.ProofKit
import Derived.OpenShut
import Derived.ShutString
import Derived.Below
import Derived.OpenVars
namespace Go.Proofs.Ytoanmdbfikhgoaa.fnExactQueueOk
open Go.ChangeShapes Go.WideShapes Go.ChangeAt Go.RowKit
open Go.ChangeMaps (open_string shut_string)
set_option linter.unusedVariables false

theorem own : ownKnob Try.prog.godebug = none := by kernel_rfl
theorem laidOut : laidOutB Try.prog = true := by kernel_rfl

theorem walk (nm0 : ByteArray) (nx0 : Int) (rs0 : List flM.Ms) (hs0 : List flH.Hd) (ra0 ha0 : Option Addr) (rc0 hc0 : Nat) (hnm0 : nm0.size ≤ maxLen) (hnx0 : (Lit.int .i64 nx0).wf = true) (hrl0 : rs0.length ≤ maxLen) (hhl0 : hs0.length ≤ maxLen) (hro0 : ∀ e ∈ rs0, flM.ok e) (hho0 : ∀ e ∈ hs0, flH.ok e) (w : World)  (hR0 : fl.Row flM.c 5 w w.heap.size ra0 rs0) (hH0 : fl.Row flH.c 7 w w.heap.size ha0 hs0) :
    Calls Try.prog 4 #[.agg #[.string nm0, .int .i64 nx0, .slice ra0 rs0.length rc0, .slice ha0 hs0.length hc0]] w fun e w' => e = .returned (.bool true) ∧ Below w.heap.size w w' := by
  exact lwQueueOk.walk nm0 nx0 rs0 hs0 ra0 ha0 rc0 hc0 w hnm0 hrl0 hhl0 hro0 hho0 hR0 hH0

set_option maxRecDepth 100000 in
theorem lifted (os : Os) (started : os.Started) (H : Type) (enc : TypeId × Value → H) :
    ReturnsInHanded {} Try.checked os 4 .any (Rows.fnExactQueueOkSpec.pre6 enc Try.prog Try.f4 Rows.fnExactQueueOkRow.domain false) (Rows.fnExactQueueOkSpec.post enc Try.prog Try.f4 false true false false) := by
  refine returnsInHanded_of_change (C := Try.checked) own started (by kernel_rfl) Try.func4
    (ChangeSpec.witness6 (enc := enc) (C := Try.checked) false ⟨#[], #[.agg #[.string ByteArray.empty, .int .i64 0, .slice none 0 0, .slice none 0 0]], []⟩ 8 (by kernel_rfl) (by kernel_rfl) (by kernel_rfl) (by kernel_rfl)) ?_
  intro W base args ds gs before hval0 hW hcnd _
  have hval : ∀ (j : Nat) t v, Try.f4.params[j]? = some t → args[j]? = some v → Value.okWide Try.prog W .any base t v := hval0
  have hW' := hW
  obtain ⟨p, q, hA0, hV, hb, hfz, hnd⟩ := hW
  have hA : DataW.TrodAll enc Try.prog W 0 (fun _ => true) true Try.f4.params.toList args.toList ds p := hA0
  rw [Try.params4] at hA hval
  obtain ⟨v0, vs0, d0, ds0, p0, q0, hargs, rfl, rfl, h0, r0⟩ := trodAll_cons hA
  obtain ⟨rfl, rfl, rfl⟩ := trodAll_nil r0
  obtain rfl : args = #[v0] := by cases args; simp_all
  obtain ⟨rfl, rfl⟩ := trodVars_none hV
  have k0 := h0
  have lt0 : ∀ x ∈ p0, x.block < W.heap.size := by obtain ⟨m, hm⟩ := k0; exact DataW.trod_lt m _ _ _ hm
  obtain ⟨nm0, nx0, rs0, hs0, ra0, ha0, rc0, hc0, rfl, hnm0, hnx0, hrl0, hhl0, hro0, hho0, hR0, hH0⟩ := qa.open_queue (hval 0 49 v0 rfl rfl) h0
  clear hA0 hval0
  refine (walk nm0 nx0 rs0 hs0 ra0 ha0 rc0 hc0 hnm0 hnx0 hrl0 hhl0 hro0 hho0 W  hR0 hH0).mono fun e W' ⟨he, hg⟩ => ?_
  subst he
  exact ⟨_, rfl, _, _, _, [], _, [], hW', (trodAll_cons_mk (shut_bool Try.underlying4 _) trodAll_mk0), (trodAll_cons_mk (Below.trod laidOut (by kernel_rfl) (of_decide_eq_true (by kernel_rfl)) k0 hg lt0) trodAll_mk0), rfl, hg.frame _, fun h => by cases h⟩

theorem over : Rows.fnExactQueueOkRow.holds Try.pinned (OpenSpec.ofChange Rows.fnExactQueueOkSpec) :=
  OpenClaim.holds_of_wide 4 Try.f4 rfl rfl rfl rfl rfl rfl rfl ⟨rfl, rfl, rfl, rfl, rfl⟩ rfl rfl rfl rfl rfl (by kernel_rfl) Try.func4 (by kernel_rfl)
    (of_decide_eq_true (by kernel_rfl)) (by unfold Func.isWrapper; first | (rw [if_pos (by decide +kernel)]; kernel_rfl) | (rw [if_neg (by decide +kernel)]; exact ⟨rfl, rfl⟩))
    (fun os started H enc _ => lifted os started H enc)

theorem proved : Rows.FnExactQueueOkSaid := over
#print axioms proved
end Go.Proofs.Ytoanmdbfikhgoaa.fnExactQueueOk
