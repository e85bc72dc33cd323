/- The law FnExactChannelOk holds: at every channel that the law admits, of any memory, the program ChannelOk answers as the specification (which is ChannelOk of the document, chapter 11) and writes into nothing of it; no condition of my own. -/
import Derived.Test.YtiphjegaodaooaaChannelOkLaw
import Derived.Test.YtiphjegaodaooaaChanArg
import Derived.WalkKit
import Derived.ProofKit
import Derived.OpenShut
import Derived.ShutString
import Derived.Below
import Derived.OpenVars
namespace Go.Proofs.Ytiphjegaodaooaa.fnExactChannelOk
open Go.ChangeShapes Go.WideShapes Go.ChangeAt Go.RowKit
open Go.ChangeMaps (open_string shut_string)
set_option linter.unusedVariables false

theorem own : ownKnob Try.prog.godebug = none := by kernel_rfl
theorem laidOut : laidOutB Try.prog = true := by kernel_rfl

theorem walk (co0 ct0 : Int) (cx0 cf0 : Bool) (cn0 : Int) (cd0 : Bool) (rs0 : List flU.Pb) (hs0 : List flA.Ak) (ra0 ha0 : Option Addr) (rc0 hc0 : Nat) (hco0 : (Lit.int .i64 co0).wf = true) (hct0 : (Lit.int .i64 ct0).wf = true) (hcn0 : (Lit.int .i64 cn0).wf = true) (hrl0 : rs0.length ≤ maxLen) (hhl0 : hs0.length ≤ maxLen) (hro0 : ∀ e ∈ rs0, flU.ok e) (hho0 : ∀ e ∈ hs0, flA.ok e) (w : World)  (hR0 : fl.Row flU.c 3 w w.heap.size ra0 rs0) (hH0 : fl.Row flA.c 4 w w.heap.size ha0 hs0) :
    Calls Try.prog 4 #[.agg #[.int .i64 co0, .int .i64 ct0, .bool cx0, .bool cf0, .int .i64 cn0, .bool cd0, .slice ra0 rs0.length rc0, .slice ha0 hs0.length hc0]] w fun e w' => e = .returned (.bool true) ∧ Below w.heap.size w w' := by
  exact chk.walk co0 ct0 cx0 cf0 cn0 cd0 rs0 hs0 ra0 ha0 rc0 hc0 w hrl0 hhl0 hro0 hho0 hR0 hH0

set_option maxRecDepth 100000 in
theorem lifted (os : Os) (started : os.Started) (H : Type) (enc : TypeId × Value → H) :
    ReturnsInHanded {} Try.checked os 4 .any (Rows.fnExactChannelOkSpec.pre6 enc Try.prog Try.f4 Rows.fnExactChannelOkRow.domain false) (Rows.fnExactChannelOkSpec.post enc Try.prog Try.f4 false true false false) := by
  refine returnsInHanded_of_change (C := Try.checked) own started (by kernel_rfl) Try.func4
    (ChangeSpec.witness6 (enc := enc) (C := Try.checked) false ⟨#[], #[.agg #[.int .i64 0, .int .i64 0, .bool false, .bool false, .int .i64 0, .bool false, .slice none 0 0, .slice none 0 0]], []⟩ 8 (by kernel_rfl) (by kernel_rfl) (by kernel_rfl) (by kernel_rfl)) ?_
  intro W base args ds gs before hval0 hW hcnd _
  have hval : ∀ (j : Nat) t v, Try.f4.params[j]? = some t → args[j]? = some v → Value.okWide Try.prog W .any base t v := hval0
  have hW' := hW
  obtain ⟨p, q, hA0, hV, hb, hfz, hnd⟩ := hW
  have hA : DataW.TrodAll enc Try.prog W 0 (fun _ => true) true Try.f4.params.toList args.toList ds p := hA0
  rw [Try.params4] at hA hval
  obtain ⟨v0, vs0, d0, ds0, p0, q0, hargs, rfl, rfl, h0, r0⟩ := trodAll_cons hA
  obtain ⟨rfl, rfl, rfl⟩ := trodAll_nil r0
  obtain rfl : args = #[v0] := by cases args; simp_all
  obtain ⟨rfl, rfl⟩ := trodVars_none hV
  have k0 := h0
  have lt0 : ∀ x ∈ p0, x.block < W.heap.size := by obtain ⟨m, hm⟩ := k0; exact DataW.trod_lt m _ _ _ hm
  obtain ⟨co0, ct0, cx0, cf0, cn0, cd0, rs0, hs0, ra0, ha0, rc0, hc0, rfl, hco0, hct0, hcn0, hrl0, hhl0, hro0, hho0, hR0, hH0⟩ := cha.open_chan (hval 0 35 v0 rfl rfl) h0
  clear hA0 hval0
  refine (walk co0 ct0 cx0 cf0 cn0 cd0 rs0 hs0 ra0 ha0 rc0 hc0 hco0 hct0 hcn0 hrl0 hhl0 hro0 hho0 W  hR0 hH0).mono fun e W' ⟨he, hg⟩ => ?_
  subst he
  exact ⟨_, rfl, _, _, _, [], _, [], hW', (trodAll_cons_mk (shut_bool Try.underlying4 _) trodAll_mk0), (trodAll_cons_mk (Below.trod laidOut (by kernel_rfl) (of_decide_eq_true (by kernel_rfl)) k0 hg lt0) trodAll_mk0), rfl, hg.frame _, fun h => by cases h⟩

theorem over : Rows.fnExactChannelOkRow.holds Try.pinned (OpenSpec.ofChange Rows.fnExactChannelOkSpec) :=
  OpenClaim.holds_of_wide 4 Try.f4 rfl rfl rfl rfl rfl rfl rfl ⟨rfl, rfl, rfl, rfl, rfl⟩ rfl rfl rfl rfl rfl (by kernel_rfl) Try.func4 (by kernel_rfl)
    (of_decide_eq_true (by kernel_rfl)) (by unfold Func.isWrapper; first | (rw [if_pos (by decide +kernel)]; kernel_rfl) | (rw [if_neg (by decide +kernel)]; exact ⟨rfl, rfl⟩))
    (fun os started H enc _ => lifted os started H enc)

theorem proved : Rows.FnExactChannelOkSaid := over
#print axioms proved
end Go.Proofs.Ytiphjegaodaooaa.fnExactChannelOk
