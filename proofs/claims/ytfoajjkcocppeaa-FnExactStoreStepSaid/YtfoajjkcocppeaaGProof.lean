/- The law FnExactStoreStep holds: at every store and every two numbers that the law admits, of any memory, the program StoreStep answers as the specification (which is StoreStep of the document, chapter 9), writes into nothing of the store, and its answer owns its memory. No condition. -/
import Derived.Test.YtfoajjkcocppeaaGLaw
import Derived.Test.YtfoajjkcocppeaaIntRange
import Derived.Test.YtfoajjkcocppeaaStoArg
import Derived.WalkKit
import Derived.ProofKit
import Derived.OpenShut
import Derived.ShutString
import Derived.Below
import Derived.OpenVars

/- The law FnExactStoreStep holds: at every store and every two numbers that the law admits, of any memory, the program StoreStep answers as the specification (which is StoreStep of the document, chapter 9), writes into nothing of the store, and its answer owns its memory. No condition. -/
namespace Go.Proofs.Ytfoajjkcocppeaa.fnExactStoreStep
open Go.ChangeShapes Go.WideShapes Go.ChangeAt Go.RowKit
open Go.ChangeMaps (open_string shut_string)
set_option linter.unusedVariables false

theorem own : ownKnob Try.prog.godebug = none := by kernel_rfl
theorem laidOut : laidOutB Try.prog = true := by kernel_rfl

theorem walk (ys0 : List flP.Pr) (rs0 : List rn.Rn) (ya0 ra0 : Option Addr) (yc0 rc0 : Nat) (lg0 : ByteArray) (sf0 : Int) (hyl0 : ys0.length ≤ maxLen) (hrl0 : rs0.length ≤ maxLen) (hyo0 : ∀ e ∈ ys0, flP.ok e) (hro0 : ∀ e ∈ rs0, rn.okR e) (hlg0 : lg0.size ≤ maxLen) (hsf0 : (Lit.int .i64 sf0).wf = true) (a1 : Int) (w1 : (Lit.int .i64 a1).wf = true) (a2 : Int) (w2 : (Lit.int .i64 a2).wf = true) (w : World)  (hY0 : fl.Row flP.c 3 w w.heap.size ya0 ys0) (hR0 : rn.VR w w.heap.size ra0 rs0) :
    Calls Try.prog 4 #[.agg #[.slice ya0 ys0.length yc0, .slice ra0 rs0.length rc0, .string lg0, .int .i64 sf0], .int .i64 a1, .int .i64 a2] w fun e w' => e = .returned (.bool true) ∧ Below w.heap.size w w' := by
  obtain ⟨b1, b2⟩ := irg.range w1
  obtain ⟨b3, b4⟩ := irg.range w2
  exact lwStoreStep.walk ys0 rs0 ya0 ra0 yc0 rc0 lg0 sf0 a1 a2 w hyl0 hrl0 hyo0 hro0 hlg0 b1 b2 b3 b4 hY0 hR0

set_option maxRecDepth 100000 in
theorem lifted (os : Os) (started : os.Started) (H : Type) (enc : TypeId × Value → H) :
    ReturnsInHanded {} Try.checked os 4 .any (Rows.fnExactStoreStepSpec.pre6 enc Try.prog Try.f4 Rows.fnExactStoreStepRow.domain false) (Rows.fnExactStoreStepSpec.post enc Try.prog Try.f4 false true false false) := by
  refine returnsInHanded_of_change (C := Try.checked) own started (by kernel_rfl) Try.func4
    (ChangeSpec.witness6 (enc := enc) (C := Try.checked) false ⟨#[], #[.agg #[.slice none 0 0, .slice none 0 0, .string ByteArray.empty, .int .i64 0], .int .i64 0, .int .i64 0], []⟩ 8 (by kernel_rfl) (by kernel_rfl) (by kernel_rfl) (by kernel_rfl)) ?_
  intro W base args ds gs before hval0 hW hcnd _
  have hval : ∀ (j : Nat) t v, Try.f4.params[j]? = some t → args[j]? = some v → Value.okWide Try.prog W .any base t v := hval0
  have hW' := hW
  obtain ⟨p, q, hA0, hV, hb, hfz, hnd⟩ := hW
  have hA : DataW.TrodAll enc Try.prog W 0 (fun _ => true) true Try.f4.params.toList args.toList ds p := hA0
  rw [Try.params4] at hA hval
  obtain ⟨v0, vs0, d0, ds0, p0, q0, hargs, rfl, rfl, h0, r0⟩ := trodAll_cons hA
  obtain ⟨v1, vs1, d1, ds1, p1, q1, rfl, rfl, rfl, h1, r1⟩ := trodAll_cons r0
  obtain ⟨v2, vs2, d2, ds2, p2, q2, rfl, rfl, rfl, h2, r2⟩ := trodAll_cons r1
  obtain ⟨rfl, rfl, rfl⟩ := trodAll_nil r2
  obtain rfl : args = #[v0, v1, v2] := by cases args; simp_all
  obtain ⟨rfl, rfl⟩ := trodVars_none hV
  have k0 := h0
  have lt0 : ∀ x ∈ p0, x.block < W.heap.size := by obtain ⟨m, hm⟩ := k0; exact DataW.trod_lt m _ _ _ hm
  obtain ⟨ys0, rs0, ya0, ra0, yc0, rc0, lg0, sf0, rfl, hyl0, hrl0, hyo0, hro0, hlg0, hsf0, hY0, hR0⟩ := sa2.open_store (hval 0 27 v0 rfl rfl) h0
  obtain ⟨a1, rfl, rfl, rfl, w1⟩ := open_int Try.underlying3 (hval 1 3 v1 rfl rfl) h1
  obtain ⟨a2, rfl, rfl, rfl, w2⟩ := open_int Try.underlying3 (hval 2 3 v2 rfl rfl) h2
  clear hA0 hval0
  refine (walk ys0 rs0 ya0 ra0 yc0 rc0 lg0 sf0 hyl0 hrl0 hyo0 hro0 hlg0 hsf0 a1 w1 a2 w2 W  hY0 hR0).mono fun e W' ⟨he, hg⟩ => ?_
  subst he
  exact ⟨_, rfl, _, _, _, [], _, [], hW', (trodAll_cons_mk (shut_bool Try.underlying4 _) trodAll_mk0), (trodAll_cons_mk (Below.trod laidOut (by kernel_rfl) (of_decide_eq_true (by kernel_rfl)) k0 hg lt0) (trodAll_cons_mk (shut_int Try.underlying3 w1) (trodAll_cons_mk (shut_int Try.underlying3 w2) trodAll_mk0))), rfl, hg.frame _, fun h => by cases h⟩

theorem over : Rows.fnExactStoreStepRow.holds Try.pinned (OpenSpec.ofChange Rows.fnExactStoreStepSpec) :=
  OpenClaim.holds_of_wide 4 Try.f4 rfl rfl rfl rfl rfl rfl rfl ⟨rfl, rfl, rfl, rfl, rfl⟩ rfl rfl rfl rfl rfl (by kernel_rfl) Try.func4 (by kernel_rfl)
    (of_decide_eq_true (by kernel_rfl)) (by unfold Func.isWrapper; first | (rw [if_pos (by decide +kernel)]; kernel_rfl) | (rw [if_neg (by decide +kernel)]; exact ⟨rfl, rfl⟩))
    (fun os started H enc _ => lifted os started H enc)

theorem proved : Rows.FnExactStoreStepSaid := over
#print axioms proved
end Go.Proofs.Ytfoajjkcocppeaa.fnExactStoreStep
