/- The law FnExactStoreSync holds: at every store that the law admits, of any memory, the program StoreSync answers as the specification (which is StoreSync of the document, chapter 9), writes into nothing of the store, and its answer owns its memory. No condition. -/
import Derived.Test.YtfoajjkcocppeaaStoreSyncLaw
import Derived.Test.YtfoajjkcocppeaaStoArg
import Derived.WalkKit
import Derived.ProofKit
import Derived.OpenShut
import Derived.ShutString
import Derived.Below
import Derived.OpenVars
namespace Go.Proofs.Ytfoajjkcocppeaa.fnExactStoreSync
open Go.ChangeShapes Go.WideShapes Go.ChangeAt Go.RowKit
open Go.ChangeMaps (open_string shut_string)
set_option linter.unusedVariables false

theorem own : ownKnob Try.prog.godebug = none := by kernel_rfl
theorem laidOut : laidOutB Try.prog = true := by kernel_rfl

theorem walk (ys0 : List flP.Pr) (rs0 : List rn.Rn) (ya0 ra0 : Option Addr) (yc0 rc0 : Nat) (lg0 : ByteArray) (sf0 : Int) (hyl0 : ys0.length ≤ maxLen) (hrl0 : rs0.length ≤ maxLen) (hyo0 : ∀ e ∈ ys0, flP.ok e) (hro0 : ∀ e ∈ rs0, rn.okR e) (hlg0 : lg0.size ≤ maxLen) (hsf0 : (Lit.int .i64 sf0).wf = true) (w : World)  (hY0 : fl.Row flP.c 3 w w.heap.size ya0 ys0) (hR0 : rn.VR w w.heap.size ra0 rs0) :
    Calls Try.prog 3 #[.agg #[.slice ya0 ys0.length yc0, .slice ra0 rs0.length rc0, .string lg0, .int .i64 sf0]] w fun e w' => e = .returned (.bool true) ∧ Below w.heap.size w w' := by
  exact lwStoreSync.walk ys0 rs0 ya0 ra0 yc0 rc0 lg0 sf0 w hyl0 hrl0 hyo0 hro0 hlg0 hY0 hR0

set_option maxRecDepth 100000 in
theorem lifted (os : Os) (started : os.Started) (H : Type) (enc : TypeId × Value → H) :
    ReturnsInHanded {} Try.checked os 3 .any (Rows.fnExactStoreSyncSpec.pre6 enc Try.prog Try.f3 Rows.fnExactStoreSyncRow.domain false) (Rows.fnExactStoreSyncSpec.post enc Try.prog Try.f3 false true false false) := by
  refine returnsInHanded_of_change (C := Try.checked) own started (by kernel_rfl) Try.func3
    (ChangeSpec.witness6 (enc := enc) (C := Try.checked) false ⟨#[], #[.agg #[.slice none 0 0, .slice none 0 0, .string ByteArray.empty, .int .i64 0]], []⟩ 8 (by kernel_rfl) (by kernel_rfl) (by kernel_rfl) (by kernel_rfl)) ?_
  intro W base args ds gs before hval0 hW hcnd _
  have hval : ∀ (j : Nat) t v, Try.f3.params[j]? = some t → args[j]? = some v → Value.okWide Try.prog W .any base t v := hval0
  have hW' := hW
  obtain ⟨p, q, hA0, hV, hb, hfz, hnd⟩ := hW
  have hA : DataW.TrodAll enc Try.prog W 0 (fun _ => true) true Try.f3.params.toList args.toList ds p := hA0
  rw [Try.params3] at hA hval
  obtain ⟨v0, vs0, d0, ds0, p0, q0, hargs, rfl, rfl, h0, r0⟩ := trodAll_cons hA
  obtain ⟨rfl, rfl, rfl⟩ := trodAll_nil r0
  obtain rfl : args = #[v0] := by cases args; simp_all
  obtain ⟨rfl, rfl⟩ := trodVars_none hV
  have k0 := h0
  have lt0 : ∀ x ∈ p0, x.block < W.heap.size := by obtain ⟨m, hm⟩ := k0; exact DataW.trod_lt m _ _ _ hm
  obtain ⟨ys0, rs0, ya0, ra0, yc0, rc0, lg0, sf0, rfl, hyl0, hrl0, hyo0, hro0, hlg0, hsf0, hY0, hR0⟩ := sa2.open_store (hval 0 27 v0 rfl rfl) h0
  clear hA0 hval0
  refine (walk ys0 rs0 ya0 ra0 yc0 rc0 lg0 sf0 hyl0 hrl0 hyo0 hro0 hlg0 hsf0 W  hY0 hR0).mono fun e W' ⟨he, hg⟩ => ?_
  subst he
  exact ⟨_, rfl, _, _, _, [], _, [], hW', (trodAll_cons_mk (shut_bool Try.underlying4 _) trodAll_mk0), (trodAll_cons_mk (Below.trod laidOut (by kernel_rfl) (of_decide_eq_true (by kernel_rfl)) k0 hg lt0) trodAll_mk0), rfl, hg.frame _, fun h => by cases h⟩

theorem over : Rows.fnExactStoreSyncRow.holds Try.pinned (OpenSpec.ofChange Rows.fnExactStoreSyncSpec) :=
  OpenClaim.holds_of_wide 3 Try.f3 rfl rfl rfl rfl rfl rfl rfl ⟨rfl, rfl, rfl, rfl, rfl⟩ rfl rfl rfl rfl rfl (by kernel_rfl) Try.func3 (by kernel_rfl)
    (of_decide_eq_true (by kernel_rfl)) (by unfold Func.isWrapper; first | (rw [if_pos (by decide +kernel)]; kernel_rfl) | (rw [if_neg (by decide +kernel)]; exact ⟨rfl, rfl⟩))
    (fun os started H enc _ => lifted os started H enc)

theorem proved : Rows.FnExactStoreSyncSaid := over
#print axioms proved
end Go.Proofs.Ytfoajjkcocppeaa.fnExactStoreSync
