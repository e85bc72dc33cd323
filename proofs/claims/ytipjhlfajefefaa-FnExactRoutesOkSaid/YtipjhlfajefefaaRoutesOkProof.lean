/- The law FnExactRoutesOk holds: at every routes that the law admits, of any memory, the program RoutesOk answers as the specification (which is RoutesOk of the document, chapter 4); no condition of my own. -/
import Derived.Test.YtipjhlfajefefaaRouteOkLaw
import Derived.Test.YtipjhlfajefefaaRouteArg
import Derived.WalkKit
import Derived.ProofKit
import Derived.OpenShut
import Derived.ShutString
import Derived.Below
import Derived.OpenVars
namespace Go.Proofs.Ytipjhlfajefefaa.fnExactRoutesOk
open Go.ChangeShapes Go.WideShapes Go.ChangeAt Go.RowKit
open Go.ChangeMaps (open_string shut_string)
set_option linter.unusedVariables false

theorem own : ownKnob Try.prog.godebug = none := by kernel_rfl
theorem laidOut : laidOutB Try.prog = true := by kernel_rfl

theorem walk (es0 : List rr.Ex) (bs0 : List rr.Bi) (ea0 ba0 : Option Addr) (ec0 bc0 : Nat) (hel0 : es0.length ≤ maxLen) (hbl0 : bs0.length ≤ maxLen) (hes0 : ∀ e ∈ es0, e.n.size ≤ maxLen) (hbs0 : ∀ e ∈ bs0, e.x.size ≤ maxLen ∧ e.k.size ≤ maxLen ∧ e.q.size ≤ maxLen) (w : World)  (hE0 : ra.SE w w.heap.size ea0 es0) (hB0 : ra.SB w w.heap.size ba0 bs0) :
    Calls Try.prog 5 #[.agg #[.slice ea0 es0.length ec0, .slice ba0 bs0.length bc0]] w fun e w' => e = .returned (.bool true) ∧ Below w.heap.size w w' := by
  exact rw0.walk es0 bs0 ea0 ba0 ec0 bc0 w hel0 hbl0 hes0 hbs0 hE0 hB0

set_option maxRecDepth 100000 in
theorem lifted (os : Os) (started : os.Started) (H : Type) (enc : TypeId × Value → H) :
    ReturnsInHanded {} Try.checked os 5 .any (Rows.fnExactRoutesOkSpec.pre6 enc Try.prog Try.f5 Rows.fnExactRoutesOkRow.domain false) (Rows.fnExactRoutesOkSpec.post enc Try.prog Try.f5 false true false false) := by
  refine returnsInHanded_of_change (C := Try.checked) own started (by kernel_rfl) Try.func5
    (ChangeSpec.witness6 (enc := enc) (C := Try.checked) false ⟨#[], #[.agg #[.slice none 0 0, .slice none 0 0]], []⟩ 8 (by kernel_rfl) (by kernel_rfl) (by kernel_rfl) (by kernel_rfl)) ?_
  intro W base args ds gs before hval0 hW hcnd _
  have hval : ∀ (j : Nat) t v, Try.f5.params[j]? = some t → args[j]? = some v → Value.okWide Try.prog W .any base t v := hval0
  have hW' := hW
  obtain ⟨p, q, hA0, hV, hb, hfz, hnd⟩ := hW
  have hA : DataW.TrodAll enc Try.prog W 0 (fun _ => true) true Try.f5.params.toList args.toList ds p := hA0
  rw [Try.params5] at hA hval
  obtain ⟨v0, vs0, d0, ds0, p0, q0, hargs, rfl, rfl, h0, r0⟩ := trodAll_cons hA
  obtain ⟨rfl, rfl, rfl⟩ := trodAll_nil r0
  obtain rfl : args = #[v0] := by cases args; simp_all
  obtain ⟨rfl, rfl⟩ := trodVars_none hV
  have k0 := h0
  have lt0 : ∀ x ∈ p0, x.block < W.heap.size := by obtain ⟨m, hm⟩ := k0; exact DataW.trod_lt m _ _ _ hm
  obtain ⟨es0, bs0, ea0, ba0, ec0, bc0, rfl, hel0, hbl0, hes0, hbs0, hE0, hB0⟩ := rg.open_routes (hval 0 29 v0 rfl rfl) h0
  clear hA0 hval0
  refine (walk es0 bs0 ea0 ba0 ec0 bc0 hel0 hbl0 hes0 hbs0 W  hE0 hB0).mono fun e W' ⟨he, hg⟩ => ?_
  subst he
  exact ⟨_, rfl, _, _, _, [], _, [], hW', (trodAll_cons_mk (shut_bool Try.underlying4 _) trodAll_mk0), (trodAll_cons_mk (Below.trod laidOut (by kernel_rfl) (of_decide_eq_true (by kernel_rfl)) k0 hg lt0) trodAll_mk0), rfl, hg.frame _, fun h => by cases h⟩

theorem over : Rows.fnExactRoutesOkRow.holds Try.pinned (OpenSpec.ofChange Rows.fnExactRoutesOkSpec) :=
  OpenClaim.holds_of_wide 5 Try.f5 rfl rfl rfl rfl rfl rfl rfl ⟨rfl, rfl, rfl, rfl, rfl⟩ rfl rfl rfl rfl rfl (by kernel_rfl) Try.func5 (by kernel_rfl)
    (of_decide_eq_true (by kernel_rfl)) (by unfold Func.isWrapper; first | (rw [if_pos (by decide +kernel)]; kernel_rfl) | (rw [if_neg (by decide +kernel)]; exact ⟨rfl, rfl⟩))
    (fun os started H enc _ => lifted os started H enc)

theorem proved : Rows.FnExactRoutesOkSaid := over
#print axioms proved
end Go.Proofs.Ytipjhlfajefefaa.fnExactRoutesOk
