/- The law FnExactReturn holds: at every queue, every owner, tag and either bool that the law admits, of any memory, the program Return answers as the specification (which is Return of the document, chapter 5), writes into nothing of them, and its answer owns its memory, behind another call too; no condition of my own. -/
import Derived.Test.YtdondjnihonacaaReturnLaw
import Derived.Test.YtdondjnihonacaaQueueArg
import Derived.WalkKit
import Derived.ProofKit
import Derived.OpenShut
import Derived.ShutString
import Derived.Below
import Derived.OpenVars
namespace Go.Proofs.Ytdondjnihonacaa.fnExactReturn
open Go.ChangeShapes Go.WideShapes Go.ChangeAt Go.RowKit
open Go.ChangeMaps (open_string shut_string)
set_option linter.unusedVariables false

theorem own : ownKnob Try.prog.godebug = none := by kernel_rfl
theorem laidOut : laidOutB Try.prog = true := by kernel_rfl

theorem walk (nm0 : ByteArray) (nx0 : Int) (rs0 : List flM.Ms) (hs0 : List flH.Hd) (ra0 ha0 : Option Addr) (rc0 hc0 : Nat) (hnm0 : nm0.size ≤ maxLen) (hnx0 : (Lit.int .i64 nx0).wf = true) (hrl0 : rs0.length ≤ maxLen) (hhl0 : hs0.length ≤ maxLen) (hro0 : ∀ e ∈ rs0, flM.ok e) (hho0 : ∀ e ∈ hs0, flH.ok e) (a1 : Int) (w1 : (Lit.int .i64 a1).wf = true) (a2 : Int) (w2 : (Lit.int .i64 a2).wf = true) (a3 : Bool) (w : World)  (hR0 : fl.Row flM.c 5 w w.heap.size ra0 rs0) (hH0 : fl.Row flH.c 7 w w.heap.size ha0 hs0) :
    Calls Try.prog 6 #[.agg #[.string nm0, .int .i64 nx0, .slice ra0 rs0.length rc0, .slice ha0 hs0.length hc0], .int .i64 a1, .int .i64 a2, .bool a3] w fun e w' => e = .returned (.bool true) ∧ Below w.heap.size w w' := by
  exact lwReturn.walk nm0 nx0 rs0 hs0 ra0 ha0 rc0 hc0 a1 a2 a3 w hnm0 hrl0 hhl0 hro0 hho0 hR0 hH0

set_option maxRecDepth 100000 in
theorem lifted (os : Os) (started : os.Started) (H : Type) (enc : TypeId × Value → H) :
    ReturnsInHanded {} Try.checked os 6 .any (Rows.fnExactReturnSpec.pre6 enc Try.prog Try.f6 Rows.fnExactReturnRow.domain false) (Rows.fnExactReturnSpec.post enc Try.prog Try.f6 false true false false) := by
  refine returnsInHanded_of_change (C := Try.checked) own started (by kernel_rfl) Try.func6
    (ChangeSpec.witness6 (enc := enc) (C := Try.checked) false ⟨#[], #[.agg #[.string ByteArray.empty, .int .i64 0, .slice none 0 0, .slice none 0 0], .int .i64 0, .int .i64 0, .bool false], []⟩ 8 (by kernel_rfl) (by kernel_rfl) (by kernel_rfl) (by kernel_rfl)) ?_
  intro W base args ds gs before hval0 hW hcnd _
  have hval : ∀ (j : Nat) t v, Try.f6.params[j]? = some t → args[j]? = some v → Value.okWide Try.prog W .any base t v := hval0
  have hW' := hW
  obtain ⟨p, q, hA0, hV, hb, hfz, hnd⟩ := hW
  have hA : DataW.TrodAll enc Try.prog W 0 (fun _ => true) true Try.f6.params.toList args.toList ds p := hA0
  rw [Try.params6] at hA hval
  obtain ⟨v0, vs0, d0, ds0, p0, q0, hargs, rfl, rfl, h0, r0⟩ := trodAll_cons hA
  obtain ⟨v1, vs1, d1, ds1, p1, q1, rfl, rfl, rfl, h1, r1⟩ := trodAll_cons r0
  obtain ⟨v2, vs2, d2, ds2, p2, q2, rfl, rfl, rfl, h2, r2⟩ := trodAll_cons r1
  obtain ⟨v3, vs3, d3, ds3, p3, q3, rfl, rfl, rfl, h3, r3⟩ := trodAll_cons r2
  obtain ⟨rfl, rfl, rfl⟩ := trodAll_nil r3
  obtain rfl : args = #[v0, v1, v2, v3] := by cases args; simp_all
  obtain ⟨rfl, rfl⟩ := trodVars_none hV
  have k0 := h0
  have lt0 : ∀ x ∈ p0, x.block < W.heap.size := by obtain ⟨m, hm⟩ := k0; exact DataW.trod_lt m _ _ _ hm
  obtain ⟨nm0, nx0, rs0, hs0, ra0, ha0, rc0, hc0, rfl, hnm0, hnx0, hrl0, hhl0, hro0, hho0, hR0, hH0⟩ := qa.open_queue (hval 0 25 v0 rfl rfl) h0
  obtain ⟨a1, rfl, rfl, rfl, w1⟩ := open_int Try.underlying3 (hval 1 3 v1 rfl rfl) h1
  obtain ⟨a2, rfl, rfl, rfl, w2⟩ := open_int Try.underlying3 (hval 2 3 v2 rfl rfl) h2
  obtain ⟨a3, rfl, rfl, rfl⟩ := open_bool Try.underlying4 (hval 3 4 v3 rfl rfl) h3
  clear hA0 hval0
  refine (walk nm0 nx0 rs0 hs0 ra0 ha0 rc0 hc0 hnm0 hnx0 hrl0 hhl0 hro0 hho0 a1 w1 a2 w2 a3 W  hR0 hH0).mono fun e W' ⟨he, hg⟩ => ?_
  subst he
  exact ⟨_, rfl, _, _, _, [], _, [], hW', (trodAll_cons_mk (shut_bool Try.underlying4 _) trodAll_mk0), (trodAll_cons_mk (Below.trod laidOut (by kernel_rfl) (of_decide_eq_true (by kernel_rfl)) k0 hg lt0) (trodAll_cons_mk (shut_int Try.underlying3 w1) (trodAll_cons_mk (shut_int Try.underlying3 w2) (trodAll_cons_mk (shut_bool Try.underlying4 _) trodAll_mk0)))), rfl, hg.frame _, fun h => by cases h⟩

theorem over : Rows.fnExactReturnRow.holds Try.pinned (OpenSpec.ofChange Rows.fnExactReturnSpec) :=
  OpenClaim.holds_of_wide 6 Try.f6 rfl rfl rfl rfl rfl rfl rfl ⟨rfl, rfl, rfl, rfl, rfl⟩ rfl rfl rfl rfl rfl (by kernel_rfl) Try.func6 (by kernel_rfl)
    (of_decide_eq_true (by kernel_rfl)) (by unfold Func.isWrapper; first | (rw [if_pos (by decide +kernel)]; kernel_rfl) | (rw [if_neg (by decide +kernel)]; exact ⟨rfl, rfl⟩))
    (fun os started H enc _ => lifted os started H enc)

theorem proved : Rows.FnExactReturnSaid := over
#print axioms proved
end Go.Proofs.Ytdondjnihonacaa.fnExactReturn
