/- FnExactPutFrame: at every frame the program's PutFrame answers as the specification's; for every input, no condition. -/
import Derived.Test.YtkddnennodonhaaPutFrameWalks
import Derived.Lib.SmallJoins
import Derived.WalkKit
import Derived.ProofKit
import Derived.OpenShut
import Derived.ShutString
import Derived.Below
namespace Go.Proofs.Ytkddnennodonhaa.fnExactPutFrame
open Go.ChangeShapes Go.WideShapes Go.ChangeAt Go.RowKit
open Go.ChangeMaps (open_string shut_string)
set_option linter.unusedVariables false

theorem own : ownKnob Try.prog.godebug = none := by kernel_rfl
theorem cellsFrame : Try.prog.cellsOf 50 = 3 := by kernel_rfl

theorem walk (k0 c0 : Int) (s0 : ByteArray) (wk0 : (Lit.int .i64 k0).wf = true) (wc0 : (Lit.int .i64 c0).wf = true) (ws0 : s0.size ≤ maxLen) (w : World)  :
    Calls Try.prog 13 #[.agg #[.int .i64 k0, .int .i64 c0, .string s0]] w fun e w' => e = .returned (.bool true) ∧ Below w.heap.size w w' := by
  by_cases hbig : (1048576 : Int) < s0.size
  · have hm : s0.size ≤ 9223372036854775807 := by unfold maxLen at ws0; omega
    go_enter Try.func13, Try.ntmps13
    go_wp2_with (go_at_call 48; refine (fr.szFrame_big k0 c0 s0 _ hm hbig).mono ?_; rintro e w1 ⟨rfl, hb1⟩)
    go_ret
    exact ⟨rfl, ((Below.refl _ _).alloc (Nat.le_refl _) _).trans (hb1.mono (by simp))⟩
  · have hs : s0.size ≤ 1048576 := by omega
    have bk := (bounds_i64 wk0).2
    have bc := (bounds_i64 wc0).2
    obtain ⟨b, hb⟩ : ∃ b, pf.bytes k0 c0 s0 = b := ⟨_, rfl⟩
    have h1 := fun W => pf.spec_put k0 c0 s0 W bk bc
    have h2 := fun W => pf.impl_put k0 c0 s0 W bk bc
    rw [hb] at h1 h2
    clear hb
    have hb0 : Below w.heap.size w (w.alloc (.cells #[.int .i64 k0, .int .i64 c0, .string s0] 50)) := (Below.refl _ _).alloc (Nat.le_refl _) _
    have hcell : ∀ W, Below (w.heap.size + 1) (w.alloc (.cells #[.int .i64 k0, .int .i64 c0, .string s0] 50)) W → W.cell? ⟨w.heap.size, 0, none⟩ = some (.int .i64 k0) ∧ W.cell? ⟨w.heap.size, 1, none⟩ = some (.int .i64 c0) ∧ W.cell? ⟨w.heap.size, 2, none⟩ = some (.string s0) := fun W hW =>
      ⟨(hW.cell (p := ⟨w.heap.size, 0, none⟩) (by simp)).trans (by simp [World.cell?_alloc_at]), (hW.cell (p := ⟨w.heap.size, 1, none⟩) (by simp)).trans (by simp [World.cell?_alloc_at]), (hW.cell (p := ⟨w.heap.size, 2, none⟩) (by simp)).trans (by simp [World.cell?_alloc_at])⟩
    have HCELL : Hid (∀ W, Below (w.heap.size + 1) (w.alloc (.cells #[.int .i64 k0, .int .i64 c0, .string s0] 50)) W → W.cell? ⟨w.heap.size, 0, none⟩ = some (.int .i64 k0) ∧ W.cell? ⟨w.heap.size, 1, none⟩ = some (.int .i64 c0) ∧ W.cell? ⟨w.heap.size, 2, none⟩ = some (.string s0)) := hcell
    clear hcell
    go_enter Try.func13, Try.ntmps13
    have t1 : True := trivial
    go_wp2_with (first | (go_at_call 48; refine (fr.szFrame_ok k0 c0 s0 _ hs).mono ?_; rintro e w1 ⟨rfl, hb1⟩; obtain ⟨g0, g1, g2⟩ := HCELL.out w1 (by simpa using hb1)) | (go_at_call 49; have _t := t1; refine (fr.toFrame k0 c0 s0 w1).mono ?_; rintro e w2 ⟨rfl, hb2⟩; clear t1) | (go_at_call 23; refine (h1 w2).mono ?_; rintro e w3 ⟨rfl, hb3⟩; have hb03 := (hb1.trans (hb2.mono hb1.size)).trans (hb3.mono (Nat.le_trans hb1.size hb2.size)); obtain ⟨g3, g4, g5⟩ := HCELL.out w3 (by simpa using hb03)) | (go_at_call 49; refine (fr.toFrame k0 c0 s0 w3).mono ?_; rintro e w4 ⟨rfl, hb4⟩) | (go_at_call 19; refine (h2 w4).mono ?_; rintro e w5 ⟨rfl, hb5⟩))
    go_ret
    exact ⟨rfl, hb0.trans (((hb03.trans (hb4.mono hb03.size)).trans (hb5.mono (Nat.le_trans hb03.size hb4.size))).mono hb0.size)⟩

set_option maxRecDepth 100000 in
theorem lifted (os : Os) (started : os.Started) (H : Type) (enc : TypeId × Value → H) :
    ReturnsInHanded {} Try.checked os 13 .any (Rows.fnExactPutFrameSpec.pre6 enc Try.prog Try.f13 Rows.fnExactPutFrameRow.domain false) (Rows.fnExactPutFrameSpec.post enc Try.prog Try.f13 false true false false) := by
  refine returnsInHanded_of_change (C := Try.checked) own started (by kernel_rfl) Try.func13
    (ChangeSpec.witness6 (enc := enc) (C := Try.checked) false ⟨#[], #[.agg #[.int .i64 0, .int .i64 0, .string ByteArray.empty]], []⟩ 8 (by kernel_rfl) (by kernel_rfl) (by kernel_rfl) (by kernel_rfl)) ?_
  intro W base args ds gs before hval0 hW hcnd _
  have hval : ∀ (j : Nat) t v, Try.f13.params[j]? = some t → args[j]? = some v → Value.okWide Try.prog W .any base t v := hval0
  have hW' := hW
  obtain ⟨p, q, hA0, hV, rfl, hfz, hnd⟩ := hW
  have hA : DataW.TrodAll enc Try.prog W 0 (fun _ => true) true Try.f13.params.toList args.toList ds p := hA0
  rw [Try.params13] at hA hval
  obtain ⟨v0, vs0, d0, ds0, p0, q0, hargs, rfl, rfl, h0, r0⟩ := trodAll_cons hA
  obtain ⟨rfl, rfl, rfl⟩ := trodAll_nil r0
  obtain rfl : args = #[v0] := by cases args; simp_all
  obtain ⟨rfl, rfl⟩ := trodVars_none hV
  obtain ⟨x0, x1, x2, y0, y1, y2, m, rfl, rfl, rfl, hy0, hy1, hy2⟩ := Joins.open_agg3 Try.underlying50 (by kernel_rfl) cellsFrame (hval 0 50 v0 rfl rfl) h0
  obtain ⟨k0, e0, rfl, wk0⟩ := DataW.trod_int Try.underlying3 hy0
  obtain ⟨c0, e1, rfl, wc0⟩ := DataW.trod_int Try.underlying3 hy1
  obtain ⟨s0, e2, rfl, ws0⟩ := DataW.trod_string Try.underlying9 hy2
  simp at e0 e1 e2
  subst e0 e1 e2
  clear hA0 hval0
  simp only [List.append_nil] at hW'
  refine (walk k0 c0 s0 wk0 wc0 ws0 W ).mono fun e W' ⟨he, hg⟩ => ?_
  subst he
  exact ⟨_, rfl, _, _, _, [], [], [], hW', (trodAll_cons_mk (shut_bool Try.underlying4 _) trodAll_mk0), (trodAll_cons_mk (Joins.shut_agg3 (y0 := (.lit (.int .i64 k0), [])) (y1 := (.lit (.int .i64 c0), [])) (y2 := (.lit (.string s0.data.toList), [])) Try.underlying50 (by kernel_rfl) cellsFrame ⟨1, by simp [DataW.trod, Try.underlying3, wk0]⟩ ⟨1, by simp [DataW.trod, Try.underlying3, wc0]⟩ ⟨1, by simp [DataW.trod, Try.underlying9, ws0]⟩) trodAll_mk0), rfl, hg.frame _, fun h => by cases h⟩

theorem over : Rows.fnExactPutFrameRow.holds Try.pinned (OpenSpec.ofChange Rows.fnExactPutFrameSpec) :=
  OpenClaim.holds_of_wide 13 Try.f13 rfl rfl rfl rfl rfl rfl rfl ⟨rfl, rfl, rfl, rfl, rfl⟩ rfl rfl rfl rfl rfl (by kernel_rfl) Try.func13 (by kernel_rfl)
    (of_decide_eq_true (by kernel_rfl)) (by unfold Func.isWrapper; first | (rw [if_pos (by decide +kernel)]; kernel_rfl) | (rw [if_neg (by decide +kernel)]; exact ⟨rfl, rfl⟩))
    (fun os started H enc _ => lifted os started H enc)

theorem proved : Rows.FnExactPutFrameSaid := over
#print axioms proved
end Go.Proofs.Ytkddnennodonhaa.fnExactPutFrame
