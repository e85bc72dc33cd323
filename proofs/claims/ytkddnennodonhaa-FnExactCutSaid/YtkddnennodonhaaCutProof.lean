/- FnExactCut: at every body and size the program's Cut answers as the specification's, and its answer owns its memory; for every input, no condition. -/
import Derived.Test.YtkddnennodonhaaCutWalks
import Derived.WalkKit
import Derived.ProofKit
import Derived.OpenShut
import Derived.ShutString
import Derived.Below
namespace Go.Proofs.Ytkddnennodonhaa.fnExactCut
open Go.ChangeShapes Go.WideShapes Go.ChangeAt Go.RowKit
open Go.ChangeMaps (open_string shut_string)
set_option linter.unusedVariables false

theorem own : ownKnob Try.prog.godebug = none := by kernel_rfl

theorem walk (a0 : ByteArray) (w0 : a0.size ≤ maxLen) (a1 : Int) (w1 : (Lit.int .i64 a1).wf = true) (w : World)  :
    Calls Try.prog 16 #[.string a0, .int .i64 a1] w fun e w' => e = .returned (.bool true) ∧ Below w.heap.size w w' := by
  by_cases hbig : (1048576 : Int) < a0.size
  · go_enter Try.func16, Try.ntmps16
    go_wp2
    go_ret
    exact ⟨rfl, Below.refl _ _⟩
  have hs : a0.size ≤ 1048576 := by omega
  have hlen := ct.cuts_length a0 a1
  obtain ⟨l, hl⟩ : ∃ l, ct.cuts a0 a1 = l := ⟨_, rfl⟩
  have hspec := fun W => ct.spec_all a0 a1 W hs
  have himpl := fun W => ct.impl_all a0 a1 W hs
  rw [hl] at hlen
  simp only [hl] at hspec himpl
  clear hl
  by_cases hnil : l = []
  · subst hnil
    go_enter Try.func16, Try.ntmps16
    have t2 : True := trivial
    go_wp2_with (first | (go_at_call 33; refine (hspec w).mono ?_; rintro e w1 ⟨⟨v1, rfl, hv1⟩, hb1⟩; obtain ⟨a1', c1, rfl⟩ := ct.rowed_nil hv1) | (go_at_call 31; have _t := t2; refine (himpl w1).mono ?_; rintro e w2 ⟨⟨v2, rfl, hv2⟩, hb2⟩; obtain ⟨a2, c2, rfl⟩ := ct.rowed_nil hv2; clear t2) | (go_at_call 54; refine (ct.eq_zero _ _ _ _ _).mono ?_; rintro e _ ⟨rfl, rfl⟩) | (go_at_call 55; refine (ct.mark_zero _ _ _ _).mono ?_; rintro e _ ⟨rfl, rfl⟩) | (go_at_call 56; refine (ct.held_zero _ _ _ _).mono ?_; rintro e _ ⟨rfl, rfl⟩) | (go_at_call 31; refine (himpl w2).mono ?_; rintro e w3 ⟨⟨v3, rfl, hv3⟩, hb3⟩; obtain ⟨a3, c3, rfl⟩ := ct.rowed_nil hv3))
    go_ret
    exact ⟨rfl, (hb1.trans (hb2.mono hb1.size)).trans (hb3.mono (Nat.le_trans hb1.size hb2.size))⟩
  · go_enter Try.func16, Try.ntmps16
    go_wp2_with (go_at_call 33; refine (hspec w).mono ?_; rintro e w1 ⟨⟨v1, rfl, hv1⟩, hb1⟩; obtain ⟨g1, c1, rfl, hg1, hh1⟩ := ct.rowed_cons hnil hv1)
    have hs1 := hb1.size
    have himpl1 := himpl w1
    clear hspec hv1
    have t2 : True := trivial
    go_wp2_with (go_at_call 31; have _t := t2; refine himpl1.mono ?_; rintro e w2 ⟨⟨v2, rfl, hv2⟩, hb2⟩; obtain ⟨g2, c2, rfl, hg2, hh2⟩ := ct.rowed_cons hnil hv2; clear t2)
    have hs2 := hb2.size
    have hg1' := hh1.lt
    have hh12 := hh1.below hb2 hg1'
    have heq1 := sm.eq_strs l g2 g1 c2 c1 w2 (by omega) hh2 hh12
    have t3 : True := trivial
    go_wp2_with (go_at_call 54; have _t := t3; refine heq1.mono ?_; rintro e w3 ⟨rfl, hb3⟩; clear t3)
    have hs3 := hb3.size
    have hh23 := hh2.below hb3 hh2.lt
    have hh13 := hh12.below hb3 hh12.lt
    have hmk := sm.mark_strs l g2 c2 1 w3 (by omega) (by omega) hh23
    have t4 : True := trivial
    go_wp2_with (go_at_call 55; have _t := t4; refine hmk.mono ?_; rintro e w4 ⟨rfl, hb4, hm4⟩; clear t4)
    have hs4 := hb4.size
    have hh14 := hh13.below hb4 (by omega)
    have hhd := sm.held_strs l.length g2 c2 1 w4 (by omega) (by omega) hm4
    clear hmk heq1 himpl1 hh23 hh13 hh12 hv2
    have t5 : True := trivial
    go_wp2_with (go_at_call 56; have _t := t5; refine hhd.mono ?_; rintro e w5 ⟨rfl, hb5⟩; clear t5)
    have hs5 := hb5.size
    have hm5 := hm4.below hb5 hm4.lt
    have hh15 := hh14.below hb5 hh14.lt
    have hbw5 : Below w.heap.size w w5 := (((hb1.trans (hb2.mono hs1)).trans (hb3.mono (by omega))).trans (hb4.mono (by omega))).trans (hb5.mono (by omega))
    have himpl5 := himpl w5
    clear himpl hhd hh14 hm4
    have t6 : True := trivial
    go_wp2_with (go_at_call 31; have _t := t6; refine himpl5.mono ?_; rintro e w6 ⟨⟨v6, rfl, hv6⟩, hb6⟩; obtain ⟨g6, c6, rfl, hg6, hh6⟩ := ct.rowed_cons hnil hv6; clear t6)
    have hs6 := hb6.size
    have hh16 := hh15.below hb6 hh15.lt
    have hm6 := hm5.below hb6 hm5.lt
    have heq6 := sm.eq_strs l g6 g1 c6 c1 w6 (by omega) hh6 hh16
    have t7 : True := trivial
    go_wp2_with (go_at_call 54; have _t := t7; refine heq6.mono ?_; rintro e w7 ⟨rfl, hb7⟩; clear t7)
    have hs7 := hb7.size
    have hm7 := hm6.below hb7 hm6.lt
    have hhd7 := sm.held_strs l.length g2 c2 1 w7 (by omega) (by omega) hm7
    clear heq6 himpl5 hm5 hm6 hh15 hh16 hh6 hv6
    have t8 : True := trivial
    go_wp2_with (go_at_call 56; have _t := t8; refine hhd7.mono ?_; rintro e w8 ⟨rfl, hb8⟩; clear t8)
    go_ret
    exact ⟨rfl, ((hbw5.trans (hb6.mono (by omega))).trans (hb7.mono (by omega))).trans (hb8.mono (by omega))⟩

set_option maxRecDepth 100000 in
theorem lifted (os : Os) (started : os.Started) (H : Type) (enc : TypeId × Value → H) :
    ReturnsInHanded {} Try.checked os 16 .any (Rows.fnExactCutSpec.pre6 enc Try.prog Try.f16 Rows.fnExactCutRow.domain false) (Rows.fnExactCutSpec.post enc Try.prog Try.f16 false true false false) := by
  refine returnsInHanded_of_change (C := Try.checked) own started (by kernel_rfl) Try.func16
    (ChangeSpec.witness6 (enc := enc) (C := Try.checked) false ⟨#[], #[.string ByteArray.empty, .int .i64 0], []⟩ 8 (by kernel_rfl) (by kernel_rfl) (by kernel_rfl) (by kernel_rfl)) ?_
  intro W base args ds gs before hval0 hW hcnd _
  have hval : ∀ (j : Nat) t v, Try.f16.params[j]? = some t → args[j]? = some v → Value.okWide Try.prog W .any base t v := hval0
  have hW' := hW
  obtain ⟨p, q, hA0, hV, rfl, hfz, hnd⟩ := hW
  have hA : DataW.TrodAll enc Try.prog W 0 (fun _ => true) true Try.f16.params.toList args.toList ds p := hA0
  rw [Try.params16] at hA hval
  obtain ⟨v0, vs0, d0, ds0, p0, q0, hargs, rfl, rfl, h0, r0⟩ := trodAll_cons hA
  obtain ⟨v1, vs1, d1, ds1, p1, q1, rfl, rfl, rfl, h1, r1⟩ := trodAll_cons r0
  obtain ⟨rfl, rfl, rfl⟩ := trodAll_nil r1
  obtain rfl : args = #[v0, v1] := by cases args; simp_all
  obtain ⟨rfl, rfl⟩ := trodVars_none hV
  obtain ⟨a0, rfl, rfl, rfl, w0⟩ := open_string Try.underlying9 (hval 0 9 v0 rfl rfl) h0
  obtain ⟨a1, rfl, rfl, rfl, w1⟩ := open_int Try.underlying3 (hval 1 3 v1 rfl rfl) h1
  clear hA0 hval0
  simp only [List.append_nil] at hW'
  refine (walk a0 w0 a1 w1 W ).mono fun e W' ⟨he, hg⟩ => ?_
  subst he
  exact ⟨_, rfl, _, _, _, [], [], [], hW', (trodAll_cons_mk (shut_bool Try.underlying4 _) trodAll_mk0), (trodAll_cons_mk (shut_string Try.underlying9 w0) (trodAll_cons_mk (shut_int Try.underlying3 w1) trodAll_mk0)), rfl, hg.frame _, fun h => by cases h⟩

theorem over : Rows.fnExactCutRow.holds Try.pinned (OpenSpec.ofChange Rows.fnExactCutSpec) :=
  OpenClaim.holds_of_wide 16 Try.f16 rfl rfl rfl rfl rfl rfl rfl ⟨rfl, rfl, rfl, rfl, rfl⟩ rfl rfl rfl rfl rfl (by kernel_rfl) Try.func16 (by kernel_rfl)
    (of_decide_eq_true (by kernel_rfl)) (by unfold Func.isWrapper; first | (rw [if_pos (by decide +kernel)]; kernel_rfl) | (rw [if_neg (by decide +kernel)]; exact ⟨rfl, rfl⟩))
    (fun os started H enc _ => lifted os started H enc)

theorem proved : Rows.FnExactCutSaid := over
#print axioms proved
end Go.Proofs.Ytkddnennodonhaa.fnExactCut
