/- FnExactFrames: at every text the program's Frames answers as the specification's, and its answer owns its memory; for every input, no condition. -/
import Derived.Test.YtkddnennodonhaaFrameMarks
import Derived.Test.YtkddnennodonhaaFramesImpl
import Derived.WalkKit
import Derived.ProofKit
import Derived.OpenShut
import Derived.ShutString
import Derived.Below
namespace Go.Proofs.Ytkddnennodonhaa.fnExactFrames
open Go.ChangeShapes Go.WideShapes Go.ChangeAt Go.RowKit
open Go.ChangeMaps (open_string shut_string)
set_option linter.unusedVariables false

theorem own : ownKnob Try.prog.godebug = none := by kernel_rfl

theorem walk (a0 : ByteArray) (w0 : a0.size ≤ maxLen) (w : World)  :
    Calls Try.prog 15 #[.string a0] w fun e w' => e = .returned (.bool true) ∧ Below w.heap.size w w' := by
  by_cases hbig : (1048576 : Int) < a0.size
  · go_enter Try.func15, Try.ntmps15
    go_wp2
    go_ret
    exact ⟨rfl, Below.refl _ _⟩
  have hs : a0.size ≤ 1048576 := by omega
  have hlen := fs.frs_length 200 a0
  obtain ⟨⟨l, nn, dd⟩, hl⟩ : ∃ L, fs.frs 200 a0 = L := ⟨_, rfl⟩
  have hspec := fun W => fs.spec_frames a0 W hs
  have himpl := fun W => fm.impl_frames a0 W hs
  rw [hl] at hlen
  simp only [hl] at hspec himpl
  have hlen : l.length ≤ 200 := hlen
  clear hl
  by_cases hnil : l = []
  · subst hnil
    go_enter Try.func15, Try.ntmps15
    have t2 : True := trivial
    go_wp2_with (first | (go_at_call 28; refine (hspec w).mono ?_; rintro e w1 ⟨⟨v1, rfl, hv1⟩, hb1⟩; obtain ⟨a1, c1, rfl⟩ := fk.rowed_nil hv1) | (go_at_call 27; have _t := t2; refine (himpl w1).mono ?_; rintro e w2 ⟨⟨v2, rfl, hv2⟩, hb2⟩; obtain ⟨a2, c2, rfl⟩ := fk.rowed_nil hv2; clear t2) | (go_at_call 51; refine (fk.eq_zero _ _ _ _ _).mono ?_; rintro e _ ⟨rfl, rfl⟩) | (go_at_call 52; refine (fk.mark_zero _ _ _ _).mono ?_; rintro e _ ⟨rfl, rfl⟩) | (go_at_call 53; refine (fk.held_zero _ _ _ _).mono ?_; rintro e _ ⟨rfl, rfl⟩) | (go_at_call 27; refine (himpl w2).mono ?_; rintro e w3 ⟨⟨v3, rfl, hv3⟩, hb3⟩; obtain ⟨a3, c3, rfl⟩ := fk.rowed_nil hv3))
    go_ret
    exact ⟨rfl, (hb1.trans (hb2.mono hb1.size)).trans (hb3.mono (Nat.le_trans hb1.size hb2.size))⟩
  · go_enter Try.func15, Try.ntmps15
    go_wp2_with (go_at_call 28; refine (hspec w).mono ?_; rintro e w1 ⟨⟨v1, rfl, hv1⟩, hb1⟩; obtain ⟨g1, c1, rfl, hg1, hh1⟩ := fk.rowed_cons hnil hv1)
    have hs1 := hb1.size
    have himpl1 := himpl w1
    clear hspec hv1
    have t2 : True := trivial
    go_wp2_with (go_at_call 27; have _t := t2; refine himpl1.mono ?_; rintro e w2 ⟨⟨v2, rfl, hv2⟩, hb2⟩; obtain ⟨g2, c2, rfl, hg2, hh2⟩ := fk.rowed_cons hnil hv2; clear t2)
    have hs2 := hb2.size
    have hg1' := fk.Has.lt hh1
    have hh12 := (fk.Has.below hh1 hb2 hg1')
    have heq1 := fk.eq_frames l g2 g1 c2 c1 w2 (by omega) hh2 hh12
    have t3 : True := trivial
    go_wp2_with (go_at_call 51; have _t := t3; refine heq1.mono ?_; rintro e w3 ⟨rfl, hb3⟩; clear t3)
    have hs3 := hb3.size
    have hh23 := (fk.Has.below hh2 hb3 (fk.Has.lt hh2))
    have hh13 := (fk.Has.below hh12 hb3 (fk.Has.lt hh12))
    have hmk := fk.mark_frames l g2 c2 1 w3 (by omega) (by omega) hh23
    have t4 : True := trivial
    go_wp2_with (go_at_call 52; have _t := t4; refine hmk.mono ?_; rintro e w4 ⟨rfl, hb4, hm4⟩; clear t4)
    have hs4 := hb4.size
    have hh14 := (fk.Has.below hh13 hb4 (by omega))
    have hhd := fk.held_frames l.length g2 c2 1 w4 (by omega) (by omega) hm4
    clear hmk heq1 himpl1 hh23 hh13 hh12 hv2
    have t5 : True := trivial
    go_wp2_with (go_at_call 53; have _t := t5; refine hhd.mono ?_; rintro e w5 ⟨rfl, hb5⟩; clear t5)
    have hs5 := hb5.size
    have hm5 := (fk.Has.below hm4 hb5 (fk.Has.lt hm4))
    have hh15 := (fk.Has.below hh14 hb5 (fk.Has.lt hh14))
    have hbw5 : Below w.heap.size w w5 := (((hb1.trans (hb2.mono hs1)).trans (hb3.mono (by omega))).trans (hb4.mono (by omega))).trans (hb5.mono (by omega))
    have himpl5 := himpl w5
    clear himpl hhd hh14 hm4
    have t6 : True := trivial
    go_wp2_with (go_at_call 27; have _t := t6; refine himpl5.mono ?_; rintro e w6 ⟨⟨v6, rfl, hv6⟩, hb6⟩; obtain ⟨g6, c6, rfl, hg6, hh6⟩ := fk.rowed_cons hnil hv6; clear t6)
    have hs6 := hb6.size
    have hh16 := (fk.Has.below hh15 hb6 (fk.Has.lt hh15))
    have hm6 := (fk.Has.below hm5 hb6 (fk.Has.lt hm5))
    have heq6 := fk.eq_frames l g6 g1 c6 c1 w6 (by omega) hh6 hh16
    have t7 : True := trivial
    go_wp2_with (go_at_call 51; have _t := t7; refine heq6.mono ?_; rintro e w7 ⟨rfl, hb7⟩; clear t7)
    have hs7 := hb7.size
    have hm7 := (fk.Has.below hm6 hb7 (fk.Has.lt hm6))
    have hhd7 := fk.held_frames l.length g2 c2 1 w7 (by omega) (by omega) hm7
    clear heq6 himpl5 hm5 hm6 hh15 hh16 hh6 hv6
    have t8 : True := trivial
    go_wp2_with (go_at_call 53; have _t := t8; refine hhd7.mono ?_; rintro e w8 ⟨rfl, hb8⟩; clear t8)
    go_ret
    exact ⟨rfl, ((hbw5.trans (hb6.mono (by omega))).trans (hb7.mono (by omega))).trans (hb8.mono (by omega))⟩

set_option maxRecDepth 100000 in
theorem lifted (os : Os) (started : os.Started) (H : Type) (enc : TypeId × Value → H) :
    ReturnsInHanded {} Try.checked os 15 .any (Rows.fnExactFramesSpec.pre6 enc Try.prog Try.f15 Rows.fnExactFramesRow.domain false) (Rows.fnExactFramesSpec.post enc Try.prog Try.f15 false true false false) := by
  refine returnsInHanded_of_change (C := Try.checked) own started (by kernel_rfl) Try.func15
    (ChangeSpec.witness6 (enc := enc) (C := Try.checked) false ⟨#[], #[.string ByteArray.empty], []⟩ 8 (by kernel_rfl) (by kernel_rfl) (by kernel_rfl) (by kernel_rfl)) ?_
  intro W base args ds gs before hval0 hW hcnd _
  have hval : ∀ (j : Nat) t v, Try.f15.params[j]? = some t → args[j]? = some v → Value.okWide Try.prog W .any base t v := hval0
  have hW' := hW
  obtain ⟨p, q, hA0, hV, rfl, hfz, hnd⟩ := hW
  have hA : DataW.TrodAll enc Try.prog W 0 (fun _ => true) true Try.f15.params.toList args.toList ds p := hA0
  rw [Try.params15] at hA hval
  obtain ⟨v0, vs0, d0, ds0, p0, q0, hargs, rfl, rfl, h0, r0⟩ := trodAll_cons hA
  obtain ⟨rfl, rfl, rfl⟩ := trodAll_nil r0
  obtain rfl : args = #[v0] := by cases args; simp_all
  obtain ⟨rfl, rfl⟩ := trodVars_none hV
  obtain ⟨a0, rfl, rfl, rfl, w0⟩ := open_string Try.underlying9 (hval 0 9 v0 rfl rfl) h0
  clear hA0 hval0
  simp only [List.append_nil] at hW'
  refine (walk a0 w0 W ).mono fun e W' ⟨he, hg⟩ => ?_
  subst he
  exact ⟨_, rfl, _, _, _, [], [], [], hW', (trodAll_cons_mk (shut_bool Try.underlying4 _) trodAll_mk0), (trodAll_cons_mk (shut_string Try.underlying9 w0) trodAll_mk0), rfl, hg.frame _, fun h => by cases h⟩

theorem over : Rows.fnExactFramesRow.holds Try.pinned (OpenSpec.ofChange Rows.fnExactFramesSpec) :=
  OpenClaim.holds_of_wide 15 Try.f15 rfl rfl rfl rfl rfl rfl rfl ⟨rfl, rfl, rfl, rfl, rfl⟩ rfl rfl rfl rfl rfl (by kernel_rfl) Try.func15 (by kernel_rfl)
    (of_decide_eq_true (by kernel_rfl)) (by unfold Func.isWrapper; first | (rw [if_pos (by decide +kernel)]; kernel_rfl) | (rw [if_neg (by decide +kernel)]; exact ⟨rfl, rfl⟩))
    (fun os started H enc _ => lifted os started H enc)

theorem proved : Rows.FnExactFramesSaid := over
#print axioms proved
end Go.Proofs.Ytkddnennodonhaa.fnExactFrames
