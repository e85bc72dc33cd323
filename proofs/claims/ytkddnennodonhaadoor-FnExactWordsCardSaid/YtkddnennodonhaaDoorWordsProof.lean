/- FnExactWords: at every text the program's Words answers as the specification's, its answer owns its memory, behind another call too; for every input, where the library's variables hold what its own text lays in them (the card ties them). -/
import Derived.Test.YtkddnennodonhaaDoorCards
import Derived.Test.YtkddnennodonhaaDoorTie
import Derived.Test.YtkddnennodonhaaDoorWordsWalks
import Derived.WalkKit
import Derived.ProofKit
import Derived.OpenShut
import Derived.ShutString
import Derived.Below
import Derived.OpenVars
import Derived.Deep.DeepHandedRow
import Derived.Lib.LaidTab
import Derived.Stop.LaidErr
namespace Go.Proofs.YtkddnennodonhaaDoor.fnExactWords
open Go.ChangeShapes Go.WideShapes Go.ChangeAt Go.RowKit
open Go.ChangeMaps (open_string shut_string)
set_option linter.unusedVariables false

theorem own : ownKnob Tryd.prog.godebug = none := by kernel_rfl
theorem laidOut : laidOutB Tryd.prog = true := by kernel_rfl

def put (vs : Array Value) : Obj → Obj
  | .cells _ t frozen => .cells vs t frozen
  | o => o
def ranges : List Int := [128, 191, 160, 191, 128, 159, 144, 191, 128, 143, 0, 0, 0, 0, 0, 0, 0, 0, 0, 0, 0, 0, 0, 0, 0, 0, 0, 0, 0, 0, 0, 0]
def laidIn (W : World) : World := { W with heap := (W.heap.modify 5 (put (Pinned.utf8FirstZ.map fun (z : Nat) => Value.int .u8 (z : Int)).toArray)).modify 6 (put (ranges.map (Value.int .u8)).toArray) }
theorem lenCell {W : World} (h : W.ShapedOpen Tryd.prog) : ∃ m, W.cell? ⟨4, 0, none⟩ = some (.int .i64 m) := shSplitLaid.laysM146.s1_3 W h

theorem walk (a0 : ByteArray) (w0 : a0.size ≤ maxLen) (w : World)  (m : Int) (hm : w.cell? ⟨4, 0, none⟩ = some (.int .i64 m)) :
    Calls Tryd.prog 8 #[.string a0] w fun e w' => e = .returned (.bool true) ∧ Below w.heap.size w w' := by
  by_cases hbig : (1048576 : Int) < a0.size
  · clear hm
    go_enter Tryd.func8, Tryd.ntmps8
    go_wp2
    go_ret
    exact ⟨rfl, Below.refl _ _⟩
  · have hs : a0.size ≤ 1048576 := by omega
    have hgM : 4 < w.heap.size := block_lt_of_cell hm
    have HM : Hid (w.cell? ⟨4, 0, none⟩ = some (.int .i64 m)) := hm
    clear hm
    have hlen : (wd.left a0 0).length ≤ 1048577 := by rw [wd.words_length]; have := wd.count_le a0; omega
    obtain ⟨l, hl⟩ : ∃ l, wd.left a0 0 = l := ⟨_, rfl⟩
    have hspec := fun W => wd.spec_words a0 W hs
    have himpl := fun (W : World) (h : W.cell? ⟨4, 0, none⟩ = some (.int .i64 m)) => wd.impl_words a0 m W hs h
    rw [hl] at hlen
    simp only [hl] at hspec himpl
    clear hl
    go_enter Tryd.func8, Tryd.ntmps8
    go_wp2_with (go_at_call 38; refine (hspec w).mono ?_; rintro e w1 ⟨g1, c1, rfl, hg1, hh1, hb1⟩)
    have hm1 := (hb1.cell (p := ⟨4, 0, none⟩) hgM).trans HM.out
    have hs1 := hb1.size
    have himpl1 := himpl w1 hm1
    clear hm1 hspec
    have t2 : True := trivial
    go_wp2_with (go_at_call 39; have _t := t2; refine himpl1.mono ?_; rintro e w2 ⟨rfl, hh2, hb2⟩; clear t2)
    have hs2 := hb2.size
    have hg1' := hh1.lt
    have hh12 := hh1.below hb2 hg1'
    have heq1 := sm.eq_strs l w1.heap.size g1 l.length c1 w2 (by omega) hh2 hh12
    have t3 : True := trivial
    go_wp2_with (go_at_call 40; have _t := t3; refine heq1.mono ?_; rintro e w3 ⟨rfl, hb3⟩; clear t3)
    have hs3 := hb3.size
    have hh23 := hh2.below hb3 hh2.lt
    have hh13 := hh12.below hb3 hh12.lt
    have hmk := sm.mark_strs l w1.heap.size l.length 1 w3 (by omega) (by omega) hh23
    have t4 : True := trivial
    go_wp2_with (go_at_call 41; have _t := t4; refine hmk.mono ?_; rintro e w4 ⟨rfl, hb4, hm4⟩; clear t4)
    have hs4 := hb4.size
    have hh14 := hh13.below hb4 hg1'
    have hhd := sm.held_strs l.length w1.heap.size l.length 1 w4 (by omega) (by omega) hm4
    clear hmk heq1 himpl1 hh23 hh13 hh12
    have t5 : True := trivial
    go_wp2_with (go_at_call 42; have _t := t5; refine hhd.mono ?_; rintro e w5 ⟨rfl, hb5⟩; clear t5)
    have hs5 := hb5.size
    have hm5 := hm4.below hb5 hm4.lt
    have hh15 := hh14.below hb5 hh14.lt
    have hbw5 : Below w.heap.size w w5 := (((hb1.trans (hb2.mono hs1)).trans (hb3.mono (by omega))).trans (hb4.mono hs1)).trans (hb5.mono (by omega))
    have hmx5 := (hbw5.cell (p := ⟨4, 0, none⟩) hgM).trans HM.out
    have himpl5 := himpl w5 hmx5
    clear hmx5 himpl hhd hh14 hm4
    have t6 : True := trivial
    go_wp2_with (go_at_call 39; have _t := t6; refine himpl5.mono ?_; rintro e w6 ⟨rfl, hh6, hb6⟩; clear t6)
    have hs6 := hb6.size
    have hh16 := hh15.below hb6 hh15.lt
    have hm6 := hm5.below hb6 hm5.lt
    have heq6 := sm.eq_strs l w5.heap.size g1 l.length c1 w6 (by omega) hh6 hh16
    have t7 : True := trivial
    go_wp2_with (go_at_call 40; have _t := t7; refine heq6.mono ?_; rintro e w7 ⟨rfl, hb7⟩; clear t7)
    have hs7 := hb7.size
    have hm7 := hm6.below hb7 hm6.lt
    have hhd7 := sm.held_strs l.length w1.heap.size l.length 1 w7 (by omega) (by omega) hm7
    clear heq6 himpl5 hm5 hm6 hh15 hh16 hh6
    have t8 : True := trivial
    go_wp2_with (go_at_call 42; have _t := t8; refine hhd7.mono ?_; rintro e w8 ⟨rfl, hb8⟩; clear t8)
    go_ret
    exact ⟨rfl, ((hbw5.trans (hb6.mono (by omega))).trans (hb7.mono (by omega))).trans (hb8.mono (by omega))⟩

set_option maxRecDepth 100000 in
theorem contract (H : Type) (enc : TypeId × Value → H) (W : World) (base : Nat) (args : Array Value) (ds gs : List (DataW H)) (before : List MemPlace)
    (hval : ∀ (j : Nat) t v, Tryd.f8.params[j]? = some t → args[j]? = some v → Value.okWide Tryd.prog W .any base t v)
    (hW : DataW.Whole enc Tryd.prog Tryd.f8.params.toList Rows.fnExactWordsSpec.vars false W args.toList ds gs before) (hL : laidMetH Tryd.prog Rows.fnExactWordsRow.laid W) (hsh : W.ShapedOpen Tryd.prog) :
    Calls Tryd.prog 8 args W fun e W' => ∃ v, e = .returned v ∧ Rows.fnExactWordsSpec.post enc Tryd.prog Tryd.f8 false true false false W args v W' := by
  have hW' := hW
  obtain ⟨p, q, hA0, hV, hb, hfz, hnd⟩ := hW
  have hA : DataW.TrodAll enc Tryd.prog W 0 (fun _ => true) true Tryd.f8.params.toList args.toList ds p := hA0
  rw [Tryd.params8] at hA hval
  obtain ⟨v0, vs0, d0, ds0, p0, q0, hargs, rfl, rfl, h0, r0⟩ := trodAll_cons hA
  obtain ⟨rfl, rfl, rfl⟩ := trodAll_nil r0
  obtain rfl : args = #[v0] := by cases args; simp_all
  obtain ⟨rfl, rfl⟩ := trodVars_none hV
  obtain ⟨a0, rfl, rfl, rfl, w0⟩ := open_string Tryd.underlying9 (hval 0 9 v0 rfl rfl) h0
  clear hA0
  refine (walk a0 w0 W  (Classical.choose (lenCell hsh)) (Classical.choose_spec (lenCell hsh))).mono fun e W' ⟨he, hg⟩ => ?_
  subst he
  exact ⟨_, rfl, _, _, _, [], [], [], hW', trodAll_cons_mk (shut_bool Tryd.underlying4 _) trodAll_mk0, trodAll_cons_mk (shut_string Tryd.underlying9 w0) trodAll_mk0, rfl, hg.frame _, fun h => by cases h⟩

theorem laid_met (os : Os) : laidMet Tryd.prog Rows.fnExactWordsRow.laid ((laidIn (World.holding Tryd.prog os ⟨#[], #[], []⟩)).forCall (fun _ _ => 0) ⟨#[], #[.string ByteArray.empty], []⟩).memory :=
  laidMet_of_run' 8 (by kernel_rfl) (by kernel_rfl)
theorem reads (os : Os) {H : Type} (enc : TypeId × Value → H) : ∃ gs places, DataW.whole enc Tryd.prog ((laidIn (World.holding Tryd.prog os ⟨#[], #[], []⟩)).forCall (fun _ _ => 0) ⟨#[], #[.string ByteArray.empty], []⟩).memory Tryd.f8.params.toList Rows.fnExactWordsSpec.vars false (#[.string ByteArray.empty] : Array Value).toList 8 = some ([.lit (.string [])], gs, places) :=
  ⟨[], [], by kernel_rfl⟩

set_option maxRecDepth 100000 in
theorem lifted (os : Os) (started : os.Started) (H : Type) (enc : TypeId × Value → H) (F : Stop.Interp) :
    ReturnsInHanded {} Tryd.checked os 8 .any ((OpenSpec.ofChange Rows.fnExactWordsSpec).preRow enc Tryd.prog Tryd.f8 Rows.fnExactWordsRow.domain false Rows.fnExactWordsRow.laid) (((OpenSpec.ofChange Rows.fnExactWordsSpec).at F).post enc Tryd.prog Tryd.f8 false true false false) := by
  obtain ⟨gs, places, hx⟩ := reads os enc
  refine returnsInHanded_of_row (C := Tryd.checked) (s := OpenSpec.ofChange Rows.fnExactWordsSpec) own started (by kernel_rfl) Tryd.func8
    (witness_row_at (enc := enc) (C := Tryd.checked) false (laidIn (World.holding Tryd.prog os ⟨#[], #[], []⟩)) #[.string ByteArray.empty] rfl (by kernel_rfl) (by kernel_rfl) (by kernel_rfl)
      (OpenSpec.preRow_of_cond 8 hx (by kernel_rfl) (fun k hk => by cases hk) (by kernel_rfl) (laid_met os))) ?_
  intro W base args ds gs before hval hW _ _ _ hL hsh _
  exact contract H enc W base args ds gs before hval hW hL hsh

theorem said : Rows.FnExactWordsSaid :=
  OpenClaim.holds_of_cond 8 Tryd.f8 rfl rfl rfl rfl rfl rfl rfl ⟨rfl, rfl, rfl, rfl, rfl⟩ rfl rfl rfl rfl rfl (by kernel_rfl) Tryd.func8 (by kernel_rfl)
    (of_decide_eq_true (by kernel_rfl)) (by unfold Func.isWrapper; first | (rw [if_pos (by decide +kernel)]; kernel_rfl) | (rw [if_neg (by decide +kernel)]; exact ⟨rfl, rfl⟩))
    (fun os started H enc _ F => by rw [OpenClaim.pre_eq_preRow]; exact lifted os started H enc F)

theorem plain (f : FuncId) (fn : Func) (hf : Tryd.pinned.checked.prog.funcNamed "loop.example/g00227/laws.FnExactWords" = some f) (hfn : Tryd.pinned.checked.prog.funcs[f]? = some fn) :
    true = Tryd.pinned.checked.prog.looks [] ∧ ∀ (j : Nat) t, fn.params[j]? = some t → Tryd.pinned.checked.prog.wantsStandIn t = false := by
  obtain rfl : f = 8 := Option.some.inj ((show Tryd.prog.funcNamed "loop.example/g00227/laws.FnExactWords" = some 8 by kernel_rfl).symm.trans hf) |>.symm
  obtain rfl : fn = Tryd.f8 := (Option.some.inj (Tryd.func8.symm.trans hfn)).symm
  refine ⟨by kernel_rfl, fun j t ht => ?_⟩
  rw [Tryd.params8] at ht
  obtain rfl : t = 9 := by simpa using Array.mem_of_getElem? ht
  exact (show Tryd.prog.wantsStandIn 9 = false by kernel_rfl)

theorem card : Rows.FnExactWordsCardSaid :=
  Claim7.holds_tied_plain_at .later [] _ _ _ _ said (fun _ h => by cases h) (by kernel_rfl) (fun _ h => by cases h) fnExactWords_row_tie rfl ⟨rfl, rfl⟩ (by kernel_rfl) rfl plain (by kernel_rfl)
#print axioms card
end Go.Proofs.YtkddnennodonhaaDoor.fnExactWords
