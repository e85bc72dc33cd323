/- The two sums, the specification's and the program's, answer alike at every text of at most 1048576 bytes, where the program's table holds its sixteen numbers; no world is changed. -/
import Derived.Test.YtlfhfcgcfggjcaaDoorStreamMarkSpec
import Derived.Test.YtlfhfcgcfggjcaaDoorMw05
import Derived.Test.YtlfhfcgcfggjcaaDoorStreamReadSpec
import Derived.Test.YtlfhfcgcfggjcaaDoorAppendOpt
import Derived.Test.YtlfhfcgcfggjcaaDoorRows
import Derived.WalkKit
import Derived.WalkLawsBesides
import Derived.ProofKit
import Derived.OpenShut
import Derived.ShutString
import Derived.Laws.BitsAllLaws

/- The program's StreamMark: one more mark, or one changed, where that is right, in rows of its own; new memory alone. -/
namespace Go.Proofs.YtlfhfcgcfggjcaaDoor.imk
open Go.ChangeShapes Go.WideShapes Go.ChangeAt Go.RowKit Go.Proofs.YtlfhfcgcfggjcaaDoor.fl Go.Proofs.YtlfhfcgcfggjcaaDoor.fo Go.Proofs.YtlfhfcgcfggjcaaDoor.rc Go.Proofs.YtlfhfcgcfggjcaaDoor.rr Go.Proofs.YtlfhfcgcfggjcaaDoor.rf Go.Proofs.YtlfhfcgcfggjcaaDoor.rs Go.Proofs.YtlfhfcgcfggjcaaDoor.ro Go.Proofs.YtlfhfcgcfggjcaaDoor.st Go.Proofs.YtlfhfcgcfggjcaaDoor.srd Go.Proofs.YtlfhfcgcfggjcaaDoor.scp Go.Proofs.YtlfhfcgcfggjcaaDoor.spw Go.Proofs.YtlfhfcgcfggjcaaDoor.smp Go.Proofs.YtlfhfcgcfggjcaaDoor.iput
set_option linter.unusedVariables false

theorem flat_set : ∀ (ms : List Ex) (p : Nat) (r : ByteArray) (o : Int), ((ms.flatMap flK.c).set (p * 2) (.string r)).set (p * 2 + 1) (.int .i64 o) = if p < ms.length then (ms.set p ⟨r, o⟩).flatMap flK.c else ((ms.flatMap flK.c).set (p * 2) (.string r)).set (p * 2 + 1) (.int .i64 o)
  | [], p, r, o => by simp
  | a :: l, 0, r, o => by simp [flK.c]
  | a :: l, p + 1, r, o => by
    have h := flat_set l p r o
    by_cases hp : p < l.length
    · rw [if_pos hp] at h
      rw [if_pos (by simpa using hp)]
      show (((a :: l).flatMap flK.c).set ((p + 1) * 2) (.string r)).set ((p + 1) * 2 + 1) (.int .i64 o) = (a :: l.set p ⟨r, o⟩).flatMap flK.c
      rw [List.flatMap_cons, List.flatMap_cons, ← h, show (p + 1) * 2 = p * 2 + 1 + 1 by omega]
      simp [flK.c]
    · rw [if_neg (by simpa using hp)]
theorem owns_put {W : World} {B gm c p : Nat} {ms : List Ex} {r : ByteArray} {o : Int} (h : W.ownsRow B 45 2 (.slice (some ⟨gm, 0, none⟩) ms.length c) ms.length (ms.flatMap flK.c)) (hp : p < ms.length) : ((W.setCell ⟨gm, p * 2, none⟩ (.string r)).setCell ⟨gm, p * 2 + 1, none⟩ (.int .i64 o)).ownsRow B 45 2 (.slice (some ⟨gm, 0, none⟩) (ms.set p ⟨r, o⟩).length c) (ms.set p ⟨r, o⟩).length ((ms.set p ⟨r, o⟩).flatMap flK.c) := by
  obtain ⟨h0, ⟨h1, _⟩ | ⟨g', cap', cur, h1, h2, h3, h4, h5, h6, h7⟩⟩ := h
  · cases h1
  cases h1
  have hs := bset (bset h3 (p * 2) (.string r)) (p * 2 + 1) (.int .i64 o)
  rw [List.length_set]
  refine ⟨by rw [flat_len flK.c_len, List.length_set], .inr ⟨gm, c, _, rfl, h2, hs, h4, h5, by simp [h6], ?_⟩⟩
  have hf := flat_set ms p r o
  rw [if_pos hp] at hf
  rw [← hf, ← h7]
  simp [List.take_set]
theorem owns_free {W : World} {B gm c n : Nat} {xs : List Value} (h : W.ownsRow B 45 2 (.slice (some ⟨gm, 0, none⟩) n c) n xs) (j : Nat) : W.frozen? ⟨gm, j, none⟩ = false := by
  obtain ⟨_, cur, hc⟩ := owns_at h
  exact bfree hc j
section
variable {w : World} {sn : ByteArray} {lo nx : Int} {es : List flY.En} {ms : List Ex} {g h : Option Addr} {cg ch : Nat} {n8 g1 c1 h1 c2 p : Nat} {r : ByteArray} {o : Int} {X X' : World}
/-- the mark at its place is changed -/
theorem sm_put (hs : SM w sn lo nx es ms g h cg ch n8 g1 c1 h1 c2 ms X) (hp : p < ms.length) (hset : setM ms r o = ms.set p ⟨r, o⟩) : SM w sn lo nx es ms g h cg ch n8 g1 c1 h1 c2 (setM ms r o) ((X.setCell ⟨h1, p * 2, none⟩ (.string r)).setCell ⟨h1, p * 2 + 1, none⟩ (.int .i64 o)) := by
  have hb := (owns_at hs.om).1
  have n1 := owns_ne (by decide) hs.om hs.box
  have n2 := owns_ne (by decide) hs.om hs.res
  have n3 := owns_ne (by decide) hs.om hs.out
  have n4 : g1 ≠ h1 := apart hs.oe hs.om
  have hl : (setM ms r o).length = ms.length := by rw [hset, List.length_set]
  have ho := owns_put (r := r) (o := o) hs.om hp
  rw [← hset] at ho
  refine ⟨(hs.bel.setCell (by show w.heap.size ≤ h1; omega) _).setCell (by show w.heap.size ≤ h1; omega) _, boff (boff hs.box _ _ _ (Ne.symm n1)) _ _ _ (Ne.symm n1), boff (boff hs.res _ _ _ (Ne.symm n2)) _ _ _ (Ne.symm n2), ?_, owns_set (owns_set hs.oe n4 _) n4 _, ho, hs.h8⟩
  rw [hl]
  exact boff (boff hs.out _ _ _ (Ne.symm n3)) _ _ _ (Ne.symm n3)
/-- a row of the new list is stored -/
theorem sm_new {b n cc : Nat} {xs : List Value} {x4 : Value} (hs : ST w sn lo nx es ms g h cg ch n8 g1 c1 x4 X) (hg : X.grownBy X' (some b)) (hm : X.ownsRow (w.heap.size + 2) 45 2 (.slice (some ⟨b, 0, none⟩) n cc) n xs) (hn : X'.ownsRow (w.heap.size + 2) 45 2 (.slice (some ⟨h1, 0, none⟩) (setM ms r o).length c2) (setM ms r o).length ((setM ms r o).flatMap flK.c)) :
    SM w sn lo nx es ms g h cg ch n8 g1 c1 h1 c2 (setM ms r o) (X'.setCell ⟨n8, 4, none⟩ (.slice (some ⟨h1, 0, none⟩) (setM ms r o).length c2)) ∧ X'.cell? ⟨n8, 4, none⟩ = some x4 ∧ X'.frozen? ⟨n8, 4, none⟩ = false :=
  ⟨(hs.grown hg hm).store hn, bcell (hs.grown hg hm).out rfl, bfree (hs.grown hg hm).out 4⟩
end

set_option maxRecDepth 100000 in
set_option maxHeartbeats 1000000 in
theorem impl_mark (sn : ByteArray) (lo nx : Int) (es : List flY.En) (ms : List Ex) (g h cg ch : Nat) (r : ByteArray) (o : Int) (w : World) (F : Fit sn es ms) (hbb : r.size ≤ 1048576) (hY : RY w g es) (hE : RE w h ms) (ga ha : Option Addr) (hga : Hid (0 < es.length → ga = some ⟨g, 0, none⟩)) (hha : Hid (0 < ms.length → ha = some ⟨h, 0, none⟩)) :
    Calls Tryd.prog 6 #[.agg #[.string sn, .int .i64 lo, .int .i64 nx, .slice ga es.length cg, .slice ha ms.length ch], .string r, .int .i64 o] w fun e w' => ∃ ga ca gb cb, e = .returned (.tuple #[.agg #[.string sn, .int .i64 lo, .int .i64 nx, .slice (some ⟨ga, 0, none⟩) es.length ca, .slice (some ⟨gb, 0, none⟩) (ansM sn lo nx es ms r o).length cb], .bool (fits sn lo nx es ms r o)]) ∧ w.heap.size ≤ ga ∧ w.heap.size ≤ gb ∧ ga ≠ gb ∧ es.length ≤ ca ∧ OwnO flY.c 3 43 w' ga 0 es es.length ∧ OwnO flK.c 2 45 w' gb 0 (ansM sn lo nx es ms r o) (ansM sn lo nx es ms r o).length ∧ Below w.heap.size w w' := by
  have hWb : Below w.heap.size w ((w.alloc (.cells #[.string sn, .int .i64 lo, .int .i64 nx, .slice ga es.length cg, .slice ha ms.length ch] 27)).alloc (.cells #[.string ⟨#[]⟩, .int .i64 0, .int .i64 0, .slice none 0 0, .slice none 0 0] 27)) := ((Below.refl _ _).alloc (Nat.le_refl _) _).alloc (by simp) _
  have hA0 := bold (bnew w #[.string sn, .int .i64 lo, .int .i64 nx, .slice ga es.length cg, .slice ha ms.length ch] 27) (.cells #[.string ⟨#[]⟩, .int .i64 0, .int .i64 0, .slice none 0 0, .slice none 0 0] 27)
  have hR0 := bnew (w.alloc (.cells #[.string sn, .int .i64 lo, .int .i64 nx, .slice ga es.length cg, .slice ha ms.length ch] 27)) #[.string ⟨#[]⟩, .int .i64 0, .int .i64 0, .slice none 0 0, .slice none 0 0] 27
  rw [World.size_alloc] at hR0
  have hS0 : ((w.alloc (.cells #[.string sn, .int .i64 lo, .int .i64 nx, .slice ga es.length cg, .slice ha ms.length ch] 27)).alloc (.cells #[.string ⟨#[]⟩, .int .i64 0, .int .i64 0, .slice none 0 0, .slice none 0 0] 27)).heap.size = w.heap.size + 2 := by simp
  have hok := sti.impl_ok sn lo nx es ms g h cg ch ((w.alloc (.cells #[.string sn, .int .i64 lo, .int .i64 nx, .slice ga es.length cg, .slice ha ms.length ch] 27)).alloc (.cells #[.string ⟨#[]⟩, .int .i64 0, .int .i64 0, .slice none 0 0, .slice none 0 0] 27)) F (hY.below hWb) (hE.below hWb) ga ha hga hha
  have HF : Hid (Fit sn es ms) := F
  have HY : Hid (RY w g es) := hY
  have HE : Hid (RE w h ms) := hE
  have HAE : Hid (ansM sn lo nx es ms r o = if fits sn lo nx es ms r o = true then setM ms r o else ms) := rfl
  obtain ⟨AE, hAE⟩ : ∃ AE, ansM sn lo nx es ms r o = AE := ⟨_, rfl⟩
  rw [hAE] at HAE
  simp only [hAE]
  obtain ⟨ft, hft⟩ : ∃ ft, fits sn lo nx es ms r o = ft := ⟨_, rfl⟩
  rw [hft] at HAE
  simp only [hft]
  have HFT : Hid (fits sn lo nx es ms r o = ft) := hft
  have hel := F.el
  have hml := F.ml
  have hem : es.length ≤ maxLen := by unfold maxLen; omega
  have hmm : ms.length ≤ maxLen := by unfold maxLen; omega
  obtain ⟨W, hW⟩ : ∃ W, (w.alloc (.cells #[.string sn, .int .i64 lo, .int .i64 nx, .slice ga es.length cg, .slice ha ms.length ch] 27)).alloc (.cells #[.string ⟨#[]⟩, .int .i64 0, .int .i64 0, .slice none 0 0, .slice none 0 0] 27) = W := ⟨_, rfl⟩
  rw [hW] at hWb hA0 hR0 hS0 hok
  have HA0 : Hid (W.heap[w.heap.size]? = some (.cells #[.string sn, .int .i64 lo, .int .i64 nx, .slice ga es.length cg, .slice ha ms.length ch] 27 (0, 0))) := hA0
  have HR0 : Hid (W.heap[w.heap.size + 1]? = some (.cells #[.string ⟨#[]⟩, .int .i64 0, .int .i64 0, .slice none 0 0, .slice none 0 0] 27 (0, 0))) := hR0
  have x0 : W.cell? ⟨w.heap.size, 0, none⟩ = some (.string sn) := bcell hA0 rfl
  have x1 : W.cell? ⟨w.heap.size, 1, none⟩ = some (.int .i64 lo) := bcell hA0 rfl
  have x2 : W.cell? ⟨w.heap.size, 2, none⟩ = some (.int .i64 nx) := bcell hA0 rfl
  have x3 : W.cell? ⟨w.heap.size, 3, none⟩ = some (.slice ga es.length cg) := bcell hA0 rfl
  have x4 : W.cell? ⟨w.heap.size, 4, none⟩ = some (.slice ha ms.length ch) := bcell hA0 rfl
  clear hY hE F hAE hft hA0 hR0
  cases hob : okB sn lo nx es ms with
  | false =>
    rw [hob] at hok
    obtain rfl : ft = false := by rw [← HFT.out]; unfold fits; rw [hob]; rfl
    obtain rfl : ms = AE := HAE.out.symm
    go_enter Tryd.func6, Tryd.ntmps6
    go_wp2_with (go_at_call 23; fail)
    clear hW
    refine hok.mono ?_
    rintro e w1 ⟨rfl, hb1⟩
    have hbw1 : Below w.heap.size w w1 := hWb.trans (hb1.mono hWb.size)
    have a1 := bstay HA0.out hb1 (by omega)
    have r1 := bstay HR0.out hb1 (by omega)
    have hc := cst.copy_stream sn lo nx es ms g h cg ch w1 HF.out (HY.out.below hbw1) (HE.out.below hbw1) ga ha hga hha
    have hs1 := hb1.size
    have y0 : w1.cell? ⟨w.heap.size, 0, none⟩ = some (.string sn) := bcell a1 rfl
    have y1 : w1.cell? ⟨w.heap.size, 1, none⟩ = some (.int .i64 lo) := bcell a1 rfl
    have y2 : w1.cell? ⟨w.heap.size, 2, none⟩ = some (.int .i64 nx) := bcell a1 rfl
    have y3 : w1.cell? ⟨w.heap.size, 3, none⟩ = some (.slice ga es.length cg) := bcell a1 rfl
    have y4 : w1.cell? ⟨w.heap.size, 4, none⟩ = some (.slice ha ms.length ch) := bcell a1 rfl
    have HR1 : Hid (w1.heap[w.heap.size + 1]? = some (.cells #[.string ⟨#[]⟩, .int .i64 0, .int .i64 0, .slice none 0 0, .slice none 0 0] 27 (0, 0))) := r1
    clear hok a1 r1 x0 x1 x2 x3 x4
    go_wp2_with (go_at_call 24; fail)
    refine hc.mono ?_
    rintro e w2 ⟨ge, gm, rfl, hge, hgm, hne, oe2, om2, hb2⟩
    have r2 := bstay HR1.out hb2 (by omega)
    have hbw2 : Below w.heap.size w w2 := hbw1.trans (hb2.mono hbw1.size)
    have HOE : Hid (OwnO flY.c 3 43 w2 ge 0 es es.length) := of_own oe2
    have HOM : Hid (OwnO flK.c 2 45 w2 gm 0 ms ms.length) := of_own om2
    have z0 : w2.cell? ⟨w.heap.size + 1, 0, none⟩ = some (.string ⟨#[]⟩) := bcell r2 rfl
    have z1 : w2.cell? ⟨w.heap.size + 1, 1, none⟩ = some (.int .i64 0) := bcell r2 rfl
    have z2 : w2.cell? ⟨w.heap.size + 1, 2, none⟩ = some (.int .i64 0) := bcell r2 rfl
    have z3 : w2.cell? ⟨w.heap.size + 1, 3, none⟩ = some (.slice none 0 0) := bcell r2 rfl
    have z4 : w2.cell? ⟨w.heap.size + 1, 4, none⟩ = some (.slice none 0 0) := bcell r2 rfl
    have z0f := bfree r2 0
    have z1f := bfree r2 1
    have z2f := bfree r2 2
    have z3f := bfree r2 3
    have z4f := bfree r2 4
    clear hc oe2 om2 r2 hb2 y0 y1 y2 y3 y4
    go_wp2
    refine bodyPost_ret (v := .tuple #[.agg #[.string sn, .int .i64 lo, .int .i64 nx, .slice (some ⟨ge, 0, none⟩) es.length es.length, .slice (some ⟨gm, 0, none⟩) ms.length ms.length], .bool false]) (by simp [results, Tryd.results6, go_sem, z0, z1, z2, z3, z4]) rfl ⟨ge, es.length, gm, ms.length, rfl, by omega, by omega, hne, Nat.le_refl _, ?_, ?_, ?_⟩
    · exact res_own HOE.out (by omega)
    · exact res_own HOM.out (by omega)
    · exact fin_below hbw2 (Nat.le_succ _)
  | true =>
    rw [hob] at hok
    have HOK : Hid (OkT sn lo nx es ms) := okB_true.1 hob
    have hnx := HOK.out.nx0
    have hml4 := HOK.out.ml
    go_enter Tryd.func6, Tryd.ntmps6
    go_wp2_with (go_at_call 23; fail)
    clear hW
    refine hok.mono ?_
    rintro e w1 ⟨rfl, hb1⟩
    have hbw1 : Below w.heap.size w w1 := hWb.trans (hb1.mono hWb.size)
    have a1 := bstay HA0.out hb1 (by omega)
    have r1 := bstay HR0.out hb1 (by omega)
    have hc := cst.copy_stream sn lo nx es ms g h cg ch w1 HF.out (HY.out.below hbw1) (HE.out.below hbw1) ga ha hga hha
    have hs1 := hb1.size
    have y0 : w1.cell? ⟨w.heap.size, 0, none⟩ = some (.string sn) := bcell a1 rfl
    have y1 : w1.cell? ⟨w.heap.size, 1, none⟩ = some (.int .i64 lo) := bcell a1 rfl
    have y2 : w1.cell? ⟨w.heap.size, 2, none⟩ = some (.int .i64 nx) := bcell a1 rfl
    have y3 : w1.cell? ⟨w.heap.size, 3, none⟩ = some (.slice ga es.length cg) := bcell a1 rfl
    have y4 : w1.cell? ⟨w.heap.size, 4, none⟩ = some (.slice ha ms.length ch) := bcell a1 rfl
    have HA1 : Hid (w1.heap[w.heap.size]? = some (.cells #[.string sn, .int .i64 lo, .int .i64 nx, .slice ga es.length cg, .slice ha ms.length ch] 27 (0, 0))) := a1
    have HR1 : Hid (w1.heap[w.heap.size + 1]? = some (.cells #[.string ⟨#[]⟩, .int .i64 0, .int .i64 0, .slice none 0 0, .slice none 0 0] 27 (0, 0))) := r1
    clear hok a1 r1 x0 x1 x2 x3 x4
    go_wp2_with (go_at_call 24; fail)
    refine hc.mono ?_
    rintro e w2 ⟨ge, gm, rfl, hge, hgm, hne, oe2, om2, hb2⟩
    have hs2 := hb2.size
    have hsm : SM w sn lo nx es ms ga ha cg ch w2.heap.size ge es.length gm ms.length ms (w2.alloc (.cells #[.string sn, .int .i64 lo, .int .i64 nx, .slice (some ⟨ge, 0, none⟩) es.length es.length, .slice (some ⟨gm, 0, none⟩) ms.length ms.length] 27)) :=
      ⟨(hbw1.trans (hb2.mono hbw1.size)).alloc (by omega) _, bold (bstay HA1.out hb2 (by omega)) _, bold (bstay HR1.out hb2 (by omega)) _, bnew w2 _ _, (own_owns flY.c_len oe2 (by omega) hem).alloc _, (own_owns flK.c_len om2 (by omega) hmm).alloc _, by omega⟩
    have hcl := fun W => cl.clone r W (by omega)
    obtain ⟨X, hX⟩ : ∃ X, w2.alloc (.cells #[.string sn, .int .i64 lo, .int .i64 nx, .slice (some ⟨ge, 0, none⟩) es.length es.length, .slice (some ⟨gm, 0, none⟩) ms.length ms.length] 27) = X := ⟨_, rfl⟩
    rw [hX] at hsm
    have HSM : Hid (SM w sn lo nx es ms ga ha cg ch w2.heap.size ge es.length gm ms.length ms X) := hsm
    clear hc oe2 om2 hb2 hsm y0 y1 y2 y3 y4
    go_wp2_with (go_at_call 25; fail)
    clear hX
    refine (hcl _).mono ?_
    rintro e w3 ⟨rfl, hb3⟩
    have hs3 := HSM.out.on hb3
    have hal4 : Below w3.heap.size w3 (w3.alloc (.cells #[.string r, .int .i64 o] 45)) := (Below.refl _ _).alloc (Nat.le_refl _) _
    have hs4 := hs3.on hal4
    have hm4 := bnew w3 #[.string r, .int .i64 o] 45
    obtain ⟨Z, hZ⟩ : ∃ Z, w3.alloc (.cells #[.string r, .int .i64 o] 45) = Z := ⟨_, rfl⟩
    rw [hZ] at hs4 hm4 hal4
    have n4 : Z.cell? ⟨w2.heap.size, 4, none⟩ = some (.slice (some ⟨gm, 0, none⟩) ms.length ms.length) := bcell hs4.out rfl
    have m0 : Z.cell? ⟨w3.heap.size, 0, none⟩ = some (.string r) := bcell hm4 rfl
    have m1 : Z.cell? ⟨w3.heap.size, 1, none⟩ = some (.int .i64 o) := bcell hm4 rfl
    have hsr := mf.search_mark ms gm ms.length r o Z hml (re_owns hs4.om) (up_mon HOK.out.mu r)
    have HS4 : Hid (SM w sn lo nx es ms ga ha cg ch w2.heap.size ge es.length gm ms.length ms Z) := hs4
    have HM4 : Hid (Z.heap[w3.heap.size]? = some (.cells #[.string r, .int .i64 o] 45 (0, 0))) := hm4
    have hlt4 := (Array.getElem?_eq_some_iff.1 hm4).1
    clear hcl hs3 hs4 hm4 HSM hb3 hal4
    go_wp2_with (go_at_call 26; fail)
    clear hZ n4 m0 m1
    refine (hsr _ (fun _ => rfl)).mono ?_
    rintro e w5 ⟨⟨p, bb, rfl, hp, hbt⟩, hb5⟩
    have hs5 := HS4.out.on hb5
    have hm5 := bstay HM4.out hb5 hlt4
    have hp0 : p ≤ ms.length := hp.1
    have HP : Hid (posM ms r = p) := posM_of hp
    have n4 : w5.cell? ⟨w2.heap.size, 4, none⟩ = some (.slice (some ⟨gm, 0, none⟩) ms.length ms.length) := bcell hs5.out rfl
    have m0 : w5.cell? ⟨w3.heap.size, 0, none⟩ = some (.string r) := bcell hm5 rfl
    have m1 : w5.cell? ⟨w3.heap.size, 1, none⟩ = some (.int .i64 o) := bcell hm5 rfl
    have HS5 : Hid (SM w sn lo nx es ms ga ha cg ch w2.heap.size ge es.length gm ms.length ms w5) := hs5
    have HM5 : Hid (w5.heap[w3.heap.size]? = some (.cells #[.string r, .int .i64 o] 45 (0, 0))) := hm5
    have HBT : Hid (bb = true ↔ isM ms p r = true) := by unfold Hid; rw [isM_true]; exact hbt
    have hF3 : Fit sn es (setM ms r o) := fit_mark HF.out HOK.out hbb
    have HF3 : Hid (Fit sn es (setM ms r o)) := hF3
    clear hsr hp hbt hb5 HS4 HM4 hm5 hF3
    cases bb with
    | true =>
      have his : isM ms p r = true := HBT.out.1 rfl
      have hpl : p < ms.length := by
        obtain ⟨a, ha, _⟩ := isM_true.1 his
        exact (List.getElem?_eq_some_iff.1 ha).1
      have hset : setM ms r o = ms.set p ⟨r, o⟩ := setM_there HP.out his
      have hsl : (setM ms r o).length = ms.length := by rw [hset, List.length_set]
      have hsm := sm_put (r := r) (o := o) hs5 hpl hset
      have fz0 := owns_free hs5.om (p * 2)
      have fz1 := owns_free hs5.om (p * 2 + 1)
      have cz0 : ∃ v, w5.cell? ⟨gm, p * 2, none⟩ = some v := ⟨_, ((re_owns hs5.om).2 p _ (List.getElem?_eq_getElem hpl)).1⟩
      have cz1 : ∃ v, w5.cell? ⟨gm, p * 2 + 1, none⟩ = some v := ⟨_, ((re_owns hs5.om).2 p _ (List.getElem?_eq_getElem hpl)).2⟩
      obtain ⟨v0, cz0⟩ := cz0
      obtain ⟨v1, cz1⟩ := cz1
      have hpi : (p : Int) < (ms.length : Int) := by omega
      obtain ⟨Y, hYe⟩ : ∃ Y, (w5.setCell ⟨gm, p * 2, none⟩ (.string r)).setCell ⟨gm, p * 2 + 1, none⟩ (.int .i64 o) = Y := ⟨_, rfl⟩
      rw [hYe] at hsm
      have HN5 : Hid ((setM ms r o).length = ms.length) := hsl
      have HY3 : Hid (SM w sn lo nx es ms ga ha cg ch w2.heap.size ge es.length gm ms.length (setM ms r o) Y) := hsm
      have hok3 := sti.impl_ok sn lo nx es (setM ms r o) ge gm es.length ms.length Y HF3.out (ry_owns hsm.oe) (re_owns hsm.om) _ _ (fun _ => rfl) (fun _ => rfl)
      rw [HN5.out] at hok3
      have o0 : Y.cell? ⟨w2.heap.size, 0, none⟩ = some (.string sn) := bcell hsm.out rfl
      have o1 : Y.cell? ⟨w2.heap.size, 1, none⟩ = some (.int .i64 lo) := bcell hsm.out rfl
      have o2 : Y.cell? ⟨w2.heap.size, 2, none⟩ = some (.int .i64 nx) := bcell hsm.out rfl
      have o3 : Y.cell? ⟨w2.heap.size, 3, none⟩ = some (.slice (some ⟨ge, 0, none⟩) es.length es.length) := bcell hsm.out rfl
      have o4 : Y.cell? ⟨w2.heap.size, 4, none⟩ = some (.slice (some ⟨gm, 0, none⟩) (setM ms r o).length ms.length) := bcell hsm.out rfl
      rw [HN5.out] at o4
      clear hsm hsl
      cases hob3 : okB sn lo nx es (setM ms r o) with
      | true =>
        rw [hob3] at hok3
        obtain rfl : ft = true := by rw [← HFT.out]; unfold fits; rw [hob, hob3]; rfl
        obtain rfl : AE = setM ms r o := HAE.out
        go_wp2_with (go_at_call 23; fail)
        clear hYe o0 o1 o2 o3 o4
        refine hok3.mono ?_
        rintro e w8 ⟨rfl, hb8⟩
        have hs8 := HY3.out.on hb8
        have HS8 : Hid (SM w sn lo nx es ms ga ha cg ch w2.heap.size ge es.length gm ms.length (setM ms r o) w8) := hs8
        have q0 : w8.cell? ⟨w2.heap.size, 0, none⟩ = some (.string sn) := bcell hs8.out rfl
        have q1 : w8.cell? ⟨w2.heap.size, 1, none⟩ = some (.int .i64 lo) := bcell hs8.out rfl
        have q2 : w8.cell? ⟨w2.heap.size, 2, none⟩ = some (.int .i64 nx) := bcell hs8.out rfl
        have q3 : w8.cell? ⟨w2.heap.size, 3, none⟩ = some (.slice (some ⟨ge, 0, none⟩) es.length es.length) := bcell hs8.out rfl
        have q4 : w8.cell? ⟨w2.heap.size, 4, none⟩ = some (.slice (some ⟨gm, 0, none⟩) (setM ms r o).length ms.length) := bcell hs8.out rfl
        rw [HN5.out] at q4
        have z0 : w8.cell? ⟨w.heap.size + 1, 0, none⟩ = some (.string ⟨#[]⟩) := bcell hs8.res rfl
        have z1 : w8.cell? ⟨w.heap.size + 1, 1, none⟩ = some (.int .i64 0) := bcell hs8.res rfl
        have z2 : w8.cell? ⟨w.heap.size + 1, 2, none⟩ = some (.int .i64 0) := bcell hs8.res rfl
        have z3 : w8.cell? ⟨w.heap.size + 1, 3, none⟩ = some (.slice none 0 0) := bcell hs8.res rfl
        have z4 : w8.cell? ⟨w.heap.size + 1, 4, none⟩ = some (.slice none 0 0) := bcell hs8.res rfl
        have z0f := bfree hs8.res 0
        have z1f := bfree hs8.res 1
        have z2f := bfree hs8.res 2
        have z3f := bfree hs8.res 3
        have z4f := bfree hs8.res 4
        clear hok3 hs8 HY3
        go_wp2
        have hE8 := (owns_at HS8.out.oe).1
        have hM8 := (owns_at HS8.out.om).1
        refine bodyPost_ret (v := .tuple #[.agg #[.string sn, .int .i64 lo, .int .i64 nx, .slice (some ⟨ge, 0, none⟩) es.length es.length, .slice (some ⟨gm, 0, none⟩) (ms.length) ms.length], .bool true]) (by simp [results, Tryd.results6, go_sem, z0, z1, z2, z3, z4]) rfl ⟨ge, es.length, gm, ms.length, by rw [HN5.out], by omega, by omega, apart HS8.out.oe HS8.out.om, Nat.le_refl _, ?_, ?_, ?_⟩
        · exact res_own (owns_ownO flY.c_len HS8.out.oe) (by omega)
        · exact res_own (owns_ownO flK.c_len HS8.out.om) (by omega)
        · exact fin_below HS8.out.bel (Nat.le_succ _)
      | false =>
        rw [hob3] at hok3
        obtain rfl : ft = false := by rw [← HFT.out]; unfold fits; rw [hob, hob3]; rfl
        have HAM : Hid (AE = ms) := HAE.out
        go_wp2_with (go_at_call 23; fail)
        clear hYe o0 o1 o2 o3 o4
        refine hok3.mono ?_
        rintro e w8 ⟨rfl, hb8⟩
        have hs8 := HY3.out.on hb8
        have HS8 : Hid (SM w sn lo nx es ms ga ha cg ch w2.heap.size ge es.length gm ms.length (setM ms r o) w8) := hs8
        have hc5 := cst.copy_stream sn lo nx es ms g h cg ch w8 HF.out (HY.out.below hs8.bel) (HE.out.below hs8.bel) ga ha hga hha
        have hsz8 := hs8.size
        have x0 : w8.cell? ⟨w.heap.size, 0, none⟩ = some (.string sn) := bcell hs8.box rfl
        have x1 : w8.cell? ⟨w.heap.size, 1, none⟩ = some (.int .i64 lo) := bcell hs8.box rfl
        have x2 : w8.cell? ⟨w.heap.size, 2, none⟩ = some (.int .i64 nx) := bcell hs8.box rfl
        have x3 : w8.cell? ⟨w.heap.size, 3, none⟩ = some (.slice ga es.length cg) := bcell hs8.box rfl
        have x4 : w8.cell? ⟨w.heap.size, 4, none⟩ = some (.slice ha ms.length ch) := bcell hs8.box rfl
        clear hok3 hs8 HY3
        go_wp2_with (go_at_call 24; fail)
        refine hc5.mono ?_
        rintro e w9 ⟨g9, h9, rfl, hg9, hh9, hne9, oe9, om9, hb9⟩
        have hs9 := HS8.out.on hb9
        have z0 : w9.cell? ⟨w.heap.size + 1, 0, none⟩ = some (.string ⟨#[]⟩) := bcell hs9.res rfl
        have z1 : w9.cell? ⟨w.heap.size + 1, 1, none⟩ = some (.int .i64 0) := bcell hs9.res rfl
        have z2 : w9.cell? ⟨w.heap.size + 1, 2, none⟩ = some (.int .i64 0) := bcell hs9.res rfl
        have z3 : w9.cell? ⟨w.heap.size + 1, 3, none⟩ = some (.slice none 0 0) := bcell hs9.res rfl
        have z4 : w9.cell? ⟨w.heap.size + 1, 4, none⟩ = some (.slice none 0 0) := bcell hs9.res rfl
        have z0f := bfree hs9.res 0
        have z1f := bfree hs9.res 1
        have z2f := bfree hs9.res 2
        have z3f := bfree hs9.res 3
        have z4f := bfree hs9.res 4
        have HB9 : Hid (Below w.heap.size w w9) := hs9.bel
        have HOE : Hid (OwnO flY.c 3 43 w9 g9 0 es es.length) := of_own oe9
        have HOM : Hid (OwnO flK.c 2 45 w9 h9 0 ms ms.length) := of_own om9
        clear hc5 hs9 oe9 om9 hb9 HS8 x0 x1 x2 x3 x4
        go_wp2
        refine bodyPost_ret (v := .tuple #[.agg #[.string sn, .int .i64 lo, .int .i64 nx, .slice (some ⟨g9, 0, none⟩) es.length es.length, .slice (some ⟨h9, 0, none⟩) ms.length ms.length], .bool false]) (by simp [results, Tryd.results6, go_sem, z0, z1, z2, z3, z4]) rfl ⟨g9, es.length, h9, ms.length, by rw [HAM.out], by omega, by omega, hne9, Nat.le_refl _, ?_, ?_, ?_⟩
        · exact res_own HOE.out (by omega)
        · rw [HAM.out]; exact res_own HOM.out (by omega)
        · exact fin_below HB9.out (Nat.le_succ _)
    | false =>
      have his : isM ms p r = false := by
        cases hh : isM ms p r with
        | false => rfl
        | true => have := HBT.out.2 hh; cases this
      have hset : setM ms r o = ms.take p ++ ⟨r, o⟩ :: ms.drop p := setM_new HP.out his
      have hsl : (setM ms r o).length = ms.length + 1 := by rw [hset, List.length_append, List.length_cons, List.length_take, List.length_drop]; omega
      have hal6 : Below w5.heap.size w5 (w5.alloc (.cells #[.string r, .int .i64 o] 45)) := (Below.refl _ _).alloc (Nat.le_refl _) _
      have hs6 := hs5.on hal6
      have hm6 := bnew w5 #[.string r, .int .i64 o] 45
      obtain ⟨V, hV⟩ : ∃ V, w5.alloc (.cells #[.string r, .int .i64 o] 45) = V := ⟨_, rfl⟩
      rw [hV] at hs6 hm6
      have hin := insm.insert_mark ms gm p (w.heap.size + 2) r o w5.heap.size V hp0 hml hs6.size hs6.om hm6
      rw [← hset] at hin
      have HS6 : Hid (SM w sn lo nx es ms ga ha cg ch w2.heap.size ge es.length gm ms.length ms V) := hs6
      have HN5 : Hid ((setM ms r o).length = ms.length + 1) := hsl
      clear hal6 hs6 hm6 hset his HBT hs5
      go_wp2_with (go_at_call 28; fail)
      clear hV n4 m0 m1
      refine hin.mono ?_
      rintro e w7 ⟨g6, c6, rfl, ho7, hg7⟩
      rw [← hsl] at ho7
      obtain ⟨hsm, n4, fz0⟩ := sm_new (r := r) (o := o) HS6.out.st hg7 HS6.out.om ho7
      rw [hsl] at hsm
      obtain ⟨Y, hYe⟩ : ∃ Y, w7.setCell ⟨w2.heap.size, 4, none⟩ (.slice (some ⟨g6, 0, none⟩) (ms.length + 1) c6) = Y := ⟨_, rfl⟩
      rw [hYe] at hsm
      clear hin ho7 hg7 HS6
      have HY3 : Hid (SM w sn lo nx es ms ga ha cg ch w2.heap.size ge es.length g6 c6 (setM ms r o) Y) := hsm
      have hok3 := sti.impl_ok sn lo nx es (setM ms r o) ge g6 es.length c6 Y HF3.out (ry_owns hsm.oe) (re_owns hsm.om) _ _ (fun _ => rfl) (fun _ => rfl)
      rw [HN5.out] at hok3
      have o0 : Y.cell? ⟨w2.heap.size, 0, none⟩ = some (.string sn) := bcell hsm.out rfl
      have o1 : Y.cell? ⟨w2.heap.size, 1, none⟩ = some (.int .i64 lo) := bcell hsm.out rfl
      have o2 : Y.cell? ⟨w2.heap.size, 2, none⟩ = some (.int .i64 nx) := bcell hsm.out rfl
      have o3 : Y.cell? ⟨w2.heap.size, 3, none⟩ = some (.slice (some ⟨ge, 0, none⟩) es.length es.length) := bcell hsm.out rfl
      have o4 : Y.cell? ⟨w2.heap.size, 4, none⟩ = some (.slice (some ⟨g6, 0, none⟩) (setM ms r o).length c6) := bcell hsm.out rfl
      rw [HN5.out] at o4
      clear hsm hsl
      cases hob3 : okB sn lo nx es (setM ms r o) with
      | true =>
        rw [hob3] at hok3
        obtain rfl : ft = true := by rw [← HFT.out]; unfold fits; rw [hob, hob3]; rfl
        obtain rfl : AE = setM ms r o := HAE.out
        go_wp2_with (go_at_call 23; fail)
        clear hYe o0 o1 o2 o3 o4
        refine hok3.mono ?_
        rintro e w8 ⟨rfl, hb8⟩
        have hs8 := HY3.out.on hb8
        have HS8 : Hid (SM w sn lo nx es ms ga ha cg ch w2.heap.size ge es.length g6 c6 (setM ms r o) w8) := hs8
        have q0 : w8.cell? ⟨w2.heap.size, 0, none⟩ = some (.string sn) := bcell hs8.out rfl
        have q1 : w8.cell? ⟨w2.heap.size, 1, none⟩ = some (.int .i64 lo) := bcell hs8.out rfl
        have q2 : w8.cell? ⟨w2.heap.size, 2, none⟩ = some (.int .i64 nx) := bcell hs8.out rfl
        have q3 : w8.cell? ⟨w2.heap.size, 3, none⟩ = some (.slice (some ⟨ge, 0, none⟩) es.length es.length) := bcell hs8.out rfl
        have q4 : w8.cell? ⟨w2.heap.size, 4, none⟩ = some (.slice (some ⟨g6, 0, none⟩) (setM ms r o).length c6) := bcell hs8.out rfl
        rw [HN5.out] at q4
        have z0 : w8.cell? ⟨w.heap.size + 1, 0, none⟩ = some (.string ⟨#[]⟩) := bcell hs8.res rfl
        have z1 : w8.cell? ⟨w.heap.size + 1, 1, none⟩ = some (.int .i64 0) := bcell hs8.res rfl
        have z2 : w8.cell? ⟨w.heap.size + 1, 2, none⟩ = some (.int .i64 0) := bcell hs8.res rfl
        have z3 : w8.cell? ⟨w.heap.size + 1, 3, none⟩ = some (.slice none 0 0) := bcell hs8.res rfl
        have z4 : w8.cell? ⟨w.heap.size + 1, 4, none⟩ = some (.slice none 0 0) := bcell hs8.res rfl
        have z0f := bfree hs8.res 0
        have z1f := bfree hs8.res 1
        have z2f := bfree hs8.res 2
        have z3f := bfree hs8.res 3
        have z4f := bfree hs8.res 4
        clear hok3 hs8 HY3
        go_wp2
        have hE8 := (owns_at HS8.out.oe).1
        have hM8 := (owns_at HS8.out.om).1
        refine bodyPost_ret (v := .tuple #[.agg #[.string sn, .int .i64 lo, .int .i64 nx, .slice (some ⟨ge, 0, none⟩) es.length es.length, .slice (some ⟨g6, 0, none⟩) (ms.length + 1) c6], .bool true]) (by simp [results, Tryd.results6, go_sem, z0, z1, z2, z3, z4]) rfl ⟨ge, es.length, g6, c6, by rw [HN5.out], by omega, by omega, apart HS8.out.oe HS8.out.om, Nat.le_refl _, ?_, ?_, ?_⟩
        · exact res_own (owns_ownO flY.c_len HS8.out.oe) (by omega)
        · exact res_own (owns_ownO flK.c_len HS8.out.om) (by omega)
        · exact fin_below HS8.out.bel (Nat.le_succ _)
      | false =>
        rw [hob3] at hok3
        obtain rfl : ft = false := by rw [← HFT.out]; unfold fits; rw [hob, hob3]; rfl
        have HAM : Hid (AE = ms) := HAE.out
        go_wp2_with (go_at_call 23; fail)
        clear hYe o0 o1 o2 o3 o4
        refine hok3.mono ?_
        rintro e w8 ⟨rfl, hb8⟩
        have hs8 := HY3.out.on hb8
        have HS8 : Hid (SM w sn lo nx es ms ga ha cg ch w2.heap.size ge es.length g6 c6 (setM ms r o) w8) := hs8
        have hc5 := cst.copy_stream sn lo nx es ms g h cg ch w8 HF.out (HY.out.below hs8.bel) (HE.out.below hs8.bel) ga ha hga hha
        have hsz8 := hs8.size
        have x0 : w8.cell? ⟨w.heap.size, 0, none⟩ = some (.string sn) := bcell hs8.box rfl
        have x1 : w8.cell? ⟨w.heap.size, 1, none⟩ = some (.int .i64 lo) := bcell hs8.box rfl
        have x2 : w8.cell? ⟨w.heap.size, 2, none⟩ = some (.int .i64 nx) := bcell hs8.box rfl
        have x3 : w8.cell? ⟨w.heap.size, 3, none⟩ = some (.slice ga es.length cg) := bcell hs8.box rfl
        have x4 : w8.cell? ⟨w.heap.size, 4, none⟩ = some (.slice ha ms.length ch) := bcell hs8.box rfl
        clear hok3 hs8 HY3
        go_wp2_with (go_at_call 24; fail)
        refine hc5.mono ?_
        rintro e w9 ⟨g9, h9, rfl, hg9, hh9, hne9, oe9, om9, hb9⟩
        have hs9 := HS8.out.on hb9
        have z0 : w9.cell? ⟨w.heap.size + 1, 0, none⟩ = some (.string ⟨#[]⟩) := bcell hs9.res rfl
        have z1 : w9.cell? ⟨w.heap.size + 1, 1, none⟩ = some (.int .i64 0) := bcell hs9.res rfl
        have z2 : w9.cell? ⟨w.heap.size + 1, 2, none⟩ = some (.int .i64 0) := bcell hs9.res rfl
        have z3 : w9.cell? ⟨w.heap.size + 1, 3, none⟩ = some (.slice none 0 0) := bcell hs9.res rfl
        have z4 : w9.cell? ⟨w.heap.size + 1, 4, none⟩ = some (.slice none 0 0) := bcell hs9.res rfl
        have z0f := bfree hs9.res 0
        have z1f := bfree hs9.res 1
        have z2f := bfree hs9.res 2
        have z3f := bfree hs9.res 3
        have z4f := bfree hs9.res 4
        have HB9 : Hid (Below w.heap.size w w9) := hs9.bel
        have HOE : Hid (OwnO flY.c 3 43 w9 g9 0 es es.length) := of_own oe9
        have HOM : Hid (OwnO flK.c 2 45 w9 h9 0 ms ms.length) := of_own om9
        clear hc5 hs9 oe9 om9 hb9 HS8 x0 x1 x2 x3 x4
        go_wp2
        refine bodyPost_ret (v := .tuple #[.agg #[.string sn, .int .i64 lo, .int .i64 nx, .slice (some ⟨g9, 0, none⟩) es.length es.length, .slice (some ⟨h9, 0, none⟩) ms.length ms.length], .bool false]) (by simp [results, Tryd.results6, go_sem, z0, z1, z2, z3, z4]) rfl ⟨g9, es.length, h9, ms.length, by rw [HAM.out], by omega, by omega, hne9, Nat.le_refl _, ?_, ?_, ?_⟩
        · exact res_own HOE.out (by omega)
        · rw [HAM.out]; exact res_own HOM.out (by omega)
        · exact fin_below HB9.out (Nat.le_succ _)
end Go.Proofs.YtlfhfcgcfggjcaaDoor.imk

/- The program's StreamRead: the entries from an offset on, at most so many, in a row of their own; new memory alone. -/
namespace Go.Proofs.YtlfhfcgcfggjcaaDoor.sri
open Go.ChangeShapes Go.WideShapes Go.ChangeAt Go.RowKit Go.Proofs.YtlfhfcgcfggjcaaDoor.fl Go.Proofs.YtlfhfcgcfggjcaaDoor.fo Go.Proofs.YtlfhfcgcfggjcaaDoor.rr Go.Proofs.YtlfhfcgcfggjcaaDoor.st Go.Proofs.YtlfhfcgcfggjcaaDoor.ce Go.Proofs.YtlfhfcgcfggjcaaDoor.srd
set_option linter.unusedVariables false

set_option maxRecDepth 100000 in
set_option maxHeartbeats 4000000 in
theorem impl_read (sn : ByteArray) (lo nx : Int) (es : List flY.En) (ms : List Ex) (g h cg ch : Nat) (off most : Int) (w : World) (F : Fit sn es ms) (og : Nat) (hY : RYo w g og es) (hE : RE w h ms) (ga ha : Option Addr) (hga : Hid (ga = some ⟨g, og, none⟩ ∨ ga = none ∧ es.length = 0 ∧ cg = 0)) (hha : Hid (0 < ms.length → ha = some ⟨h, 0, none⟩)) (hcg : es.length ≤ cg) :
    Calls Tryd.prog 9 #[.agg #[.string sn, .int .i64 lo, .int .i64 nx, .slice ga es.length cg, .slice ha ms.length ch], .int .i64 off, .int .i64 most] w fun e w' => ∃ a cap, e = .returned (.slice a (read sn lo nx es ms off most).length cap) ∧ Mine flY.c 3 43 w' w.heap.size a (read sn lo nx es ms off most) ∧ Below w.heap.size w w' := by
  have hb : Below w.heap.size w (w.alloc (.cells #[.string sn, .int .i64 lo, .int .i64 nx, .slice ga es.length cg, .slice ha ms.length ch] 27)) := (Below.refl _ _).alloc (Nat.le_refl _) _
  have hA := bnew w #[.string sn, .int .i64 lo, .int .i64 nx, .slice ga es.length cg, .slice ha ms.length ch] 27
  have hlt : w.heap.size < (w.alloc (.cells #[.string sn, .int .i64 lo, .int .i64 nx, .slice ga es.length cg, .slice ha ms.length ch] 27)).heap.size := by simp
  have hY2 : RYo (w.alloc (.cells #[.string sn, .int .i64 lo, .int .i64 nx, .slice ga es.length cg, .slice ha ms.length ch] 27)) g og es := hY.below hb
  have hE2 : RE (w.alloc (.cells #[.string sn, .int .i64 lo, .int .i64 nx, .slice ga es.length cg, .slice ha ms.length ch] 27)) h ms := hE.below hb
  obtain ⟨W, hW⟩ : ∃ W, w.alloc (.cells #[.string sn, .int .i64 lo, .int .i64 nx, .slice ga es.length cg, .slice ha ms.length ch] 27) = W := ⟨_, rfl⟩
  rw [hW] at hb hA hY2 hE2 hlt
  have BOX : Hid (∀ wr, Below W.heap.size W wr → wr.cell? ⟨w.heap.size, 0, none⟩ = some (.string sn) ∧ wr.cell? ⟨w.heap.size, 1, none⟩ = some (.int .i64 lo) ∧ wr.cell? ⟨w.heap.size, 2, none⟩ = some (.int .i64 nx) ∧ wr.cell? ⟨w.heap.size, 3, none⟩ = some (.slice ga es.length cg) ∧ wr.cell? ⟨w.heap.size, 4, none⟩ = some (.slice ha ms.length ch)) := fun wr hr => by
    have h1 := bstay hA hr hlt
    exact ⟨bcell h1 rfl, bcell h1 rfl, bcell h1 rfl, bcell h1 rfl, bcell h1 rfl⟩
  have hok := sti.impl_okO sn lo nx es ms g h cg ch W F og hY2 hE2 ga ha (fun h0 => by rcases hga.out with h | ⟨_, h, _⟩; exact h; omega) hha
  obtain ⟨c0, c1, c2, c3, c4⟩ := BOX.out W (Below.refl _ _)
  have HY : Hid (RYo W g og es) := hY2
  have HRD : Hid (read sn lo nx es ms off most = if okB sn lo nx es ms = true then (es.drop (skip lo off)).take most.toNat else []) := rfl
  obtain ⟨A, hAns⟩ : ∃ A, read sn lo nx es ms off most = A := ⟨_, rfl⟩
  rw [hAns] at HRD
  simp only [hAns]
  have hel := F.el
  have HEB : Hid (∀ e ∈ es, e.b.size ≤ 1048576) := F.eb
  clear hY hE hY2 hE2 hA F hAns
  cases hob : okB sn lo nx es ms with
  | false =>
    rw [hob] at hok HRD
    obtain rfl : A = [] := HRD.out
    clear HRD
    go_enter Tryd.func9, Tryd.ntmps9
    go_wp2_with (go_at_call 23; refine hok.mono ?_; rintro e w1 ⟨rfl, hb1⟩)
    go_ret
    exact ⟨none, 0, rfl, .inl rfl, hb.trans (hb1.mono hb.size)⟩
  | true =>
    rw [hob] at hok HRD
    have HA : Hid (A = (es.drop (skip lo off)).take most.toNat) := HRD.out
    have HOK : Hid (OkT sn lo nx es ms) := okB_true.1 hob
    clear HRD hob
    by_cases hm : most < 1
    · have f1 : decide (most < 1) = true := decide_eq_true hm
      obtain rfl : A = [] := by rw [HA.out, show most.toNat = 0 by omega]; simp
      clear HA
      go_enter Tryd.func9, Tryd.ntmps9
      go_wp2_with (go_at_call 23; refine hok.mono ?_; rintro e w1 ⟨rfl, hb1⟩)
      go_ret
      exact ⟨none, 0, rfl, .inl rfl, hb.trans (hb1.mono hb.size)⟩
    have f1 : decide (most < 1) = false := decide_eq_false hm
    by_cases hn : nx ≤ off
    · have f2 : decide (nx ≤ off) = true := decide_eq_true hn
      obtain rfl : A = [] := by
        have h1 := HOK.out.len
        have h2 := HOK.out.lo0
        rw [HA.out, List.drop_eq_nil_of_le (by unfold skip; omega)]
        simp
      clear HA
      go_enter Tryd.func9, Tryd.ntmps9
      go_wp2_with (go_at_call 23; refine hok.mono ?_; rintro e w1 ⟨rfl, hb1⟩; obtain ⟨d0, d1, d2, d3, d4⟩ := BOX.out w1 hb1)
      go_ret
      exact ⟨none, 0, rfl, .inl rfl, hb.trans (hb1.mono hb.size)⟩
    have f2 : decide (nx ≤ off) = false := decide_eq_false hn
    obtain ⟨d, hd⟩ : ∃ d, skip lo off = d := ⟨_, rfl⟩
    have hlen := HOK.out.len
    have hlo := HOK.out.lo0
    have hnx := HOK.out.nx0
    have hel4 := HOK.out.el
    by_cases hz : es.length = 0
    · obtain rfl : es = [] := List.eq_nil_of_length_eq_zero hz
      obtain rfl : A = [] := by rw [HA.out]; simp
      have hlo2 : lo = nx := by simp at hlen; omega
      have hmx : max off lo = lo := Int.max_eq_right (by omega)
      have hmn : min most 0 = 0 := Int.min_eq_right (by omega)
      have i2 : IntKind.i64.wrap (lo - lo) = 0 := by rw [IntKind.wrap_i64]; omega
      have i4 : IntKind.i64.wrap 0 = 0 := by rw [IntKind.wrap_i64]; omega
      rcases hga.out with rfl | ⟨rfl, _, rfl⟩
      all_goals
        simp only [List.length_nil] at hok hW c3
        clear hlo2
        go_enter Tryd.func9, Tryd.ntmps9
        go_wp2_with (first | (go_at_call 23; refine hok.mono ?_; rintro e w1 ⟨rfl, hb1⟩; obtain ⟨d0, d1, d2, d3, d4⟩ := BOX.out w1 hb1; simp only [List.length_nil] at d3) | (go_at_call 32; fail))
        clear hW c0 c1 c2 c3 c4
        first
          | refine (copy_entries [] g og cg w1 (by simp) (fun e he => by cases he) (HY.out.below hb1) (some ⟨g, og, none⟩) (fun _ => rfl)).mono ?_
          | refine (copy_entries [] g og 0 w1 (by simp) (fun e he => by cases he) (HY.out.below hb1) none (fun h => by simp at h)).mono ?_
        rintro e w2 ⟨rfl, _, hb2⟩
        go_wp2
        go_ret
        exact ⟨some ⟨w1.heap.size, 0, none⟩, 0, rfl, .inl rfl, hb.trans ((hb1.trans (hb2.mono hb1.size)).mono hb.size)⟩
    obtain rfl : ga = some ⟨g, og, none⟩ := by
      rcases hga.out with h | ⟨_, h, _⟩
      · exact h
      · omega
    have hdl : d < es.length := by
      rw [← hd]
      unfold skip
      rcases Int.le_total off lo with hh | hh
      · rw [Int.max_eq_right hh]; omega
      · rw [Int.max_eq_left hh]; omega
    have hmx2 : max off lo = lo + (d : Int) := by
      rw [← hd]
      unfold skip
      rcases Int.le_total off lo with hh | hh
      · rw [Int.max_eq_right hh]; omega
      · rw [Int.max_eq_left hh]; omega
    have hmx : max off lo - lo = (d : Int) := by rw [hmx2]; omega
    rw [hd] at HA
    obtain ⟨n, hn2⟩ : ∃ n : Nat, min most ((es.length : Int) - (d : Int)) = (n : Int) := ⟨(min most ((es.length : Int) - (d : Int))).toNat, by omega⟩
    have hn3 : min most ((es.length - d : Nat) : Int) = (n : Int) := by omega
    have hn4 : n ≤ es.length - d := by omega
    have hAl : A = (es.drop d).take n := by
      rw [HA.out]
      by_cases hq : most ≤ (es.length : Int) - (d : Int)
      · rw [show most.toNat = n by omega]
      · rw [show n = es.length - d by omega, List.take_of_length_le (by rw [List.length_drop]; omega), List.take_of_length_le (by rw [List.length_drop]; omega)]
    have hAn : A.length = n := by rw [hAl, List.length_take, List.length_drop]; omega
    have HAL : Hid (A = (es.drop d).take n) := hAl
    have HAN : Hid (A.length = n) := hAn
    have i1 : IntKind.i64.wrap (d : Int) = (d : Int) := by rw [IntKind.wrap_i64]; omega
    have i2 : IntKind.i64.wrap (lo + (d : Int) - lo) = (d : Int) := by rw [IntKind.wrap_i64]; omega
    have i3 : ((es.length : Int) - (d : Int)).toNat = es.length - d := by omega
    have i5 : ((cg : Int) - (d : Int)).toNat = cg - d := by omega
    clear hd hAl hAn HA hlen hlo hnx
    go_enter Tryd.func9, Tryd.ntmps9
    go_wp2_with (first | (go_at_call 23; refine hok.mono ?_; rintro e w1 ⟨rfl, hb1⟩; obtain ⟨d0, d1, d2, d3, d4⟩ := BOX.out w1 hb1) | (go_at_call 32; fail))
    clear hW c0 c1 c2 c3 c4
    have hce := copy_entries A g (og + d * 3) (cg - d) w1 (by rw [HAN.out]; omega) (fun e he => HEB.out e (by rw [HAL.out] at he; exact List.mem_of_mem_drop (List.mem_of_mem_take he))) (by rw [HAL.out]; exact RYo.cut (HY.out.below hb1) d n) (some ⟨g, og + d * 3, none⟩) (fun _ => rfl)
    rw [HAN.out] at hce
    have hce2 : Calls Tryd.prog 32 #[.slice (some ⟨g, og + d * 3, none⟩) n (cg - d)] w1 fun e w' => e = .returned (.slice (some ⟨w1.heap.size, 0, none⟩) n n) ∧ Own flY.c 3 43 w' w1.heap.size A n ∧ Below w1.heap.size w1 w' := hce
    clear hce
    refine hce2.mono ?_
    rintro e w2 ⟨rfl, hown, hb2⟩
    have HM : Hid (Mine flY.c 3 43 w2 w.heap.size (some ⟨w1.heap.size, 0, none⟩) A) := .inr ⟨_, _, rfl, by have := hb1.size; omega, by have h := of_own hown; rw [← HAN.out] at h; exact h⟩
    clear hce2 hown
    go_wp2
    go_ret
    refine ⟨some ⟨w1.heap.size, 0, none⟩, n, ?_, HM.out, hb.trans ((hb1.trans (hb2.mono hb1.size)).mono hb.size)⟩
    rw [HAN.out]
    rfl
end Go.Proofs.YtlfhfcgcfggjcaaDoor.sri

/- The two sums, the specification's and the program's, answer alike at every text of at most 1048576 bytes, where the program's table holds its sixteen numbers; no world is changed. -/
namespace Go.Proofs.YtlfhfcgcfggjcaaDoor.cs
open Go.ChangeShapes Go.WideShapes Go.ChangeAt Go.RowKit

def half (x : Nat) : Nat := if x % 2 = 1 then (x / 2) ^^^ 2197175160 else x / 2
def halves : Nat → Nat → Nat
  | 0, x => x
  | k + 1, x => half (halves k x)

theorem xor_div (a b : Nat) : (a ^^^ b) / 2 = (a / 2) ^^^ (b / 2) := by
  apply Nat.eq_of_testBit_eq
  intro i
  rw [Nat.testBit_xor, ← Nat.testBit_succ, ← Nat.testBit_succ, ← Nat.testBit_succ, Nat.testBit_xor]
theorem xor_mod (a b : Nat) : (a ^^^ b) % 2 = (a % 2 + b % 2) % 2 := by
  have h : (a ^^^ b).testBit 0 = (a.testBit 0 ^^ b.testBit 0) := Nat.testBit_xor ..
  have e : ∀ n : Nat, n % 2 = if n.testBit 0 then 1 else 0 := fun n => by
    rcases Nat.mod_two_eq_zero_or_one n with hn | hn <;> simp [Nat.testBit_zero, hn]
  rw [e (a ^^^ b), e a, e b, h]
  cases a.testBit 0 <;> cases b.testBit 0 <;> rfl

theorem half_xor (a b : Nat) : half (a ^^^ b) = half a ^^^ half b := by
  unfold half
  rw [xor_div, xor_mod]
  rcases Nat.mod_two_eq_zero_or_one a with ha | ha <;> rcases Nat.mod_two_eq_zero_or_one b with hb | hb <;> simp [ha, hb]
  · rw [Nat.xor_assoc]
  · rw [Nat.xor_assoc, Nat.xor_assoc]; congr 1; exact Nat.xor_comm _ _
  · rw [Nat.xor_assoc, ← Nat.xor_assoc 2197175160, Nat.xor_comm 2197175160, Nat.xor_assoc (b / 2), Nat.xor_self, Nat.xor_zero]

theorem halves_xor (k a b : Nat) : halves k (a ^^^ b) = halves k a ^^^ halves k b := by
  induction k with
  | zero => rfl
  | succ k ih => simp only [halves, ih, half_xor]

theorem split16 (x : Nat) : (16 * (x / 16)) ^^^ (x % 16) = x := by
  apply Nat.eq_of_testBit_eq
  intro i
  have h1 : x = 2 ^ 4 * (x / 16) + x % 16 := by omega
  have hx : x.testBit i = (2 ^ 4 * (x / 16) + x % 16).testBit i := congrArg (fun y => Nat.testBit y i) h1
  rw [hx, Nat.testBit_two_pow_mul_add _ (Nat.mod_lt _ (by decide)), Nat.testBit_xor, show 16 * (x / 16) = 2 ^ 4 * (x / 16) by omega, Nat.testBit_two_pow_mul]
  by_cases hi : i < 4
  · have h4 : ¬ 4 ≤ i := by omega
    simp [hi, h4]
  · have h16 : (x % 16).testBit i = false := Nat.testBit_lt_two_pow (Nat.lt_of_lt_of_le (Nat.mod_lt _ (by decide)) (show 2 ^ 4 ≤ 2 ^ i from Nat.pow_le_pow_right (by decide) (by omega)))
    simp [hi, h16]
    omega

theorem half_even (y : Nat) : half (2 * y) = y := by
  unfold half
  rw [if_neg (by omega)]
  omega
theorem halves4_16 (h : Nat) : halves 4 (16 * h) = h := by
  simp only [halves]
  rw [show 16 * h = 2 * (2 * (2 * (2 * h))) by omega, half_even, half_even, half_even, half_even]

/-- what four halvings of a half byte bring in -/
def tab (r : Nat) : Nat := halves 4 r
theorem halves4 (x : Nat) : halves 4 x = (x / 16) ^^^ tab (x % 16) := by
  have := halves_xor 4 (16 * (x / 16)) (x % 16)
  rw [split16, halves4_16] at this
  exact this
theorem half_lt {x : Nat} (h : x < 4294967296) : half x < 4294967296 := by
  unfold half
  split
  · exact Nat.xor_lt_two_pow (n := 32) (by omega) (by decide)
  · omega
theorem halves_lt {x : Nat} (h : x < 4294967296) : ∀ k, halves k x < 4294967296
  | 0 => h
  | k + 1 => half_lt (halves_lt h k)
theorem halves_add (j k x : Nat) : halves j (halves k x) = halves (j + k) x := by
  induction j with
  | zero => simp [halves]
  | succ j ih => rw [show j + 1 + k = (j + k) + 1 by omega]; simp only [halves, ih]

def bt (s : ByteArray) (k : Nat) : Nat := if h : k < s.size then s[k].toNat else 0
theorem bt_eq (s : ByteArray) (k : Nat) (h : k < s.size) : s[k].toNat = bt s k := by simp [bt, h]
theorem bt_lt (s : ByteArray) (k : Nat) : bt s k < 256 := by
  unfold bt; split
  · have := s[k].toNat_lt; omega
  · omega
/-- the sum behind k bytes, ahead of its end -/
def st (s : ByteArray) : Nat → Nat
  | 0 => 4294967295
  | k + 1 => halves 8 (st s k ^^^ bt s k)
theorem xor_lt {a b : Nat} (ha : a < 4294967296) (hb : b < 4294967296) : a ^^^ b < 4294967296 := Nat.xor_lt_two_pow (n := 32) ha hb
theorem st_lt (s : ByteArray) : ∀ k, st s k < 4294967296
  | 0 => by simp [st]
  | k + 1 => halves_lt (xor_lt (st_lt s k) (Nat.lt_trans (bt_lt s k) (by decide))) 8
def sum (s : ByteArray) : Nat := st s s.size ^^^ 4294967295

theorem spec_sum (s : ByteArray) (w : World) (hs : s.size ≤ 1048576) :
    Calls Tryd.prog 38 #[.string s] w fun e w' => e = .returned (.int .u32 (sum s)) ∧ w = w' := by
  go_enter Tryd.func38, Tryd.ntmps38
  go_wp2
  go_loop [3, 4, 5, 6] (fun x c _ _ => ∃ k : Nat, k ≤ s.size ∧ c = .int .i64 k ∧ x = .int .u32 (st s k)) (fun _ c _ _ => s.size - (intOf c).toNat)
  case atStart => exact ⟨0, Nat.zero_le _, rfl, rfl⟩
  case round =>
    obtain ⟨k, hk, rfl, rfl⟩ := hrel
    by_cases hkz : k < s.size
    · obtain ⟨b, hb⟩ : ∃ b, s[k].toNat = b := ⟨_, rfl⟩
      have hbt : Hid (bt s k = b) := by unfold Hid; rw [← bt_eq s k hkz, hb]
      have hb256 : b < 256 := by have := s[k].toNat_lt; omega
      obtain ⟨x, hx⟩ : ∃ x, st s k = x := ⟨_, rfl⟩
      have hx32 : x < 4294967296 := by rw [← hx]; exact st_lt s k
      rw [hx]
      have HX : Hid (st s k = x) := hx
      clear hx
      have hxor : bits .xor .u32 (x : Int) (b : Int) = ((x ^^^ b : Nat) : Int) := u32_xor_nat x b hx32 (by omega)
      obtain ⟨y, hy⟩ : ∃ y, x ^^^ b = y := ⟨_, rfl⟩
      have hy32 : y < 4294967296 := by rw [← hy]; exact xor_lt hx32 (by omega)
      rw [hy] at hxor
      have HY : Hid (st s (k + 1) = halves 8 y) := by unfold Hid; rw [← hy, st, HX.out, hbt.out]
      clear hy HX hbt
      go_wp2
      clear hxor
      go_loop [3, 5, 6] (fun u c _ => ∃ j : Nat, j ≤ 8 ∧ c = .int .i64 j ∧ u = .int .u32 (halves j y)) (fun _ c _ => 8 - (intOf c).toNat)
      case atStart => exact ⟨0, Nat.zero_le _, rfl, rfl⟩
      case round =>
        obtain ⟨j, hj, rfl, rfl⟩ := hrel
        by_cases hj8 : j < 8
        · obtain ⟨z, hz⟩ : ∃ z, halves j y = z := ⟨_, rfl⟩
          have hz32 : z < 4294967296 := by rw [← hz]; exact halves_lt hy32 j
          have HZ : Hid (halves (j + 1) y = half z) := by unfold Hid; rw [← hz]; rfl
          rw [hz]
          clear hz
          by_cases hodd : z % 2 = 1
          · have h1 : (((z : Int) % 2) == 1) = true := by simp; omega
            have hx2 : bits .xor .u32 ((z : Int) / 2) 2197175160 = ((half z : Nat) : Int) := by
              have := u32_xor_nat (z / 2) 2197175160 (by omega) (by decide)
              simp only [half, hodd, if_true]
              rw [← this]
              rfl
            clear hodd
            go_wp2
            go_round
            case rel => exact ⟨j + 1, by omega, by go_num, by rw [HZ.out]⟩
            case measure => simp [intOf]; omega
          · have h1 : (((z : Int) % 2) == 1) = false := by simp; omega
            have hx2 : Hid (((half z : Nat) : Int) = (z : Int) / 2) := by unfold Hid; simp only [half, hodd, if_false]; omega
            clear hodd
            go_wp2
            go_round
            case rel => exact ⟨j + 1, by omega, by go_num, by rw [HZ.out, hx2.out]⟩
            case measure => simp [intOf]; omega
        · obtain rfl : j = 8 := by omega
          go_wp2
          go_round
          case rel => exact ⟨k + 1, by omega, by go_num, by rw [HY.out]⟩
          case measure => simp [intOf]; omega
    · obtain rfl : k = s.size := by omega
      have hxor : bits .xor .u32 (st s s.size : Int) 4294967295 = ((sum s : Nat) : Int) := u32_xor_nat (st s s.size) 4294967295 (st_lt s _) (by decide)
      go_wp2
      go_ret
      exact ⟨rfl, rfl⟩

theorem tab_lt {r : Nat} (h : r < 16) : tab r < 4294967296 := halves_lt (by omega) 4

theorem and15 {y : Nat} (hy : y < 4294967296) : bits .and .u32 (y : Int) 15 = ((y % 16 : Nat) : Int) := by
  have := u32_and_nat y 15 hy (by decide)
  rw [show ((15 : Nat) : Int) = 15 from rfl] at this
  rw [this, show (15 : Nat) = 2 ^ 4 - 1 from rfl, Nat.and_two_pow_sub_one_eq_mod]

/-- four halvings by the table: what the walk asks at one of the two steps -/
theorem quarter {y : Nat} {w : World} (hy : y < 4294967296) (htab : ∀ r, r < 16 → w.cell? ⟨0, r, none⟩ = some (.int .u32 (tab r : Int))) :
    ∃ r t z : Nat, r < 16 ∧ w.cell? ⟨0, r, none⟩ = some (.int .u32 (t : Int)) ∧ bits .and .u32 (y : Int) 15 = (r : Int) ∧ bits .xor .u32 ((y : Int) / 16) (t : Int) = (z : Int) ∧ z < 4294967296 ∧ Hid (halves 4 y = z) := by
  refine ⟨y % 16, tab (y % 16), halves 4 y, Nat.mod_lt _ (by decide), htab _ (Nat.mod_lt _ (by decide)), and15 hy, ?_, halves_lt hy 4, rfl⟩
  rw [halves4]
  exact u32_xor_nat (y / 16) (tab (y % 16)) (by omega) (tab_lt (Nat.mod_lt _ (by decide)))

theorem impl_sum (s : ByteArray) (w : World) (hs : s.size ≤ 1048576) (htab : ∀ r, r < 16 → w.cell? ⟨0, r, none⟩ = some (.int .u32 (tab r : Int))) :
    Calls Tryd.prog 35 #[.string s] w fun e w' => e = .returned (.int .u32 (sum s)) ∧ w = w' := by
  go_enter Tryd.func35, Tryd.ntmps35
  go_wp2
  go_loop [3, 7] (fun x c => ∃ k : Nat, k ≤ s.size ∧ c = .int .i64 k ∧ x = .int .u32 (st s k)) (fun _ c => s.size - (intOf c).toNat)
  case atStart => exact ⟨0, Nat.zero_le _, rfl, rfl⟩
  case round =>
    obtain ⟨k, hk, rfl, rfl⟩ := hrel
    by_cases hkz : k < s.size
    · obtain ⟨b, hb⟩ : ∃ b, s[k].toNat = b := ⟨_, rfl⟩
      have hbt : Hid (bt s k = b) := by unfold Hid; rw [← bt_eq s k hkz, hb]
      have hb256 : b < 256 := by have := s[k].toNat_lt; omega
      obtain ⟨x, hx⟩ : ∃ x, st s k = x := ⟨_, rfl⟩
      have hx32 : x < 4294967296 := by rw [← hx]; exact st_lt s k
      rw [hx]
      have HX : Hid (st s k = x) := hx
      clear hx
      have hxor : bits .xor .u32 (x : Int) (b : Int) = ((x ^^^ b : Nat) : Int) := u32_xor_nat x b hx32 (by omega)
      obtain ⟨y, hy⟩ : ∃ y, x ^^^ b = y := ⟨_, rfl⟩
      have hy32 : y < 4294967296 := by rw [← hy]; exact xor_lt hx32 (by omega)
      rw [hy] at hxor
      have HY : Hid (st s (k + 1) = halves 8 y) := by unfold Hid; rw [← hy, st, HX.out, hbt.out]
      clear hy HX hbt
      obtain ⟨r1, t1, z, hr1, hc1, ha1, hx1, hz32, HZ⟩ := quarter hy32 htab
      obtain ⟨r2, t2, v, hr2, hc2, ha2, hx2, hv32, HV⟩ := quarter hz32 htab
      have HE : Hid (st s (k + 1) = v) := by unfold Hid; rw [HY.out, ← HV.out, ← HZ.out, halves_add]
      clear HY HZ HV htab
      go_wp2
      go_round
      case rel => exact ⟨k + 1, by omega, by go_num, by rw [HE.out]⟩
      case measure => simp [intOf]; omega
    · obtain rfl : k = s.size := by omega
      have hxor : bits .xor .u32 (st s s.size : Int) 4294967295 = ((sum s : Nat) : Int) := u32_xor_nat (st s s.size) 4294967295 (st_lt s _) (by decide)
      clear htab
      go_wp2
      go_ret
      exact ⟨rfl, rfl⟩
end Go.Proofs.YtlfhfcgcfggjcaaDoor.cs
