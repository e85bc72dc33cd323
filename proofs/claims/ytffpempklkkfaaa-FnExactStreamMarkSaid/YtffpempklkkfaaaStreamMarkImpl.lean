/- The program's StreamMark: one more mark, or one changed, where that is right, in rows of its own; new memory alone. -/
import Derived.Test.YtffpempklkkfaaaStreamMarkSpec
import Derived.Test.YtffpempklkkfaaaInsertMark
namespace Go.Proofs.Ytffpempklkkfaaa.imk
open Go.ChangeShapes Go.WideShapes Go.ChangeAt Go.RowKit Go.Proofs.Ytffpempklkkfaaa.fl Go.Proofs.Ytffpempklkkfaaa.fo Go.Proofs.Ytffpempklkkfaaa.rc Go.Proofs.Ytffpempklkkfaaa.rr Go.Proofs.Ytffpempklkkfaaa.rf Go.Proofs.Ytffpempklkkfaaa.rs Go.Proofs.Ytffpempklkkfaaa.ro Go.Proofs.Ytffpempklkkfaaa.st Go.Proofs.Ytffpempklkkfaaa.srd Go.Proofs.Ytffpempklkkfaaa.scp Go.Proofs.Ytffpempklkkfaaa.spw Go.Proofs.Ytffpempklkkfaaa.smp Go.Proofs.Ytffpempklkkfaaa.iput
set_option linter.unusedVariables false

theorem flat_set : ∀ (ms : List Ex) (p : Nat) (r : ByteArray) (o : Int), ((ms.flatMap flK.c).set (p * 2) (.string r)).set (p * 2 + 1) (.int .i64 o) = if p < ms.length then (ms.set p ⟨r, o⟩).flatMap flK.c else ((ms.flatMap flK.c).set (p * 2) (.string r)).set (p * 2 + 1) (.int .i64 o)
  | [], p, r, o => by simp
  | a :: l, 0, r, o => by simp [flK.c]
  | a :: l, p + 1, r, o => by
    have h := flat_set l p r o
    by_cases hp : p < l.length
    · rw [if_pos hp] at h
      rw [if_pos (by simpa using hp)]
      show (((a :: l).flatMap flK.c).set ((p + 1) * 2) (.string r)).set ((p + 1) * 2 + 1) (.int .i64 o) = (a :: l.set p ⟨r, o⟩).flatMap flK.c
      rw [List.flatMap_cons, List.flatMap_cons, ← h, show (p + 1) * 2 = p * 2 + 1 + 1 by omega]
      simp [flK.c]
    · rw [if_neg (by simpa using hp)]
theorem owns_put {W : World} {B gm c p : Nat} {ms : List Ex} {r : ByteArray} {o : Int} (h : W.ownsRow B 72 2 (.slice (some ⟨gm, 0, none⟩) ms.length c) ms.length (ms.flatMap flK.c)) (hp : p < ms.length) : ((W.setCell ⟨gm, p * 2, none⟩ (.string r)).setCell ⟨gm, p * 2 + 1, none⟩ (.int .i64 o)).ownsRow B 72 2 (.slice (some ⟨gm, 0, none⟩) (ms.set p ⟨r, o⟩).length c) (ms.set p ⟨r, o⟩).length ((ms.set p ⟨r, o⟩).flatMap flK.c) := by
  obtain ⟨h0, ⟨h1, _⟩ | ⟨g', cap', cur, h1, h2, h3, h4, h5, h6, h7⟩⟩ := h
  · cases h1
  cases h1
  have hs := bset (bset h3 (p * 2) (.string r)) (p * 2 + 1) (.int .i64 o)
  rw [List.length_set]
  refine ⟨by rw [flat_len flK.c_len, List.length_set], .inr ⟨gm, c, _, rfl, h2, hs, h4, h5, by simp [h6], ?_⟩⟩
  have hf := flat_set ms p r o
  rw [if_pos hp] at hf
  rw [← hf, ← h7]
  simp [List.take_set]
theorem owns_free {W : World} {B gm c n : Nat} {xs : List Value} (h : W.ownsRow B 72 2 (.slice (some ⟨gm, 0, none⟩) n c) n xs) (j : Nat) : W.frozen? ⟨gm, j, none⟩ = false := by
  obtain ⟨_, cur, hc⟩ := owns_at h
  exact bfree hc j
section
variable {w : World} {sn : ByteArray} {lo nx : Int} {es : List flY.En} {ms : List Ex} {g h cg ch : Nat} {n8 g1 c1 h1 c2 p : Nat} {r : ByteArray} {o : Int} {X X' : World}
/-- the mark at its place is changed -/
theorem sm_put (hs : SM w sn lo nx es ms g h cg ch n8 g1 c1 h1 c2 ms X) (hp : p < ms.length) (hset : setM ms r o = ms.set p ⟨r, o⟩) : SM w sn lo nx es ms g h cg ch n8 g1 c1 h1 c2 (setM ms r o) ((X.setCell ⟨h1, p * 2, none⟩ (.string r)).setCell ⟨h1, p * 2 + 1, none⟩ (.int .i64 o)) := by
  have hb := (owns_at hs.om).1
  have n1 := owns_ne (by decide) hs.om hs.box
  have n2 := owns_ne (by decide) hs.om hs.res
  have n3 := owns_ne (by decide) hs.om hs.out
  have n4 : g1 ≠ h1 := apart hs.oe hs.om
  have hl : (setM ms r o).length = ms.length := by rw [hset, List.length_set]
  have ho := owns_put (r := r) (o := o) hs.om hp
  rw [← hset] at ho
  refine ⟨(hs.bel.setCell (by show w.heap.size ≤ h1; omega) _).setCell (by show w.heap.size ≤ h1; omega) _, boff (boff hs.box _ _ _ (Ne.symm n1)) _ _ _ (Ne.symm n1), boff (boff hs.res _ _ _ (Ne.symm n2)) _ _ _ (Ne.symm n2), ?_, owns_set (owns_set hs.oe n4 _) n4 _, ho, hs.h8⟩
  rw [hl]
  exact boff (boff hs.out _ _ _ (Ne.symm n3)) _ _ _ (Ne.symm n3)
/-- a row of the new list is stored -/
theorem sm_new {b n cc : Nat} {xs : List Value} {x4 : Value} (hs : ST w sn lo nx es ms g h cg ch n8 g1 c1 x4 X) (hg : X.grownBy X' (some b)) (hm : X.ownsRow (w.heap.size + 2) 72 2 (.slice (some ⟨b, 0, none⟩) n cc) n xs) (hn : X'.ownsRow (w.heap.size + 2) 72 2 (.slice (some ⟨h1, 0, none⟩) (setM ms r o).length c2) (setM ms r o).length ((setM ms r o).flatMap flK.c)) :
    SM w sn lo nx es ms g h cg ch n8 g1 c1 h1 c2 (setM ms r o) (X'.setCell ⟨n8, 4, none⟩ (.slice (some ⟨h1, 0, none⟩) (setM ms r o).length c2)) ∧ X'.cell? ⟨n8, 4, none⟩ = some x4 ∧ X'.frozen? ⟨n8, 4, none⟩ = false :=
  ⟨(hs.grown hg hm).store hn, bcell (hs.grown hg hm).out rfl, bfree (hs.grown hg hm).out 4⟩
end

set_option maxRecDepth 100000 in
set_option maxHeartbeats 1000000 in
theorem impl_mark (sn : ByteArray) (lo nx : Int) (es : List flY.En) (ms : List Ex) (g h : Nat) (r : ByteArray) (o : Int) (w : World) (F : Fit sn es ms) (hbb : r.size ≤ 1048576) (hY : RY w g es) (hE : RE w h ms) :
    Calls Try.prog 35 #[.agg #[.string sn, .int .i64 lo, .int .i64 nx, .slice (some ⟨g, 0, none⟩) es.length es.length, .slice (some ⟨h, 0, none⟩) ms.length ms.length], .string r, .int .i64 o] w fun e w' => ∃ ga ca gb cb, e = .returned (.tuple #[.agg #[.string sn, .int .i64 lo, .int .i64 nx, .slice (some ⟨ga, 0, none⟩) es.length ca, .slice (some ⟨gb, 0, none⟩) (ansM sn lo nx es ms r o).length cb], .bool (fits sn lo nx es ms r o)]) ∧ w.heap.size ≤ ga ∧ w.heap.size ≤ gb ∧ ga ≠ gb ∧ OwnO flY.c 3 42 w' ga 0 es es.length ∧ OwnO flK.c 2 72 w' gb 0 (ansM sn lo nx es ms r o) (ansM sn lo nx es ms r o).length ∧ Below w.heap.size w w' := by
  have hWb : Below w.heap.size w ((w.alloc (.cells #[.string sn, .int .i64 lo, .int .i64 nx, .slice (some ⟨g, 0, none⟩) es.length es.length, .slice (some ⟨h, 0, none⟩) ms.length ms.length] 27)).alloc (.cells #[.string ⟨#[]⟩, .int .i64 0, .int .i64 0, .slice none 0 0, .slice none 0 0] 27)) := ((Below.refl _ _).alloc (Nat.le_refl _) _).alloc (by simp) _
  have hA0 := bold (bnew w #[.string sn, .int .i64 lo, .int .i64 nx, .slice (some ⟨g, 0, none⟩) es.length es.length, .slice (some ⟨h, 0, none⟩) ms.length ms.length] 27) (.cells #[.string ⟨#[]⟩, .int .i64 0, .int .i64 0, .slice none 0 0, .slice none 0 0] 27)
  have hR0 := bnew (w.alloc (.cells #[.string sn, .int .i64 lo, .int .i64 nx, .slice (some ⟨g, 0, none⟩) es.length es.length, .slice (some ⟨h, 0, none⟩) ms.length ms.length] 27)) #[.string ⟨#[]⟩, .int .i64 0, .int .i64 0, .slice none 0 0, .slice none 0 0] 27
  rw [World.size_alloc] at hR0
  have hS0 : ((w.alloc (.cells #[.string sn, .int .i64 lo, .int .i64 nx, .slice (some ⟨g, 0, none⟩) es.length es.length, .slice (some ⟨h, 0, none⟩) ms.length ms.length] 27)).alloc (.cells #[.string ⟨#[]⟩, .int .i64 0, .int .i64 0, .slice none 0 0, .slice none 0 0] 27)).heap.size = w.heap.size + 2 := by simp
  have hok := sti.impl_ok sn lo nx es ms g h es.length ms.length ((w.alloc (.cells #[.string sn, .int .i64 lo, .int .i64 nx, .slice (some ⟨g, 0, none⟩) es.length es.length, .slice (some ⟨h, 0, none⟩) ms.length ms.length] 27)).alloc (.cells #[.string ⟨#[]⟩, .int .i64 0, .int .i64 0, .slice none 0 0, .slice none 0 0] 27)) F (hY.below hWb) (hE.below hWb)
  have HF : Hid (Fit sn es ms) := F
  have HY : Hid (RY w g es) := hY
  have HE : Hid (RE w h ms) := hE
  have HAE : Hid (ansM sn lo nx es ms r o = if fits sn lo nx es ms r o = true then setM ms r o else ms) := rfl
  obtain ⟨AE, hAE⟩ : ∃ AE, ansM sn lo nx es ms r o = AE := ⟨_, rfl⟩
  rw [hAE] at HAE
  simp only [hAE]
  obtain ⟨ft, hft⟩ : ∃ ft, fits sn lo nx es ms r o = ft := ⟨_, rfl⟩
  rw [hft] at HAE
  simp only [hft]
  have HFT : Hid (fits sn lo nx es ms r o = ft) := hft
  have hel := F.el
  have hml := F.ml
  have hem : es.length ≤ maxLen := by unfold maxLen; omega
  have hmm : ms.length ≤ maxLen := by unfold maxLen; omega
  obtain ⟨W, hW⟩ : ∃ W, (w.alloc (.cells #[.string sn, .int .i64 lo, .int .i64 nx, .slice (some ⟨g, 0, none⟩) es.length es.length, .slice (some ⟨h, 0, none⟩) ms.length ms.length] 27)).alloc (.cells #[.string ⟨#[]⟩, .int .i64 0, .int .i64 0, .slice none 0 0, .slice none 0 0] 27) = W := ⟨_, rfl⟩
  rw [hW] at hWb hA0 hR0 hS0 hok
  have HA0 : Hid (W.heap[w.heap.size]? = some (.cells #[.string sn, .int .i64 lo, .int .i64 nx, .slice (some ⟨g, 0, none⟩) es.length es.length, .slice (some ⟨h, 0, none⟩) ms.length ms.length] 27 (0, 0))) := hA0
  have HR0 : Hid (W.heap[w.heap.size + 1]? = some (.cells #[.string ⟨#[]⟩, .int .i64 0, .int .i64 0, .slice none 0 0, .slice none 0 0] 27 (0, 0))) := hR0
  have x0 : W.cell? ⟨w.heap.size, 0, none⟩ = some (.string sn) := bcell hA0 rfl
  have x1 : W.cell? ⟨w.heap.size, 1, none⟩ = some (.int .i64 lo) := bcell hA0 rfl
  have x2 : W.cell? ⟨w.heap.size, 2, none⟩ = some (.int .i64 nx) := bcell hA0 rfl
  have x3 : W.cell? ⟨w.heap.size, 3, none⟩ = some (.slice (some ⟨g, 0, none⟩) es.length es.length) := bcell hA0 rfl
  have x4 : W.cell? ⟨w.heap.size, 4, none⟩ = some (.slice (some ⟨h, 0, none⟩) ms.length ms.length) := bcell hA0 rfl
  clear hY hE F hAE hft hA0 hR0
  cases hob : okB sn lo nx es ms with
  | false =>
    rw [hob] at hok
    obtain rfl : ft = false := by rw [← HFT.out]; unfold fits; rw [hob]; rfl
    obtain rfl : ms = AE := HAE.out.symm
    go_enter Try.func35, Try.ntmps35
    go_wp2_with (go_at_call 22; fail)
    clear hW
    refine hok.mono ?_
    rintro e w1 ⟨rfl, hb1⟩
    have hbw1 : Below w.heap.size w w1 := hWb.trans (hb1.mono hWb.size)
    have a1 := bstay HA0.out hb1 (by omega)
    have r1 := bstay HR0.out hb1 (by omega)
    have hc := cst.copy_stream sn lo nx es ms g h es.length ms.length w1 HF.out (HY.out.below hbw1) (HE.out.below hbw1)
    have hs1 := hb1.size
    have y0 : w1.cell? ⟨w.heap.size, 0, none⟩ = some (.string sn) := bcell a1 rfl
    have y1 : w1.cell? ⟨w.heap.size, 1, none⟩ = some (.int .i64 lo) := bcell a1 rfl
    have y2 : w1.cell? ⟨w.heap.size, 2, none⟩ = some (.int .i64 nx) := bcell a1 rfl
    have y3 : w1.cell? ⟨w.heap.size, 3, none⟩ = some (.slice (some ⟨g, 0, none⟩) es.length es.length) := bcell a1 rfl
    have y4 : w1.cell? ⟨w.heap.size, 4, none⟩ = some (.slice (some ⟨h, 0, none⟩) ms.length ms.length) := bcell a1 rfl
    have HR1 : Hid (w1.heap[w.heap.size + 1]? = some (.cells #[.string ⟨#[]⟩, .int .i64 0, .int .i64 0, .slice none 0 0, .slice none 0 0] 27 (0, 0))) := r1
    clear hok a1 r1 x0 x1 x2 x3 x4
    go_wp2_with (go_at_call 41; fail)
    refine hc.mono ?_
    rintro e w2 ⟨ge, gm, rfl, hge, hgm, hne, oe2, om2, hb2⟩
    have r2 := bstay HR1.out hb2 (by omega)
    have hbw2 : Below w.heap.size w w2 := hbw1.trans (hb2.mono hbw1.size)
    have HOE : Hid (OwnO flY.c 3 42 w2 ge 0 es es.length) := of_own oe2
    have HOM : Hid (OwnO flK.c 2 72 w2 gm 0 ms ms.length) := of_own om2
    have z0 : w2.cell? ⟨w.heap.size + 1, 0, none⟩ = some (.string ⟨#[]⟩) := bcell r2 rfl
    have z1 : w2.cell? ⟨w.heap.size + 1, 1, none⟩ = some (.int .i64 0) := bcell r2 rfl
    have z2 : w2.cell? ⟨w.heap.size + 1, 2, none⟩ = some (.int .i64 0) := bcell r2 rfl
    have z3 : w2.cell? ⟨w.heap.size + 1, 3, none⟩ = some (.slice none 0 0) := bcell r2 rfl
    have z4 : w2.cell? ⟨w.heap.size + 1, 4, none⟩ = some (.slice none 0 0) := bcell r2 rfl
    have z0f := bfree r2 0
    have z1f := bfree r2 1
    have z2f := bfree r2 2
    have z3f := bfree r2 3
    have z4f := bfree r2 4
    clear hc oe2 om2 r2 hb2 y0 y1 y2 y3 y4
    go_wp2
    refine bodyPost_ret (v := .tuple #[.agg #[.string sn, .int .i64 lo, .int .i64 nx, .slice (some ⟨ge, 0, none⟩) es.length es.length, .slice (some ⟨gm, 0, none⟩) ms.length ms.length], .bool false]) (by simp [results, Try.results35, go_sem, z0, z1, z2, z3, z4]) rfl ⟨ge, es.length, gm, ms.length, rfl, by omega, by omega, hne, ?_, ?_, ?_⟩
    · exact res_own HOE.out (by omega)
    · exact res_own HOM.out (by omega)
    · exact fin_below hbw2 (Nat.le_succ _)
  | true =>
    rw [hob] at hok
    have HOK : Hid (OkT sn lo nx es ms) := okB_true.1 hob
    have hnx := HOK.out.nx0
    have hml4 := HOK.out.ml
    go_enter Try.func35, Try.ntmps35
    go_wp2_with (go_at_call 22; fail)
    clear hW
    refine hok.mono ?_
    rintro e w1 ⟨rfl, hb1⟩
    have hbw1 : Below w.heap.size w w1 := hWb.trans (hb1.mono hWb.size)
    have a1 := bstay HA0.out hb1 (by omega)
    have r1 := bstay HR0.out hb1 (by omega)
    have hc := cst.copy_stream sn lo nx es ms g h es.length ms.length w1 HF.out (HY.out.below hbw1) (HE.out.below hbw1)
    have hs1 := hb1.size
    have y0 : w1.cell? ⟨w.heap.size, 0, none⟩ = some (.string sn) := bcell a1 rfl
    have y1 : w1.cell? ⟨w.heap.size, 1, none⟩ = some (.int .i64 lo) := bcell a1 rfl
    have y2 : w1.cell? ⟨w.heap.size, 2, none⟩ = some (.int .i64 nx) := bcell a1 rfl
    have y3 : w1.cell? ⟨w.heap.size, 3, none⟩ = some (.slice (some ⟨g, 0, none⟩) es.length es.length) := bcell a1 rfl
    have y4 : w1.cell? ⟨w.heap.size, 4, none⟩ = some (.slice (some ⟨h, 0, none⟩) ms.length ms.length) := bcell a1 rfl
    have HA1 : Hid (w1.heap[w.heap.size]? = some (.cells #[.string sn, .int .i64 lo, .int .i64 nx, .slice (some ⟨g, 0, none⟩) es.length es.length, .slice (some ⟨h, 0, none⟩) ms.length ms.length] 27 (0, 0))) := a1
    have HR1 : Hid (w1.heap[w.heap.size + 1]? = some (.cells #[.string ⟨#[]⟩, .int .i64 0, .int .i64 0, .slice none 0 0, .slice none 0 0] 27 (0, 0))) := r1
    clear hok a1 r1 x0 x1 x2 x3 x4
    go_wp2_with (go_at_call 41; fail)
    refine hc.mono ?_
    rintro e w2 ⟨ge, gm, rfl, hge, hgm, hne, oe2, om2, hb2⟩
    have hs2 := hb2.size
    have hsm : SM w sn lo nx es ms g h es.length ms.length w2.heap.size ge es.length gm ms.length ms (w2.alloc (.cells #[.string sn, .int .i64 lo, .int .i64 nx, .slice (some ⟨ge, 0, none⟩) es.length es.length, .slice (some ⟨gm, 0, none⟩) ms.length ms.length] 27)) :=
      ⟨(hbw1.trans (hb2.mono hbw1.size)).alloc (by omega) _, bold (bstay HA1.out hb2 (by omega)) _, bold (bstay HR1.out hb2 (by omega)) _, bnew w2 _ _, (own_owns flY.c_len oe2 (by omega) hem).alloc _, (own_owns flK.c_len om2 (by omega) hmm).alloc _, by omega⟩
    have hcl := fun W => cl.clone r W (by omega)
    obtain ⟨X, hX⟩ : ∃ X, w2.alloc (.cells #[.string sn, .int .i64 lo, .int .i64 nx, .slice (some ⟨ge, 0, none⟩) es.length es.length, .slice (some ⟨gm, 0, none⟩) ms.length ms.length] 27) = X := ⟨_, rfl⟩
    rw [hX] at hsm
    have HSM : Hid (SM w sn lo nx es ms g h es.length ms.length w2.heap.size ge es.length gm ms.length ms X) := hsm
    clear hc oe2 om2 hb2 hsm y0 y1 y2 y3 y4
    go_wp2_with (go_at_call 47; fail)
    clear hX
    refine (hcl _).mono ?_
    rintro e w3 ⟨rfl, hb3⟩
    have hs3 := HSM.out.on hb3
    have hal4 : Below w3.heap.size w3 (w3.alloc (.cells #[.string r, .int .i64 o] 72)) := (Below.refl _ _).alloc (Nat.le_refl _) _
    have hs4 := hs3.on hal4
    have hm4 := bnew w3 #[.string r, .int .i64 o] 72
    obtain ⟨Z, hZ⟩ : ∃ Z, w3.alloc (.cells #[.string r, .int .i64 o] 72) = Z := ⟨_, rfl⟩
    rw [hZ] at hs4 hm4 hal4
    have n4 : Z.cell? ⟨w2.heap.size, 4, none⟩ = some (.slice (some ⟨gm, 0, none⟩) ms.length ms.length) := bcell hs4.out rfl
    have m0 : Z.cell? ⟨w3.heap.size, 0, none⟩ = some (.string r) := bcell hm4 rfl
    have m1 : Z.cell? ⟨w3.heap.size, 1, none⟩ = some (.int .i64 o) := bcell hm4 rfl
    have hsr := mf.search_mark ms gm ms.length r o Z hml (re_owns hs4.om) (up_mon HOK.out.mu r)
    have HS4 : Hid (SM w sn lo nx es ms g h es.length ms.length w2.heap.size ge es.length gm ms.length ms Z) := hs4
    have HM4 : Hid (Z.heap[w3.heap.size]? = some (.cells #[.string r, .int .i64 o] 72 (0, 0))) := hm4
    have hlt4 := (Array.getElem?_eq_some_iff.1 hm4).1
    clear hcl hs3 hs4 hm4 HSM hb3 hal4
    go_wp2_with (go_at_call 63; fail)
    clear hZ n4 m0 m1
    refine hsr.mono ?_
    rintro e w5 ⟨⟨p, bb, rfl, hp, hbt⟩, hb5⟩
    have hs5 := HS4.out.on hb5
    have hm5 := bstay HM4.out hb5 hlt4
    have hp0 : p ≤ ms.length := hp.1
    have HP : Hid (posM ms r = p) := posM_of hp
    have n4 : w5.cell? ⟨w2.heap.size, 4, none⟩ = some (.slice (some ⟨gm, 0, none⟩) ms.length ms.length) := bcell hs5.out rfl
    have m0 : w5.cell? ⟨w3.heap.size, 0, none⟩ = some (.string r) := bcell hm5 rfl
    have m1 : w5.cell? ⟨w3.heap.size, 1, none⟩ = some (.int .i64 o) := bcell hm5 rfl
    have HS5 : Hid (SM w sn lo nx es ms g h es.length ms.length w2.heap.size ge es.length gm ms.length ms w5) := hs5
    have HM5 : Hid (w5.heap[w3.heap.size]? = some (.cells #[.string r, .int .i64 o] 72 (0, 0))) := hm5
    have HBT : Hid (bb = true ↔ isM ms p r = true) := by unfold Hid; rw [isM_true]; exact hbt
    have hF3 : Fit sn es (setM ms r o) := fit_mark HF.out HOK.out hbb
    have HF3 : Hid (Fit sn es (setM ms r o)) := hF3
    clear hsr hp hbt hb5 HS4 HM4 hm5 hF3
    cases bb with
    | true =>
      have his : isM ms p r = true := HBT.out.1 rfl
      have hpl : p < ms.length := by
        obtain ⟨a, ha, _⟩ := isM_true.1 his
        exact (List.getElem?_eq_some_iff.1 ha).1
      have hset : setM ms r o = ms.set p ⟨r, o⟩ := setM_there HP.out his
      have hsl : (setM ms r o).length = ms.length := by rw [hset, List.length_set]
      have hsm := sm_put (r := r) (o := o) hs5 hpl hset
      have fz0 := owns_free hs5.om (p * 2)
      have fz1 := owns_free hs5.om (p * 2 + 1)
      have cz0 : ∃ v, w5.cell? ⟨gm, p * 2, none⟩ = some v := ⟨_, ((re_owns hs5.om).2 p _ (List.getElem?_eq_getElem hpl)).1⟩
      have cz1 : ∃ v, w5.cell? ⟨gm, p * 2 + 1, none⟩ = some v := ⟨_, ((re_owns hs5.om).2 p _ (List.getElem?_eq_getElem hpl)).2⟩
      obtain ⟨v0, cz0⟩ := cz0
      obtain ⟨v1, cz1⟩ := cz1
      have hpi : (p : Int) < (ms.length : Int) := by omega
      obtain ⟨Y, hYe⟩ : ∃ Y, (w5.setCell ⟨gm, p * 2, none⟩ (.string r)).setCell ⟨gm, p * 2 + 1, none⟩ (.int .i64 o) = Y := ⟨_, rfl⟩
      rw [hYe] at hsm
      have HN5 : Hid ((setM ms r o).length = ms.length) := hsl
      have HY3 : Hid (SM w sn lo nx es ms g h es.length ms.length w2.heap.size ge es.length gm ms.length (setM ms r o) Y) := hsm
      have hok3 := sti.impl_ok sn lo nx es (setM ms r o) ge gm es.length ms.length Y HF3.out (ry_owns hsm.oe) (re_owns hsm.om)
      rw [HN5.out] at hok3
      have o0 : Y.cell? ⟨w2.heap.size, 0, none⟩ = some (.string sn) := bcell hsm.out rfl
      have o1 : Y.cell? ⟨w2.heap.size, 1, none⟩ = some (.int .i64 lo) := bcell hsm.out rfl
      have o2 : Y.cell? ⟨w2.heap.size, 2, none⟩ = some (.int .i64 nx) := bcell hsm.out rfl
      have o3 : Y.cell? ⟨w2.heap.size, 3, none⟩ = some (.slice (some ⟨ge, 0, none⟩) es.length es.length) := bcell hsm.out rfl
      have o4 : Y.cell? ⟨w2.heap.size, 4, none⟩ = some (.slice (some ⟨gm, 0, none⟩) (setM ms r o).length ms.length) := bcell hsm.out rfl
      rw [HN5.out] at o4
      clear hsm hsl
      cases hob3 : okB sn lo nx es (setM ms r o) with
      | true =>
        rw [hob3] at hok3
        obtain rfl : ft = true := by rw [← HFT.out]; unfold fits; rw [hob, hob3]; rfl
        obtain rfl : AE = setM ms r o := HAE.out
        go_wp2_with (go_at_call 22; fail)
        clear hYe o0 o1 o2 o3 o4
        refine hok3.mono ?_
        rintro e w8 ⟨rfl, hb8⟩
        have hs8 := HY3.out.on hb8
        have HS8 : Hid (SM w sn lo nx es ms g h es.length ms.length w2.heap.size ge es.length gm ms.length (setM ms r o) w8) := hs8
        have q0 : w8.cell? ⟨w2.heap.size, 0, none⟩ = some (.string sn) := bcell hs8.out rfl
        have q1 : w8.cell? ⟨w2.heap.size, 1, none⟩ = some (.int .i64 lo) := bcell hs8.out rfl
        have q2 : w8.cell? ⟨w2.heap.size, 2, none⟩ = some (.int .i64 nx) := bcell hs8.out rfl
        have q3 : w8.cell? ⟨w2.heap.size, 3, none⟩ = some (.slice (some ⟨ge, 0, none⟩) es.length es.length) := bcell hs8.out rfl
        have q4 : w8.cell? ⟨w2.heap.size, 4, none⟩ = some (.slice (some ⟨gm, 0, none⟩) (setM ms r o).length ms.length) := bcell hs8.out rfl
        rw [HN5.out] at q4
        have z0 : w8.cell? ⟨w.heap.size + 1, 0, none⟩ = some (.string ⟨#[]⟩) := bcell hs8.res rfl
        have z1 : w8.cell? ⟨w.heap.size + 1, 1, none⟩ = some (.int .i64 0) := bcell hs8.res rfl
        have z2 : w8.cell? ⟨w.heap.size + 1, 2, none⟩ = some (.int .i64 0) := bcell hs8.res rfl
        have z3 : w8.cell? ⟨w.heap.size + 1, 3, none⟩ = some (.slice none 0 0) := bcell hs8.res rfl
        have z4 : w8.cell? ⟨w.heap.size + 1, 4, none⟩ = some (.slice none 0 0) := bcell hs8.res rfl
        have z0f := bfree hs8.res 0
        have z1f := bfree hs8.res 1
        have z2f := bfree hs8.res 2
        have z3f := bfree hs8.res 3
        have z4f := bfree hs8.res 4
        clear hok3 hs8 HY3
        go_wp2
        have hE8 := (owns_at HS8.out.oe).1
        have hM8 := (owns_at HS8.out.om).1
        refine bodyPost_ret (v := .tuple #[.agg #[.string sn, .int .i64 lo, .int .i64 nx, .slice (some ⟨ge, 0, none⟩) es.length es.length, .slice (some ⟨gm, 0, none⟩) (ms.length) ms.length], .bool true]) (by simp [results, Try.results35, go_sem, z0, z1, z2, z3, z4]) rfl ⟨ge, es.length, gm, ms.length, by rw [HN5.out], by omega, by omega, apart HS8.out.oe HS8.out.om, ?_, ?_, ?_⟩
        · exact res_own (owns_ownO flY.c_len HS8.out.oe) (by omega)
        · exact res_own (owns_ownO flK.c_len HS8.out.om) (by omega)
        · exact fin_below HS8.out.bel (Nat.le_succ _)
      | false =>
        rw [hob3] at hok3
        obtain rfl : ft = false := by rw [← HFT.out]; unfold fits; rw [hob, hob3]; rfl
        have HAM : Hid (AE = ms) := HAE.out
        go_wp2_with (go_at_call 22; fail)
        clear hYe o0 o1 o2 o3 o4
        refine hok3.mono ?_
        rintro e w8 ⟨rfl, hb8⟩
        have hs8 := HY3.out.on hb8
        have HS8 : Hid (SM w sn lo nx es ms g h es.length ms.length w2.heap.size ge es.length gm ms.length (setM ms r o) w8) := hs8
        have hc5 := cst.copy_stream sn lo nx es ms g h es.length ms.length w8 HF.out (HY.out.below hs8.bel) (HE.out.below hs8.bel)
        have hsz8 := hs8.size
        have x0 : w8.cell? ⟨w.heap.size, 0, none⟩ = some (.string sn) := bcell hs8.box rfl
        have x1 : w8.cell? ⟨w.heap.size, 1, none⟩ = some (.int .i64 lo) := bcell hs8.box rfl
        have x2 : w8.cell? ⟨w.heap.size, 2, none⟩ = some (.int .i64 nx) := bcell hs8.box rfl
        have x3 : w8.cell? ⟨w.heap.size, 3, none⟩ = some (.slice (some ⟨g, 0, none⟩) es.length es.length) := bcell hs8.box rfl
        have x4 : w8.cell? ⟨w.heap.size, 4, none⟩ = some (.slice (some ⟨h, 0, none⟩) ms.length ms.length) := bcell hs8.box rfl
        clear hok3 hs8 HY3
        go_wp2_with (go_at_call 41; fail)
        refine hc5.mono ?_
        rintro e w9 ⟨g9, h9, rfl, hg9, hh9, hne9, oe9, om9, hb9⟩
        have hs9 := HS8.out.on hb9
        have z0 : w9.cell? ⟨w.heap.size + 1, 0, none⟩ = some (.string ⟨#[]⟩) := bcell hs9.res rfl
        have z1 : w9.cell? ⟨w.heap.size + 1, 1, none⟩ = some (.int .i64 0) := bcell hs9.res rfl
        have z2 : w9.cell? ⟨w.heap.size + 1, 2, none⟩ = some (.int .i64 0) := bcell hs9.res rfl
        have z3 : w9.cell? ⟨w.heap.size + 1, 3, none⟩ = some (.slice none 0 0) := bcell hs9.res rfl
        have z4 : w9.cell? ⟨w.heap.size + 1, 4, none⟩ = some (.slice none 0 0) := bcell hs9.res rfl
        have z0f := bfree hs9.res 0
        have z1f := bfree hs9.res 1
        have z2f := bfree hs9.res 2
        have z3f := bfree hs9.res 3
        have z4f := bfree hs9.res 4
        have HB9 : Hid (Below w.heap.size w w9) := hs9.bel
        have HOE : Hid (OwnO flY.c 3 42 w9 g9 0 es es.length) := of_own oe9
        have HOM : Hid (OwnO flK.c 2 72 w9 h9 0 ms ms.length) := of_own om9
        clear hc5 hs9 oe9 om9 hb9 HS8 x0 x1 x2 x3 x4
        go_wp2
        refine bodyPost_ret (v := .tuple #[.agg #[.string sn, .int .i64 lo, .int .i64 nx, .slice (some ⟨g9, 0, none⟩) es.length es.length, .slice (some ⟨h9, 0, none⟩) ms.length ms.length], .bool false]) (by simp [results, Try.results35, go_sem, z0, z1, z2, z3, z4]) rfl ⟨g9, es.length, h9, ms.length, by rw [HAM.out], by omega, by omega, hne9, ?_, ?_, ?_⟩
        · exact res_own HOE.out (by omega)
        · rw [HAM.out]; exact res_own HOM.out (by omega)
        · exact fin_below HB9.out (Nat.le_succ _)
    | false =>
      have his : isM ms p r = false := by
        cases hh : isM ms p r with
        | false => rfl
        | true => have := HBT.out.2 hh; cases this
      have hset : setM ms r o = ms.take p ++ ⟨r, o⟩ :: ms.drop p := setM_new HP.out his
      have hsl : (setM ms r o).length = ms.length + 1 := by rw [hset, List.length_append, List.length_cons, List.length_take, List.length_drop]; omega
      have hal6 : Below w5.heap.size w5 (w5.alloc (.cells #[.string r, .int .i64 o] 72)) := (Below.refl _ _).alloc (Nat.le_refl _) _
      have hs6 := hs5.on hal6
      have hm6 := bnew w5 #[.string r, .int .i64 o] 72
      obtain ⟨V, hV⟩ : ∃ V, w5.alloc (.cells #[.string r, .int .i64 o] 72) = V := ⟨_, rfl⟩
      rw [hV] at hs6 hm6
      have hin := insm.insert_mark ms gm p (w.heap.size + 2) r o w5.heap.size V hp0 hml hs6.size hs6.om hm6
      rw [← hset] at hin
      have HS6 : Hid (SM w sn lo nx es ms g h es.length ms.length w2.heap.size ge es.length gm ms.length ms V) := hs6
      have HN5 : Hid ((setM ms r o).length = ms.length + 1) := hsl
      clear hal6 hs6 hm6 hset his HBT hs5
      go_wp2_with (go_at_call 65; fail)
      clear hV n4 m0 m1
      refine hin.mono ?_
      rintro e w7 ⟨g6, c6, rfl, ho7, hg7⟩
      rw [← hsl] at ho7
      obtain ⟨hsm, n4, fz0⟩ := sm_new (r := r) (o := o) HS6.out.st hg7 HS6.out.om ho7
      rw [hsl] at hsm
      obtain ⟨Y, hYe⟩ : ∃ Y, w7.setCell ⟨w2.heap.size, 4, none⟩ (.slice (some ⟨g6, 0, none⟩) (ms.length + 1) c6) = Y := ⟨_, rfl⟩
      rw [hYe] at hsm
      clear hin ho7 hg7 HS6
      have HY3 : Hid (SM w sn lo nx es ms g h es.length ms.length w2.heap.size ge es.length g6 c6 (setM ms r o) Y) := hsm
      have hok3 := sti.impl_ok sn lo nx es (setM ms r o) ge g6 es.length c6 Y HF3.out (ry_owns hsm.oe) (re_owns hsm.om)
      rw [HN5.out] at hok3
      have o0 : Y.cell? ⟨w2.heap.size, 0, none⟩ = some (.string sn) := bcell hsm.out rfl
      have o1 : Y.cell? ⟨w2.heap.size, 1, none⟩ = some (.int .i64 lo) := bcell hsm.out rfl
      have o2 : Y.cell? ⟨w2.heap.size, 2, none⟩ = some (.int .i64 nx) := bcell hsm.out rfl
      have o3 : Y.cell? ⟨w2.heap.size, 3, none⟩ = some (.slice (some ⟨ge, 0, none⟩) es.length es.length) := bcell hsm.out rfl
      have o4 : Y.cell? ⟨w2.heap.size, 4, none⟩ = some (.slice (some ⟨g6, 0, none⟩) (setM ms r o).length c6) := bcell hsm.out rfl
      rw [HN5.out] at o4
      clear hsm hsl
      cases hob3 : okB sn lo nx es (setM ms r o) with
      | true =>
        rw [hob3] at hok3
        obtain rfl : ft = true := by rw [← HFT.out]; unfold fits; rw [hob, hob3]; rfl
        obtain rfl : AE = setM ms r o := HAE.out
        go_wp2_with (go_at_call 22; fail)
        clear hYe o0 o1 o2 o3 o4
        refine hok3.mono ?_
        rintro e w8 ⟨rfl, hb8⟩
        have hs8 := HY3.out.on hb8
        have HS8 : Hid (SM w sn lo nx es ms g h es.length ms.length w2.heap.size ge es.length g6 c6 (setM ms r o) w8) := hs8
        have q0 : w8.cell? ⟨w2.heap.size, 0, none⟩ = some (.string sn) := bcell hs8.out rfl
        have q1 : w8.cell? ⟨w2.heap.size, 1, none⟩ = some (.int .i64 lo) := bcell hs8.out rfl
        have q2 : w8.cell? ⟨w2.heap.size, 2, none⟩ = some (.int .i64 nx) := bcell hs8.out rfl
        have q3 : w8.cell? ⟨w2.heap.size, 3, none⟩ = some (.slice (some ⟨ge, 0, none⟩) es.length es.length) := bcell hs8.out rfl
        have q4 : w8.cell? ⟨w2.heap.size, 4, none⟩ = some (.slice (some ⟨g6, 0, none⟩) (setM ms r o).length c6) := bcell hs8.out rfl
        rw [HN5.out] at q4
        have z0 : w8.cell? ⟨w.heap.size + 1, 0, none⟩ = some (.string ⟨#[]⟩) := bcell hs8.res rfl
        have z1 : w8.cell? ⟨w.heap.size + 1, 1, none⟩ = some (.int .i64 0) := bcell hs8.res rfl
        have z2 : w8.cell? ⟨w.heap.size + 1, 2, none⟩ = some (.int .i64 0) := bcell hs8.res rfl
        have z3 : w8.cell? ⟨w.heap.size + 1, 3, none⟩ = some (.slice none 0 0) := bcell hs8.res rfl
        have z4 : w8.cell? ⟨w.heap.size + 1, 4, none⟩ = some (.slice none 0 0) := bcell hs8.res rfl
        have z0f := bfree hs8.res 0
        have z1f := bfree hs8.res 1
        have z2f := bfree hs8.res 2
        have z3f := bfree hs8.res 3
        have z4f := bfree hs8.res 4
        clear hok3 hs8 HY3
        go_wp2
        have hE8 := (owns_at HS8.out.oe).1
        have hM8 := (owns_at HS8.out.om).1
        refine bodyPost_ret (v := .tuple #[.agg #[.string sn, .int .i64 lo, .int .i64 nx, .slice (some ⟨ge, 0, none⟩) es.length es.length, .slice (some ⟨g6, 0, none⟩) (ms.length + 1) c6], .bool true]) (by simp [results, Try.results35, go_sem, z0, z1, z2, z3, z4]) rfl ⟨ge, es.length, g6, c6, by rw [HN5.out], by omega, by omega, apart HS8.out.oe HS8.out.om, ?_, ?_, ?_⟩
        · exact res_own (owns_ownO flY.c_len HS8.out.oe) (by omega)
        · exact res_own (owns_ownO flK.c_len HS8.out.om) (by omega)
        · exact fin_below HS8.out.bel (Nat.le_succ _)
      | false =>
        rw [hob3] at hok3
        obtain rfl : ft = false := by rw [← HFT.out]; unfold fits; rw [hob, hob3]; rfl
        have HAM : Hid (AE = ms) := HAE.out
        go_wp2_with (go_at_call 22; fail)
        clear hYe o0 o1 o2 o3 o4
        refine hok3.mono ?_
        rintro e w8 ⟨rfl, hb8⟩
        have hs8 := HY3.out.on hb8
        have HS8 : Hid (SM w sn lo nx es ms g h es.length ms.length w2.heap.size ge es.length g6 c6 (setM ms r o) w8) := hs8
        have hc5 := cst.copy_stream sn lo nx es ms g h es.length ms.length w8 HF.out (HY.out.below hs8.bel) (HE.out.below hs8.bel)
        have hsz8 := hs8.size
        have x0 : w8.cell? ⟨w.heap.size, 0, none⟩ = some (.string sn) := bcell hs8.box rfl
        have x1 : w8.cell? ⟨w.heap.size, 1, none⟩ = some (.int .i64 lo) := bcell hs8.box rfl
        have x2 : w8.cell? ⟨w.heap.size, 2, none⟩ = some (.int .i64 nx) := bcell hs8.box rfl
        have x3 : w8.cell? ⟨w.heap.size, 3, none⟩ = some (.slice (some ⟨g, 0, none⟩) es.length es.length) := bcell hs8.box rfl
        have x4 : w8.cell? ⟨w.heap.size, 4, none⟩ = some (.slice (some ⟨h, 0, none⟩) ms.length ms.length) := bcell hs8.box rfl
        clear hok3 hs8 HY3
        go_wp2_with (go_at_call 41; fail)
        refine hc5.mono ?_
        rintro e w9 ⟨g9, h9, rfl, hg9, hh9, hne9, oe9, om9, hb9⟩
        have hs9 := HS8.out.on hb9
        have z0 : w9.cell? ⟨w.heap.size + 1, 0, none⟩ = some (.string ⟨#[]⟩) := bcell hs9.res rfl
        have z1 : w9.cell? ⟨w.heap.size + 1, 1, none⟩ = some (.int .i64 0) := bcell hs9.res rfl
        have z2 : w9.cell? ⟨w.heap.size + 1, 2, none⟩ = some (.int .i64 0) := bcell hs9.res rfl
        have z3 : w9.cell? ⟨w.heap.size + 1, 3, none⟩ = some (.slice none 0 0) := bcell hs9.res rfl
        have z4 : w9.cell? ⟨w.heap.size + 1, 4, none⟩ = some (.slice none 0 0) := bcell hs9.res rfl
        have z0f := bfree hs9.res 0
        have z1f := bfree hs9.res 1
        have z2f := bfree hs9.res 2
        have z3f := bfree hs9.res 3
        have z4f := bfree hs9.res 4
        have HB9 : Hid (Below w.heap.size w w9) := hs9.bel
        have HOE : Hid (OwnO flY.c 3 42 w9 g9 0 es es.length) := of_own oe9
        have HOM : Hid (OwnO flK.c 2 72 w9 h9 0 ms ms.length) := of_own om9
        clear hc5 hs9 oe9 om9 hb9 HS8 x0 x1 x2 x3 x4
        go_wp2
        refine bodyPost_ret (v := .tuple #[.agg #[.string sn, .int .i64 lo, .int .i64 nx, .slice (some ⟨g9, 0, none⟩) es.length es.length, .slice (some ⟨h9, 0, none⟩) ms.length ms.length], .bool false]) (by simp [results, Try.results35, go_sem, z0, z1, z2, z3, z4]) rfl ⟨g9, es.length, h9, ms.length, by rw [HAM.out], by omega, by omega, hne9, ?_, ?_, ?_⟩
        · exact res_own HOE.out (by omega)
        · rw [HAM.out]; exact res_own HOM.out (by omega)
        · exact fin_below HB9.out (Nat.le_succ _)
end Go.Proofs.Ytffpempklkkfaaa.imk
