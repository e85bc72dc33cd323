/- The law of StoreGet, walked: at every store the program answers as the specification. -/
import Derived.Test.YtfoajjkcocppeaaStoLib
import Derived.Test.YtfoajjkcocppeaaStoGet
namespace Go.Proofs.Ytfoajjkcocppeaa.lwStoreGet
open Go.ChangeShapes Go.WideShapes Go.ChangeAt Go.RowKit Go.Proofs.Ytfoajjkcocppeaa.fl Go.Proofs.Ytfoajjkcocppeaa.rn Go.Proofs.Ytfoajjkcocppeaa.tb Go.Proofs.Ytfoajjkcocppeaa.sto
set_option linter.unusedVariables false

set_option maxRecDepth 100000 in
set_option maxHeartbeats 4000000 in
theorem walk (ys : List flP.Pr) (rs : List Rn) (ya ra : Option Addr) (yc rc : Nat) (lg : ByteArray) (sf : Int) (xt : ByteArray) (w : World) (hyl : ys.length ≤ maxLen) (hrl : rs.length ≤ maxLen) (hyo : ∀ e ∈ ys, flP.ok e) (hro : ∀ e ∈ rs, okR e) (hlg : lg.size ≤ maxLen) (hxt : xt.size ≤ maxLen) (hY : Row flP.c 3 w w.heap.size ya ys) (hR : VR w w.heap.size ra rs) :
    Calls Try.prog 5 #[.agg #[.slice ya ys.length yc, .slice ra rs.length rc, .string lg, .int .i64 sf], .string xt] w fun e w' => e = .returned (.bool true) ∧ Below w.heap.size w w' := by
  have hb : Below w.heap.size w (w.alloc (.cells #[.slice ya ys.length yc, .slice ra rs.length rc, .string lg, .int .i64 sf] 27)) := (Below.refl _ _).alloc (Nat.le_refl _) _
  have hA := bnew w #[.slice ya ys.length yc, .slice ra rs.length rc, .string lg, .int .i64 sf] 27
  obtain ⟨W, hW⟩ : ∃ W, w.alloc (.cells #[.slice ya ys.length yc, .slice ra rs.length rc, .string lg, .int .i64 sf] 27) = W := ⟨_, rfl⟩
  rw [hW] at hb hA
  have hlt := (Array.getElem?_eq_some_iff.1 hA).1
  have HSE : Hid (Row flP.c 3 W W.heap.size ya ys) := hY.inn hb
  have HSB : Hid (VR W W.heap.size ra rs) := hR.inn hb
  have hsz := sz_store ys rs ya ra yc rc lg sf W hyl hrl hyo hro hlg HSE.out HSB.out
  have HA : Hid (W.heap[w.heap.size]? = some (.cells #[.slice ya ys.length yc, .slice ra rs.length rc, .string lg, .int .i64 sf] 27 (0, 0))) := hA
  have BOX : Hid (∀ w', Below W.heap.size W w' → w'.cell? ⟨w.heap.size, 0, none⟩ = some (.slice ya ys.length yc) ∧ w'.cell? ⟨w.heap.size, 1, none⟩ = some (.slice ra rs.length rc) ∧ w'.cell? ⟨w.heap.size, 2, none⟩ = some (.string lg) ∧ w'.cell? ⟨w.heap.size, 3, none⟩ = some (.int .i64 sf)) := fun w' h => ⟨bcell (bstay HA.out h hlt) rfl, bcell (bstay HA.out h hlt) rfl, bcell (bstay HA.out h hlt) rfl, bcell (bstay HA.out h hlt) rfl⟩
  obtain ⟨c0, c1, c2, c3⟩ := BOX.out W (Below.refl _ _)
  have HOR : Hid (∀ e ∈ rs, okR e) := hro
  clear hY hR hA hyo hro
  have hxt' : xt.size ≤ 9223372036854775807 := hxt
  by_cases hbig : 1048576 < xt.size
  · have hbi : (1048576 : Int) < (xt.size : Int) := by omega
    go_enter Try.func5, Try.ntmps5
    go_wp2
    go_ret
    exact ⟨rfl, hb⟩
  have hbi : ¬ (1048576 : Int) < (xt.size : Int) := by omega
  go_enter Try.func5, Try.ntmps5
  go_wp2_with (go_at_call 7; fail)
  clear hW
  refine hsz.mono ?_
  rintro e w1 ⟨r, rfl, hr, hb1⟩
  by_cases hneg : r < 0
  · go_wp2
    go_ret
    exact ⟨rfl, hb.trans (hb1.mono hb.size)⟩
  have hF : Hid (Fit ys rs) := fit (hr (by omega)).1
  obtain ⟨x9, hx9⟩ : ∃ x9, tgi.getV ys (rs.map (·.l)) xt = x9 := ⟨_, rfl⟩
  obtain ⟨x8, hx8⟩ : ∃ x8, tgi.getO ys (rs.map (·.l)) xt = x8 := ⟨_, rfl⟩
  obtain ⟨d0, d1, d2, d3⟩ := BOX.out w1 hb1
  have ht2 := to_store ys rs ya ra yc rc lg sf w1 hF.out (HSE.out.inn hb1) (HSB.out.inn hb1)
  have hr0 : (0 : Int) ≤ r := by omega
  clear hsz hr c0 c1 c2 c3
  go_wp2_with (go_at_call 9; fail)
  refine ht2.mono ?_
  rintro e w2 ⟨g2, h2, k2, rfl, m2, _, _, re2, rb2, hb2⟩
  have l2 : k2.length = rs.length := by have := congrArg List.length m2; simpa using this
  have hsp := sge.spec_get ys k2 (some ⟨g2, 0, none⟩) (some ⟨h2, 0, none⟩) ys.length rs.length lg sf xt w2 (hF.out.of m2) (by omega) re2.row (OR.vr (by rw [l2]; exact rb2))
  rw [m2, l2] at hsp
  rw [hx9] at hsp; rw [hx8] at hsp
  have hB2 : Below W.heap.size W w2 := hb1.trans (hb2.mono hb1.size)
  clear ht2 d0 d1 d2 d3 re2 rb2 m2 l2
  go_wp2_with (go_at_call 16; fail)
  refine hsp.mono ?_
  rintro e w3 ⟨rfl, hb3⟩
  have hB3 : Below W.heap.size W w3 := hB2.trans (hb3.mono hB2.size)
  obtain ⟨d0, d1, d2, d3⟩ := BOX.out w3 hB3
  have ht4 := to_store ys rs ya ra yc rc lg sf w3 hF.out (HSE.out.inn hB3) (HSB.out.inn hB3)
  clear hsp
  go_wp2_with (go_at_call 9; fail)
  refine ht4.mono ?_
  rintro e w4 ⟨g4, h4, k4, rfl, m4, _, _, re4, rb4, hb4⟩
  have l4 : k4.length = rs.length := by have := congrArg List.length m4; simpa using this
  have hB4 : Below W.heap.size W w4 := hB3.trans (hb4.mono hB3.size)
  have hbx : Below w4.heap.size w4 (w4.alloc (.cells #[.slice (some ⟨g4, 0, none⟩) ys.length ys.length, .slice (some ⟨h4, 0, none⟩) rs.length rs.length, .string lg, .int .i64 sf] 34)) := (Below.refl _ _).alloc (Nat.le_refl _) _
  have hx := bnew w4 #[.slice (some ⟨g4, 0, none⟩) ys.length ys.length, .slice (some ⟨h4, 0, none⟩) rs.length rs.length, .string lg, .int .i64 sf] 34
  obtain ⟨X, hX⟩ : ∃ X, w4.alloc (.cells #[.slice (some ⟨g4, 0, none⟩) ys.length ys.length, .slice (some ⟨h4, 0, none⟩) rs.length rs.length, .string lg, .int .i64 sf] 34) = X := ⟨_, rfl⟩
  rw [hX] at hbx hx
  have hxl := (Array.getElem?_eq_some_iff.1 hx).1
  have hBX : Below W.heap.size W X := hB4.trans (hbx.mono hB4.size)
  have HRE : Hid (Row flP.c 3 X X.heap.size (some ⟨g4, 0, none⟩) ys) := re4.row.inn hbx
  have HRB : Hid (VR X X.heap.size (some ⟨h4, 0, none⟩) k4) := (OR.vr (by rw [l4]; exact rb4)).inn hbx
  have him := sge.impl_get ys k4 (some ⟨g4, 0, none⟩) (some ⟨h4, 0, none⟩) ys.length rs.length lg sf xt X (hF.out.of m4) (by omega) HRE.out HRB.out
  rw [m4, l4] at him
  rw [hx9] at him; rw [hx8] at him
  have HX : Hid (X.heap[w4.heap.size]? = some (.cells #[.slice (some ⟨g4, 0, none⟩) ys.length ys.length, .slice (some ⟨h4, 0, none⟩) rs.length rs.length, .string lg, .int .i64 sf] 34 (0, 0))) := hx
  have HM4 : Hid (k4.map (·.l) = rs.map (·.l)) := m4
  have HL4 : Hid (k4.length = rs.length) := l4
  have y0 : X.cell? ⟨w4.heap.size, 0, none⟩ = some (.slice (some ⟨g4, 0, none⟩) ys.length ys.length) := bcell hx rfl
  have y1 : X.cell? ⟨w4.heap.size, 1, none⟩ = some (.slice (some ⟨h4, 0, none⟩) rs.length rs.length) := bcell hx rfl
  have y2 : X.cell? ⟨w4.heap.size, 2, none⟩ = some (.string lg) := bcell hx rfl
  have y3 : X.cell? ⟨w4.heap.size, 3, none⟩ = some (.int .i64 sf) := bcell hx rfl
  clear ht4 d0 d1 d2 d3 re4 rb4 hx m4 l4 hx9 hx8
  go_wp2_with (go_at_call 17; fail)
  clear hX
  refine him.mono ?_
  rintro e w5 ⟨rfl, hb5⟩
  have hB5 : Below W.heap.size W w5 := hBX.trans (hb5.mono hBX.size)
  obtain ⟨d0, d1, d2, d3⟩ := BOX.out w5 hB5
  have y5 := bstay HX.out hb5 hxl
  have hxl5 : w4.heap.size < w5.heap.size := Nat.lt_of_lt_of_le hxl hb5.size
  have y50 : w5.cell? ⟨w4.heap.size, 0, none⟩ = some (.slice (some ⟨g4, 0, none⟩) ys.length ys.length) := bcell y5 rfl
  have y51 : w5.cell? ⟨w4.heap.size, 1, none⟩ = some (.slice (some ⟨h4, 0, none⟩) rs.length rs.length) := bcell y5 rfl
  have y52 : w5.cell? ⟨w4.heap.size, 2, none⟩ = some (.string lg) := bcell y5 rfl
  have y53 : w5.cell? ⟨w4.heap.size, 3, none⟩ = some (.int .i64 sf) := bcell y5 rfl
  have HY5 : Hid (w5.heap[w4.heap.size]? = some (.cells #[.slice (some ⟨g4, 0, none⟩) ys.length ys.length, .slice (some ⟨h4, 0, none⟩) rs.length rs.length, .string lg, .int .i64 sf] 34 (0, 0))) := y5
  have ht6 := to_store ys rs ya ra yc rc lg sf w5.drew hF.out (HSE.out.inn hB5.drew) (HSB.out.inn hB5.drew)
  have HRE5 : Hid (Row flP.c 3 w5 w5.heap.size (some ⟨g4, 0, none⟩) ys) := HRE.out.inn hb5
  have HRB5 : Hid (VR w5 w5.heap.size (some ⟨h4, 0, none⟩) k4) := HRB.out.inn hb5
  clear him y0 y1 y2 y3 y5
  go_wp2
  go_region_with (first | (go_at_call 9; refine ht6.mono ?_; rintro e w6 ⟨g6, h6, k6, rfl, m6, _, _, re6, rb6, hb6⟩; obtain ⟨hb6', q50, q51, q52, q53, heq⟩ := sto.step6 hF.out HM4.out m6 hb6 hxl5 HY5.out HRE5.out HRB5.out re6 rb6; clear re6 rb6) | (go_at_call 11; refine heq.mono ?_; rintro e w7 ⟨rfl, hb7⟩))
  all_goals go_wp2
  all_goals go_ret
  all_goals exact ⟨rfl, hb.trans ((hB5.trans ((hb6'.trans (hb7.mono hb6'.size)).mono hB5.size)).mono hb.size)⟩
end Go.Proofs.Ytfoajjkcocppeaa.lwStoreGet
