/- The law of TableOk, walked: at every table the program answers as the specification. -/
import Derived.Test.YtggheonbjjgajaaTabLib
import Derived.Test.YtggheonbjjgajaaTabOk
namespace Go.Proofs.Ytggheonbjjgajaa.lwTableOk
open Go.ChangeShapes Go.WideShapes Go.ChangeAt Go.RowKit Go.Proofs.Ytggheonbjjgajaa.fl Go.Proofs.Ytggheonbjjgajaa.rn Go.Proofs.Ytggheonbjjgajaa.tb
set_option linter.unusedVariables false

set_option maxRecDepth 100000 in
set_option maxHeartbeats 4000000 in
theorem walk (ys : List flP.Pr) (rs : List Rn) (ya ra : Option Addr) (yc rc : Nat) (w : World) (hyl : ys.length ≤ maxLen) (hrl : rs.length ≤ maxLen) (hyo : ∀ e ∈ ys, flP.ok e) (hro : ∀ e ∈ rs, okR e) (hY : Row flP.c 3 w w.heap.size ya ys) (hR : VR w w.heap.size ra rs) :
    Calls Try.prog 5 #[.agg #[.slice ya ys.length yc, .slice ra rs.length rc]] w fun e w' => e = .returned (.bool true) ∧ Below w.heap.size w w' := by
  have hb : Below w.heap.size w (w.alloc (.cells #[.slice ya ys.length yc, .slice ra rs.length rc] 51)) := (Below.refl _ _).alloc (Nat.le_refl _) _
  have hA := bnew w #[.slice ya ys.length yc, .slice ra rs.length rc] 51
  obtain ⟨W, hW⟩ : ∃ W, w.alloc (.cells #[.slice ya ys.length yc, .slice ra rs.length rc] 51) = W := ⟨_, rfl⟩
  rw [hW] at hb hA
  have hlt := (Array.getElem?_eq_some_iff.1 hA).1
  have HSE : Hid (Row flP.c 3 W W.heap.size ya ys) := hY.inn hb
  have HSB : Hid (VR W W.heap.size ra rs) := hR.inn hb
  have hsz := sz_table ys rs ya ra yc rc W hyl hrl hyo hro HSE.out HSB.out
  have HA : Hid (W.heap[w.heap.size]? = some (.cells #[.slice ya ys.length yc, .slice ra rs.length rc] 51 (0, 0))) := hA
  have BOX : Hid (∀ w', Below W.heap.size W w' → w'.cell? ⟨w.heap.size, 0, none⟩ = some (.slice ya ys.length yc) ∧ w'.cell? ⟨w.heap.size, 1, none⟩ = some (.slice ra rs.length rc)) := fun w' h => ⟨bcell (bstay HA.out h hlt) rfl, bcell (bstay HA.out h hlt) rfl⟩
  obtain ⟨c0, c1⟩ := BOX.out W (Below.refl _ _)
  have HOR : Hid (∀ e ∈ rs, okR e) := hro
  clear hY hR hA hyo hro
  go_enter Try.func5, Try.ntmps5
  go_wp2_with (go_at_call 35; fail)
  clear hW
  refine hsz.mono ?_
  rintro e w1 ⟨r, rfl, hr, hb1⟩
  by_cases hneg : r < 0
  · go_wp2
    go_ret
    exact ⟨rfl, hb.trans (hb1.mono hb.size)⟩
  have hF : Hid (Fit ys rs) := fit (hr (by omega))
  obtain ⟨x9, hx9⟩ : ∃ x9, tko.okB ys (rs.map (·.l)) = x9 := ⟨_, rfl⟩
  obtain ⟨d0, d1⟩ := BOX.out w1 hb1
  have ht2 := to_table ys rs ya ra yc rc w1 hF.out (HSE.out.inn hb1) (HSB.out.inn hb1)
  have hr0 : (0 : Int) ≤ r := by omega
  clear hsz hr c0 c1
  go_wp2_with (go_at_call 36; fail)
  refine ht2.mono ?_
  rintro e w2 ⟨g2, h2, k2, rfl, m2, _, _, re2, rb2, hb2⟩
  have l2 : k2.length = rs.length := by have := congrArg List.length m2; simpa using this
  have hsp := tko.spec_okb ys k2 (some ⟨g2, 0, none⟩) (some ⟨h2, 0, none⟩) ys.length rs.length w2 (hF.out.of m2) re2.row (OR.vr (by rw [l2]; exact rb2))
  rw [m2, l2] at hsp
  rw [hx9] at hsp
  have hB2 : Below W.heap.size W w2 := hb1.trans (hb2.mono hb1.size)
  clear ht2 d0 d1 re2 rb2 m2 l2
  go_wp2_with (go_at_call 21; fail)
  refine hsp.mono ?_
  rintro e w3 ⟨rfl, hb3⟩
  have hB3 : Below W.heap.size W w3 := hB2.trans (hb3.mono hB2.size)
  obtain ⟨d0, d1⟩ := BOX.out w3 hB3
  have ht4 := to_table ys rs ya ra yc rc w3 hF.out (HSE.out.inn hB3) (HSB.out.inn hB3)
  clear hsp
  go_wp2_with (go_at_call 36; fail)
  refine ht4.mono ?_
  rintro e w4 ⟨g4, h4, k4, rfl, m4, _, _, re4, rb4, hb4⟩
  have l4 : k4.length = rs.length := by have := congrArg List.length m4; simpa using this
  have hB4 : Below W.heap.size W w4 := hB3.trans (hb4.mono hB3.size)
  have hbx : Below w4.heap.size w4 (w4.alloc (.cells #[.slice (some ⟨g4, 0, none⟩) ys.length ys.length, .slice (some ⟨h4, 0, none⟩) rs.length rs.length] 27)) := (Below.refl _ _).alloc (Nat.le_refl _) _
  have hx := bnew w4 #[.slice (some ⟨g4, 0, none⟩) ys.length ys.length, .slice (some ⟨h4, 0, none⟩) rs.length rs.length] 27
  obtain ⟨X, hX⟩ : ∃ X, w4.alloc (.cells #[.slice (some ⟨g4, 0, none⟩) ys.length ys.length, .slice (some ⟨h4, 0, none⟩) rs.length rs.length] 27) = X := ⟨_, rfl⟩
  rw [hX] at hbx hx
  have hxl := (Array.getElem?_eq_some_iff.1 hx).1
  have hBX : Below W.heap.size W X := hB4.trans (hbx.mono hB4.size)
  have HRE : Hid (Row flP.c 3 X X.heap.size (some ⟨g4, 0, none⟩) ys) := re4.row.inn hbx
  have HRB : Hid (VR X X.heap.size (some ⟨h4, 0, none⟩) k4) := (OR.vr (by rw [l4]; exact rb4)).inn hbx
  have him := tko.impl_okb ys k4 (some ⟨g4, 0, none⟩) (some ⟨h4, 0, none⟩) ys.length rs.length X (hF.out.of m4) HRE.out HRB.out
  rw [m4, l4] at him
  rw [hx9] at him
  have HX : Hid (X.heap[w4.heap.size]? = some (.cells #[.slice (some ⟨g4, 0, none⟩) ys.length ys.length, .slice (some ⟨h4, 0, none⟩) rs.length rs.length] 27 (0, 0))) := hx
  have HM4 : Hid (k4.map (·.l) = rs.map (·.l)) := m4
  have HL4 : Hid (k4.length = rs.length) := l4
  have y0 : X.cell? ⟨w4.heap.size, 0, none⟩ = some (.slice (some ⟨g4, 0, none⟩) ys.length ys.length) := bcell hx rfl
  have y1 : X.cell? ⟨w4.heap.size, 1, none⟩ = some (.slice (some ⟨h4, 0, none⟩) rs.length rs.length) := bcell hx rfl
  clear ht4 d0 d1 re4 rb4 hx m4 l4 hx9
  go_wp2_with (go_at_call 20; fail)
  clear hX
  refine him.mono ?_
  rintro e w5 ⟨rfl, hb5⟩
  have hB5 : Below W.heap.size W w5 := hBX.trans (hb5.mono hBX.size)
  obtain ⟨d0, d1⟩ := BOX.out w5 hB5
  have y5 := bstay HX.out hb5 hxl
  have hxl5 : w4.heap.size < w5.heap.size := Nat.lt_of_lt_of_le hxl hb5.size
  have y50 : w5.cell? ⟨w4.heap.size, 0, none⟩ = some (.slice (some ⟨g4, 0, none⟩) ys.length ys.length) := bcell y5 rfl
  have y51 : w5.cell? ⟨w4.heap.size, 1, none⟩ = some (.slice (some ⟨h4, 0, none⟩) rs.length rs.length) := bcell y5 rfl
  have HY5 : Hid (w5.heap[w4.heap.size]? = some (.cells #[.slice (some ⟨g4, 0, none⟩) ys.length ys.length, .slice (some ⟨h4, 0, none⟩) rs.length rs.length] 27 (0, 0))) := y5
  have ht6 := to_table ys rs ya ra yc rc w5.drew hF.out (HSE.out.inn hB5.drew) (HSB.out.inn hB5.drew)
  have HRE5 : Hid (Row flP.c 3 w5 w5.heap.size (some ⟨g4, 0, none⟩) ys) := HRE.out.inn hb5
  have HRB5 : Hid (VR w5 w5.heap.size (some ⟨h4, 0, none⟩) k4) := HRB.out.inn hb5
  clear him y0 y1 y5
  go_wp2
  go_region_with (first | (go_at_call 36; refine ht6.mono ?_; rintro e w6 ⟨g6, h6, k6, rfl, m6, _, _, re6, rb6, hb6⟩; obtain ⟨hb6', q50, q51, heq⟩ := step6 hF.out HM4.out m6 hb6 hxl5 HY5.out HRE5.out HRB5.out re6 rb6; clear re6 rb6) | (go_at_call 37; refine heq.mono ?_; rintro e w7 ⟨rfl, hb7⟩))
  all_goals go_wp2
  all_goals go_ret
  all_goals exact ⟨rfl, hb.trans ((hB5.trans ((hb6'.trans (hb7.mono hb6'.size)).mono hB5.size)).mono hb.size)⟩
end Go.Proofs.Ytggheonbjjgajaa.lwTableOk
