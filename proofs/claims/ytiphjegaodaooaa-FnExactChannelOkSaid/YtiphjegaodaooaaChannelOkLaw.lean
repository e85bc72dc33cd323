/- The law of ChannelOk, walked: at every channel the program answers as the specification. -/
import Derived.Test.YtiphjegaodaooaaChanWalks
namespace Go.Proofs.Ytiphjegaodaooaa.chk
open Go.ChangeShapes Go.WideShapes Go.ChangeAt Go.RowKit Go.Proofs.Ytiphjegaodaooaa.fl Go.Proofs.Ytiphjegaodaooaa.chl Go.Proofs.Ytiphjegaodaooaa.chw
set_option linter.unusedVariables false

theorem step6 {w5 w6 : World} {co ct : Int} {cx cf : Bool} {cn : Int} {cd : Bool} {rs : List flU.Pb} {hs : List flA.Ak} {g4 h4 n : Nat} (hb6 : Below w5.heap.size w5 w6) (hn : n < w5.heap.size) (hY : w5.heap[n]? = some (.cells #[.int .i64 co, .int .i64 ct, .bool cx, .bool cf, .int .i64 cn, .bool cd, .slice (some ⟨g4, 0, none⟩) rs.length rs.length, .slice (some ⟨h4, 0, none⟩) hs.length hs.length] 41 (0, 0))) (hE : Row flU.c 3 w5 w5.heap.size (some ⟨g4, 0, none⟩) rs) (hB : Row flA.c 4 w5 w5.heap.size (some ⟨h4, 0, none⟩) hs) :
    Row flU.c 3 w6 w6.heap.size (some ⟨g4, 0, none⟩) rs ∧ Row flA.c 4 w6 w6.heap.size (some ⟨h4, 0, none⟩) hs ∧ w6.cell? ⟨n, 0, none⟩ = some (.int .i64 co) ∧ w6.cell? ⟨n, 1, none⟩ = some (.int .i64 ct) ∧ w6.cell? ⟨n, 2, none⟩ = some (.bool cx) ∧ w6.cell? ⟨n, 3, none⟩ = some (.bool cf) ∧ w6.cell? ⟨n, 4, none⟩ = some (.int .i64 cn) ∧ w6.cell? ⟨n, 5, none⟩ = some (.bool cd) ∧ w6.cell? ⟨n, 6, none⟩ = some (.slice (some ⟨g4, 0, none⟩) rs.length rs.length) ∧ w6.cell? ⟨n, 7, none⟩ = some (.slice (some ⟨h4, 0, none⟩) hs.length hs.length) := by
  have q5 := bstay hY hb6 hn
  exact ⟨hE.inn hb6, hB.inn hb6, bcell q5 rfl, bcell q5 rfl, bcell q5 rfl, bcell q5 rfl, bcell q5 rfl, bcell q5 rfl, bcell q5 rfl, bcell q5 rfl⟩

set_option maxRecDepth 100000 in
set_option maxHeartbeats 4000000 in
theorem walk (co ct : Int) (cx cf : Bool) (cn : Int) (cd : Bool) (rs : List flU.Pb) (hs : List flA.Ak) (ra ha : Option Addr) (rc hc : Nat) (w : World) (hrl : rs.length ≤ maxLen) (hhl : hs.length ≤ maxLen) (hro : ∀ e ∈ rs, flU.ok e) (hho : ∀ e ∈ hs, flA.ok e) (hR : Row flU.c 3 w w.heap.size ra rs) (hH : Row flA.c 4 w w.heap.size ha hs) :
    Calls Try.prog 4 #[.agg #[.int .i64 co, .int .i64 ct, .bool cx, .bool cf, .int .i64 cn, .bool cd, .slice ra rs.length rc, .slice ha hs.length hc]] w fun e w' => e = .returned (.bool true) ∧ Below w.heap.size w w' := by
  have hb : Below w.heap.size w (w.alloc (.cells #[.int .i64 co, .int .i64 ct, .bool cx, .bool cf, .int .i64 cn, .bool cd, .slice ra rs.length rc, .slice ha hs.length hc] 35)) := (Below.refl _ _).alloc (Nat.le_refl _) _
  have hA := bnew w #[.int .i64 co, .int .i64 ct, .bool cx, .bool cf, .int .i64 cn, .bool cd, .slice ra rs.length rc, .slice ha hs.length hc] 35
  have hlt : w.heap.size < (w.alloc (.cells #[.int .i64 co, .int .i64 ct, .bool cx, .bool cf, .int .i64 cn, .bool cd, .slice ra rs.length rc, .slice ha hs.length hc] 35)).heap.size := by simp
  obtain ⟨W, hW⟩ : ∃ W, w.alloc (.cells #[.int .i64 co, .int .i64 ct, .bool cx, .bool cf, .int .i64 cn, .bool cd, .slice ra rs.length rc, .slice ha hs.length hc] 35) = W := ⟨_, rfl⟩
  rw [hW] at hb hA hlt
  have HSE : Hid (Row flU.c 3 W W.heap.size ra rs) := hR.inn hb
  have HSB : Hid (Row flA.c 4 W W.heap.size ha hs) := hH.inn hb
  have hsz := sz_chan co ct cx cf cn cd rs hs ra ha rc hc W hrl hhl hro hho HSE.out HSB.out
  have HA : Hid (W.heap[w.heap.size]? = some (.cells #[.int .i64 co, .int .i64 ct, .bool cx, .bool cf, .int .i64 cn, .bool cd, .slice ra rs.length rc, .slice ha hs.length hc] 35 (0, 0))) := hA
  have BOX : Hid (∀ w', Below W.heap.size W w' → w'.cell? ⟨w.heap.size, 0, none⟩ = some (.int .i64 co) ∧ w'.cell? ⟨w.heap.size, 1, none⟩ = some (.int .i64 ct) ∧ w'.cell? ⟨w.heap.size, 2, none⟩ = some (.bool cx) ∧ w'.cell? ⟨w.heap.size, 3, none⟩ = some (.bool cf) ∧ w'.cell? ⟨w.heap.size, 4, none⟩ = some (.int .i64 cn) ∧ w'.cell? ⟨w.heap.size, 5, none⟩ = some (.bool cd) ∧ w'.cell? ⟨w.heap.size, 6, none⟩ = some (.slice ra rs.length rc) ∧ w'.cell? ⟨w.heap.size, 7, none⟩ = some (.slice ha hs.length hc)) := fun w' h => by
    have h1 := bstay HA.out h hlt
    exact ⟨bcell h1 rfl, bcell h1 rfl, bcell h1 rfl, bcell h1 rfl, bcell h1 rfl, bcell h1 rfl, bcell h1 rfl, bcell h1 rfl⟩
  obtain ⟨c0, c1, c2, c3, c4, c5, c6, c7⟩ := BOX.out W (Below.refl _ _)
  obtain ⟨ok, hok⟩ : ∃ ok, Ok co ct cx cf cn cd rs.length hs.length = ok := ⟨_, rfl⟩
  clear hR hH hA hro hho
  go_enter Try.func4, Try.ntmps4
  go_wp2_with (go_at_call 10; fail)
  clear hW
  refine hsz.mono ?_
  rintro e w1 ⟨r, rfl, hr, hb1⟩
  by_cases hneg : r < 0
  · go_wp2
    go_ret
    exact ⟨rfl, hb.trans (hb1.mono hb.size)⟩
  have hbulk := hr (by omega)
  have z1 : rs.length ≤ 1048576 := by omega
  have z2 : hs.length ≤ 1048576 := by omega
  obtain ⟨d0, d1, d2, d3, d4, d5, d6, d7⟩ := BOX.out w1 hb1
  have ht2 := to_chan co ct cx cf cn cd rs hs ra ha rc hc w1 z1 z2 (HSE.out.inn hb1) (HSB.out.inn hb1)
  have hr0 : (0 : Int) ≤ r := by omega
  clear hsz hr c0 c1 c2 c3 c4 c5 c6 c7 hbulk
  go_wp2_with (go_at_call 12; fail)
  refine ht2.mono ?_
  rintro e w2 ⟨g2, h2, rfl, _, _, _, re2, rb2, hb2⟩
  have hsp := spec_ok co ct cx cf cn cd (some ⟨g2, 0, none⟩) (some ⟨h2, 0, none⟩) rs.length hs.length rs.length hs.length w2 z1 z2
  rw [hok] at hsp
  have hB2 : Below W.heap.size W w2 := hb1.trans (hb2.mono hb1.size)
  clear ht2 d0 d1 d2 d3 d4 d5 d6 d7 re2 rb2
  go_wp2_with (go_at_call 11; fail)
  refine hsp.mono ?_
  rintro e w3 ⟨rfl, hb3⟩
  have hB3 : Below W.heap.size W w3 := hB2.trans (hb3.mono hB2.size)
  obtain ⟨d0, d1, d2, d3, d4, d5, d6, d7⟩ := BOX.out w3 hB3
  have ht4 := to_chan co ct cx cf cn cd rs hs ra ha rc hc w3 z1 z2 (HSE.out.inn hB3) (HSB.out.inn hB3)
  clear hsp
  go_wp2_with (go_at_call 12; fail)
  refine ht4.mono ?_
  rintro e w4 ⟨g4, h4, rfl, _, _, _, re4, rb4, hb4⟩
  have hB4 : Below W.heap.size W w4 := hB3.trans (hb4.mono hB3.size)
  have hbx : Below w4.heap.size w4 (w4.alloc (.cells #[.int .i64 co, .int .i64 ct, .bool cx, .bool cf, .int .i64 cn, .bool cd, .slice (some ⟨g4, 0, none⟩) rs.length rs.length, .slice (some ⟨h4, 0, none⟩) hs.length hs.length] 41)) := (Below.refl _ _).alloc (Nat.le_refl _) _
  have hx := bnew w4 #[.int .i64 co, .int .i64 ct, .bool cx, .bool cf, .int .i64 cn, .bool cd, .slice (some ⟨g4, 0, none⟩) rs.length rs.length, .slice (some ⟨h4, 0, none⟩) hs.length hs.length] 41
  have hxl : w4.heap.size < (w4.alloc (.cells #[.int .i64 co, .int .i64 ct, .bool cx, .bool cf, .int .i64 cn, .bool cd, .slice (some ⟨g4, 0, none⟩) rs.length rs.length, .slice (some ⟨h4, 0, none⟩) hs.length hs.length] 41)).heap.size := by simp
  obtain ⟨X, hX⟩ : ∃ X, w4.alloc (.cells #[.int .i64 co, .int .i64 ct, .bool cx, .bool cf, .int .i64 cn, .bool cd, .slice (some ⟨g4, 0, none⟩) rs.length rs.length, .slice (some ⟨h4, 0, none⟩) hs.length hs.length] 41) = X := ⟨_, rfl⟩
  rw [hX] at hbx hx hxl
  have hBX : Below W.heap.size W X := hB4.trans (hbx.mono hB4.size)
  have him := impl_ok co ct cx cf cn cd (some ⟨g4, 0, none⟩) (some ⟨h4, 0, none⟩) rs.length hs.length rs.length hs.length X z1 z2
  rw [hok] at him
  have HRE : Hid (Row flU.c 3 X X.heap.size (some ⟨g4, 0, none⟩) rs) := re4.row.inn hbx
  have HRB : Hid (Row flA.c 4 X X.heap.size (some ⟨h4, 0, none⟩) hs) := rb4.row.inn hbx
  have HX : Hid (X.heap[w4.heap.size]? = some (.cells #[.int .i64 co, .int .i64 ct, .bool cx, .bool cf, .int .i64 cn, .bool cd, .slice (some ⟨g4, 0, none⟩) rs.length rs.length, .slice (some ⟨h4, 0, none⟩) hs.length hs.length] 41 (0, 0))) := hx
  have v0 : X.cell? ⟨w4.heap.size, 0, none⟩ = some (.int .i64 co) := bcell hx rfl
  have v1 : X.cell? ⟨w4.heap.size, 1, none⟩ = some (.int .i64 ct) := bcell hx rfl
  have v2 : X.cell? ⟨w4.heap.size, 2, none⟩ = some (.bool cx) := bcell hx rfl
  have v3 : X.cell? ⟨w4.heap.size, 3, none⟩ = some (.bool cf) := bcell hx rfl
  have v4 : X.cell? ⟨w4.heap.size, 4, none⟩ = some (.int .i64 cn) := bcell hx rfl
  have v5 : X.cell? ⟨w4.heap.size, 5, none⟩ = some (.bool cd) := bcell hx rfl
  have v6 : X.cell? ⟨w4.heap.size, 6, none⟩ = some (.slice (some ⟨g4, 0, none⟩) rs.length rs.length) := bcell hx rfl
  have v7 : X.cell? ⟨w4.heap.size, 7, none⟩ = some (.slice (some ⟨h4, 0, none⟩) hs.length hs.length) := bcell hx rfl
  clear ht4 d0 d1 d2 d3 d4 d5 d6 d7 re4 rb4 hx
  go_wp2_with (go_at_call 13; fail)
  clear hX
  refine him.mono ?_
  rintro e w5 ⟨rfl, hb5⟩
  have hB5 : Below W.heap.size W w5 := hBX.trans (hb5.mono hBX.size)
  obtain ⟨d0, d1, d2, d3, d4, d5, d6, d7⟩ := BOX.out w5 hB5
  have y5 := bstay HX.out hb5 hxl
  have hxl5 : w4.heap.size < w5.heap.size := Nat.lt_of_lt_of_le hxl hb5.size
  have y50 : w5.cell? ⟨w4.heap.size, 0, none⟩ = some (.int .i64 co) := bcell y5 rfl
  have y51 : w5.cell? ⟨w4.heap.size, 1, none⟩ = some (.int .i64 ct) := bcell y5 rfl
  have y52 : w5.cell? ⟨w4.heap.size, 2, none⟩ = some (.bool cx) := bcell y5 rfl
  have y53 : w5.cell? ⟨w4.heap.size, 3, none⟩ = some (.bool cf) := bcell y5 rfl
  have y54 : w5.cell? ⟨w4.heap.size, 4, none⟩ = some (.int .i64 cn) := bcell y5 rfl
  have y55 : w5.cell? ⟨w4.heap.size, 5, none⟩ = some (.bool cd) := bcell y5 rfl
  have y56 : w5.cell? ⟨w4.heap.size, 6, none⟩ = some (.slice (some ⟨g4, 0, none⟩) rs.length rs.length) := bcell y5 rfl
  have y57 : w5.cell? ⟨w4.heap.size, 7, none⟩ = some (.slice (some ⟨h4, 0, none⟩) hs.length hs.length) := bcell y5 rfl
  have HY5 : Hid (w5.heap[w4.heap.size]? = some (.cells #[.int .i64 co, .int .i64 ct, .bool cx, .bool cf, .int .i64 cn, .bool cd, .slice (some ⟨g4, 0, none⟩) rs.length rs.length, .slice (some ⟨h4, 0, none⟩) hs.length hs.length] 41 (0, 0))) := y5
  have ht6 := to_chan co ct cx cf cn cd rs hs ra ha rc hc w5.drew z1 z2 (HSE.out.inn hB5.drew) (HSB.out.inn hB5.drew)
  have HRE5 : Hid (Row flU.c 3 w5 w5.heap.size (some ⟨g4, 0, none⟩) rs) := HRE.out.inn hb5
  have HRB5 : Hid (Row flA.c 4 w5 w5.heap.size (some ⟨h4, 0, none⟩) hs) := HRB.out.inn hb5
  clear him v0 v1 v2 v3 v4 v5 v6 v7 y5
  go_wp2
  go_region_with (first | (go_at_call 12; refine ht6.mono ?_; rintro e w6 ⟨g6, h6, rfl, _, _, _, re6, rb6, hb6⟩; have hb6' : Below w5.heap.size w5 w6 := (Below.drew (Below.refl _ w5)).trans hb6; obtain ⟨e6, f6, q50, q51, q52, q53, q54, q55, q56, q57⟩ := step6 hb6' hxl5 HY5.out HRE5.out HRB5.out; have heq := eq_chan co ct cx cf cn cd rs hs (some ⟨g4, 0, none⟩) (some ⟨g6, 0, none⟩) (some ⟨h4, 0, none⟩) (some ⟨h6, 0, none⟩) rs.length rs.length hs.length hs.length w6 hrl hhl e6 re6.row f6 rb6.row; clear e6 f6 re6 rb6) | (go_at_call 14; refine heq.mono ?_; rintro e w7 ⟨rfl, hb7⟩))
  all_goals go_wp2
  all_goals go_ret
  all_goals exact ⟨rfl, hb.trans ((hB5.trans ((hb6'.trans (hb7.mono hb6'.size)).mono hB5.size)).mono hb.size)⟩
end Go.Proofs.Ytiphjegaodaooaa.chk
