/- The law of QueueOk, walked: at every queue the program answers as the specification. -/
import Derived.Test.YtoanmdbfikhgoaaQueueLib
import Derived.Test.YtoanmdbfikhgoaaQueueOkImpl
namespace Go.Proofs.Ytoanmdbfikhgoaa.lwQueueOk
open Go.ChangeShapes Go.WideShapes Go.ChangeAt Go.RowKit Go.Proofs.Ytoanmdbfikhgoaa.fl Go.Proofs.Ytoanmdbfikhgoaa.ql Go.Proofs.Ytoanmdbfikhgoaa.qk
set_option linter.unusedVariables false

open Classical in
noncomputable def okQ (n : ByteArray) (nx : Int) (rs : List flM.Ms) (hs : List flH.Hd) : Bool := decide (OkQ n nx rs hs)
theorem okQ_of {n : ByteArray} {nx : Int} {rs : List flM.Ms} {hs : List flH.Hd} {r : Ending} (h : qks.Ans n nx rs hs r) : r = .returned (.bool (okQ n nx rs hs)) := by
  obtain ⟨b, rfl, hb⟩ := h
  have e : b = okQ n nx rs hs := by
    have hk : okQ n nx rs hs = true ↔ OkQ n nx rs hs := by unfold okQ; simp
    cases b with
    | true => exact (hk.2 (hb.1 rfl)).symm
    | false =>
      cases h : okQ n nx rs hs with
      | false => rfl
      | true => exact hb.2 (hk.1 h)
  rw [e]
structure Fit (n : ByteArray) (rs : List flM.Ms) (hs : List flH.Hd) : Prop where
  nl : n.size ≤ 1048576
  rl : rs.length ≤ 1048576
  hl : hs.length ≤ 1048576
  ro : ∀ e ∈ rs, e.x.size ≤ 1048576 ∧ e.k.size ≤ 1048576 ∧ e.b.size ≤ 1048576
  ho : ∀ e ∈ hs, e.m.x.size ≤ 1048576 ∧ e.m.k.size ≤ 1048576 ∧ e.m.b.size ≤ 1048576
theorem spec_okb (n : ByteArray) (nx : Int) (rs : List flM.Ms) (hs : List flH.Hd) (ra ha : Option Addr) (rc hc : Nat) (w : World) (F : Fit n rs hs) (hR : Row flM.c 5 w w.heap.size ra rs) (hH : Row flH.c 7 w w.heap.size ha hs) :
    Calls Try.prog 18 #[.agg #[.string n, .int .i64 nx, .slice ra rs.length rc, .slice ha hs.length hc]] w fun r w' => r = .returned (.bool (okQ n nx rs hs)) ∧ Below w.heap.size w w' :=
  (qks.spec_ok n nx rs hs ra ha rc hc w F.nl F.rl F.hl F.ro F.ho hR hH).mono fun r w' ⟨h1, h2⟩ => ⟨okQ_of h1, h2⟩
theorem impl_okb (n : ByteArray) (nx : Int) (rs : List flM.Ms) (hs : List flH.Hd) (ra ha : Option Addr) (rc hc : Nat) (w : World) (F : Fit n rs hs) (hR : Row flM.c 5 w w.heap.size ra rs) (hH : Row flH.c 7 w w.heap.size ha hs) :
    Calls Try.prog 17 #[.agg #[.string n, .int .i64 nx, .slice ra rs.length rc, .slice ha hs.length hc]] w fun r w' => r = .returned (.bool (okQ n nx rs hs)) ∧ Below w.heap.size w w' :=
  (qki.impl_ok n nx rs hs ra ha rc hc w F.nl F.rl F.hl F.ro F.ho hR hH).mono fun r w' ⟨h1, h2⟩ => ⟨okQ_of h1, h2⟩
theorem fit {n : ByteArray} {rs : List flM.Ms} {hs : List flH.Hd} (h : n.size + rs.length + bulk flM.wt rs + hs.length + bulk flH.wt hs ≤ 1048576) : Fit n rs hs := by
  refine ⟨by omega, by omega, by omega, fun e he => ?_, fun e he => ?_⟩
  · have h1 : e.x.size + e.k.size + e.b.size ≤ bulk flM.wt rs := bulk_le flM.wt he
    omega
  · have h1 : e.m.x.size + e.m.k.size + e.m.b.size ≤ bulk flH.wt hs := bulk_le flH.wt he
    omega
theorem step6 {w5 w6 : World} {nm : ByteArray} {nx : Int} {rs : List flM.Ms} {hs : List flH.Hd} {g4 h4 n : Nat} (hb6 : Below w5.heap.size w5 w6) (hn : n < w5.heap.size) (hY : w5.heap[n]? = some (.cells #[.string nm, .int .i64 nx, .slice (some ⟨g4, 0, none⟩) rs.length rs.length, .slice (some ⟨h4, 0, none⟩) hs.length hs.length] 27 (0, 0))) (hE : Row flM.c 5 w5 w5.heap.size (some ⟨g4, 0, none⟩) rs) (hB : Row flH.c 7 w5 w5.heap.size (some ⟨h4, 0, none⟩) hs) :
    Row flM.c 5 w6 w6.heap.size (some ⟨g4, 0, none⟩) rs ∧ Row flH.c 7 w6 w6.heap.size (some ⟨h4, 0, none⟩) hs ∧ w6.cell? ⟨n, 0, none⟩ = some (.string nm) ∧ w6.cell? ⟨n, 1, none⟩ = some (.int .i64 nx) ∧ w6.cell? ⟨n, 2, none⟩ = some (.slice (some ⟨g4, 0, none⟩) rs.length rs.length) ∧ w6.cell? ⟨n, 3, none⟩ = some (.slice (some ⟨h4, 0, none⟩) hs.length hs.length) := by
  have q5 := bstay hY hb6 hn
  exact ⟨hE.inn hb6, hB.inn hb6, bcell q5 rfl, bcell q5 rfl, bcell q5 rfl, bcell q5 rfl⟩

set_option maxRecDepth 100000 in
set_option maxHeartbeats 4000000 in
theorem walk (nm : ByteArray) (nx : Int) (rs : List flM.Ms) (hs : List flH.Hd) (ra ha : Option Addr) (rc hc : Nat) (w : World) (hnm : nm.size ≤ maxLen) (hrl : rs.length ≤ maxLen) (hhl : hs.length ≤ maxLen) (hro : ∀ e ∈ rs, flM.ok e) (hho : ∀ e ∈ hs, flH.ok e) (hR : Row flM.c 5 w w.heap.size ra rs) (hH : Row flH.c 7 w w.heap.size ha hs) :
    Calls Try.prog 4 #[.agg #[.string nm, .int .i64 nx, .slice ra rs.length rc, .slice ha hs.length hc]] w fun e w' => e = .returned (.bool true) ∧ Below w.heap.size w w' := by
  have hb : Below w.heap.size w (w.alloc (.cells #[.string nm, .int .i64 nx, .slice ra rs.length rc, .slice ha hs.length hc] 49)) := (Below.refl _ _).alloc (Nat.le_refl _) _
  have hA := bnew w #[.string nm, .int .i64 nx, .slice ra rs.length rc, .slice ha hs.length hc] 49
  have hlt : w.heap.size < (w.alloc (.cells #[.string nm, .int .i64 nx, .slice ra rs.length rc, .slice ha hs.length hc] 49)).heap.size := by simp
  obtain ⟨W, hW⟩ : ∃ W, w.alloc (.cells #[.string nm, .int .i64 nx, .slice ra rs.length rc, .slice ha hs.length hc] 49) = W := ⟨_, rfl⟩
  rw [hW] at hb hA hlt
  have HSE : Hid (Row flM.c 5 W W.heap.size ra rs) := hR.inn hb
  have HSB : Hid (Row flH.c 7 W W.heap.size ha hs) := hH.inn hb
  have hsz := sz_queue nm nx rs hs ra ha rc hc W hnm hrl hhl hro hho HSE.out HSB.out
  have HA : Hid (W.heap[w.heap.size]? = some (.cells #[.string nm, .int .i64 nx, .slice ra rs.length rc, .slice ha hs.length hc] 49 (0, 0))) := hA
  have BOX : Hid (∀ w', Below W.heap.size W w' → w'.cell? ⟨w.heap.size, 0, none⟩ = some (.string nm) ∧ w'.cell? ⟨w.heap.size, 1, none⟩ = some (.int .i64 nx) ∧ w'.cell? ⟨w.heap.size, 2, none⟩ = some (.slice ra rs.length rc) ∧ w'.cell? ⟨w.heap.size, 3, none⟩ = some (.slice ha hs.length hc)) := fun w' h => by
    have h1 := bstay HA.out h hlt
    exact ⟨bcell h1 rfl, bcell h1 rfl, bcell h1 rfl, bcell h1 rfl⟩
  obtain ⟨c0, c1, c2, c3⟩ := BOX.out W (Below.refl _ _)
  clear hR hH hA hro hho
  go_enter Try.func4, Try.ntmps4
  go_wp2_with (go_at_call 26; fail)
  clear hW
  refine hsz.mono ?_
  rintro e w1 ⟨r, rfl, hr, hb1⟩
  by_cases hneg : r < 0
  · go_wp2
    go_ret
    exact ⟨rfl, hb.trans (hb1.mono hb.size)⟩
  have hbulk := hr (by omega)
  have hF : Hid (Fit nm rs hs) := fit hbulk
  obtain ⟨ok, hok⟩ : ∃ ok, okQ nm nx rs hs = ok := ⟨_, rfl⟩
  have HOK : Hid (okQ nm nx rs hs = ok) := hok
  have z1 : rs.length ≤ 1048576 := by omega
  have z2 : hs.length ≤ 1048576 := by omega
  obtain ⟨d0, d1, d2, d3⟩ := BOX.out w1 hb1
  have ht2 := to_queue nm nx rs hs ra ha rc hc w1 z1 z2 (HSE.out.inn hb1) (HSB.out.inn hb1)
  have hr0 : (0 : Int) ≤ r := by omega
  clear hsz hr c0 c1 c2 c3 hbulk
  go_wp2_with (go_at_call 27; fail)
  refine ht2.mono ?_
  rintro e w2 ⟨g2, h2, rfl, _, _, _, re2, rb2, hb2⟩
  have hsp := spec_okb nm nx rs hs (some ⟨g2, 0, none⟩) (some ⟨h2, 0, none⟩) rs.length hs.length w2 hF.out re2.row rb2.row
  rw [hok] at hsp
  have hB2 : Below W.heap.size W w2 := hb1.trans (hb2.mono hb1.size)
  clear ht2 d0 d1 d2 d3 re2 rb2 hok
  go_wp2_with (go_at_call 18; fail)
  refine hsp.mono ?_
  rintro e w3 ⟨rfl, hb3⟩
  have hB3 : Below W.heap.size W w3 := hB2.trans (hb3.mono hB2.size)
  obtain ⟨d0, d1, d2, d3⟩ := BOX.out w3 hB3
  have ht4 := to_queue nm nx rs hs ra ha rc hc w3 z1 z2 (HSE.out.inn hB3) (HSB.out.inn hB3)
  clear hsp
  go_wp2_with (go_at_call 27; fail)
  refine ht4.mono ?_
  rintro e w4 ⟨g4, h4, rfl, _, _, _, re4, rb4, hb4⟩
  have hB4 : Below W.heap.size W w4 := hB3.trans (hb4.mono hB3.size)
  have hbx : Below w4.heap.size w4 (w4.alloc (.cells #[.string nm, .int .i64 nx, .slice (some ⟨g4, 0, none⟩) rs.length rs.length, .slice (some ⟨h4, 0, none⟩) hs.length hs.length] 27)) := (Below.refl _ _).alloc (Nat.le_refl _) _
  have hx := bnew w4 #[.string nm, .int .i64 nx, .slice (some ⟨g4, 0, none⟩) rs.length rs.length, .slice (some ⟨h4, 0, none⟩) hs.length hs.length] 27
  have hxl : w4.heap.size < (w4.alloc (.cells #[.string nm, .int .i64 nx, .slice (some ⟨g4, 0, none⟩) rs.length rs.length, .slice (some ⟨h4, 0, none⟩) hs.length hs.length] 27)).heap.size := by simp
  obtain ⟨X, hX⟩ : ∃ X, w4.alloc (.cells #[.string nm, .int .i64 nx, .slice (some ⟨g4, 0, none⟩) rs.length rs.length, .slice (some ⟨h4, 0, none⟩) hs.length hs.length] 27) = X := ⟨_, rfl⟩
  rw [hX] at hbx hx hxl
  have hBX : Below W.heap.size W X := hB4.trans (hbx.mono hB4.size)
  have him := impl_okb nm nx rs hs (some ⟨g4, 0, none⟩) (some ⟨h4, 0, none⟩) rs.length hs.length X hF.out (re4.row.inn hbx) (rb4.row.inn hbx)
  rw [HOK.out] at him
  have HRE : Hid (Row flM.c 5 X X.heap.size (some ⟨g4, 0, none⟩) rs) := re4.row.inn hbx
  have HRB : Hid (Row flH.c 7 X X.heap.size (some ⟨h4, 0, none⟩) hs) := rb4.row.inn hbx
  have HX : Hid (X.heap[w4.heap.size]? = some (.cells #[.string nm, .int .i64 nx, .slice (some ⟨g4, 0, none⟩) rs.length rs.length, .slice (some ⟨h4, 0, none⟩) hs.length hs.length] 27 (0, 0))) := hx
  have y0 : X.cell? ⟨w4.heap.size, 0, none⟩ = some (.string nm) := bcell hx rfl
  have y1 : X.cell? ⟨w4.heap.size, 1, none⟩ = some (.int .i64 nx) := bcell hx rfl
  have y2 : X.cell? ⟨w4.heap.size, 2, none⟩ = some (.slice (some ⟨g4, 0, none⟩) rs.length rs.length) := bcell hx rfl
  have y3 : X.cell? ⟨w4.heap.size, 3, none⟩ = some (.slice (some ⟨h4, 0, none⟩) hs.length hs.length) := bcell hx rfl
  clear ht4 d0 d1 d2 d3 re4 rb4 hx
  go_wp2_with (go_at_call 17; fail)
  clear hX
  refine him.mono ?_
  rintro e w5 ⟨rfl, hb5⟩
  have hB5 : Below W.heap.size W w5 := hBX.trans (hb5.mono hBX.size)
  obtain ⟨d0, d1, d2, d3⟩ := BOX.out w5 hB5
  have y5 := bstay HX.out hb5 hxl
  have hxl5 : w4.heap.size < w5.heap.size := Nat.lt_of_lt_of_le hxl hb5.size
  have y50 : w5.cell? ⟨w4.heap.size, 0, none⟩ = some (.string nm) := bcell y5 rfl
  have y51 : w5.cell? ⟨w4.heap.size, 1, none⟩ = some (.int .i64 nx) := bcell y5 rfl
  have y52 : w5.cell? ⟨w4.heap.size, 2, none⟩ = some (.slice (some ⟨g4, 0, none⟩) rs.length rs.length) := bcell y5 rfl
  have y53 : w5.cell? ⟨w4.heap.size, 3, none⟩ = some (.slice (some ⟨h4, 0, none⟩) hs.length hs.length) := bcell y5 rfl
  have HY5 : Hid (w5.heap[w4.heap.size]? = some (.cells #[.string nm, .int .i64 nx, .slice (some ⟨g4, 0, none⟩) rs.length rs.length, .slice (some ⟨h4, 0, none⟩) hs.length hs.length] 27 (0, 0))) := y5
  have ht6 := to_queue nm nx rs hs ra ha rc hc w5.drew z1 z2 (HSE.out.inn hB5.drew) (HSB.out.inn hB5.drew)
  have HRE5 : Hid (Row flM.c 5 w5 w5.heap.size (some ⟨g4, 0, none⟩) rs) := HRE.out.inn hb5
  have HRB5 : Hid (Row flH.c 7 w5 w5.heap.size (some ⟨h4, 0, none⟩) hs) := HRB.out.inn hb5
  clear him y0 y1 y2 y3 y5
  go_wp2
  go_region_with (first | (go_at_call 27; refine ht6.mono ?_; rintro e w6 ⟨g6, h6, rfl, _, _, _, re6, rb6, hb6⟩; have hb6' : Below w5.heap.size w5 w6 := (Below.drew (Below.refl _ w5)).trans hb6; obtain ⟨e6, f6, q50, q51, q52, q53⟩ := step6 hb6' hxl5 HY5.out HRE5.out HRB5.out; have heq := eq_queue nm nx rs hs (some ⟨g4, 0, none⟩) (some ⟨g6, 0, none⟩) (some ⟨h4, 0, none⟩) (some ⟨h6, 0, none⟩) rs.length rs.length hs.length hs.length w6 hrl hhl e6 re6.row f6 rb6.row; clear e6 f6 re6 rb6) | (go_at_call 28; refine heq.mono ?_; rintro e w7 ⟨rfl, hb7⟩))
  all_goals go_wp2
  all_goals go_ret
  all_goals exact ⟨rfl, hb.trans ((hB5.trans ((hb6'.trans (hb7.mono hb6'.size)).mono hB5.size)).mono hb.size)⟩
end Go.Proofs.Ytoanmdbfikhgoaa.lwQueueOk
