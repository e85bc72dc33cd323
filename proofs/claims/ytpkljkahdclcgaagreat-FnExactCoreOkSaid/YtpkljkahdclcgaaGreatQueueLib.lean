/- Queues as a law's argument: what they weigh, laid anew, held beside each other; new memory alone. -/
import Derived.Test.YtpkljkahdclcgaaGreatFlHeld
namespace Go.Proofs.YtpkljkahdclcgaaGreat.ql
open Go.ChangeShapes Go.WideShapes Go.ChangeAt Go.RowKit Go.Proofs.YtpkljkahdclcgaaGreat.fl
set_option linter.unusedVariables false

set_option maxRecDepth 100000 in
set_option maxHeartbeats 1000000 in
theorem sz_queue (nm : ByteArray) (nx : Int) (rs : List flM.Ms) (hs : List flH.Hd) (ra ha : Option Addr) (rc hc : Nat) (w : World) (hnm : nm.size ≤ maxLen) (hrl : rs.length ≤ maxLen) (hhl : hs.length ≤ maxLen) (hro : ∀ e ∈ rs, flM.ok e) (hho : ∀ e ∈ hs, flH.ok e) (hR : Row flM.c 5 w w.heap.size ra rs) (hH : Row flH.c 7 w w.heap.size ha hs) :
    Calls Tryz.prog 77 #[.agg #[.string nm, .int .i64 nx, .slice ra rs.length rc, .slice ha hs.length hc], .int .i64 1048576] w fun e w' => ∃ r : Int, e = .returned (.int .i64 r) ∧ (0 ≤ r → nm.size + rs.length + bulk flM.wt rs + hs.length + bulk flH.wt hs ≤ 1048576) ∧ Below w.heap.size w w' := by
  have hnm' : nm.size ≤ 9223372036854775807 := hnm
  by_cases hneg : (1048576 : Int) - nm.size < 0
  · go_enter Tryz.func77, Tryz.ntmps77
    go_wp2
    go_ret
    exact ⟨-1, rfl, by omega, (Below.refl _ _).alloc (Nat.le_refl _) _⟩
  have hb : Below w.heap.size w (w.alloc (.cells #[.string nm, .int .i64 nx, .slice ra rs.length rc, .slice ha hs.length hc] 110)) := (Below.refl _ _).alloc (Nat.le_refl _) _
  have hA := bnew w #[.string nm, .int .i64 nx, .slice ra rs.length rc, .slice ha hs.length hc] 110
  obtain ⟨W, hW⟩ : ∃ W, w.alloc (.cells #[.string nm, .int .i64 nx, .slice ra rs.length rc, .slice ha hs.length hc] 110) = W := ⟨_, rfl⟩
  rw [hW] at hb hA
  have he := flM.sz_all rs ra rc (1048576 - nm.size) W hrl hro (by omega) (by omega) (hR.inn hb)
  have HB3 : Hid (Row flH.c 7 W W.heap.size ha hs) := hH.inn hb
  have x0 : W.cell? ⟨w.heap.size, 0, none⟩ = some (.string nm) := bcell hA rfl
  have x2 : W.cell? ⟨w.heap.size, 2, none⟩ = some (.slice ra rs.length rc) := bcell hA rfl
  have HA : Hid (W.heap[w.heap.size]? = some (.cells #[.string nm, .int .i64 nx, .slice ra rs.length rc, .slice ha hs.length hc] 110 (0, 0))) := hA
  have la := (Array.getElem?_eq_some_iff.1 hA).1
  have HBS : Hid (∀ e ∈ hs, flH.ok e) := hho
  clear hR hH hA hro hho
  go_enter Tryz.func77, Tryz.ntmps77
  go_wp2_with (go_at_call 150; fail)
  refine he.mono ?_
  rintro e w1 ⟨r, rfl, hr, hr0, hr1, hb1⟩
  clear hW x0 x2
  by_cases hneg : r < 0
  · go_wp2
    go_ret
    exact ⟨-1, rfl, by omega, hb.trans (hb1.mono hb.size)⟩
  · have x1 : w1.cell? ⟨w.heap.size, 3, none⟩ = some (.slice ha hs.length hc) := bcell (bstay HA.out hb1 la) rfl
    have hq := flH.sz_all hs ha hc r w1 hhl HBS.out (by omega) (by omega) (HB3.out.inn hb1)
    have HR : Hid (r = 1048576 - nm.size - rs.length - bulk flM.wt rs) := hr (by omega)
    clear he hr
    go_wp2_with (go_at_call 151; fail)
    refine hq.mono ?_
    rintro e w2 ⟨r2, rfl, hr2, hr20, hr21, hb2⟩
    have hfin : Below w.heap.size w w2 := hb.trans ((hb1.trans (hb2.mono hb1.size)).mono hb.size)
    have HR2 : Hid (0 ≤ r2 → r2 = r - hs.length - bulk flH.wt hs) := hr2
    clear hq hr2
    by_cases hneg2 : r2 < 0
    · go_wp2
      go_ret
      exact ⟨-1, rfl, by omega, hfin⟩
    · go_wp2
      go_ret
      exact ⟨r2, rfl, fun h => by have h1 := HR2.out h; have h2 := HR.out; omega, hfin⟩

set_option maxRecDepth 100000 in
set_option maxHeartbeats 1000000 in
theorem eq_queue (nm : ByteArray) (nx : Int) (rs : List flM.Ms) (hs : List flH.Hd) (ra ra' ha ha' : Option Addr) (rc rc' hc hc' : Nat) (w : World) (hrl : rs.length ≤ maxLen) (hhl : hs.length ≤ maxLen) (h1 : Row flM.c 5 w w.heap.size ra rs) (h2 : Row flM.c 5 w w.heap.size ra' rs) (h3 : Row flH.c 7 w w.heap.size ha hs) (h4 : Row flH.c 7 w w.heap.size ha' hs) :
    Calls Tryz.prog 112 #[.agg #[.string nm, .int .i64 nx, .slice ra rs.length rc, .slice ha hs.length hc], .agg #[.string nm, .int .i64 nx, .slice ra' rs.length rc', .slice ha' hs.length hc']] w fun e w' => e = .returned (.bool true) ∧ Below w.heap.size w w' := by
  have hb : Below w.heap.size w ((w.alloc (.cells #[.string nm, .int .i64 nx, .slice ra rs.length rc, .slice ha hs.length hc] 68)).alloc (.cells #[.string nm, .int .i64 nx, .slice ra' rs.length rc', .slice ha' hs.length hc'] 68)) := ((Below.refl _ _).alloc (Nat.le_refl _) _).alloc (by simp) _
  have hA := bold (bnew w #[.string nm, .int .i64 nx, .slice ra rs.length rc, .slice ha hs.length hc] 68) (.cells #[.string nm, .int .i64 nx, .slice ra' rs.length rc', .slice ha' hs.length hc'] 68)
  have hB := bnew (w.alloc (.cells #[.string nm, .int .i64 nx, .slice ra rs.length rc, .slice ha hs.length hc] 68)) #[.string nm, .int .i64 nx, .slice ra' rs.length rc', .slice ha' hs.length hc'] 68
  rw [World.size_alloc] at hB
  obtain ⟨W, hW⟩ : ∃ W, (w.alloc (.cells #[.string nm, .int .i64 nx, .slice ra rs.length rc, .slice ha hs.length hc] 68)).alloc (.cells #[.string nm, .int .i64 nx, .slice ra' rs.length rc', .slice ha' hs.length hc'] 68) = W := ⟨_, rfl⟩
  rw [hW] at hb hA hB
  have he := flM.eq_all rs ra ra' rc rc' W hrl (h1.inn hb) (h2.inn hb)
  have HB3 : Hid (Row flH.c 7 W W.heap.size ha hs) := h3.inn hb
  have HB4 : Hid (Row flH.c 7 W W.heap.size ha' hs) := h4.inn hb
  have x0 : W.cell? ⟨w.heap.size, 0, none⟩ = some (.string nm) := bcell hA rfl
  have x1 : W.cell? ⟨w.heap.size, 1, none⟩ = some (.int .i64 nx) := bcell hA rfl
  have x2 : W.cell? ⟨w.heap.size, 2, none⟩ = some (.slice ra rs.length rc) := bcell hA rfl
  have y0 : W.cell? ⟨w.heap.size + 1, 0, none⟩ = some (.string nm) := bcell hB rfl
  have y1 : W.cell? ⟨w.heap.size + 1, 1, none⟩ = some (.int .i64 nx) := bcell hB rfl
  have y2 : W.cell? ⟨w.heap.size + 1, 2, none⟩ = some (.slice ra' rs.length rc') := bcell hB rfl
  have HA : Hid (W.heap[w.heap.size]? = some (.cells #[.string nm, .int .i64 nx, .slice ra rs.length rc, .slice ha hs.length hc] 68 (0, 0))) := hA
  have HBB : Hid (W.heap[w.heap.size + 1]? = some (.cells #[.string nm, .int .i64 nx, .slice ra' rs.length rc', .slice ha' hs.length hc'] 68 (0, 0))) := hB
  have la := (Array.getElem?_eq_some_iff.1 hA).1
  have lb := (Array.getElem?_eq_some_iff.1 hB).1
  clear h1 h2 h3 h4 hA hB
  go_enter Tryz.func112, Tryz.ntmps112
  go_wp2_with (go_at_call 171; fail)
  refine he.mono ?_
  rintro e w1 ⟨rfl, hb1⟩
  have x1 : w1.cell? ⟨w.heap.size, 3, none⟩ = some (.slice ha hs.length hc) := bcell (bstay HA.out hb1 la) rfl
  have y1 : w1.cell? ⟨w.heap.size + 1, 3, none⟩ = some (.slice ha' hs.length hc') := bcell (bstay HBB.out hb1 lb) rfl
  have hq := flH.eq_all hs ha ha' hc hc' w1 hhl (HB3.out.inn hb1) (HB4.out.inn hb1)
  clear he x0 x2 y0 y2 hW
  go_wp2_with (go_at_call 172; refine hq.mono ?_; rintro e w2 ⟨rfl, hb2⟩)
  go_ret
  exact ⟨rfl, hb.trans ((hb1.trans (hb2.mono hb1.size)).mono hb.size)⟩

set_option maxRecDepth 100000 in
set_option maxHeartbeats 2000000 in
theorem to_queue (nm : ByteArray) (nx : Int) (rs : List flM.Ms) (hs : List flH.Hd) (ra ha : Option Addr) (rc hc : Nat) (w : World) (hrl : rs.length ≤ 1048576) (hhl : hs.length ≤ 1048576) (hR : Row flM.c 5 w w.heap.size ra rs) (hH : Row flH.c 7 w w.heap.size ha hs) :
    Calls Tryz.prog 88 #[.agg #[.string nm, .int .i64 nx, .slice ra rs.length rc, .slice ha hs.length hc]] w fun e w' => ∃ g h, e = .returned (.agg #[.string nm, .int .i64 nx, .slice (some ⟨g, 0, none⟩) rs.length rs.length, .slice (some ⟨h, 0, none⟩) hs.length hs.length]) ∧ w.heap.size ≤ g ∧ w.heap.size ≤ h ∧ g ≠ h ∧
      Own flM.c 5 48 w' g rs rs.length ∧ Own flH.c 7 102 w' h hs hs.length ∧ Below w.heap.size w w' := by
  have hb : Below w.heap.size w (((w.alloc (.cells #[.string nm, .int .i64 nx, .slice ra rs.length rc, .slice ha hs.length hc] 110)).alloc (.cells #[.string ByteArray.empty, .int .i64 0, .slice none 0 0, .slice none 0 0] 68)).alloc (.cells #[.string nm, .int .i64 nx, .slice none 0 0, .slice none 0 0] 68)) := (((Below.refl _ _).alloc (Nat.le_refl _) _).alloc (by simp) _).alloc (by simp; omega) _
  have hA := bold (bold (bnew w #[.string nm, .int .i64 nx, .slice ra rs.length rc, .slice ha hs.length hc] 110) (.cells #[.string ByteArray.empty, .int .i64 0, .slice none 0 0, .slice none 0 0] 68)) (.cells #[.string nm, .int .i64 nx, .slice none 0 0, .slice none 0 0] 68)
  have hRr := bold (bnew (w.alloc (.cells #[.string nm, .int .i64 nx, .slice ra rs.length rc, .slice ha hs.length hc] 110)) #[.string ByteArray.empty, .int .i64 0, .slice none 0 0, .slice none 0 0] 68) (.cells #[.string nm, .int .i64 nx, .slice none 0 0, .slice none 0 0] 68)
  have hO := bnew ((w.alloc (.cells #[.string nm, .int .i64 nx, .slice ra rs.length rc, .slice ha hs.length hc] 110)).alloc (.cells #[.string ByteArray.empty, .int .i64 0, .slice none 0 0, .slice none 0 0] 68)) #[.string nm, .int .i64 nx, .slice none 0 0, .slice none 0 0] 68
  rw [World.size_alloc] at hRr
  rw [World.size_alloc, World.size_alloc] at hO
  have hS : (((w.alloc (.cells #[.string nm, .int .i64 nx, .slice ra rs.length rc, .slice ha hs.length hc] 110)).alloc (.cells #[.string ByteArray.empty, .int .i64 0, .slice none 0 0, .slice none 0 0] 68)).alloc (.cells #[.string nm, .int .i64 nx, .slice none 0 0, .slice none 0 0] 68)).heap.size = w.heap.size + 3 := by simp
  obtain ⟨W, hW⟩ : ∃ W, ((w.alloc (.cells #[.string nm, .int .i64 nx, .slice ra rs.length rc, .slice ha hs.length hc] 110)).alloc (.cells #[.string ByteArray.empty, .int .i64 0, .slice none 0 0, .slice none 0 0] 68)).alloc (.cells #[.string nm, .int .i64 nx, .slice none 0 0, .slice none 0 0] 68) = W := ⟨_, rfl⟩
  rw [hW] at hb hA hRr hO hS
  have he := flM.to_all rs ra rc W hrl (hR.inn hb)
  have hS3 : w.heap.size + 3 ≤ W.heap.size := by omega
  have HH : Hid (Row flH.c 7 w w.heap.size ha hs) := hH
  have x0 : W.cell? ⟨w.heap.size, 2, none⟩ = some (.slice ra rs.length rc) := bcell hA rfl
  have HA : Hid (W.heap[w.heap.size]? = some (.cells #[.string nm, .int .i64 nx, .slice ra rs.length rc, .slice ha hs.length hc] 110 (0, 0))) := hA
  have HR : Hid (W.heap[w.heap.size + 1]? = some (.cells #[.string ByteArray.empty, .int .i64 0, .slice none 0 0, .slice none 0 0] 68 (0, 0))) := hRr
  have HO : Hid (W.heap[w.heap.size + 1 + 1]? = some (.cells #[.string nm, .int .i64 nx, .slice none 0 0, .slice none 0 0] 68 (0, 0))) := hO
  clear hR hH hA hRr hO hS
  go_enter Tryz.func88, Tryz.ntmps88
  go_wp2_with (go_at_call 156; fail)
  rw [← hW] at he
  refine he.mono ?_
  rintro e w1 ⟨rfl, hre, hb1⟩
  rw [hW] at hre hb1 ⊢
  clear hW he
  have hs1 := hb1.size
  have o1 := bstay HO.out hb1 (by omega)
  have o0c : w1.cell? ⟨w.heap.size + 1 + 1, 2, none⟩ = some (.slice none 0 0) := bcell o1 rfl
  have o0f := bfree o1 2
  have o2 : (w1.setCell ⟨w.heap.size + 1 + 1, 2, none⟩ (.slice (some ⟨W.heap.size, 0, none⟩) rs.length rs.length)).heap[w.heap.size + 1 + 1]? = some (.cells #[.string nm, .int .i64 nx, .slice (some ⟨W.heap.size, 0, none⟩) rs.length rs.length, .slice none 0 0] 68 (0, 0)) := bset o1 2 (.slice (some ⟨W.heap.size, 0, none⟩) rs.length rs.length)
  have a2 := boff (bstay HA.out hb1 (by omega)) (w.heap.size + 1 + 1) 2 (.slice (some ⟨W.heap.size, 0, none⟩) rs.length rs.length) (by omega)
  have r2 := boff (bstay HR.out hb1 (by omega)) (w.heap.size + 1 + 1) 2 (.slice (some ⟨W.heap.size, 0, none⟩) rs.length rs.length) (by omega)
  have hbw2 : Below w.heap.size w (w1.setCell ⟨w.heap.size + 1 + 1, 2, none⟩ (.slice (some ⟨W.heap.size, 0, none⟩) rs.length rs.length)) := (hb.trans (hb1.mono (by omega))).setCell (by show w.heap.size ≤ w.heap.size + 1 + 1; omega) _
  have re2 : Own flM.c 5 48 (w1.setCell ⟨w.heap.size + 1 + 1, 2, none⟩ (.slice (some ⟨W.heap.size, 0, none⟩) rs.length rs.length)) W.heap.size rs rs.length := hre.kept (Below.heap_setCell w1 _ _ _ (by show W.heap.size ≠ w.heap.size + 1 + 1; omega))
  have hsz2 : (w1.setCell ⟨w.heap.size + 1 + 1, 2, none⟩ (.slice (some ⟨W.heap.size, 0, none⟩) rs.length rs.length)).heap.size = w1.heap.size := by simp
  have hq := flH.to_all hs ha hc _ hhl (HH.out.inn hbw2)
  obtain ⟨W2, hW2⟩ : ∃ W2, w1.setCell ⟨w.heap.size + 1 + 1, 2, none⟩ (.slice (some ⟨W.heap.size, 0, none⟩) rs.length rs.length) = W2 := ⟨_, rfl⟩
  rw [hW2] at o2 a2 r2 hbw2 re2 hsz2 hq
  have a1c : W2.cell? ⟨w.heap.size, 3, none⟩ = some (.slice ha hs.length hc) := bcell a2 rfl
  have HO2 : Hid (W2.heap[w.heap.size + 1 + 1]? = some (.cells #[.string nm, .int .i64 nx, .slice (some ⟨W.heap.size, 0, none⟩) rs.length rs.length, .slice none 0 0] 68 (0, 0))) := o2
  have HR2 : Hid (W2.heap[w.heap.size + 1]? = some (.cells #[.string ByteArray.empty, .int .i64 0, .slice none 0 0, .slice none 0 0] 68 (0, 0))) := r2
  have HRE : Hid (Own flM.c 5 48 W2 W.heap.size rs rs.length) := re2
  have hl2 : w.heap.size + 3 ≤ W2.heap.size := by omega
  have hlt2 : W.heap.size < W2.heap.size := re2.lt
  clear x0 hre o1 o2 a2 r2 re2
  go_wp2_with (go_at_call 157; fail)
  clear hW2
  refine hq.mono ?_
  rintro e w3 ⟨rfl, hrb, hb3⟩
  have hs3 := hb3.size
  have u := bstay HO2.out hb3 (by omega)
  have v := bstay HR2.out hb3 (by omega)
  have u0 : w3.cell? ⟨w.heap.size + 1 + 1, 0, none⟩ = some (.string nm) := bcell u rfl
  have u1 : w3.cell? ⟨w.heap.size + 1 + 1, 1, none⟩ = some (.int .i64 nx) := bcell u rfl
  have u2 : w3.cell? ⟨w.heap.size + 1 + 1, 2, none⟩ = some (.slice (some ⟨W.heap.size, 0, none⟩) rs.length rs.length) := bcell u rfl
  have u3 : w3.cell? ⟨w.heap.size + 1 + 1, 3, none⟩ = some (.slice none 0 0) := bcell u rfl
  have uf := bfree u 3
  have v0 : w3.cell? ⟨w.heap.size + 1, 0, none⟩ = some (.string ByteArray.empty) := bcell v rfl
  have v1 : w3.cell? ⟨w.heap.size + 1, 1, none⟩ = some (.int .i64 0) := bcell v rfl
  have v2 : w3.cell? ⟨w.heap.size + 1, 2, none⟩ = some (.slice none 0 0) := bcell v rfl
  have v3 : w3.cell? ⟨w.heap.size + 1, 3, none⟩ = some (.slice none 0 0) := bcell v rfl
  have vf0 := bfree v 0
  have vf1 := bfree v 1
  have vf2 := bfree v 2
  have vf3 := bfree v 3
  have HRB : Hid (Own flH.c 7 102 w3 W2.heap.size hs hs.length) := hrb
  have HRE3 : Hid (Own flM.c 5 48 w3 W.heap.size rs rs.length) := HRE.out.below hb3 hlt2
  have hbw3 : Below w.heap.size w w3 := hbw2.trans (hb3.mono (by omega))
  clear hq u v hrb a1c o0c o0f
  go_wp2
  refine bodyPost_ret (v := .agg #[.string nm, .int .i64 nx, .slice (some ⟨W.heap.size, 0, none⟩) rs.length rs.length, .slice (some ⟨W2.heap.size, 0, none⟩) hs.length hs.length]) (by simp [results, Tryz.results88, go_sem, v0, v1, v2, v3]) rfl ⟨W.heap.size, W2.heap.size, rfl, by omega, by omega, by omega, ?_, ?_, ?_⟩
  · exact ((((HRE3.out.kept (Below.heap_setCell _ _ _ _ (by show W.heap.size ≠ w.heap.size + 1 + 1; omega))).kept (Below.heap_setCell _ _ _ _ (by show W.heap.size ≠ w.heap.size + 1; omega))).kept (Below.heap_setCell _ _ _ _ (by show W.heap.size ≠ w.heap.size + 1; omega))).kept (Below.heap_setCell _ _ _ _ (by show W.heap.size ≠ w.heap.size + 1; omega))).kept (Below.heap_setCell _ _ _ _ (by show W.heap.size ≠ w.heap.size + 1; omega))
  · exact ((((HRB.out.kept (Below.heap_setCell _ _ _ _ (by show W2.heap.size ≠ w.heap.size + 1 + 1; omega))).kept (Below.heap_setCell _ _ _ _ (by show W2.heap.size ≠ w.heap.size + 1; omega))).kept (Below.heap_setCell _ _ _ _ (by show W2.heap.size ≠ w.heap.size + 1; omega))).kept (Below.heap_setCell _ _ _ _ (by show W2.heap.size ≠ w.heap.size + 1; omega))).kept (Below.heap_setCell _ _ _ _ (by show W2.heap.size ≠ w.heap.size + 1; omega))
  · exact ((((hbw3.setCell (by show w.heap.size ≤ w.heap.size + 1 + 1; omega) _).setCell (by show w.heap.size ≤ w.heap.size + 1; omega) _).setCell (by show w.heap.size ≤ w.heap.size + 1; omega) _).setCell (by show w.heap.size ≤ w.heap.size + 1; omega) _).setCell (by show w.heap.size ≤ w.heap.size + 1; omega) _
end Go.Proofs.YtpkljkahdclcgaaGreat.ql
