/- Tables as a law's argument: what they weigh, laid anew, held beside each other; new memory alone. -/
import Derived.Test.YtlgcciaebkfnjaaGreatDoorRunLib
namespace Go.Proofs.YtlgcciaebkfnjaaGreatDoor.tb
open Go.ChangeShapes Go.WideShapes Go.ChangeAt Go.RowKit Go.Proofs.YtlgcciaebkfnjaaGreatDoor.fl Go.Proofs.YtlgcciaebkfnjaaGreatDoor.rn
set_option linter.unusedVariables false

set_option maxRecDepth 100000 in
set_option maxHeartbeats 1000000 in
theorem sz_table (ys : List flP.Pr) (rs : List Rn) (ya ra : Option Addr) (yc rc : Nat) (w : World) (hyl : ys.length ≤ maxLen) (hrl : rs.length ≤ maxLen) (hyo : ∀ e ∈ ys, flP.ok e) (hro : ∀ e ∈ rs, okR e) (hY : Row flP.c 3 w w.heap.size ya ys) (hR : VR w w.heap.size ra rs) :
    Calls Tryz.prog 65 #[.agg #[.slice ya ys.length yc, .slice ra rs.length rc], .int .i64 1048576] w fun e w' => ∃ r : Int, e = .returned (.int .i64 r) ∧ (0 ≤ r → ys.length + bulk flP.wt ys + rs.length + bulk wtR rs ≤ 1048576) ∧ Below w.heap.size w w' := by
  have hb : Below w.heap.size w (w.alloc (.cells #[.slice ya ys.length yc, .slice ra rs.length rc] 55)) := (Below.refl _ _).alloc (Nat.le_refl _) _
  have hA := bnew w #[.slice ya ys.length yc, .slice ra rs.length rc] 55
  obtain ⟨W, hW⟩ : ∃ W, w.alloc (.cells #[.slice ya ys.length yc, .slice ra rs.length rc] 55) = W := ⟨_, rfl⟩
  rw [hW] at hb hA
  have he := flP.sz_all ys ya yc 1048576 W hyl hyo (by omega) (by omega) (hY.inn hb)
  have HB3 : Hid (VR W W.heap.size ra rs) := hR.inn hb
  have x0 : W.cell? ⟨w.heap.size, 0, none⟩ = some (.slice ya ys.length yc) := bcell hA rfl
  have HA : Hid (W.heap[w.heap.size]? = some (.cells #[.slice ya ys.length yc, .slice ra rs.length rc] 55 (0, 0))) := hA
  have la := (Array.getElem?_eq_some_iff.1 hA).1
  have HBS : Hid (∀ e ∈ rs, okR e) := hro
  clear hR hY hA hro hyo
  go_enter Tryz.func65, Tryz.ntmps65
  go_wp2_with (go_at_call 102; fail)
  refine he.mono ?_
  rintro e w1 ⟨r, rfl, hr, hr0, hr1, hb1⟩
  clear hW x0
  by_cases hneg : r < 0
  · go_wp2
    go_ret
    exact ⟨-1, rfl, by omega, hb.trans (hb1.mono hb.size)⟩
  · have x1 : w1.cell? ⟨w.heap.size, 1, none⟩ = some (.slice ra rs.length rc) := bcell (bstay HA.out hb1 la) rfl
    have hq := sz_runs rs ra rc r w1 hrl HBS.out (by omega) (by omega) (HB3.out.inn hb1)
    have HR : Hid (r = 1048576 - ys.length - bulk flP.wt ys) := hr (by omega)
    clear he hr
    go_wp2_with (go_at_call 103; fail)
    refine hq.mono ?_
    rintro e w2 ⟨r2, rfl, hr2, hr20, hr21, hb2⟩
    have hfin : Below w.heap.size w w2 := hb.trans ((hb1.trans (hb2.mono hb1.size)).mono hb.size)
    have HR2 : Hid (0 ≤ r2 → r2 = r - rs.length - bulk wtR rs) := hr2
    clear hq hr2
    by_cases hneg2 : r2 < 0
    · go_wp2
      go_ret
      exact ⟨-1, rfl, by omega, hfin⟩
    · go_wp2
      go_ret
      exact ⟨r2, rfl, fun h => by have h1 := HR2.out h; have h2 := HR.out; omega, hfin⟩

/-- a table that weighs little: each of it does -/
structure Fit (ys : List flP.Pr) (rs : List Rn) : Prop where
  yl : ys.length ≤ 1048576
  rl : rs.length ≤ 1048576
  yo : ∀ e ∈ ys, e.k.size ≤ 1048576 ∧ e.v.size ≤ 1048576
  ro : ∀ r ∈ rs, r.l.length ≤ 1048576 ∧ ∀ e ∈ r.l, e.k.size ≤ 1048576 ∧ e.v.size ≤ 1048576
theorem fit {ys : List flP.Pr} {rs : List Rn} (h : ys.length + bulk flP.wt ys + rs.length + bulk wtR rs ≤ 1048576) : Fit ys rs := by
  refine ⟨by omega, by omega, fun e he => ?_, fun r hr => ?_⟩
  · have h1 : e.k.size + e.v.size ≤ bulk flP.wt ys := bulk_le flP.wt he
    omega
  · have h1 : r.l.length + bulk flP.wt r.l ≤ bulk wtR rs := bulk_le wtR hr
    refine ⟨by omega, fun e he => ?_⟩
    have h2 : e.k.size + e.v.size ≤ bulk flP.wt r.l := bulk_le flP.wt he
    omega

set_option maxRecDepth 100000 in
set_option maxHeartbeats 1000000 in
theorem eq_table (ys : List flP.Pr) (rs rs' : List Rn) (ya ya' ra ra' : Option Addr) (yc yc' rc rc' : Nat) (w : World) (hyl : ys.length ≤ maxLen) (hrl : rs.length ≤ maxLen) (hx : ∀ e ∈ rs, e.l.length ≤ maxLen) (hm : rs.map (·.l) = rs'.map (·.l)) (h1 : Row flP.c 3 w w.heap.size ya ys) (h2 : Row flP.c 3 w w.heap.size ya' ys) (h3 : VR w w.heap.size ra rs) (h4 : VR w w.heap.size ra' rs') :
    Calls Tryz.prog 67 #[.agg #[.slice ya ys.length yc, .slice ra rs.length rc], .agg #[.slice ya' ys.length yc', .slice ra' rs.length rc']] w fun e w' => e = .returned (.bool true) ∧ Below w.heap.size w w' := by
  have hb : Below w.heap.size w ((w.alloc (.cells #[.slice ya ys.length yc, .slice ra rs.length rc] 27)).alloc (.cells #[.slice ya' ys.length yc', .slice ra' rs.length rc'] 27)) := ((Below.refl _ _).alloc (Nat.le_refl _) _).alloc (by simp) _
  have hA := bold (bnew w #[.slice ya ys.length yc, .slice ra rs.length rc] 27) (.cells #[.slice ya' ys.length yc', .slice ra' rs.length rc'] 27)
  have hB := bnew (w.alloc (.cells #[.slice ya ys.length yc, .slice ra rs.length rc] 27)) #[.slice ya' ys.length yc', .slice ra' rs.length rc'] 27
  rw [World.size_alloc] at hB
  obtain ⟨W, hW⟩ : ∃ W, (w.alloc (.cells #[.slice ya ys.length yc, .slice ra rs.length rc] 27)).alloc (.cells #[.slice ya' ys.length yc', .slice ra' rs.length rc'] 27) = W := ⟨_, rfl⟩
  rw [hW] at hb hA hB
  have he := flP.eq_all ys ya ya' yc yc' W hyl (h1.inn hb) (h2.inn hb)
  have HB3 : Hid (VR W W.heap.size ra rs) := h3.inn hb
  have HB4 : Hid (VR W W.heap.size ra' rs') := h4.inn hb
  have x0 : W.cell? ⟨w.heap.size, 0, none⟩ = some (.slice ya ys.length yc) := bcell hA rfl
  have y0 : W.cell? ⟨w.heap.size + 1, 0, none⟩ = some (.slice ya' ys.length yc') := bcell hB rfl
  have HA : Hid (W.heap[w.heap.size]? = some (.cells #[.slice ya ys.length yc, .slice ra rs.length rc] 27 (0, 0))) := hA
  have HBB : Hid (W.heap[w.heap.size + 1]? = some (.cells #[.slice ya' ys.length yc', .slice ra' rs.length rc'] 27 (0, 0))) := hB
  have la := (Array.getElem?_eq_some_iff.1 hA).1
  have lb := (Array.getElem?_eq_some_iff.1 hB).1
  have HX : Hid (∀ e ∈ rs, e.l.length ≤ maxLen) := hx
  have HM : Hid (rs.map (·.l) = rs'.map (·.l)) := hm
  clear h1 h2 h3 h4 hA hB hx hm
  go_enter Tryz.func67, Tryz.ntmps67
  go_wp2_with (go_at_call 106; fail)
  refine he.mono ?_
  rintro e w1 ⟨rfl, hb1⟩
  have x1 : w1.cell? ⟨w.heap.size, 1, none⟩ = some (.slice ra rs.length rc) := bcell (bstay HA.out hb1 la) rfl
  have y1 : w1.cell? ⟨w.heap.size + 1, 1, none⟩ = some (.slice ra' rs.length rc') := bcell (bstay HBB.out hb1 lb) rfl
  have hq := eq_runs rs rs' ra ra' rc rc' w1 hrl HX.out HM.out (HB3.out.inn hb1) (HB4.out.inn hb1)
  clear he x0 y0 hW
  go_wp2_with (go_at_call 107; refine hq.mono ?_; rintro e w2 ⟨rfl, hb2⟩)
  go_ret
  exact ⟨rfl, hb.trans ((hb1.trans (hb2.mono hb1.size)).mono hb.size)⟩

set_option maxRecDepth 100000 in
set_option maxHeartbeats 2000000 in
theorem to_table (ys : List flP.Pr) (rs : List Rn) (ya ra : Option Addr) (yc rc : Nat) (w : World) (F : Fit ys rs) (hY : Row flP.c 3 w w.heap.size ya ys) (hR : VR w w.heap.size ra rs) :
    Calls Tryz.prog 66 #[.agg #[.slice ya ys.length yc, .slice ra rs.length rc]] w fun e w' => ∃ g h ks, e = .returned (.agg #[.slice (some ⟨g, 0, none⟩) ys.length ys.length, .slice (some ⟨h, 0, none⟩) rs.length rs.length]) ∧ ks.map (·.l) = rs.map (·.l) ∧ w.heap.size ≤ g ∧ g < h ∧
      Own flP.c 3 49 w' g ys ys.length ∧ OR w' (h + 1) h rs.length ks ∧ Below w.heap.size w w' := by
  have hb : Below w.heap.size w (((w.alloc (.cells #[.slice ya ys.length yc, .slice ra rs.length rc] 55)).alloc (.cells #[.slice none 0 0, .slice none 0 0] 27)).alloc (.cells #[.slice none 0 0, .slice none 0 0] 27)) := (((Below.refl _ _).alloc (Nat.le_refl _) _).alloc (by simp) _).alloc (by simp; omega) _
  have hA := bold (bold (bnew w #[.slice ya ys.length yc, .slice ra rs.length rc] 55) (.cells #[.slice none 0 0, .slice none 0 0] 27)) (.cells #[.slice none 0 0, .slice none 0 0] 27)
  have hRr := bold (bnew (w.alloc (.cells #[.slice ya ys.length yc, .slice ra rs.length rc] 55)) #[.slice none 0 0, .slice none 0 0] 27) (.cells #[.slice none 0 0, .slice none 0 0] 27)
  have hO := bnew ((w.alloc (.cells #[.slice ya ys.length yc, .slice ra rs.length rc] 55)).alloc (.cells #[.slice none 0 0, .slice none 0 0] 27)) #[.slice none 0 0, .slice none 0 0] 27
  rw [World.size_alloc] at hRr
  rw [World.size_alloc, World.size_alloc] at hO
  have hS : (((w.alloc (.cells #[.slice ya ys.length yc, .slice ra rs.length rc] 55)).alloc (.cells #[.slice none 0 0, .slice none 0 0] 27)).alloc (.cells #[.slice none 0 0, .slice none 0 0] 27)).heap.size = w.heap.size + 3 := by simp
  obtain ⟨W, hW⟩ : ∃ W, ((w.alloc (.cells #[.slice ya ys.length yc, .slice ra rs.length rc] 55)).alloc (.cells #[.slice none 0 0, .slice none 0 0] 27)).alloc (.cells #[.slice none 0 0, .slice none 0 0] 27) = W := ⟨_, rfl⟩
  rw [hW] at hb hA hRr hO hS
  have he := flP.to_all ys ya yc W F.yl (hY.inn hb)
  have hS3 : w.heap.size + 3 ≤ W.heap.size := by omega
  have HH : Hid (VR w w.heap.size ra rs) := hR
  have x0 : W.cell? ⟨w.heap.size, 0, none⟩ = some (.slice ya ys.length yc) := bcell hA rfl
  have HA : Hid (W.heap[w.heap.size]? = some (.cells #[.slice ya ys.length yc, .slice ra rs.length rc] 55 (0, 0))) := hA
  have HR : Hid (W.heap[w.heap.size + 1]? = some (.cells #[.slice none 0 0, .slice none 0 0] 27 (0, 0))) := hRr
  have HO : Hid (W.heap[w.heap.size + 1 + 1]? = some (.cells #[.slice none 0 0, .slice none 0 0] 27 (0, 0))) := hO
  have HF : Hid (Fit ys rs) := F
  clear hR hY hA hRr hO hS F
  go_enter Tryz.func66, Tryz.ntmps66
  go_wp2_with (go_at_call 104; fail)
  clear hW
  refine he.mono ?_
  rintro e w1 ⟨rfl, hre, hb1⟩
  clear he
  have hs1 := hb1.size
  have o1 := bstay HO.out hb1 (by omega)
  have o0c : w1.cell? ⟨w.heap.size + 1 + 1, 0, none⟩ = some (.slice none 0 0) := bcell o1 rfl
  have o0f := bfree o1 0
  have o2 : (w1.setCell ⟨w.heap.size + 1 + 1, 0, none⟩ (.slice (some ⟨W.heap.size, 0, none⟩) ys.length ys.length)).heap[w.heap.size + 1 + 1]? = some (.cells #[.slice (some ⟨W.heap.size, 0, none⟩) ys.length ys.length, .slice none 0 0] 27 (0, 0)) := bset o1 0 (.slice (some ⟨W.heap.size, 0, none⟩) ys.length ys.length)
  have a2 := boff (bstay HA.out hb1 (by omega)) (w.heap.size + 1 + 1) 0 (.slice (some ⟨W.heap.size, 0, none⟩) ys.length ys.length) (by omega)
  have r2 := boff (bstay HR.out hb1 (by omega)) (w.heap.size + 1 + 1) 0 (.slice (some ⟨W.heap.size, 0, none⟩) ys.length ys.length) (by omega)
  have hbw2 : Below w.heap.size w (w1.setCell ⟨w.heap.size + 1 + 1, 0, none⟩ (.slice (some ⟨W.heap.size, 0, none⟩) ys.length ys.length)) := (hb.trans (hb1.mono (by omega))).setCell (by show w.heap.size ≤ w.heap.size + 1 + 1; omega) _
  have re2 : Own flP.c 3 49 (w1.setCell ⟨w.heap.size + 1 + 1, 0, none⟩ (.slice (some ⟨W.heap.size, 0, none⟩) ys.length ys.length)) W.heap.size ys ys.length := hre.kept (Below.heap_setCell w1 _ _ _ (by show W.heap.size ≠ w.heap.size + 1 + 1; omega))
  have hsz2 : (w1.setCell ⟨w.heap.size + 1 + 1, 0, none⟩ (.slice (some ⟨W.heap.size, 0, none⟩) ys.length ys.length)).heap.size = w1.heap.size := by simp
  have hq := to_runs rs ra rc _ HF.out.rl (fun e he => (HF.out.ro e he).1) (HH.out.inn hbw2)
  obtain ⟨W2, hW2⟩ : ∃ W2, w1.setCell ⟨w.heap.size + 1 + 1, 0, none⟩ (.slice (some ⟨W.heap.size, 0, none⟩) ys.length ys.length) = W2 := ⟨_, rfl⟩
  rw [hW2] at o2 a2 r2 hbw2 re2 hsz2 hq
  have a1c : W2.cell? ⟨w.heap.size, 1, none⟩ = some (.slice ra rs.length rc) := bcell a2 rfl
  have HO2 : Hid (W2.heap[w.heap.size + 1 + 1]? = some (.cells #[.slice (some ⟨W.heap.size, 0, none⟩) ys.length ys.length, .slice none 0 0] 27 (0, 0))) := o2
  have HR2 : Hid (W2.heap[w.heap.size + 1]? = some (.cells #[.slice none 0 0, .slice none 0 0] 27 (0, 0))) := r2
  have HRE : Hid (Own flP.c 3 49 W2 W.heap.size ys ys.length) := re2
  have hl2 : w.heap.size + 3 ≤ W2.heap.size := by omega
  have hlt2 : W.heap.size < W2.heap.size := re2.lt
  clear x0 hre o1 o2 a2 r2 re2
  go_wp2_with (go_at_call 105; fail)
  clear hW2
  refine hq.mono ?_
  rintro e w3 ⟨ks, rfl, hks, hrb, hb3⟩
  have hs3 := hb3.size
  have u := bstay HO2.out hb3 (by omega)
  have v := bstay HR2.out hb3 (by omega)
  have u0 : w3.cell? ⟨w.heap.size + 1 + 1, 0, none⟩ = some (.slice (some ⟨W.heap.size, 0, none⟩) ys.length ys.length) := bcell u rfl
  have u1 : w3.cell? ⟨w.heap.size + 1 + 1, 1, none⟩ = some (.slice none 0 0) := bcell u rfl
  have uf := bfree u 1
  have v0 : w3.cell? ⟨w.heap.size + 1, 0, none⟩ = some (.slice none 0 0) := bcell v rfl
  have v1 : w3.cell? ⟨w.heap.size + 1, 1, none⟩ = some (.slice none 0 0) := bcell v rfl
  have vf0 := bfree v 0
  have vf1 := bfree v 1
  have HRB : Hid (OR w3 (W2.heap.size + 1) W2.heap.size rs.length ks) := hrb
  have HRE3 : Hid (Own flP.c 3 49 w3 W.heap.size ys ys.length) := HRE.out.below hb3 hlt2
  have HKS : Hid (ks.map (·.l) = rs.map (·.l)) := hks
  have hbw3 : Below w.heap.size w w3 := hbw2.trans (hb3.mono (by omega))
  clear hq u v hrb a1c o0c o0f hks
  go_wp2
  refine bodyPost_ret (v := .agg #[.slice (some ⟨W.heap.size, 0, none⟩) ys.length ys.length, .slice (some ⟨W2.heap.size, 0, none⟩) rs.length rs.length]) (by simp [results, Tryz.results66, go_sem, v0, v1]) rfl ⟨W.heap.size, W2.heap.size, ks, rfl, HKS.out, by omega, by omega, ?_, ?_, ?_⟩
  · exact ((HRE3.out.kept (Below.heap_setCell _ _ _ _ (by show W.heap.size ≠ w.heap.size + 1 + 1; omega))).kept (Below.heap_setCell _ _ _ _ (by show W.heap.size ≠ w.heap.size + 1; omega))).kept (Below.heap_setCell _ _ _ _ (by show W.heap.size ≠ w.heap.size + 1; omega))
  · exact ((HRB.out.set (show w.heap.size + 1 + 1 < W2.heap.size + 1 by omega) (by omega) _ _).set (show w.heap.size + 1 < W2.heap.size + 1 by omega) (by omega) _ _).set (show w.heap.size + 1 < W2.heap.size + 1 by omega) (by omega) _ _
  · exact ((hbw3.setCell (by show w.heap.size ≤ w.heap.size + 1 + 1; omega) _).setCell (by show w.heap.size ≤ w.heap.size + 1; omega) _).setCell (by show w.heap.size ≤ w.heap.size + 1; omega) _
theorem Fit.of {ys : List flP.Pr} {rs ks : List Rn} (F : Fit ys rs) (h : ks.map (·.l) = rs.map (·.l)) : Fit ys ks := by
  have hl : ks.length = rs.length := by have := congrArg List.length h; simpa using this
  refine ⟨F.yl, by rw [hl]; exact F.rl, F.yo, fun r hr => ?_⟩
  have h1 : r.l ∈ rs.map (·.l) := by rw [← h]; exact List.mem_map_of_mem hr
  obtain ⟨s, hs, he⟩ := List.mem_map.1 h1
  have h2 := F.ro s hs
  rw [he] at h2
  exact h2
/-- the argument is held against itself, laid anew -/
theorem step6 {w5 w6 : World} {ys : List flP.Pr} {rs k4 k6 : List Rn} {g4 h4 g6 h6 n : Nat} (F : Fit ys rs) (m4 : k4.map (·.l) = rs.map (·.l)) (m6 : k6.map (·.l) = rs.map (·.l)) (hb6 : Below w5.drew.heap.size w5.drew w6) (hn : n < w5.heap.size) (hY : w5.heap[n]? = some (.cells #[.slice (some ⟨g4, 0, none⟩) ys.length ys.length, .slice (some ⟨h4, 0, none⟩) rs.length rs.length] 27 (0, 0)))
    (hE : Row flP.c 3 w5 w5.heap.size (some ⟨g4, 0, none⟩) ys) (hB : VR w5 w5.heap.size (some ⟨h4, 0, none⟩) k4) (re6 : Own flP.c 3 49 w6 g6 ys ys.length) (rb6 : OR w6 (h6 + 1) h6 rs.length k6) :
    Below w5.heap.size w5 w6 ∧ w6.cell? ⟨n, 0, none⟩ = some (.slice (some ⟨g4, 0, none⟩) ys.length ys.length) ∧ w6.cell? ⟨n, 1, none⟩ = some (.slice (some ⟨h4, 0, none⟩) rs.length rs.length) ∧
      Calls Tryz.prog 67 #[.agg #[.slice (some ⟨g4, 0, none⟩) ys.length ys.length, .slice (some ⟨h4, 0, none⟩) rs.length rs.length], .agg #[.slice (some ⟨g6, 0, none⟩) ys.length ys.length, .slice (some ⟨h6, 0, none⟩) rs.length rs.length]] w6 fun e w' => e = .returned (.bool true) ∧ Below w6.heap.size w6 w' := by
  have hb6' : Below w5.heap.size w5 w6 := (Below.drew (Below.refl _ w5)).trans hb6
  have q5 := bstay hY hb6' hn
  have l4 : k4.length = rs.length := by have := congrArg List.length m4; simpa using this
  have l6 : k6.length = rs.length := by have := congrArg List.length m6; simpa using this
  have F4 := F.of m4
  have heq := eq_table ys k4 k6 (some ⟨g4, 0, none⟩) (some ⟨g6, 0, none⟩) (some ⟨h4, 0, none⟩) (some ⟨h6, 0, none⟩) ys.length ys.length rs.length rs.length w6 (by have := F.yl; unfold maxLen; omega) (by have := F4.rl; unfold maxLen; omega) (fun e he => by have := (F4.ro e he).1; unfold maxLen; omega) (m4.trans m6.symm) (hE.inn hb6') re6.row (hB.inn hb6') (OR.vr (by rw [l6]; exact rb6))
  rw [l4] at heq
  exact ⟨hb6', bcell q5 rfl, bcell q5 rfl, heq⟩
end Go.Proofs.YtlgcciaebkfnjaaGreatDoor.tb
