/- Stores of a law: weighed, laid anew, held against each other. A store is a table, a text and a number. -/
import Derived.Test.YtlgcciaebkfnjaaGreatDoorTabLib
import Derived.Test.YtlgcciaebkfnjaaGreatDoorFlatOff
namespace Go.Proofs.YtlgcciaebkfnjaaGreatDoor.sto
open Go.ChangeShapes Go.WideShapes Go.ChangeAt Go.RowKit Go.Proofs.YtlgcciaebkfnjaaGreatDoor.fl Go.Proofs.YtlgcciaebkfnjaaGreatDoor.rn Go.Proofs.YtlgcciaebkfnjaaGreatDoor.tb Go.Proofs.YtlgcciaebkfnjaaGreatDoor.fo
set_option linter.unusedVariables false

set_option maxRecDepth 100000 in
set_option maxHeartbeats 1000000 in
theorem sz_table2 (ys : List flP.Pr) (rs : List Rn) (ya ra : Option Addr) (yc rc : Nat) (w : World) (hyl : ys.length ≤ maxLen) (hrl : rs.length ≤ maxLen) (hyo : ∀ e ∈ ys, flP.ok e) (hro : ∀ e ∈ rs, okR e) (hY : Row flP.c 3 w w.heap.size ya ys) (hR : VR w w.heap.size ra rs) :
    Calls Tryz.prog 65 #[.agg #[.slice ya ys.length yc, .slice ra rs.length rc], .int .i64 1048576] w fun e w' => ∃ r : Int, e = .returned (.int .i64 r) ∧ (0 ≤ r → ys.length + bulk flP.wt ys + rs.length + bulk wtR rs ≤ 1048576) ∧ r ≤ 1048576 ∧ Below w.heap.size w w' := by
  have hb : Below w.heap.size w (w.alloc (.cells #[.slice ya ys.length yc, .slice ra rs.length rc] 55)) := (Below.refl _ _).alloc (Nat.le_refl _) _
  have hA := bnew w #[.slice ya ys.length yc, .slice ra rs.length rc] 55
  obtain ⟨W, hW⟩ : ∃ W, w.alloc (.cells #[.slice ya ys.length yc, .slice ra rs.length rc] 55) = W := ⟨_, rfl⟩
  rw [hW] at hb hA
  have he := flP.sz_all ys ya yc 1048576 W hyl hyo (by omega) (by omega) (hY.inn hb)
  have HB3 : Hid (VR W W.heap.size ra rs) := hR.inn hb
  have x0 : W.cell? ⟨w.heap.size, 0, none⟩ = some (.slice ya ys.length yc) := bcell hA rfl
  have HA : Hid (W.heap[w.heap.size]? = some (.cells #[.slice ya ys.length yc, .slice ra rs.length rc] 55 (0, 0))) := hA
  have la := (Array.getElem?_eq_some_iff.1 hA).1
  have HBS : Hid (∀ e ∈ rs, okR e) := hro
  clear hR hY hA hro hyo
  go_enter Tryz.func65, Tryz.ntmps65
  go_wp2_with (go_at_call 102; fail)
  refine he.mono ?_
  rintro e w1 ⟨r, rfl, hr, hr0, hr1, hb1⟩
  clear hW x0
  by_cases hneg : r < 0
  · go_wp2
    go_ret
    exact ⟨-1, rfl, by omega, by omega, hb.trans (hb1.mono hb.size)⟩
  · have x1 : w1.cell? ⟨w.heap.size, 1, none⟩ = some (.slice ra rs.length rc) := bcell (bstay HA.out hb1 la) rfl
    have hq := sz_runs rs ra rc r w1 hrl HBS.out (by omega) (by omega) (HB3.out.inn hb1)
    have HR : Hid (r = 1048576 - ys.length - bulk flP.wt ys) := hr (by omega)
    clear he hr
    go_wp2_with (go_at_call 103; fail)
    refine hq.mono ?_
    rintro e w2 ⟨r2, rfl, hr2, hr20, hr21, hb2⟩
    have hfin : Below w.heap.size w w2 := hb.trans ((hb1.trans (hb2.mono hb1.size)).mono hb.size)
    have HR2 : Hid (0 ≤ r2 → r2 = r - rs.length - bulk wtR rs) := hr2
    clear hq hr2
    by_cases hneg2 : r2 < 0
    · go_wp2
      go_ret
      exact ⟨-1, rfl, by omega, by omega, hfin⟩
    · go_wp2
      go_ret
      exact ⟨r2, rfl, fun h => by have h1 := HR2.out h; have h2 := HR.out; omega, by omega, hfin⟩

set_option maxRecDepth 100000 in
set_option maxHeartbeats 1000000 in
theorem sz_store (ys : List flP.Pr) (rs : List Rn) (ya ra : Option Addr) (yc rc : Nat) (lg : ByteArray) (sf : Int) (w : World) (hyl : ys.length ≤ maxLen) (hrl : rs.length ≤ maxLen) (hyo : ∀ e ∈ ys, flP.ok e) (hro : ∀ e ∈ rs, okR e) (hlg : lg.size ≤ maxLen) (hY : Row flP.c 3 w w.heap.size ya ys) (hR : VR w w.heap.size ra rs) :
    Calls Tryz.prog 27 #[.agg #[.slice ya ys.length yc, .slice ra rs.length rc, .string lg, .int .i64 sf], .int .i64 1048576] w fun e w' => ∃ r : Int, e = .returned (.int .i64 r) ∧ (0 ≤ r → ys.length + bulk flP.wt ys + rs.length + bulk wtR rs ≤ 1048576 ∧ lg.size ≤ 1048576) ∧ Below w.heap.size w w' := by
  have hb : Below w.heap.size w (w.alloc (.cells #[.slice ya ys.length yc, .slice ra rs.length rc, .string lg, .int .i64 sf] 57)) := (Below.refl _ _).alloc (Nat.le_refl _) _
  have hA := bnew w #[.slice ya ys.length yc, .slice ra rs.length rc, .string lg, .int .i64 sf] 57
  obtain ⟨W, hW⟩ : ∃ W, w.alloc (.cells #[.slice ya ys.length yc, .slice ra rs.length rc, .string lg, .int .i64 sf] 57) = W := ⟨_, rfl⟩
  rw [hW] at hb hA
  have he := sz_table2 ys rs ya ra yc rc W hyl hrl hyo hro (hY.inn hb) (hR.inn hb)
  have x0 : W.cell? ⟨w.heap.size, 0, none⟩ = some (.slice ya ys.length yc) := bcell hA rfl
  have x1 : W.cell? ⟨w.heap.size, 1, none⟩ = some (.slice ra rs.length rc) := bcell hA rfl
  have HA : Hid (W.heap[w.heap.size]? = some (.cells #[.slice ya ys.length yc, .slice ra rs.length rc, .string lg, .int .i64 sf] 57 (0, 0))) := hA
  have la := (Array.getElem?_eq_some_iff.1 hA).1
  clear hR hY hA hro hyo
  go_enter Tryz.func27, Tryz.ntmps27
  go_wp2_with (go_at_call 65; fail)
  refine he.mono ?_
  rintro e w1 ⟨r, rfl, hr, hrm, hb1⟩
  clear hW x0 x1 he
  have hfin : Below w.heap.size w w1 := hb.trans (hb1.mono hb.size)
  have HR : Hid (0 ≤ r → ys.length + bulk flP.wt ys + rs.length + bulk wtR rs ≤ 1048576) := hr
  have hlg' : lg.size ≤ 9223372036854775807 := hlg
  by_cases hneg : r < 0
  · go_wp2
    go_ret
    exact ⟨-1, rfl, by omega, hfin⟩
  have x2 : w1.cell? ⟨w.heap.size, 2, none⟩ = some (.string lg) := bcell (bstay HA.out hb1 la) rfl
  have hwr : IntKind.i64.wrap (r - (lg.size : Int)) = r - (lg.size : Int) := by rw [IntKind.wrap_i64]; omega
  have h0 : 0 ≤ r := by omega
  clear hr hb1 HA
  by_cases hneg2 : r - (lg.size : Int) < 0
  · go_wp2
    go_ret
    exact ⟨-1, rfl, by omega, hfin⟩
  · go_wp2
    go_ret
    exact ⟨_, rfl, fun h => ⟨HR.out (by omega), by omega⟩, hfin⟩

set_option maxRecDepth 100000 in
set_option maxHeartbeats 1000000 in
theorem eq_store (ys : List flP.Pr) (rs rs' : List Rn) (ya ya' ra ra' : Option Addr) (yc yc' rc rc' : Nat) (lg : ByteArray) (sf : Int) (w : World) (hyl : ys.length ≤ maxLen) (hrl : rs.length ≤ maxLen) (hx : ∀ e ∈ rs, e.l.length ≤ maxLen) (hm : rs.map (·.l) = rs'.map (·.l)) (h1 : Row flP.c 3 w w.heap.size ya ys) (h2 : Row flP.c 3 w w.heap.size ya' ys) (h3 : VR w w.heap.size ra rs) (h4 : VR w w.heap.size ra' rs') :
    Calls Tryz.prog 29 #[.agg #[.slice ya ys.length yc, .slice ra rs.length rc, .string lg, .int .i64 sf], .agg #[.slice ya' ys.length yc', .slice ra' rs.length rc', .string lg, .int .i64 sf]] w fun e w' => e = .returned (.bool true) ∧ Below w.heap.size w w' := by
  have hb : Below w.heap.size w ((w.alloc (.cells #[.slice ya ys.length yc, .slice ra rs.length rc, .string lg, .int .i64 sf] 29)).alloc (.cells #[.slice ya' ys.length yc', .slice ra' rs.length rc', .string lg, .int .i64 sf] 29)) := ((Below.refl _ _).alloc (Nat.le_refl _) _).alloc (by simp) _
  have hA := bold (bnew w #[.slice ya ys.length yc, .slice ra rs.length rc, .string lg, .int .i64 sf] 29) (.cells #[.slice ya' ys.length yc', .slice ra' rs.length rc', .string lg, .int .i64 sf] 29)
  have hB := bnew (w.alloc (.cells #[.slice ya ys.length yc, .slice ra rs.length rc, .string lg, .int .i64 sf] 29)) #[.slice ya' ys.length yc', .slice ra' rs.length rc', .string lg, .int .i64 sf] 29
  rw [World.size_alloc] at hB
  obtain ⟨W, hW⟩ : ∃ W, (w.alloc (.cells #[.slice ya ys.length yc, .slice ra rs.length rc, .string lg, .int .i64 sf] 29)).alloc (.cells #[.slice ya' ys.length yc', .slice ra' rs.length rc', .string lg, .int .i64 sf] 29) = W := ⟨_, rfl⟩
  rw [hW] at hb hA hB
  have he := eq_table ys rs rs' ya ya' ra ra' yc yc' rc rc' W hyl hrl hx hm (h1.inn hb) (h2.inn hb) (h3.inn hb) (h4.inn hb)
  have x0 : W.cell? ⟨w.heap.size, 0, none⟩ = some (.slice ya ys.length yc) := bcell hA rfl
  have x1 : W.cell? ⟨w.heap.size, 1, none⟩ = some (.slice ra rs.length rc) := bcell hA rfl
  have y0 : W.cell? ⟨w.heap.size + 1, 0, none⟩ = some (.slice ya' ys.length yc') := bcell hB rfl
  have y1 : W.cell? ⟨w.heap.size + 1, 1, none⟩ = some (.slice ra' rs.length rc') := bcell hB rfl
  have HA : Hid (W.heap[w.heap.size]? = some (.cells #[.slice ya ys.length yc, .slice ra rs.length rc, .string lg, .int .i64 sf] 29 (0, 0))) := hA
  have HBB : Hid (W.heap[w.heap.size + 1]? = some (.cells #[.slice ya' ys.length yc', .slice ra' rs.length rc', .string lg, .int .i64 sf] 29 (0, 0))) := hB
  have la := (Array.getElem?_eq_some_iff.1 hA).1
  have lb := (Array.getElem?_eq_some_iff.1 hB).1
  clear h1 h2 h3 h4 hA hB hx hm
  go_enter Tryz.func29, Tryz.ntmps29
  go_wp2_with (go_at_call 67; fail)
  refine he.mono ?_
  rintro e w1 ⟨rfl, hb1⟩
  have x2 : w1.cell? ⟨w.heap.size, 2, none⟩ = some (.string lg) := bcell (bstay HA.out hb1 la) rfl
  have x3 : w1.cell? ⟨w.heap.size, 3, none⟩ = some (.int .i64 sf) := bcell (bstay HA.out hb1 la) rfl
  have y2 : w1.cell? ⟨w.heap.size + 1, 2, none⟩ = some (.string lg) := bcell (bstay HBB.out hb1 lb) rfl
  have y3 : w1.cell? ⟨w.heap.size + 1, 3, none⟩ = some (.int .i64 sf) := bcell (bstay HBB.out hb1 lb) rfl
  clear he x0 x1 y0 y1 hW
  go_wp2
  go_ret
  exact ⟨rfl, hb.trans (hb1.mono hb.size)⟩

theorem or_turn {w w' : World} {B h n : Nat} {ks : List Rn} (ho : OR w B h n ks) (hk : ∀ k, k = h ∨ (∃ (i : Nat) (r : Rn), ks[i]? = some r ∧ r.a = some ⟨k, 0, none⟩) → w'.heap[k]? = w.heap[k]?) : OR w' B h n ks := by
  obtain ⟨cur, h1, h2⟩ := ho.blk
  refine ⟨⟨cur, (hk h (.inl rfl)).trans h1, h2⟩, fun i r hr => ?_, ho.nd⟩
  obtain ⟨h', e, h3, h4, h5⟩ := ho.own i r hr
  exact ⟨h', e, h3, h4, h5.kept (hk h' (.inr ⟨i, r, hr, e⟩))⟩
set_option maxRecDepth 100000 in
set_option maxHeartbeats 2000000 in
theorem to_store (ys : List flP.Pr) (rs : List Rn) (ya ra : Option Addr) (yc rc : Nat) (lg : ByteArray) (sf : Int) (w : World) (F : Fit ys rs) (hY : Row flP.c 3 w w.heap.size ya ys) (hR : VR w w.heap.size ra rs) :
    Calls Tryz.prog 28 #[.agg #[.slice ya ys.length yc, .slice ra rs.length rc, .string lg, .int .i64 sf]] w fun e w' => ∃ g h ks, e = .returned (.agg #[.slice (some ⟨g, 0, none⟩) ys.length ys.length, .slice (some ⟨h, 0, none⟩) rs.length rs.length, .string lg, .int .i64 sf]) ∧ ks.map (·.l) = rs.map (·.l) ∧ w.heap.size ≤ g ∧ g < h ∧
      Own flP.c 3 49 w' g ys ys.length ∧ OR w' (h + 1) h rs.length ks ∧ Below w.heap.size w w' := by
  have hb : Below w.heap.size w (((w.alloc (.cells #[.slice ya ys.length yc, .slice ra rs.length rc, .string lg, .int .i64 sf] 57)).alloc (.cells #[.slice none 0 0, .slice none 0 0, .string ⟨#[]⟩, .int .i64 0] 29)).alloc (.cells #[.slice none 0 0, .slice none 0 0, .string ⟨#[]⟩, .int .i64 0] 29)) := (((Below.refl _ _).alloc (Nat.le_refl _) _).alloc (by simp) _).alloc (by simp; omega) _
  have hA := bold (bold (bnew w #[.slice ya ys.length yc, .slice ra rs.length rc, .string lg, .int .i64 sf] 57) (.cells #[.slice none 0 0, .slice none 0 0, .string ⟨#[]⟩, .int .i64 0] 29)) (.cells #[.slice none 0 0, .slice none 0 0, .string ⟨#[]⟩, .int .i64 0] 29)
  have hRr := bold (bnew (w.alloc (.cells #[.slice ya ys.length yc, .slice ra rs.length rc, .string lg, .int .i64 sf] 57)) #[.slice none 0 0, .slice none 0 0, .string ⟨#[]⟩, .int .i64 0] 29) (.cells #[.slice none 0 0, .slice none 0 0, .string ⟨#[]⟩, .int .i64 0] 29)
  have hO := bnew ((w.alloc (.cells #[.slice ya ys.length yc, .slice ra rs.length rc, .string lg, .int .i64 sf] 57)).alloc (.cells #[.slice none 0 0, .slice none 0 0, .string ⟨#[]⟩, .int .i64 0] 29)) #[.slice none 0 0, .slice none 0 0, .string ⟨#[]⟩, .int .i64 0] 29
  rw [World.size_alloc] at hRr
  rw [World.size_alloc, World.size_alloc] at hO
  have hS : (((w.alloc (.cells #[.slice ya ys.length yc, .slice ra rs.length rc, .string lg, .int .i64 sf] 57)).alloc (.cells #[.slice none 0 0, .slice none 0 0, .string ⟨#[]⟩, .int .i64 0] 29)).alloc (.cells #[.slice none 0 0, .slice none 0 0, .string ⟨#[]⟩, .int .i64 0] 29)).heap.size = w.heap.size + 3 := by simp
  obtain ⟨W, hW⟩ : ∃ W, ((w.alloc (.cells #[.slice ya ys.length yc, .slice ra rs.length rc, .string lg, .int .i64 sf] 57)).alloc (.cells #[.slice none 0 0, .slice none 0 0, .string ⟨#[]⟩, .int .i64 0] 29)).alloc (.cells #[.slice none 0 0, .slice none 0 0, .string ⟨#[]⟩, .int .i64 0] 29) = W := ⟨_, rfl⟩
  rw [hW] at hb hA hRr hO hS
  have he := to_table ys rs ya ra yc rc W F (hY.inn hb) (hR.inn hb)
  have hS3 : w.heap.size + 3 ≤ W.heap.size := by omega
  have x0 : W.cell? ⟨w.heap.size, 0, none⟩ = some (.slice ya ys.length yc) := bcell hA rfl
  have x1 : W.cell? ⟨w.heap.size, 1, none⟩ = some (.slice ra rs.length rc) := bcell hA rfl
  have HA : Hid (W.heap[w.heap.size]? = some (.cells #[.slice ya ys.length yc, .slice ra rs.length rc, .string lg, .int .i64 sf] 57 (0, 0))) := hA
  have HR : Hid (W.heap[w.heap.size + 1]? = some (.cells #[.slice none 0 0, .slice none 0 0, .string ⟨#[]⟩, .int .i64 0] 29 (0, 0))) := hRr
  have HO : Hid (W.heap[w.heap.size + 1 + 1]? = some (.cells #[.slice none 0 0, .slice none 0 0, .string ⟨#[]⟩, .int .i64 0] 29 (0, 0))) := hO
  clear hR hY hA hRr hO hS F
  go_enter Tryz.func28, Tryz.ntmps28
  go_wp2_with (go_at_call 66; fail)
  clear hW
  refine he.mono ?_
  rintro e w1 ⟨g, h, ks, rfl, hks, hg, hgh, hre, hrb, hb1⟩
  have hs1 := hb1.size
  have o1 := bstay HO.out hb1 (by omega)
  have a1 := bstay HA.out hb1 (by omega)
  have r1 := bstay HR.out hb1 (by omega)
  have oc0 : w1.cell? ⟨w.heap.size + 1 + 1, 0, none⟩ = some (.slice none 0 0) := bcell o1 rfl
  have oc1 : w1.cell? ⟨w.heap.size + 1 + 1, 1, none⟩ = some (.slice none 0 0) := bcell o1 rfl
  have oc2 : w1.cell? ⟨w.heap.size + 1 + 1, 2, none⟩ = some (.string ⟨#[]⟩) := bcell o1 rfl
  have oc3 : w1.cell? ⟨w.heap.size + 1 + 1, 3, none⟩ = some (.int .i64 0) := bcell o1 rfl
  have of0 := bfree o1 0
  have of1 := bfree o1 1
  have of2 := bfree o1 2
  have of3 := bfree o1 3
  have ac2 : w1.cell? ⟨w.heap.size, 2, none⟩ = some (.string lg) := bcell a1 rfl
  have ac3 : w1.cell? ⟨w.heap.size, 3, none⟩ = some (.int .i64 sf) := bcell a1 rfl
  have rc0 : w1.cell? ⟨w.heap.size + 1, 0, none⟩ = some (.slice none 0 0) := bcell r1 rfl
  have rc1 : w1.cell? ⟨w.heap.size + 1, 1, none⟩ = some (.slice none 0 0) := bcell r1 rfl
  have rc2 : w1.cell? ⟨w.heap.size + 1, 2, none⟩ = some (.string ⟨#[]⟩) := bcell r1 rfl
  have rc3 : w1.cell? ⟨w.heap.size + 1, 3, none⟩ = some (.int .i64 0) := bcell r1 rfl
  have rf0 := bfree r1 0
  have rf1 := bfree r1 1
  have rf2 := bfree r1 2
  have rf3 := bfree r1 3
  have HRB : Hid (OR w1 (h + 1) h rs.length ks) := hrb
  have HRE : Hid (Own flP.c 3 49 w1 g ys ys.length) := hre
  have HKS : Hid (ks.map (·.l) = rs.map (·.l)) := hks
  have hbw1 : Below w.heap.size w w1 := hb.trans (hb1.mono (by omega))
  clear he o1 a1 r1 hre hrb hks hb1 x0 x1
  go_wp2
  have htn : Tn w1 ((((((((w1.setCell ⟨w.heap.size + 1 + 1, 0, none⟩ (.slice (some ⟨g, 0, none⟩) ys.length ys.length)).setCell ⟨w.heap.size + 1 + 1, 1, none⟩ (.slice (some ⟨h, 0, none⟩) rs.length rs.length)).setCell ⟨w.heap.size + 1 + 1, 2, none⟩ (.string lg)).setCell ⟨w.heap.size + 1 + 1, 3, none⟩ (.int .i64 sf)).setCell ⟨w.heap.size + 1, 0, none⟩ (.slice (some ⟨g, 0, none⟩) ys.length ys.length)).setCell ⟨w.heap.size + 1, 1, none⟩ (.slice (some ⟨h, 0, none⟩) rs.length rs.length)).setCell ⟨w.heap.size + 1, 2, none⟩ (.string lg)).setCell ⟨w.heap.size + 1, 3, none⟩ (.int .i64 sf)) (fun k => k = w.heap.size + 1 ∨ k = w.heap.size + 1 + 1) :=
    Tn.set (Tn.set (Tn.set (Tn.set (Tn.set (Tn.set (Tn.set (Tn.set (Tn.refl w1 _) (.inr rfl) 0 _) (.inr rfl) 1 _) (.inr rfl) 2 _) (.inr rfl) 3 _) (.inl rfl) 0 _) (.inl rfl) 1 _) (.inl rfl) 2 _) (.inl rfl) 3 _
  refine bodyPost_ret (v := .agg #[.slice (some ⟨g, 0, none⟩) ys.length ys.length, .slice (some ⟨h, 0, none⟩) rs.length rs.length, .string lg, .int .i64 sf]) (by simp [results, Tryz.results28, go_sem, rc0, rc1, rc2, rc3]) rfl ⟨g, h, ks, rfl, HKS.out, by omega, hgh, HRE.out.kept (htn.block g HRE.out.lt (by omega)), or_turn HRB.out (fun k hk => htn.block k ?_ ?_), hbw1.trans (htn.below (by have := hbw1.size; omega) (by rintro k (hk | hk) <;> omega))⟩
  · rcases hk with rfl | ⟨i, r, hr, e⟩
    · exact HRB.out.lt
    · obtain ⟨h', e', _, _, ho'⟩ := HRB.out.own i r hr
      rw [e] at e'
      have e2 := congrArg Addr.block (Option.some.inj e')
      simp only at e2
      subst e2
      exact ho'.lt
  · rcases hk with rfl | ⟨i, r, hr, e⟩
    · omega
    · obtain ⟨h', e', _, hB', ho'⟩ := HRB.out.own i r hr
      rw [e] at e'
      have e2 := congrArg Addr.block (Option.some.inj e')
      simp only at e2
      omega
/-- the argument is held against itself, laid anew -/
theorem step6 {w5 w6 : World} {ys : List flP.Pr} {rs k4 k6 : List Rn} {g4 h4 g6 h6 n : Nat} {lg : ByteArray} {sf : Int} (F : Fit ys rs) (m4 : k4.map (·.l) = rs.map (·.l)) (m6 : k6.map (·.l) = rs.map (·.l)) (hb6 : Below w5.drew.heap.size w5.drew w6) (hn : n < w5.heap.size) (hY : w5.heap[n]? = some (.cells #[.slice (some ⟨g4, 0, none⟩) ys.length ys.length, .slice (some ⟨h4, 0, none⟩) rs.length rs.length, .string lg, .int .i64 sf] 29 (0, 0)))
    (hE : Row flP.c 3 w5 w5.heap.size (some ⟨g4, 0, none⟩) ys) (hB : VR w5 w5.heap.size (some ⟨h4, 0, none⟩) k4) (re6 : Own flP.c 3 49 w6 g6 ys ys.length) (rb6 : OR w6 (h6 + 1) h6 rs.length k6) :
    Below w5.heap.size w5 w6 ∧ w6.cell? ⟨n, 0, none⟩ = some (.slice (some ⟨g4, 0, none⟩) ys.length ys.length) ∧ w6.cell? ⟨n, 1, none⟩ = some (.slice (some ⟨h4, 0, none⟩) rs.length rs.length) ∧ w6.cell? ⟨n, 2, none⟩ = some (.string lg) ∧ w6.cell? ⟨n, 3, none⟩ = some (.int .i64 sf) ∧
      Calls Tryz.prog 29 #[.agg #[.slice (some ⟨g4, 0, none⟩) ys.length ys.length, .slice (some ⟨h4, 0, none⟩) rs.length rs.length, .string lg, .int .i64 sf], .agg #[.slice (some ⟨g6, 0, none⟩) ys.length ys.length, .slice (some ⟨h6, 0, none⟩) rs.length rs.length, .string lg, .int .i64 sf]] w6 fun e w' => e = .returned (.bool true) ∧ Below w6.heap.size w6 w' := by
  have hb6' : Below w5.heap.size w5 w6 := (Below.drew (Below.refl _ w5)).trans hb6
  have q5 := bstay hY hb6' hn
  have l4 : k4.length = rs.length := by have := congrArg List.length m4; simpa using this
  have l6 : k6.length = rs.length := by have := congrArg List.length m6; simpa using this
  have F4 := F.of m4
  have heq := eq_store ys k4 k6 (some ⟨g4, 0, none⟩) (some ⟨g6, 0, none⟩) (some ⟨h4, 0, none⟩) (some ⟨h6, 0, none⟩) ys.length ys.length rs.length rs.length lg sf w6 (by have := F.yl; unfold maxLen; omega) (by have := F4.rl; unfold maxLen; omega) (fun e he => by have := (F4.ro e he).1; unfold maxLen; omega) (m4.trans m6.symm) (hE.inn hb6') re6.row (hB.inn hb6') (OR.vr (by rw [l6]; exact rb6))
  rw [l4] at heq
  exact ⟨hb6', bcell q5 rfl, bcell q5 rfl, bcell q5 rfl, bcell q5 rfl, heq⟩
end Go.Proofs.YtlgcciaebkfnjaaGreatDoor.sto
