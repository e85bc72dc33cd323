/- The laws' lists of replies, laid anew and held beside each other; new memory alone. -/
import Derived.Test.YtnmooolnmhidbaaDoorReplyRows
namespace Go.Proofs.YtnmooolnmhidbaaDoor.rp
open Go.ChangeShapes Go.WideShapes Go.ChangeAt Go.RowKit Go.Proofs.YtnmooolnmhidbaaDoor.ls Go.Proofs.YtnmooolnmhidbaaDoor.fl
set_option linter.unusedVariables false

set_option maxRecDepth 100000 in
set_option maxHeartbeats 1000000 in
theorem to_one (c i : Int) (ts : List ByteArray) (ns : List Int) (ta na : Option Addr) (tc nc : Nat) (hb : Bool) (b : ByteArray) (w : World) (hl : ts.length ≤ 1048576) (hn : ns.length ≤ 1048576) (hS : Sl Value.string w w.heap.size ta ts) (hI : Sl (Value.int .i64) w w.heap.size na ns) :
    Calls Tryd.prog 53 #[.agg #[.int .i64 c, .int .i64 i, .slice ta ts.length tc, .slice na ns.length nc, .bool hb, .string b]] w fun e w' => ∃ g h, e = .returned (.agg #[.int .i64 c, .int .i64 i, .slice (some ⟨g, 0, none⟩) ts.length ts.length, .slice (some ⟨h, 0, none⟩) ns.length ns.length, .bool hb, .string b]) ∧ sm.Has w' g ts.length ts ∧ HasI w' h ns.length ns ∧ w.heap.size ≤ g ∧ g < h ∧ h < w'.heap.size ∧ Below w.heap.size w w' := by
  have hal : Below w.heap.size w (((w.alloc (.cells #[.int .i64 c, .int .i64 i, .slice ta ts.length tc, .slice na ns.length nc, .bool hb, .string b] 81)).alloc (.cells #[.int .i64 0, .int .i64 0, .slice none 0 0, .slice none 0 0, .bool false, .string ⟨#[]⟩] 83)).alloc (.cells #[.int .i64 0, .int .i64 0, .slice none 0 0, .slice none 0 0, .bool false, .string ⟨#[]⟩] 83)) := (((Below.refl _ _).alloc (Nat.le_refl _) _).alloc (by simp) _).alloc (by simp; omega) _
  have hA := bold (bold (bnew w #[.int .i64 c, .int .i64 i, .slice ta ts.length tc, .slice na ns.length nc, .bool hb, .string b] 81) (.cells #[.int .i64 0, .int .i64 0, .slice none 0 0, .slice none 0 0, .bool false, .string ⟨#[]⟩] 83)) (.cells #[.int .i64 0, .int .i64 0, .slice none 0 0, .slice none 0 0, .bool false, .string ⟨#[]⟩] 83)
  have hR := bold (bnew (w.alloc (.cells #[.int .i64 c, .int .i64 i, .slice ta ts.length tc, .slice na ns.length nc, .bool hb, .string b] 81)) #[.int .i64 0, .int .i64 0, .slice none 0 0, .slice none 0 0, .bool false, .string ⟨#[]⟩] 83) (.cells #[.int .i64 0, .int .i64 0, .slice none 0 0, .slice none 0 0, .bool false, .string ⟨#[]⟩] 83)
  have hO := bnew ((w.alloc (.cells #[.int .i64 c, .int .i64 i, .slice ta ts.length tc, .slice na ns.length nc, .bool hb, .string b] 81)).alloc (.cells #[.int .i64 0, .int .i64 0, .slice none 0 0, .slice none 0 0, .bool false, .string ⟨#[]⟩] 83)) #[.int .i64 0, .int .i64 0, .slice none 0 0, .slice none 0 0, .bool false, .string ⟨#[]⟩] 83
  have hsz2 : ((w.alloc (.cells #[.int .i64 c, .int .i64 i, .slice ta ts.length tc, .slice na ns.length nc, .bool hb, .string b] 81)).alloc (.cells #[.int .i64 0, .int .i64 0, .slice none 0 0, .slice none 0 0, .bool false, .string ⟨#[]⟩] 83)).heap.size = w.heap.size + 2 := by simp
  rw [World.size_alloc] at hR
  rw [hsz2] at hO
  obtain ⟨W, hW⟩ : ∃ W, ((w.alloc (.cells #[.int .i64 c, .int .i64 i, .slice ta ts.length tc, .slice na ns.length nc, .bool hb, .string b] 81)).alloc (.cells #[.int .i64 0, .int .i64 0, .slice none 0 0, .slice none 0 0, .bool false, .string ⟨#[]⟩] 83)).alloc (.cells #[.int .i64 0, .int .i64 0, .slice none 0 0, .slice none 0 0, .bool false, .string ⟨#[]⟩] 83) = W := ⟨_, rfl⟩
  have hWs : W.heap.size = w.heap.size + 3 := by rw [← hW]; simp
  rw [hW] at hal hA hR hO
  have hm := me.to_method c i ts ns ta na tc nc W hl hn (me.inn hS hal) (me.inn hI hal)
  have x0 : W.cell? ⟨w.heap.size, 0, none⟩ = some (.int .i64 c) := fl.bcell hA rfl
  have x1 : W.cell? ⟨w.heap.size, 1, none⟩ = some (.int .i64 i) := fl.bcell hA rfl
  have x2 : W.cell? ⟨w.heap.size, 2, none⟩ = some (.slice ta ts.length tc) := fl.bcell hA rfl
  have x3 : W.cell? ⟨w.heap.size, 3, none⟩ = some (.slice na ns.length nc) := fl.bcell hA rfl
  have x4 : W.cell? ⟨w.heap.size, 4, none⟩ = some (.bool hb) := fl.bcell hA rfl
  have x5 : W.cell? ⟨w.heap.size, 5, none⟩ = some (.string b) := fl.bcell hA rfl
  have HA : Hid (W.heap[w.heap.size]? = some (.cells #[.int .i64 c, .int .i64 i, .slice ta ts.length tc, .slice na ns.length nc, .bool hb, .string b] 81 (0, 0))) := hA
  have HR : Hid (W.heap[w.heap.size + 1]? = some (.cells #[.int .i64 0, .int .i64 0, .slice none 0 0, .slice none 0 0, .bool false, .string ⟨#[]⟩] 83 (0, 0))) := hR
  have HO : Hid (W.heap[w.heap.size + 2]? = some (.cells #[.int .i64 0, .int .i64 0, .slice none 0 0, .slice none 0 0, .bool false, .string ⟨#[]⟩] 83 (0, 0))) := hO
  clear hS hI hA hR hO hsz2
  go_enter Tryd.func53, Tryd.ntmps53
  go_wp2_with (go_at_call 10; fail)
  clear hW x0 x1 x2 x3 x4 x5
  refine hm.mono ?_
  rintro e w1 ⟨g, h, rfl, hg, hh, hgW, hgh, hhl, hb1⟩
  have a1 := bstay HA.out hb1 (by omega)
  have r1 := bstay HR.out hb1 (by omega)
  have o1 := bstay HO.out hb1 (by omega)
  have x0 : w1.cell? ⟨w.heap.size, 0, none⟩ = some (.int .i64 c) := fl.bcell a1 rfl
  have x1 : w1.cell? ⟨w.heap.size, 1, none⟩ = some (.int .i64 i) := fl.bcell a1 rfl
  have x2 : w1.cell? ⟨w.heap.size, 2, none⟩ = some (.slice ta ts.length tc) := fl.bcell a1 rfl
  have x3 : w1.cell? ⟨w.heap.size, 3, none⟩ = some (.slice na ns.length nc) := fl.bcell a1 rfl
  have x4 : w1.cell? ⟨w.heap.size, 4, none⟩ = some (.bool hb) := fl.bcell a1 rfl
  have x5 : w1.cell? ⟨w.heap.size, 5, none⟩ = some (.string b) := fl.bcell a1 rfl
  have r0 : w1.cell? ⟨w.heap.size + 1, 0, none⟩ = some (.int .i64 0) := fl.bcell r1 rfl
  have r1' : w1.cell? ⟨w.heap.size + 1, 1, none⟩ = some (.int .i64 0) := fl.bcell r1 rfl
  have r2 : w1.cell? ⟨w.heap.size + 1, 2, none⟩ = some (.slice none 0 0) := fl.bcell r1 rfl
  have r3 : w1.cell? ⟨w.heap.size + 1, 3, none⟩ = some (.slice none 0 0) := fl.bcell r1 rfl
  have r4 : w1.cell? ⟨w.heap.size + 1, 4, none⟩ = some (.bool false) := fl.bcell r1 rfl
  have r5 : w1.cell? ⟨w.heap.size + 1, 5, none⟩ = some (.string ⟨#[]⟩) := fl.bcell r1 rfl
  have o0 : w1.cell? ⟨w.heap.size + 2, 0, none⟩ = some (.int .i64 0) := fl.bcell o1 rfl
  have o1' : w1.cell? ⟨w.heap.size + 2, 1, none⟩ = some (.int .i64 0) := fl.bcell o1 rfl
  have o2 : w1.cell? ⟨w.heap.size + 2, 2, none⟩ = some (.slice none 0 0) := fl.bcell o1 rfl
  have o3 : w1.cell? ⟨w.heap.size + 2, 3, none⟩ = some (.slice none 0 0) := fl.bcell o1 rfl
  have o4 : w1.cell? ⟨w.heap.size + 2, 4, none⟩ = some (.bool false) := fl.bcell o1 rfl
  have o5 : w1.cell? ⟨w.heap.size + 2, 5, none⟩ = some (.string ⟨#[]⟩) := fl.bcell o1 rfl
  have rf0 := bfree r1 0
  have rf1 := bfree r1 1
  have rf2 := bfree r1 2
  have rf3 := bfree r1 3
  have rf4 := bfree r1 4
  have rf5 := bfree r1 5
  have of0 := bfree o1 0
  have of1 := bfree o1 1
  have of2 := bfree o1 2
  have of3 := bfree o1 3
  have of4 := bfree o1 4
  have of5 := bfree o1 5
  have HG : Hid (sm.Has w1 g ts.length ts) := hg
  have HH : Hid (HasI w1 h ns.length ns) := hh
  have HB1 : Hid (Below w.heap.size w w1) := hal.trans (hb1.mono hal.size)
  have hs1 := hb1.size
  clear hm a1 r1 o1 hg hh hb1 hal
  go_wp2
  refine bodyPost_ret (v := .agg #[.int .i64 c, .int .i64 i, .slice (some ⟨g, 0, none⟩) ts.length ts.length, .slice (some ⟨h, 0, none⟩) ns.length ns.length, .bool hb, .string b]) (by simp [results, Tryd.results53, go_sem, r0, r1', r2, r3, r4, r5]) rfl ⟨g, h, rfl, ?_, ?_, by omega, hgh, by simp only [World.size_setCell]; exact hhl, ?_⟩
  · exact me.has_other (me.has_other (me.has_other (me.has_other (me.has_other (me.has_other (me.has_other (me.has_other (me.has_other (me.has_other (me.has_other (me.has_other (HG.out) (by first | (show g ≠ w.heap.size + 1; omega) | (show g ≠ w.heap.size + 2; omega)) _) (by first | (show g ≠ w.heap.size + 1; omega) | (show g ≠ w.heap.size + 2; omega)) _) (by first | (show g ≠ w.heap.size + 1; omega) | (show g ≠ w.heap.size + 2; omega)) _) (by first | (show g ≠ w.heap.size + 1; omega) | (show g ≠ w.heap.size + 2; omega)) _) (by first | (show g ≠ w.heap.size + 1; omega) | (show g ≠ w.heap.size + 2; omega)) _) (by first | (show g ≠ w.heap.size + 1; omega) | (show g ≠ w.heap.size + 2; omega)) _) (by first | (show g ≠ w.heap.size + 1; omega) | (show g ≠ w.heap.size + 2; omega)) _) (by first | (show g ≠ w.heap.size + 1; omega) | (show g ≠ w.heap.size + 2; omega)) _) (by first | (show g ≠ w.heap.size + 1; omega) | (show g ≠ w.heap.size + 2; omega)) _) (by first | (show g ≠ w.heap.size + 1; omega) | (show g ≠ w.heap.size + 2; omega)) _) (by first | (show g ≠ w.heap.size + 1; omega) | (show g ≠ w.heap.size + 2; omega)) _) (by first | (show g ≠ w.heap.size + 1; omega) | (show g ≠ w.heap.size + 2; omega)) _
  · exact me.hasI_other (me.hasI_other (me.hasI_other (me.hasI_other (me.hasI_other (me.hasI_other (me.hasI_other (me.hasI_other (me.hasI_other (me.hasI_other (me.hasI_other (me.hasI_other (HH.out) (by first | (show h ≠ w.heap.size + 1; omega) | (show h ≠ w.heap.size + 2; omega)) _) (by first | (show h ≠ w.heap.size + 1; omega) | (show h ≠ w.heap.size + 2; omega)) _) (by first | (show h ≠ w.heap.size + 1; omega) | (show h ≠ w.heap.size + 2; omega)) _) (by first | (show h ≠ w.heap.size + 1; omega) | (show h ≠ w.heap.size + 2; omega)) _) (by first | (show h ≠ w.heap.size + 1; omega) | (show h ≠ w.heap.size + 2; omega)) _) (by first | (show h ≠ w.heap.size + 1; omega) | (show h ≠ w.heap.size + 2; omega)) _) (by first | (show h ≠ w.heap.size + 1; omega) | (show h ≠ w.heap.size + 2; omega)) _) (by first | (show h ≠ w.heap.size + 1; omega) | (show h ≠ w.heap.size + 2; omega)) _) (by first | (show h ≠ w.heap.size + 1; omega) | (show h ≠ w.heap.size + 2; omega)) _) (by first | (show h ≠ w.heap.size + 1; omega) | (show h ≠ w.heap.size + 2; omega)) _) (by first | (show h ≠ w.heap.size + 1; omega) | (show h ≠ w.heap.size + 2; omega)) _) (by first | (show h ≠ w.heap.size + 1; omega) | (show h ≠ w.heap.size + 2; omega)) _
  · exact ((((((((((((HB1.out).setCell (by first | (show w.heap.size ≤ w.heap.size + 1; omega) | (show w.heap.size ≤ w.heap.size + 2; omega)) _).setCell (by first | (show w.heap.size ≤ w.heap.size + 1; omega) | (show w.heap.size ≤ w.heap.size + 2; omega)) _).setCell (by first | (show w.heap.size ≤ w.heap.size + 1; omega) | (show w.heap.size ≤ w.heap.size + 2; omega)) _).setCell (by first | (show w.heap.size ≤ w.heap.size + 1; omega) | (show w.heap.size ≤ w.heap.size + 2; omega)) _).setCell (by first | (show w.heap.size ≤ w.heap.size + 1; omega) | (show w.heap.size ≤ w.heap.size + 2; omega)) _).setCell (by first | (show w.heap.size ≤ w.heap.size + 1; omega) | (show w.heap.size ≤ w.heap.size + 2; omega)) _).setCell (by first | (show w.heap.size ≤ w.heap.size + 1; omega) | (show w.heap.size ≤ w.heap.size + 2; omega)) _).setCell (by first | (show w.heap.size ≤ w.heap.size + 1; omega) | (show w.heap.size ≤ w.heap.size + 2; omega)) _).setCell (by first | (show w.heap.size ≤ w.heap.size + 1; omega) | (show w.heap.size ≤ w.heap.size + 2; omega)) _).setCell (by first | (show w.heap.size ≤ w.heap.size + 1; omega) | (show w.heap.size ≤ w.heap.size + 2; omega)) _).setCell (by first | (show w.heap.size ≤ w.heap.size + 1; omega) | (show w.heap.size ≤ w.heap.size + 2; omega)) _).setCell (by first | (show w.heap.size ≤ w.heap.size + 1; omega) | (show w.heap.size ≤ w.heap.size + 2; omega)) _
end Go.Proofs.YtnmooolnmhidbaaDoor.rp
