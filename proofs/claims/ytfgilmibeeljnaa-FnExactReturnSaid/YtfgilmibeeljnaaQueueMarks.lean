/- The laws' marks in queues: laid, and held. -/
import Derived.Test.YtfgilmibeeljnaaMrMessage
import Derived.Test.YtfgilmibeeljnaaMrHeld
namespace Go.Proofs.Ytfgilmibeeljnaa.qms
open Go.ChangeShapes Go.WideShapes Go.ChangeAt Go.RowKit Go.Proofs.Ytfgilmibeeljnaa.fl Go.Proofs.Ytfgilmibeeljnaa.fo
set_option linter.unusedVariables false

set_option maxRecDepth 100000 in
theorem mark_queue (nm : ByteArray) (nx : Int) (es : List flM.Ms) (ms : List flH.Hd) (g og h oh ce cb : Nat) (w : World) (hel : es.length ≤ 1048577) (hbl : ms.length ≤ 1048577) (hgh : g ≠ h) (fe : OwnO flM.c 5 38 w g og es es.length) (fb : OwnO flH.c 7 66 w h oh ms ms.length) :
    Calls Try.prog 12 #[.agg #[.string nm, .int .i64 nx, .slice (some ⟨g, og, none⟩) es.length ce, .slice (some ⟨h, oh, none⟩) ms.length cb], .int .i64 1] w fun e w' => e = .returned (.int .i64 (1 + 5 * es.length + 7 * ms.length : Nat)) ∧ OwnO flM.c 5 38 w' g og (mrM.mks 1 es.length) es.length ∧ OwnO flH.c 7 66 w' h oh (mrH.mks (1 + 5 * es.length) ms.length) ms.length ∧ Tn w w' (fun k => k = g ∨ k = h) := by
  have hal : Below w.heap.size w (w.alloc (.cells #[.string nm, .int .i64 nx, .slice (some ⟨g, og, none⟩) es.length ce, .slice (some ⟨h, oh, none⟩) ms.length cb] 30)) := (Below.refl _ _).alloc (Nat.le_refl _) _
  have hA := bnew w #[.string nm, .int .i64 nx, .slice (some ⟨g, og, none⟩) es.length ce, .slice (some ⟨h, oh, none⟩) ms.length cb] 30
  have hgl := fe.lt
  have hhl := fb.lt
  have fe1 := fe.below hal hgl
  have fb1 := fb.below hal hhl
  obtain ⟨W, hW⟩ : ∃ W, w.alloc (.cells #[.string nm, .int .i64 nx, .slice (some ⟨g, og, none⟩) es.length ce, .slice (some ⟨h, oh, none⟩) ms.length cb] 30) = W := ⟨_, rfl⟩
  rw [hW] at hal hA fe1 fb1
  have hmE := mrM.mark_all es.length g og ce 1 W (by omega) (by omega) (fe1.any (mrM.mks_len _ _))
  have x0 : W.cell? ⟨w.heap.size, 2, none⟩ = some (.slice (some ⟨g, og, none⟩) es.length ce) := bcell hA rfl
  have HA : Hid (W.heap[w.heap.size]? = some (.cells #[.string nm, .int .i64 nx, .slice (some ⟨g, og, none⟩) es.length ce, .slice (some ⟨h, oh, none⟩) ms.length cb] 30 (0, 0))) := hA
  have HFB : Hid (OwnO flH.c 7 66 W h oh ms ms.length) := fb1
  have hWs := (Array.getElem?_eq_some_iff.1 hA).1
  clear fe fb fe1 fb1 hA
  go_enter Try.func12, Try.ntmps12
  go_wp2_with (go_at_call 35; fail)
  clear hW
  refine hmE.mono ?_
  rintro e w1 ⟨rfl, hg1, fe1⟩
  have x1 : w1.cell? ⟨w.heap.size, 3, none⟩ = some (.slice (some ⟨h, oh, none⟩) ms.length cb) := bcell ((hg1.block w.heap.size hWs (by omega)).trans HA.out) rfl
  have fb1 : OwnO flH.c 7 66 w1 h oh ms ms.length := HFB.out.kept (hg1.block h (by omega) (by omega))
  have hmB := mrH.mark_all ms.length h oh cb (1 + 5 * es.length) w1 (by omega) (by omega) (fb1.any (mrH.mks_len _ _))
  have HFE : Hid (OwnO flM.c 5 38 w1 g og (mrM.mks 1 es.length) es.length) := fe1
  clear hmE x0 fe1 fb1
  go_wp2_with (go_at_call 36; fail)
  refine hmB.mono ?_
  rintro e w2 ⟨rfl, hg2, fb2⟩
  have HFB2 : Hid (OwnO flH.c 7 66 w2 h oh (mrH.mks (1 + 5 * es.length) ms.length) ms.length) := fb2
  clear hmB x1 fb2
  go_wp2
  go_ret
  refine ⟨rfl, HFE.out.kept (hg2.block g (by have := hg1.size; omega) (by omega)), HFB2.out, ?_⟩
  exact ((Tn.of _ hal).trans (hg1.wide (fun k hk => .inl hk))).trans (hg2.wide (fun k hk => .inr hk))

set_option maxRecDepth 100000 in
theorem held_queue (nm : ByteArray) (nx : Int) (n m g og h oh ce cb : Nat) (w : World) (hel : n ≤ 1048577) (hbl : m ≤ 1048577) (fe : OwnO flM.c 5 38 w g og (mrM.mks 1 n) n) (fb : OwnO flH.c 7 66 w h oh (mrH.mks (1 + 5 * n) m) m) :
    Calls Try.prog 13 #[.agg #[.string nm, .int .i64 nx, .slice (some ⟨g, og, none⟩) n ce, .slice (some ⟨h, oh, none⟩) m cb], .int .i64 1] w fun e w' => e = .returned (.int .i64 (1 + 5 * n + 7 * m : Nat)) ∧ Below w.heap.size w w' := by
  have hal : Below w.heap.size w (w.alloc (.cells #[.string nm, .int .i64 nx, .slice (some ⟨g, og, none⟩) n ce, .slice (some ⟨h, oh, none⟩) m cb] 30)) := (Below.refl _ _).alloc (Nat.le_refl _) _
  have hA := bnew w #[.string nm, .int .i64 nx, .slice (some ⟨g, og, none⟩) n ce, .slice (some ⟨h, oh, none⟩) m cb] 30
  have fe1 := fe.below hal fe.lt
  have fb1 := fb.below hal fb.lt
  obtain ⟨W, hW⟩ : ∃ W, w.alloc (.cells #[.string nm, .int .i64 nx, .slice (some ⟨g, og, none⟩) n ce, .slice (some ⟨h, oh, none⟩) m cb] 30) = W := ⟨_, rfl⟩
  rw [hW] at hal hA fe1 fb1
  have hmE := mrM.held_all n g og ce 1 W (by omega) (by omega) fe1
  have x0 : W.cell? ⟨w.heap.size, 2, none⟩ = some (.slice (some ⟨g, og, none⟩) n ce) := bcell hA rfl
  have HA : Hid (W.heap[w.heap.size]? = some (.cells #[.string nm, .int .i64 nx, .slice (some ⟨g, og, none⟩) n ce, .slice (some ⟨h, oh, none⟩) m cb] 30 (0, 0))) := hA
  have HRB : Hid (OwnO flH.c 7 66 W h oh (mrH.mks (1 + 5 * n) m) m) := fb1
  have hWs := (Array.getElem?_eq_some_iff.1 hA).1
  clear fe fb fe1 fb1 hA
  go_enter Try.func13, Try.ntmps13
  go_wp2_with (go_at_call 37; fail)
  clear hW
  refine hmE.mono ?_
  rintro e w1 ⟨rfl, hb1⟩
  have x1 : w1.cell? ⟨w.heap.size, 3, none⟩ = some (.slice (some ⟨h, oh, none⟩) m cb) := bcell (bstay HA.out hb1 hWs) rfl
  have hmB := mrH.held_all m h oh cb (1 + 5 * n) w1 (by omega) (by omega) (HRB.out.below hb1 HRB.out.lt)
  clear hmE x0
  go_wp2_with (go_at_call 38; fail)
  refine hmB.mono ?_
  rintro e w2 ⟨rfl, hb2⟩
  clear hmB x1
  go_wp2
  go_ret
  exact ⟨rfl, hal.trans ((hb1.trans (hb2.mono hb1.size)).mono hal.size)⟩
end Go.Proofs.Ytfgilmibeeljnaa.qms
