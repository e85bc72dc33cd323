/- The laws' marks in streams: laid, and held. -/
import Derived.Test.YtffpempklkkfaaaMrEntry
import Derived.Test.YtffpempklkkfaaaMrMark
namespace Go.Proofs.Ytffpempklkkfaaa.sms
open Go.ChangeShapes Go.WideShapes Go.ChangeAt Go.RowKit Go.Proofs.Ytffpempklkkfaaa.fl Go.Proofs.Ytffpempklkkfaaa.fo
set_option linter.unusedVariables false

set_option maxRecDepth 100000 in
theorem mark_stream (nm : ByteArray) (lo nx : Int) (es : List flY.En) (ms : List rr.Ex) (g og h oh ce cb : Nat) (w : World) (hel : es.length ≤ 1048577) (hbl : ms.length ≤ 1048577) (hgh : g ≠ h) (fe : OwnO flY.c 3 42 w g og es es.length) (fb : OwnO flK.c 2 72 w h oh ms ms.length) :
    Calls Try.prog 28 #[.agg #[.string nm, .int .i64 lo, .int .i64 nx, .slice (some ⟨g, og, none⟩) es.length ce, .slice (some ⟨h, oh, none⟩) ms.length cb], .int .i64 1] w fun e w' => e = .returned (.int .i64 (1 + 3 * es.length + 2 * ms.length : Nat)) ∧ OwnO flY.c 3 42 w' g og (mrY.mks 1 es.length) es.length ∧ OwnO flK.c 2 72 w' h oh (mrK.mks (1 + 3 * es.length) ms.length) ms.length ∧ Tn w w' (fun k => k = g ∨ k = h) := by
  have hal : Below w.heap.size w (w.alloc (.cells #[.string nm, .int .i64 lo, .int .i64 nx, .slice (some ⟨g, og, none⟩) es.length ce, .slice (some ⟨h, oh, none⟩) ms.length cb] 27)) := (Below.refl _ _).alloc (Nat.le_refl _) _
  have hA := bnew w #[.string nm, .int .i64 lo, .int .i64 nx, .slice (some ⟨g, og, none⟩) es.length ce, .slice (some ⟨h, oh, none⟩) ms.length cb] 27
  have hgl := fe.lt
  have hhl := fb.lt
  have fe1 := fe.below hal hgl
  have fb1 := fb.below hal hhl
  obtain ⟨W, hW⟩ : ∃ W, w.alloc (.cells #[.string nm, .int .i64 lo, .int .i64 nx, .slice (some ⟨g, og, none⟩) es.length ce, .slice (some ⟨h, oh, none⟩) ms.length cb] 27) = W := ⟨_, rfl⟩
  rw [hW] at hal hA fe1 fb1
  have hmE := mrY.mark_all es.length g og ce 1 W (by omega) (by omega) (fe1.any (mrY.mks_len _ _))
  have x0 : W.cell? ⟨w.heap.size, 3, none⟩ = some (.slice (some ⟨g, og, none⟩) es.length ce) := bcell hA rfl
  have HA : Hid (W.heap[w.heap.size]? = some (.cells #[.string nm, .int .i64 lo, .int .i64 nx, .slice (some ⟨g, og, none⟩) es.length ce, .slice (some ⟨h, oh, none⟩) ms.length cb] 27 (0, 0))) := hA
  have HFB : Hid (OwnO flK.c 2 72 W h oh ms ms.length) := fb1
  have hWs := (Array.getElem?_eq_some_iff.1 hA).1
  clear fe fb fe1 fb1 hA
  go_enter Try.func28, Try.ntmps28
  go_wp2_with (go_at_call 32; fail)
  clear hW
  refine hmE.mono ?_
  rintro e w1 ⟨rfl, hg1, fe1⟩
  have x1 : w1.cell? ⟨w.heap.size, 4, none⟩ = some (.slice (some ⟨h, oh, none⟩) ms.length cb) := bcell ((hg1.block w.heap.size hWs (by omega)).trans HA.out) rfl
  have fb1 : OwnO flK.c 2 72 w1 h oh ms ms.length := HFB.out.kept (hg1.block h (by omega) (by omega))
  have hmB := mrK.mark_all ms.length h oh cb (1 + 3 * es.length) w1 (by omega) (by omega) (fb1.any (mrK.mks_len _ _))
  have HFE : Hid (OwnO flY.c 3 42 w1 g og (mrY.mks 1 es.length) es.length) := fe1
  clear hmE x0 fe1 fb1
  go_wp2_with (go_at_call 59; fail)
  refine hmB.mono ?_
  rintro e w2 ⟨rfl, hg2, fb2⟩
  have HFB2 : Hid (OwnO flK.c 2 72 w2 h oh (mrK.mks (1 + 3 * es.length) ms.length) ms.length) := fb2
  clear hmB x1 fb2
  go_wp2
  go_ret
  refine ⟨rfl, HFE.out.kept (hg2.block g (by have := hg1.size; omega) (by omega)), HFB2.out, ?_⟩
  exact ((Tn.of _ hal).trans (hg1.wide (fun k hk => .inl hk))).trans (hg2.wide (fun k hk => .inr hk))

set_option maxRecDepth 100000 in
theorem held_stream (nm : ByteArray) (lo nx : Int) (n m g og h oh ce cb : Nat) (w : World) (hel : n ≤ 1048577) (hbl : m ≤ 1048577) (fe : OwnO flY.c 3 42 w g og (mrY.mks 1 n) n) (fb : OwnO flK.c 2 72 w h oh (mrK.mks (1 + 3 * n) m) m) :
    Calls Try.prog 29 #[.agg #[.string nm, .int .i64 lo, .int .i64 nx, .slice (some ⟨g, og, none⟩) n ce, .slice (some ⟨h, oh, none⟩) m cb], .int .i64 1] w fun e w' => e = .returned (.int .i64 (1 + 3 * n + 2 * m : Nat)) ∧ Below w.heap.size w w' := by
  have hal : Below w.heap.size w (w.alloc (.cells #[.string nm, .int .i64 lo, .int .i64 nx, .slice (some ⟨g, og, none⟩) n ce, .slice (some ⟨h, oh, none⟩) m cb] 27)) := (Below.refl _ _).alloc (Nat.le_refl _) _
  have hA := bnew w #[.string nm, .int .i64 lo, .int .i64 nx, .slice (some ⟨g, og, none⟩) n ce, .slice (some ⟨h, oh, none⟩) m cb] 27
  have fe1 := fe.below hal fe.lt
  have fb1 := fb.below hal fb.lt
  obtain ⟨W, hW⟩ : ∃ W, w.alloc (.cells #[.string nm, .int .i64 lo, .int .i64 nx, .slice (some ⟨g, og, none⟩) n ce, .slice (some ⟨h, oh, none⟩) m cb] 27) = W := ⟨_, rfl⟩
  rw [hW] at hal hA fe1 fb1
  have hmE := mrY.held_all n g og ce 1 W (by omega) (by omega) fe1
  have x0 : W.cell? ⟨w.heap.size, 3, none⟩ = some (.slice (some ⟨g, og, none⟩) n ce) := bcell hA rfl
  have HA : Hid (W.heap[w.heap.size]? = some (.cells #[.string nm, .int .i64 lo, .int .i64 nx, .slice (some ⟨g, og, none⟩) n ce, .slice (some ⟨h, oh, none⟩) m cb] 27 (0, 0))) := hA
  have HRB : Hid (OwnO flK.c 2 72 W h oh (mrK.mks (1 + 3 * n) m) m) := fb1
  have hWs := (Array.getElem?_eq_some_iff.1 hA).1
  clear fe fb fe1 fb1 hA
  go_enter Try.func29, Try.ntmps29
  go_wp2_with (go_at_call 33; fail)
  clear hW
  refine hmE.mono ?_
  rintro e w1 ⟨rfl, hb1⟩
  have x1 : w1.cell? ⟨w.heap.size, 4, none⟩ = some (.slice (some ⟨h, oh, none⟩) m cb) := bcell (bstay HA.out hb1 hWs) rfl
  have hmB := mrK.held_all m h oh cb (1 + 3 * n) w1 (by omega) (by omega) (HRB.out.below hb1 HRB.out.lt)
  clear hmE x0
  go_wp2_with (go_at_call 60; fail)
  refine hmB.mono ?_
  rintro e w2 ⟨rfl, hb2⟩
  clear hmB x1
  go_wp2
  go_ret
  exact ⟨rfl, hal.trans ((hb1.trans (hb2.mono hb1.size)).mono hal.size)⟩
end Go.Proofs.Ytffpempklkkfaaa.sms
