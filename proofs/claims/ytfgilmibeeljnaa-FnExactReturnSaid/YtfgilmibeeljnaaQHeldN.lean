/- The laws' marks in queues whose held ones may be nothing at all. -/
import Derived.Test.YtfgilmibeeljnaaQueueMarks
namespace Go.Proofs.Ytfgilmibeeljnaa.qhn
open Go.ChangeShapes Go.WideShapes Go.ChangeAt Go.RowKit Go.Proofs.Ytfgilmibeeljnaa.fl Go.Proofs.Ytfgilmibeeljnaa.fo
set_option linter.unusedVariables false

/-- held ones of their own, at the block h if there are any -/
def HO (w : World) (h : Nat) (ao : Option Addr) (l : List flH.Hd) : Prop := l = [] ∨ (ao = some ⟨h, 0, none⟩ ∧ OwnO flH.c 7 66 w h 0 l l.length)
theorem HO.below {w w' : World} {h : Nat} {ao : Option Addr} {l : List flH.Hd} (hh : HO w h ao l) (hb : Below w.heap.size w w') : HO w' h ao l := by
  rcases hh with e | ⟨e, ho⟩
  · exact .inl e
  · exact .inr ⟨e, ho.below hb ho.lt⟩
theorem HO.kept {w w' : World} {h : Nat} {ao : Option Addr} {l : List flH.Hd} (hh : HO w h ao l) (hb : h < w.heap.size → w'.heap[h]? = w.heap[h]?) : HO w' h ao l := by
  rcases hh with e | ⟨e, ho⟩
  · exact .inl e
  · exact .inr ⟨e, ho.kept (hb ho.lt)⟩
theorem HO.row {w : World} {h : Nat} {ao : Option Addr} {l : List flH.Hd} (hh : HO w h ao l) : Row flH.c 7 w w.heap.size ao l := by
  rcases hh with e | ⟨e, ho⟩
  · exact .inl e
  · rw [e]; exact ho.row
theorem HO.nil {w : World} {h : Nat} {ao : Option Addr} {l : List flH.Hd} (hl : l = []) : HO w h ao l := .inl hl

set_option maxRecDepth 100000 in
theorem mark0 (ao : Option Addr) (c k0 : Nat) (w : World) (hk0 : k0 ≤ 1000000000000) :
    Calls Try.prog 36 #[.slice ao 0 c, .int .i64 k0] w fun e w' => e = .returned (.int .i64 k0) ∧ w' = w := by
  go_enter Try.func36, Try.ntmps36
  go_wp2
  go_loopw [1, 5] (fun y x wr => x = .int .i64 0 ∧ y = .int .i64 k0 ∧ wr = w) (fun _ _ _ => 0)
  case atStart => exact ⟨rfl, rfl, rfl⟩
  case round =>
    obtain ⟨rfl, rfl, hw⟩ := hrel
    go_wp2
    go_ret
    exact ⟨rfl, rfl⟩

set_option maxRecDepth 100000 in
theorem mark_none (nm : ByteArray) (nx : Int) (es : List flM.Ms) (n g ce cb : Nat) (ao : Option Addr) (w : World) (hel : n ≤ 1048577) (hn : es.length = n) (fe : OwnO flM.c 5 38 w g 0 es es.length) :
    Calls Try.prog 12 #[.agg #[.string nm, .int .i64 nx, .slice (some ⟨g, 0, none⟩) n ce, .slice ao 0 cb], .int .i64 1] w fun e w' => e = .returned (.int .i64 (1 + 5 * n : Nat)) ∧ OwnO flM.c 5 38 w' g 0 (mrM.mks 1 n) n ∧ Tn w w' (fun k => k = g) := by
  have hal : Below w.heap.size w (w.alloc (.cells #[.string nm, .int .i64 nx, .slice (some ⟨g, 0, none⟩) n ce, .slice ao 0 cb] 30)) := (Below.refl _ _).alloc (Nat.le_refl _) _
  have hA := bnew w #[.string nm, .int .i64 nx, .slice (some ⟨g, 0, none⟩) n ce, .slice ao 0 cb] 30
  have hgl := fe.lt
  have fe1 := fe.below hal hgl
  obtain ⟨W, hW⟩ : ∃ W, w.alloc (.cells #[.string nm, .int .i64 nx, .slice (some ⟨g, 0, none⟩) n ce, .slice ao 0 cb] 30) = W := ⟨_, rfl⟩
  rw [hW] at hal hA fe1
  subst hn
  have hmE := mrM.mark_all es.length g 0 ce 1 W (by omega) (by omega) (fe1.any (mrM.mks_len _ _))
  have x0 : W.cell? ⟨w.heap.size, 2, none⟩ = some (.slice (some ⟨g, 0, none⟩) es.length ce) := bcell hA rfl
  have HA : Hid (W.heap[w.heap.size]? = some (.cells #[.string nm, .int .i64 nx, .slice (some ⟨g, 0, none⟩) es.length ce, .slice ao 0 cb] 30 (0, 0))) := hA
  have hWs := (Array.getElem?_eq_some_iff.1 hA).1
  clear fe fe1 hA
  go_enter Try.func12, Try.ntmps12
  go_wp2_with (go_at_call 35; fail)
  clear hW
  refine hmE.mono ?_
  rintro e w1 ⟨rfl, hg1, fe1⟩
  have x1 : w1.cell? ⟨w.heap.size, 3, none⟩ = some (.slice ao 0 cb) := bcell ((hg1.block w.heap.size hWs (by omega)).trans HA.out) rfl
  have HFE : Hid (OwnO flM.c 5 38 w1 g 0 (mrM.mks 1 es.length) es.length) := fe1
  have hmB := mark0 ao cb (1 + 5 * es.length) w1 (by omega)
  clear hmE x0 fe1
  go_wp2_with (go_at_call 36; fail)
  refine hmB.mono ?_
  rintro e w2 ⟨rfl, hw2⟩
  obtain rfl := hw2.symm
  clear hmB x1
  go_wp2
  go_ret
  refine ⟨rfl, HFE.out, ?_⟩
  exact (Tn.of _ hal).trans hg1

set_option maxRecDepth 100000 in
theorem held0 (ao : Option Addr) (c k0 : Nat) (w : World) (hk0 : k0 ≤ 1000000000000) :
    Calls Try.prog 38 #[.slice ao 0 c, .int .i64 k0] w fun e w' => e = .returned (.int .i64 k0) ∧ w' = w := by
  go_enter Try.func38, Try.ntmps38
  go_wp2
  go_loopw [1, 5] (fun y x wr => x = .int .i64 0 ∧ y = .int .i64 k0 ∧ wr = w) (fun _ _ _ => 0)
  case atStart => exact ⟨rfl, rfl, rfl⟩
  case round =>
    obtain ⟨rfl, rfl, hw⟩ := hrel
    go_wp2
    go_ret
    exact ⟨rfl, rfl⟩

set_option maxRecDepth 100000 in
theorem held_none (nm : ByteArray) (nx : Int) (n g ce cb : Nat) (ao : Option Addr) (w : World) (hel : n ≤ 1048577) (fe : OwnO flM.c 5 38 w g 0 (mrM.mks 1 n) n) :
    Calls Try.prog 13 #[.agg #[.string nm, .int .i64 nx, .slice (some ⟨g, 0, none⟩) n ce, .slice ao 0 cb], .int .i64 1] w fun e w' => e = .returned (.int .i64 (1 + 5 * n : Nat)) ∧ Below w.heap.size w w' := by
  have hal : Below w.heap.size w (w.alloc (.cells #[.string nm, .int .i64 nx, .slice (some ⟨g, 0, none⟩) n ce, .slice ao 0 cb] 30)) := (Below.refl _ _).alloc (Nat.le_refl _) _
  have hA := bnew w #[.string nm, .int .i64 nx, .slice (some ⟨g, 0, none⟩) n ce, .slice ao 0 cb] 30
  have hgl := fe.lt
  have fe1 := fe.below hal hgl
  obtain ⟨W, hW⟩ : ∃ W, w.alloc (.cells #[.string nm, .int .i64 nx, .slice (some ⟨g, 0, none⟩) n ce, .slice ao 0 cb] 30) = W := ⟨_, rfl⟩
  rw [hW] at hal hA fe1
  have hmE := mrM.held_all n g 0 ce 1 W (by omega) (by omega) fe1
  have x0 : W.cell? ⟨w.heap.size, 2, none⟩ = some (.slice (some ⟨g, 0, none⟩) n ce) := bcell hA rfl
  have HA : Hid (W.heap[w.heap.size]? = some (.cells #[.string nm, .int .i64 nx, .slice (some ⟨g, 0, none⟩) n ce, .slice ao 0 cb] 30 (0, 0))) := hA
  have hWs := (Array.getElem?_eq_some_iff.1 hA).1
  clear fe fe1 hA
  go_enter Try.func13, Try.ntmps13
  go_wp2_with (go_at_call 37; fail)
  clear hW
  refine hmE.mono ?_
  rintro e w1 ⟨rfl, hb1⟩
  have x1 : w1.cell? ⟨w.heap.size, 3, none⟩ = some (.slice ao 0 cb) := bcell (bstay HA.out hb1 hWs) rfl
  have hmB := held0 ao cb (1 + 5 * n) w1 (by omega)
  clear hmE x0
  go_wp2_with (go_at_call 38; fail)
  refine hmB.mono ?_
  rintro e w2 ⟨rfl, hw2⟩
  obtain rfl := hw2.symm
  clear hmB x1
  go_wp2
  go_ret
  exact ⟨rfl, hal.trans (hb1.mono hal.size)⟩

theorem mark_queue (nm : ByteArray) (nx : Int) (es : List flM.Ms) (ms : List flH.Hd) (g h ce cb : Nat) (ao : Option Addr) (w : World) (hel : es.length ≤ 1048577) (hbl : ms.length ≤ 1048577) (hgh : g ≠ h) (fe : OwnO flM.c 5 38 w g 0 es es.length) (fb : HO w h ao ms) :
    Calls Try.prog 12 #[.agg #[.string nm, .int .i64 nx, .slice (some ⟨g, 0, none⟩) es.length ce, .slice ao ms.length cb], .int .i64 1] w fun e w' => e = .returned (.int .i64 (1 + 5 * es.length + 7 * ms.length : Nat)) ∧ OwnO flM.c 5 38 w' g 0 (mrM.mks 1 es.length) es.length ∧ HO w' h ao (mrH.mks (1 + 5 * es.length) ms.length) ∧ Tn w w' (fun k => k = g ∨ k = h) := by
  rcases fb with rfl | ⟨rfl, fb⟩
  · refine (mark_none nm nx es es.length g ce cb ao w hel rfl fe).mono ?_
    rintro e w' ⟨rfl, h1, h2⟩
    exact ⟨rfl, h1, .inl rfl, h2.wide (fun k hk => .inl hk)⟩
  · refine (qms.mark_queue nm nx es ms g 0 h 0 ce cb w hel hbl hgh fe fb).mono ?_
    rintro e w' ⟨rfl, h1, h2, h3⟩
    exact ⟨rfl, h1, .inr ⟨rfl, by rw [mrH.mks_len]; exact h2⟩, h3⟩
theorem held_queue (nm : ByteArray) (nx : Int) (n m g h ce cb : Nat) (ao : Option Addr) (w : World) (hel : n ≤ 1048577) (hbl : m ≤ 1048577) (fe : OwnO flM.c 5 38 w g 0 (mrM.mks 1 n) n) (fb : HO w h ao (mrH.mks (1 + 5 * n) m)) :
    Calls Try.prog 13 #[.agg #[.string nm, .int .i64 nx, .slice (some ⟨g, 0, none⟩) n ce, .slice ao m cb], .int .i64 1] w fun e w' => e = .returned (.int .i64 (1 + 5 * n + 7 * m : Nat)) ∧ Below w.heap.size w w' := by
  rcases fb with e | ⟨rfl, fb⟩
  · have hm : m = 0 := by have := mrH.mks_len (1 + 5 * n) m; rw [e] at this; exact this.symm
    subst hm
    exact held_none nm nx n g ce cb ao w hel fe
  · rw [mrH.mks_len] at fb
    exact qms.held_queue nm nx n m g 0 h 0 ce cb w hel hbl fe fb
end Go.Proofs.Ytfgilmibeeljnaa.qhn
