/- FnExactPutMethod: the walk of the law. -/
import Derived.Test.YtnmooolnmhidbaaDoorMethodOkLaw
import Derived.Test.YtnmooolnmhidbaaDoorPutMethodSpec
namespace Go.Proofs.YtnmooolnmhidbaaDoor.mlp
set_option linter.unusedVariables false
open Go.ChangeShapes Go.WideShapes Go.ChangeAt Go.RowKit Go.Proofs.YtnmooolnmhidbaaDoor.ls Go.Proofs.YtnmooolnmhidbaaDoor.me Go.Proofs.YtnmooolnmhidbaaDoor.mp Go.Proofs.YtnmooolnmhidbaaDoor.wm Go.Proofs.YtnmooolnmhidbaaDoor.mi Go.Proofs.YtnmooolnmhidbaaDoor.mlw

theorem spec_put' {w : World} {c i : Int} {ts : List ByteArray} {ns : List Int} {ta na : Option Addr} {tc nc : Nat} (h : M w c i ts ns ta na tc nc) :
    Calls Tryd.prog 13 #[.agg #[.int .i64 c, .int .i64 i, .slice ta ts.length tc, .slice na ns.length nc]] w fun e w' => e = .returned (.string (outB c i ts ns)) ∧ Below w.heap.size w w' :=
  pm.spec_put c i ts ns ta na tc nc w h.wc h.wi h.tl h.tx h.nl h.nw h.st h.sn

set_option maxRecDepth 100000 in
set_option maxHeartbeats 2000000 in
theorem walk_put (c i : Int) (ts : List ByteArray) (ns : List Int) (ta na : Option Addr) (tc nc : Nat) (w : World) (wc : (Lit.int .i64 c).wf = true) (wi : (Lit.int .i64 i).wf = true) (tl : ts.length ≤ maxLen) (tx : ∀ x ∈ ts, x.size ≤ maxLen) (nl : ns.length ≤ maxLen) (nw : ∀ x ∈ ns, (Lit.int .i64 x).wf = true)
    (st : Sl Value.string w w.heap.size ta ts) (sn : Sl (Value.int .i64) w w.heap.size na ns) (htab : Tab w) :
    Calls Tryd.prog 4 #[.agg #[.int .i64 c, .int .i64 i, .slice ta ts.length tc, .slice na ns.length nc]] w fun e w' => e = .returned (.bool true) ∧ Below w.heap.size w w' := by
  have hb0 : Below w.heap.size w (w.alloc (.cells #[.int .i64 c, .int .i64 i, .slice ta ts.length tc, .slice na ns.length nc] 25)) := (Below.refl _ _).alloc (Nat.le_refl _) _
  have blk0 : (w.alloc (.cells #[.int .i64 c, .int .i64 i, .slice ta ts.length tc, .slice na ns.length nc] 25)).heap[w.heap.size]? = some (.cells #[.int .i64 c, .int .i64 i, .slice ta ts.length tc, .slice na ns.length nc] 25 (0, 0)) := (MapKept.heap_alloc _ _).1
  have hsz := sz_method c i ts ns ta na tc nc _ tl tx nl (inn st hb0)
  have HST : Hid (Sl Value.string w w.heap.size ta ts) := st
  have HSN : Hid (Sl (Value.int .i64) w w.heap.size na ns) := sn
  have HTB : Hid (Tab w) := htab
  have HNW : Hid (∀ x ∈ ns, (Lit.int .i64 x).wf = true) := nw
  have HWC : Hid ((Lit.int .i64 c).wf = true) := wc
  have HWI : Hid ((Lit.int .i64 i).wf = true) := wi
  have HB0 : Hid ((w.alloc (.cells #[.int .i64 c, .int .i64 i, .slice ta ts.length tc, .slice na ns.length nc] 25)).heap[w.heap.size]? = some (.cells #[.int .i64 c, .int .i64 i, .slice ta ts.length tc, .slice na ns.length nc] 25 (0, 0))) := blk0
  clear st sn htab nw tx tl nl wc wi blk0
  go_enter Tryd.func4, Tryd.ntmps4
  go_wp2_with (go_at_call 8; refine hsz.mono ?_; rintro e w1 ⟨r, rfl, hr, hr0, hr1, hb1⟩; have bk1 := stays hb1 HB0.out; obtain ⟨a0, a1, a2, a3⟩ := cells4 bk1; have BK1 : Hid (w1.heap[w.heap.size]? = some (.cells #[.int .i64 c, .int .i64 i, .slice ta ts.length tc, .slice na ns.length nc] 25 (0, 0))) := bk1; have hbw1 := hb0.trans (hb1.mono hb0.size); clear bk1 hb1)
  · go_ret
    exact ⟨rfl, hbw1⟩
  · have hs := hr (by omega)
    obtain ⟨b, hb⟩ : ∃ b, outB c i ts ns = b := ⟨_, rfl⟩
    have HOB : Hid (outB c i ts ns = b) := hb
    clear hb hr
    refine (to_method c i ts ns ta na tc nc w1 (by omega) (by omega) (inn HST.out hbw1) (inn HSN.out hbw1)).mono ?_
    rintro e w2 ⟨g1, h1, rfl, hg1, hh1, _, _, _, hb2⟩
    clear a0 a1 a2 a3
    have bk2 := stays hb2 BK1.out
    obtain ⟨a0, a1, a2, a3⟩ := cells4 bk2
    have BK2 : Hid (w2.heap[w.heap.size]? = some (.cells #[.int .i64 c, .int .i64 i, .slice ta ts.length tc, .slice na ns.length nc] 25 (0, 0))) := bk2
    have hbw2 := hbw1.trans (hb2.mono hbw1.size)
    clear bk2
    have hsp := spec_put' (m_of HWC.out HWI.out hs HNW.out hg1 hh1)
    rw [HOB.out] at hsp
    clear hg1 hh1
    go_wp2_with fail
    refine hsp.mono ?_
    rintro e w3 ⟨rfl, hb3⟩
    clear a0 a1 a2 a3
    have bk3 := stays hb3 BK2.out
    obtain ⟨a0, a1, a2, a3⟩ := cells4 bk3
    have BK3 : Hid (w3.heap[w.heap.size]? = some (.cells #[.int .i64 c, .int .i64 i, .slice ta ts.length tc, .slice na ns.length nc] 25 (0, 0))) := bk3
    have hbw3 := hbw2.trans (hb3.mono hbw2.size)
    clear bk3
    go_wp2_with fail
    refine (to_method c i ts ns ta na tc nc w3 (by omega) (by omega) (inn HST.out hbw3) (inn HSN.out hbw3)).mono ?_
    rintro e w4 ⟨g2, h2, rfl, hg2, hh2, _, hgh, hhl, hb4⟩
    clear a0 a1 a2 a3
    have bk4 := stays hb4 BK3.out
    obtain ⟨a0, a1, a2, a3⟩ := cells4 bk4
    have BK4 : Hid (w4.heap[w.heap.size]? = some (.cells #[.int .i64 c, .int .i64 i, .slice ta ts.length tc, .slice na ns.length nc] 25 (0, 0))) := bk4
    have hbw4 := hbw3.trans (hb4.mono hbw3.size)
    clear bk4
    have hal : Below w4.heap.size w4 (w4.alloc (.cells #[.int .i64 c, .int .i64 i, .slice (some ⟨g2, 0, none⟩) ts.length ts.length, .slice (some ⟨h2, 0, none⟩) ns.length ns.length] 28)) := (Below.refl _ _).alloc (Nat.le_refl _) _
    have hbwA := hbw4.trans (hal.mono hbw4.size)
    have him := impl_put c i ts ns _ _ _ _ _ (m_of HWC.out HWI.out hs HNW.out (hg2.below hal (by omega)) (hh2.below hal hhl)) (tab_on HTB.out hbwA)
    rw [HOB.out] at him
    go_wp2_with fail
    refine him.mono ?_
    rintro e w5 ⟨rfl, hb5⟩
    clear a0 a1 a2 a3
    have bkA := stays hal BK4.out
    have bk5 := stays hb5 bkA
    have xk5 := stays hb5 (MapKept.heap_alloc w4 _).1
    obtain ⟨a0, a1, a2, a3⟩ := cells4 bk5
    obtain ⟨x0, x1, x2, x3⟩ := cells4 xk5
    have hbw5 := hbwA.trans (hb5.mono hbwA.size)
    have hg5 := (hg2.below hal (by omega)).below hb5 (by simp; omega)
    have hh5 := (hh2.below hal hhl).below hb5 (by simp; omega)
    have hl5 : w4.heap.size < w5.heap.size := by have := hb5.size; simp at this; omega
    have HG5 : Hid (sm.Has w5.drew g2 ts.length ts) := hg5
    have HH5 : Hid (HasI w5.drew h2 ns.length ns) := hh5
    clear bkA bk5 xk5 hg2 hh2 him hsp hal hg5 hh5
    go_wp2_with fail
    go_region_with (first | (go_at_call 10; refine (to_method c i ts ns ta na tc nc _ (by omega) (by omega) (by exact inn HST.out hbw5.drew) (by exact inn HSN.out hbw5.drew)).mono ?_; rintro e w6 ⟨g3, h3, rfl, hg3, hh3, _, _, _, hb6⟩; have y0 := (hb6.cell (p := ⟨w4.heap.size, 0, none⟩) hl5).trans x0; have y1 := (hb6.cell (p := ⟨w4.heap.size, 1, none⟩) hl5).trans x1; have y2 := (hb6.cell (p := ⟨w4.heap.size, 2, none⟩) hl5).trans x2; have y3 := (hb6.cell (p := ⟨w4.heap.size, 3, none⟩) hl5).trans x3) | (go_at_call 12; refine (eq_method c i ts ns _ _ _ _ _ _ _ _ _ (by omega) (by omega) (by exact Sl.of_has (HG5.out.below hb6 HG5.out.lt) (HG5.out.below hb6 HG5.out.lt).lt) (by exact Sl.of_hasI (HH5.out.below hb6 HH5.out.lt) (HH5.out.below hb6 HH5.out.lt).lt) (by exact Sl.of_has hg3 hg3.lt) (by exact Sl.of_hasI hh3 hh3.lt)).mono ?_; rintro e w7 ⟨rfl, hb7⟩))
    all_goals go_wp2
    all_goals go_ret
    all_goals exact ⟨rfl, (hbw5.drew.trans (hb6.mono hbw5.drew.size)).trans (hb7.mono (Nat.le_trans hbw5.size hb6.size))⟩
end Go.Proofs.YtnmooolnmhidbaaDoor.mlp
