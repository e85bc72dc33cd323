/- The specification's draw of a method: some method within bounds, its lists in rows of their own; nothing that was there is turned. -/
import Derived.Test.YtipjhlfajefefaaDoorDrawMethBase
namespace Go.Proofs.YtipjhlfajefefaaDoor.dm
set_option linter.unusedVariables false
open Go.ChangeShapes Go.WideShapes Go.ChangeAt Go.RowKit Go.Proofs.YtipjhlfajefefaaDoor.dw Go.Proofs.YtipjhlfajefefaaDoor.bx Go.Proofs.YtipjhlfajefefaaDoor.me Go.Proofs.YtipjhlfajefefaaDoor.mp

set_option maxRecDepth 100000 in
set_option maxHeartbeats 20000000 in
theorem draw_method (p : Nat) (a : Option Addr) (len cap : Nat) (w : World) (hc : Cur w p a len cap) :
    Calls Tryd.prog 49 #[.pointer (some ⟨p, 0, none⟩)] w (Out p a len cap w) := by
  obtain ⟨i0, hi, hz0, hz1, hz2⟩ := info_parts infoS
  obtain ⟨j0, gi0, gz0, gz1, gz2⟩ := info_parts infoI
  have hp := hc.lt
  have hk := known (w.alloc (.cells zeros 27))
  have hcw : Cur ((w.alloc (.cells zeros 27)).alloc (.cells (tab.map (Value.int .i64)).toArray 97)) p a len cap := (hc.alloc _).alloc _
  have hon0 : On p w ((w.alloc (.cells zeros 27)).alloc (.cells (tab.map (Value.int .i64)).toArray 97)) := ((On.refl p w).alloc _).alloc _
  have hcell : ∀ i, i < 46 → ∃ z ∈ tab, ((w.alloc (.cells zeros 27)).alloc (.cells (tab.map (Value.int .i64)).toArray 97)).cell? ⟨w.heap.size + 1, i, none⟩ = some (.int .i64 z) := by
    have := at_list (w.alloc (.cells zeros 27)) tab 97
    rw [World.size_alloc] at this
    exact this
  have hres : ((w.alloc (.cells zeros 27)).alloc (.cells (tab.map (Value.int .i64)).toArray 97)).heap[w.heap.size]? = some (.cells zeros 27 (0, 0)) := by
    rw [Below.heap_alloc _ _ w.heap.size (by simp)]
    exact heap_alloc_new w _
  have hsz : ((w.alloc (.cells zeros 27)).alloc (.cells (tab.map (Value.int .i64)).toArray 97)).heap.size = w.heap.size + 2 := by simp
  obtain ⟨W, hW⟩ : ∃ W, (w.alloc (.cells zeros 27)).alloc (.cells (tab.map (Value.int .i64)).toArray 97) = W := ⟨_, rfl⟩
  rw [hW] at hcw hon0 hres hsz
  simp only [hW] at hcell hk
  rw [World.size_alloc] at hk
  have hk23 := draw_below p a len cap 23 W (by omega) hcw
  have HC : Hid (∀ i, i < 46 → ∃ z ∈ tab, W.cell? ⟨w.heap.size + 1, i, none⟩ = some (.int .i64 z)) := hcell
  have hWs : w.heap.size + 2 ≤ W.heap.size := by omega
  clear hW hc hcell hsz
  unfold zeros at hk
  go_enter Tryd.func49, Tryd.ntmps49
  go_wp2_with (first | (go_at_call 101; refine hk.mono ?_; rintro e w0 ⟨rfl, hw0⟩; rw [hw0]; clear hw0 w0) | (go_at_call 102; fail))
  refine hk23.mono ?_
  rintro e w1 ⟨⟨n, hn, rfl⟩, hc1, hb1⟩
  obtain ⟨x, hx, cx0⟩ := HC.out (n * 2) (by omega)
  obtain ⟨y, hy, cy0⟩ := HC.out (n * 2 + 1) (by omega)
  have cx := World.grownBy.cell hb1 cx0 (by simp; omega)
  have cy := World.grownBy.cell hb1 cy0 (by simp; omega)
  have hx1 := tab_in x hx
  have hy1 := tab_in y hy
  have hs1 := hb1.size
  have hf := fun W => fo.spec_form x y W
  have hfl : (fo.letters x y).size ≤ 5 := by have := F_length x y; simpa [F] using this
  obtain ⟨fs, hfs⟩ : ∃ fs, fo.letters x y = fs := ⟨_, rfl⟩
  obtain ⟨kn, hkn⟩ : ∃ kn, (fo.known x y).isSome = kn := ⟨_, rfl⟩
  simp only [hfs, hkn] at hf
  rw [hfs] at hfl
  have hres1 : w1.heap[w.heap.size]? = some (.cells zeros 27 (0, 0)) := by
    rw [hb1.block w.heap.size (by omega) (by simp; omega)]
    exact hres
  have hon1 : On p w w1 := hon0.trans hb1
  clear hfs hkn hres hon0 hb1 hk23 hk hcw HC cx0 cy0
  have hst : St w p a len cap (w1.heap.size + 1) x y (.slice none 0 0) (.slice none 0 0) [] [] 0 ((w1.alloc (.cells #[.int .i64 x, .int .i64 y] 97)).alloc (.cells #[.int .i64 x, .int .i64 y, .slice none 0 0, .slice none 0 0] 27)) := by
    have hnew := heap_alloc_new (w1.alloc (.cells #[.int .i64 x, .int .i64 y] 97)) (.cells #[.int .i64 x, .int .i64 y, .slice none 0 0, .slice none 0 0] 27)
    rw [World.size_alloc] at hnew
    refine ⟨⟨hnew, World.ownsRow_nil _ _ _ _, World.ownsRow_nil _ _ _ _, by simp [Value.ownBlock], by simp [Value.ownBlock], fun g hg => by simp [Value.ownBlock] at hg, by omega, fun q hq => ?_⟩, (hc1.alloc _).alloc _, (hon1.alloc _).alloc _, by omega, by simp, by simp, by simp⟩
    rw [List.mem_singleton] at hq
    subst hq
    refine ⟨?_, by simp; omega, by simp [Value.ownBlock], by simp [Value.ownBlock]⟩
    show (World.alloc _ _).heap[w.heap.size]? = _
    rw [Below.heap_alloc _ _ w.heap.size (by simp; omega), Below.heap_alloc _ _ w.heap.size (by omega)]
    exact hres1
  have HST : Hid (St w p a len cap (w1.heap.size + 1) x y (.slice none 0 0) (.slice none 0 0) [] [] 0 ((w1.alloc (.cells #[.int .i64 x, .int .i64 y] 97)).alloc (.cells #[.int .i64 x, .int .i64 y, .slice none 0 0, .slice none 0 0] 27))) := hst
  clear hst hc1 hon1 hres1
  go_wp2_with (go_at_call 19; refine (hf _).mono ?_; rintro e w0 ⟨rfl, hw0⟩; rw [hw0]; clear hw0 w0)
  have hlt1 : ∃ R : Nat, w1.heap.size + 1 = R := ⟨_, rfl⟩
  go_loopw [8] (fun v wr => ∃ (q : Nat) (tv nv : Value) (ts : List ByteArray) (ns : List Int), q ≤ fs.size ∧ v = .int .i64 q ∧ Hid (St w p a len cap (w1.heap.size + 1) x y tv nv ts ns q wr)) (fun v _ => fs.size - (intOf v).toNat)
  case atStart => exact ⟨0, _, _, [], [], Nat.zero_le _, rfl, HST⟩
  case round =>
    obtain ⟨q, tv, nv, ts, ns, hq, rfl, hst⟩ := hrel
    clear HST
    by_cases hqf : q < fs.size
    · by_cases hsl : fs[q] = 115
      · have hbb : ((fs[q].toNat : Int) == 115) = true := by simp [hsl]
        have hbx := hst.out.box
        have e2 : wr.cell? ⟨w1.heap.size + 1, 2, none⟩ = some tv := cell_of (o := 2) hbx.blk rfl
        have hrl := hbx.lt
        have hcu := hst.out.cur
        have g1 := draw_pick p a len cap wr.heap.size 5 words5 (wr.alloc (.cells (words5.map Value.string).toArray 9)).drew (by omega) (by omega) (at_texts wr words5 9) (hcu.alloc _)
        have HBX : Hid (Bx wr w.heap.size (w1.heap.size + 1) 27 (.int .i64 x) (.int .i64 y) tv nv ts ns [(w.heap.size, .cells zeros 27 (0, 0))]) := hbx
        clear hbx hcu
        go_wp2
        go_region_with (go_at_call 103; refine g1.mono ?_; rintro e w2 ⟨⟨z, hz, rfl⟩, hc2, hb2⟩; have hz1 := words5_in z hz; have hs2 := hst.out.later hp (((On.refl p wr).alloc _).drew.trans hb2) hc2; obtain ⟨g, c, w3, hrun, m2, f2, -, -, hs3⟩ := hs2.app_text hp (by omega) z hz1; have e2' : w2.cell? ⟨w1.heap.size + 1, 2, none⟩ = some tv := cell_of (o := 2) hs2.box.blk rfl; have hrl2 := hs2.box.lt; have HS3 : Hid (St w p a len cap (w1.heap.size + 1) x y (.slice (some ⟨g, 0, none⟩) (ts.length + 1) c) nv (ts ++ [z]) ns (q + 1) (w3.setCell ⟨w1.heap.size + 1, 2, none⟩ (.slice (some ⟨g, 0, none⟩) (ts.length + 1) c))) := hs3; clear hs3 hs2 hb2 hc2 hz; simp [go_sem] at hrun)
        all_goals clear hrun m2 f2 e2' g1
        all_goals go_wp2
        all_goals go_roundw
        all_goals first | exact ⟨q + 1, _, _, _, _, by omega, by go_num, HS3⟩ | (simp [intOf]; omega)
      · have hbb : ((fs[q].toNat : Int) == 115) = false := by
          rw [beq_eq_false_iff_ne]
          intro e
          apply hsl
          have e2 : fs[q].toNat = 115 := by omega
          exact UInt8.toNat_inj.1 e2
        have hbx := hst.out.box
        have e3 : wr.cell? ⟨w1.heap.size + 1, 3, none⟩ = some nv := cell_of (o := 3) hbx.blk rfl
        have hrl := hbx.lt
        have hcu := hst.out.cur
        have hb255 : fs[q].toNat ≤ 255 := by have := fs[q].toNat_lt; omega
        have hmo := sz.most ((fs[q].toNat : Int) - 48) wr.drew
        have hmw := most_wf ((fs[q].toNat : Int) - 48)
        obtain ⟨mo, hmo2⟩ : ∃ mo, sz.mostOf ((fs[q].toNat : Int) - 48) = mo := ⟨_, rfl⟩
        rw [hmo2] at hmo hmw
        have g1 := draw_pick_int p a len cap wr.heap.size 6 (nums6 mo) (wr.alloc (.cells ((nums6 mo).map (Value.int .i64)).toArray 3)).drew (by omega) (by omega) (at_list wr (nums6 mo) 3) (hcu.alloc _)
        have hwr1 : IntKind.i64.wrap ((fs[q].toNat : Int) - 48) = (fs[q].toNat : Int) - 48 := by rw [IntKind.wrap_i64]; omega
        have hwr0 : IntKind.i64.wrap (fs[q].toNat : Int) = (fs[q].toNat : Int) := by rw [IntKind.wrap_i64]; omega
        have hqi : (q : Int) < (fs.size : Int) := by omega
        clear hbx hcu hmo2
        go_wp2
        go_region_with (first | (go_at_call 62; refine hmo.mono ?_; rintro e w9 ⟨rfl, hw9⟩; rw [← hw9]; clear hw9 w9) | (go_at_call 59; refine g1.mono ?_; rintro e w2 ⟨⟨z, hz, rfl⟩, hc2, hb2⟩; have hz1 := nums6_wf hmw z hz; have hs2 := hst.out.later hp (((On.refl p wr).alloc _).drew.trans hb2) hc2; obtain ⟨g, c, w3, hrun, m2, f2, hs3⟩ := hs2.app_num hp (by omega) z hz1; have e2' : w2.cell? ⟨w1.heap.size + 1, 3, none⟩ = some nv := cell_of (o := 3) hs2.box.blk rfl; have hrl2 := hs2.box.lt; have HS3 : Hid (St w p a len cap (w1.heap.size + 1) x y tv (.slice (some ⟨g, 0, none⟩) (ns.length + 1) c) ts (ns ++ [z]) (q + 1) (w3.setCell ⟨w1.heap.size + 1, 3, none⟩ (.slice (some ⟨g, 0, none⟩) (ns.length + 1) c))) := hs3; clear hs3 hs2 hb2 hc2 hz; simp [go_sem] at hrun))
        all_goals clear hrun m2 f2 e2' g1
        all_goals go_wp2
        all_goals go_roundw
        all_goals first | exact ⟨q + 1, _, _, _, _, by omega, by go_num, HS3⟩ | (simp [intOf]; omega)
    · obtain rfl : q = fs.size := by omega
      have hcu := hst.out.cur
      have g2 := draw_below p a len cap 20 wr (by omega) hcu
      clear hcu
      go_wp2_with (go_at_call 102; fail)
      refine g2.mono ?_
      rintro e w2 ⟨⟨c, hcc, rfl⟩, hc2, hb2⟩
      have hs2 := hst.out.later hp hb2 hc2
      clear g2 hb2 hc2 hst
      have hbx := hs2.box
      have e0 : w2.cell? ⟨w1.heap.size + 1, 0, none⟩ = some (.int .i64 x) := cell_of (o := 0) hbx.blk rfl
      have e1 : w2.cell? ⟨w1.heap.size + 1, 1, none⟩ = some (.int .i64 y) := cell_of (o := 1) hbx.blk rfl
      have e2 : w2.cell? ⟨w1.heap.size + 1, 2, none⟩ = some tv := cell_of (o := 2) hbx.blk rfl
      have e3 : w2.cell? ⟨w1.heap.size + 1, 3, none⟩ = some nv := cell_of (o := 3) hbx.blk rfl
      have f0 : w2.frozen? ⟨w1.heap.size + 1, 0, none⟩ = false := free_of (o := 0) hbx.blk
      have f1 : w2.frozen? ⟨w1.heap.size + 1, 1, none⟩ = false := free_of (o := 1) hbx.blk
      have hrl := hbx.lt
      have HS : Hid (St w p a len cap (w1.heap.size + 1) x y tv nv ts ns fs.size w2) := hs2
      clear hs2 hbx
      have hne : w.heap.size ≠ w1.heap.size + 1 := by have := HS.out.lo; omega
      obtain ⟨ta, tc, hta⟩ := gm.own_slice HS.out.box.ot
      obtain ⟨na, nc, hna⟩ := gm.own_slice HS.out.box.on
      by_cases hc0 : c = 0
      · subst hc0
        subst hta hna
        have g3 := draw_pick_int p a len cap w2.heap.size 3 badIds _ (by omega) (by have := HS.out.cur.lt; omega) (at_list w2 badIds 3) (HS.out.cur.alloc _)
        go_wp2_with (go_at_call 59; refine g3.mono ?_; rintro e w3 ⟨⟨z, hz, rfl⟩, hc3, hb3⟩; have hs3 := HS.out.later hp (((On.refl p w2).alloc _).trans hb3) hc3; have hz1 := badIds_in z hz; obtain ⟨⟨v0, v1, v2, v3, k0, k1, k2, k3, l0, l1, l2, l3⟩, q0, q1, q2, q3⟩ := result hs3; have hr3 := hs3.box.lt; have hl3 := hs3.lo; have HS3 : Hid (St w p a len cap (w1.heap.size + 1) x y (.slice ta ts.length tc) (.slice na ns.length nc) ts ns fs.size w3) := hs3; clear hs3 g3 hz hb3 hc3)
        refine bodyPost_ret (v := .agg #[.int .i64 x, .int .i64 z, .slice ta ts.length tc, .slice na ns.length nc]) (by simp [results, Tryd.results49, go_sem, v0, v1, v2, v3]) rfl ?_
        exact (HS3.out.setY hp z).ends hp (by omega) (wf_of (by omega)) (wf_of hz1) _ _ _ _
      · by_cases hc3 : c = 3
        · subst hc3
          subst hta hna
          have g3 := draw_pick_int p a len cap w2.heap.size 3 badCls _ (by omega) (by have := HS.out.cur.lt; omega) (at_list w2 badCls 3) (HS.out.cur.alloc _)
          go_wp2_with (go_at_call 59; refine g3.mono ?_; rintro e w3 ⟨⟨z, hz, rfl⟩, hc3, hb3⟩; have hs3 := HS.out.later hp (((On.refl p w2).alloc _).trans hb3) hc3; have hz1 := badCls_in z hz; obtain ⟨⟨v0, v1, v2, v3, k0, k1, k2, k3, l0, l1, l2, l3⟩, q0, q1, q2, q3⟩ := result hs3; have hr3 := hs3.box.lt; have hl3 := hs3.lo; have HS3 : Hid (St w p a len cap (w1.heap.size + 1) x y (.slice ta ts.length tc) (.slice na ns.length nc) ts ns fs.size w3) := hs3; clear hs3 g3 hz hb3 hc3)
          refine bodyPost_ret (v := .agg #[.int .i64 z, .int .i64 y, .slice ta ts.length tc, .slice na ns.length nc]) (by simp [results, Tryd.results49, go_sem, v0, v1, v2, v3]) rfl ?_
          exact (HS3.out.setX hp z).ends hp (by omega) (wf_of hz1) (wf_of (by omega)) _ _ _ _
        · by_cases hc1 : c = 1
          · subst hc1
            subst hna
            have g3 := draw_pick_int p a len cap w2.heap.size 3 sizes3 (w2.alloc (.cells (sizes3.map (Value.int .i64)).toArray 3)).drew (by omega) (by have := HS.out.cur.lt; omega) (at_list w2 sizes3 3) (HS.out.cur.alloc _)
            clear e0 e1 e3 f0 f1 hta
            go_wp2
            go_region_with (first | (go_at_call 59; refine g3.mono ?_; rintro e w3 ⟨⟨z, hz, rfl⟩, hc3, hb3⟩; have hz1 := sizes3_in z hz; obtain ⟨zn, rfl⟩ := Int.eq_ofNat_of_zero_le hz1.1; have g4 := draw_bytes p a len cap zn w3 (by omega) hc3; have hs3 := HS.out.later hp (((On.refl p w2).alloc _).drew.trans hb3) hc3; have d2 : w3.cell? ⟨w1.heap.size + 1, 2, none⟩ = some tv := cell_of (o := 2) hs3.box.blk rfl; have HS3 : Hid (St w p a len cap (w1.heap.size + 1) x y tv (.slice na ns.length nc) ts ns fs.size w3) := hs3; clear hs3 hc3 hb3 hz) | (go_at_call 104; refine g4.mono ?_; rintro e w4 ⟨⟨s, hs, rfl⟩, hc4, hb4⟩; have hs4 := HS3.out.later hp hb4 hc4; obtain ⟨g, cc, w5, hrun, m2, f2, b1, b2, hs5⟩ := hs4.app_text hp (by omega) s (by omega); have d4 : w4.cell? ⟨w1.heap.size + 1, 2, none⟩ = some tv := cell_of (o := 2) hs4.box.blk rfl; have hrl4 := hs4.box.lt; unfold zeros at b2; have v0 := cell_of (o := 0) b2 rfl; have v1 := cell_of (o := 1) b2 rfl; have v2 := cell_of (o := 2) b2 rfl; have v3 := cell_of (o := 3) b2 rfl; have l0 := free_of (o := 0) b2; have l1 := free_of (o := 1) b2; have l2 := free_of (o := 2) b2; have l3 := free_of (o := 3) b2; have k0 := cell_of (o := 0) b1 rfl; have k1 := cell_of (o := 1) b1 rfl; have k3 := cell_of (o := 3) b1 rfl; have HS5 : Hid (St w p a len cap (w1.heap.size + 1) x y (.slice (some ⟨g, 0, none⟩) (ts.length + 1) cc) (.slice na ns.length nc) (ts ++ [s]) ns (fs.size + 1) (w5.setCell ⟨w1.heap.size + 1, 2, none⟩ (.slice (some ⟨g, 0, none⟩) (ts.length + 1) cc))) := hs5; clear hs5 hs4 hc4 hb4 b1 b2 g4; simp [go_sem] at hrun))
            all_goals clear hrun g3 e2 d2 d4
            all_goals go_wp2
            all_goals refine bodyPost_ret (v := .agg #[.int .i64 x, .int .i64 y, .slice (some ⟨g, 0, none⟩) (ts.length + 1) cc, .slice na ns.length nc]) (by simp [results, Tryd.results49, go_sem, v0, v1, v2, v3]) rfl ?_
            all_goals exact HS5.out.ends hp (by omega) (wf_of (by omega)) (wf_of (by omega)) _ _ _ _
          · by_cases hc2 : c = 2
            · subst hc2
              subst hta
              cases ns with
              | nil =>
                subst hna
                have hs3 := HS.out
                obtain ⟨⟨v0, v1, v2, v3, k0, k1, k2, k3, l0, l1, l2, l3⟩, q0, q1, q2, q3⟩ := result hs3
                clear hs3
                go_wp2
                refine bodyPost_ret (v := .agg #[.int .i64 x, .int .i64 y, .slice ta ts.length tc, .slice na 0 nc]) (by simp [results, Tryd.results49, go_sem, v0, v1, v2, v3]) rfl ?_
                exact HS.out.ends hp (by omega) (wf_of (by omega)) (wf_of (by omega)) _ _ _ _
              | cons n1 ns =>
                obtain ⟨gn, ncap, hnv, -, hgn⟩ := HS.out.box.on.form (by simp)
                have hnn : nv = .slice (some ⟨gn, 0, none⟩) (ns.length + 1) ncap := hnv
                clear hnv hna
                subst hnn
                have g3 := draw_pick_int p a len cap w2.heap.size 4 badNums (w2.alloc (.cells (badNums.map (Value.int .i64)).toArray 3)).drew (by omega) (by have := HS.out.cur.lt; omega) (at_list w2 badNums 3) (HS.out.cur.alloc _)
                clear e0 e1 e2 f0 f1
                go_wp2
                go_region_with (go_at_call 59; refine g3.mono ?_; rintro e w3 ⟨⟨z, hz, rfl⟩, hc3, hb3⟩; have hz1 := badNums_in z hz; have hs3 := HS.out.later hp (((On.refl p w2).alloc _).drew.trans hb3) hc3; obtain ⟨⟨v0, v1, v2, v3, k0, k1, k2, k3, l0, l1, l2, l3⟩, q0, q1, q2, q3⟩ := result hs3; obtain ⟨cg, fg, hgr, hgw⟩ := num_at hs3; have HS3 : Hid (St w p a len cap (w1.heap.size + 1) x y (.slice ta ts.length tc) (.slice (some ⟨gn, 0, none⟩) (ns.length + 1) ncap) ts (n1 :: ns) fs.size w3) := hs3; clear hs3 hc3 hb3 hz)
                all_goals clear g3 e3
                all_goals go_wp2
                all_goals refine bodyPost_ret (v := .agg #[.int .i64 x, .int .i64 y, .slice ta ts.length tc, .slice (some ⟨gn, 0, none⟩) (ns.length + 1) ncap]) (by simp [results, Tryd.results49, go_sem, v0, v1, v2, v3]) rfl ?_
                all_goals exact (HS3.out.setN hp z hz1).ends hp (by omega) (wf_of (by omega)) (wf_of (by omega)) _ _ _ _
            · have n0 : ((c : Int) == 0) = false := by simp only [beq_eq_false_iff_ne]; omega
              have n1 : ((c : Int) == 1) = false := by simp only [beq_eq_false_iff_ne]; omega
              have n2 : ((c : Int) == 2) = false := by simp only [beq_eq_false_iff_ne]; omega
              have n3 : ((c : Int) == 3) = false := by simp only [beq_eq_false_iff_ne]; omega
              subst hta hna
              have hs3 := HS.out
              obtain ⟨⟨v0, v1, v2, v3, k0, k1, k2, k3, l0, l1, l2, l3⟩, q0, q1, q2, q3⟩ := result hs3
              clear hs3
              go_wp2
              refine bodyPost_ret (v := .agg #[.int .i64 x, .int .i64 y, .slice ta ts.length tc, .slice na ns.length nc]) (by simp [results, Tryd.results49, go_sem, v0, v1, v2, v3]) rfl ?_
              exact HS.out.ends hp (by omega) (wf_of (by omega)) (wf_of (by omega)) _ _ _ _
end Go.Proofs.YtipjhlfajefefaaDoor.dm
