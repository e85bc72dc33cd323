/- The specification's StreamOk: true just where the stream is right; new memory alone. -/
import Derived.Test.YtlfhfcgcfggjcaaDoorStreamRows
namespace Go.Proofs.YtlfhfcgcfggjcaaDoor.sts
open Go.ChangeShapes Go.WideShapes Go.ChangeAt Go.RowKit Go.Proofs.YtlfhfcgcfggjcaaDoor.fl Go.Proofs.YtlfhfcgcfggjcaaDoor.rc Go.Proofs.YtlfhfcgcfggjcaaDoor.rr Go.Proofs.YtlfhfcgcfggjcaaDoor.rf Go.Proofs.YtlfhfcgcfggjcaaDoor.st
set_option linter.unusedVariables false

set_option maxRecDepth 100000 in
set_option maxHeartbeats 8000000 in
theorem spec_ok (sn : ByteArray) (lo nx : Int) (es : List flY.En) (ms : List Ex) (g h cg ch : Nat) (w : World) (F : Fit sn es ms) (hY : RY w g es) (hE : RE w h ms) (ga ha : Option Addr) (hga : Hid (0 < es.length → ga = some ⟨g, 0, none⟩)) (hha : Hid (0 < ms.length → ha = some ⟨h, 0, none⟩)) :
    Calls Tryd.prog 30 #[.agg #[.string sn, .int .i64 lo, .int .i64 nx, .slice ga es.length cg, .slice ha ms.length ch]] w fun e w' => e = .returned (.bool (okB sn lo nx es ms)) ∧ Below w.heap.size w w' := by
  have hb : Below w.heap.size w (w.alloc (.cells #[.string sn, .int .i64 lo, .int .i64 nx, .slice ga es.length cg, .slice ha ms.length ch] 27)) := (Below.refl _ _).alloc (Nat.le_refl _) _
  have hA := bnew w #[.string sn, .int .i64 lo, .int .i64 nx, .slice ga es.length cg, .slice ha ms.length ch] 27
  have hlt : w.heap.size < (w.alloc (.cells #[.string sn, .int .i64 lo, .int .i64 nx, .slice ga es.length cg, .slice ha ms.length ch] 27)).heap.size := by simp
  have HY : Hid (RY (w.alloc (.cells #[.string sn, .int .i64 lo, .int .i64 nx, .slice ga es.length cg, .slice ha ms.length ch] 27)) g es) := hY.below hb
  have HE : Hid (RE (w.alloc (.cells #[.string sn, .int .i64 lo, .int .i64 nx, .slice ga es.length cg, .slice ha ms.length ch] 27)) h ms) := hE.below hb
  obtain ⟨W, hW⟩ : ∃ W, w.alloc (.cells #[.string sn, .int .i64 lo, .int .i64 nx, .slice ga es.length cg, .slice ha ms.length ch] 27) = W := ⟨_, rfl⟩
  rw [hW] at hb hA HY HE hlt
  have BOX : Hid (∀ wr, Below W.heap.size W wr → wr.cell? ⟨w.heap.size, 0, none⟩ = some (.string sn) ∧ wr.cell? ⟨w.heap.size, 1, none⟩ = some (.int .i64 lo) ∧ wr.cell? ⟨w.heap.size, 2, none⟩ = some (.int .i64 nx) ∧ wr.cell? ⟨w.heap.size, 3, none⟩ = some (.slice ga es.length cg) ∧ wr.cell? ⟨w.heap.size, 4, none⟩ = some (.slice ha ms.length ch)) := fun wr hr => by
    have h1 := bstay hA hr hlt
    exact ⟨bcell h1 rfl, bcell h1 rfl, bcell h1 rfl, bcell h1 rfl, bcell h1 rfl⟩
  obtain ⟨c0, c1, c2, c3, c4⟩ := BOX.out W (Below.refl _ _)
  have kn := fun W => nm.spec_name sn W F.ns
  have hel := F.el
  have hml := F.ml
  have HF : Hid (Fit sn es ms) := F
  have hno : ∀ {p : Prop}, (OkT sn lo nx es ms → p) → ¬ p → okB sn lo nx es ms = false := fun h1 h2 => okB_no (fun h => h2 (h1 h))
  obtain ⟨ob, hob⟩ : ∃ ob, okB sn lo nx es ms = ob := ⟨_, rfl⟩
  rw [hob] at hno ⊢
  have HNO : Hid (∀ {p : Prop}, (OkT sn lo nx es ms → p) → ¬ p → ob = false) := hno
  have HYES : Hid (OkT sn lo nx es ms → ob = true) := fun h => by rw [← hob]; exact okB_true.2 h
  clear hY hE hA F hob
  cases q1 : nm.good sn with
  | false =>
    obtain rfl := hno (fun h => h.nmk) (by rw [q1]; simp)
    simp only [q1] at kn
    clear hno HNO HYES
    go_enter Tryd.func30, Tryd.ntmps30
    go_wp2_with (go_at_call 50; refine (kn _).mono ?_; rintro e w0 ⟨rfl, hw0⟩; rw [← hw0]; clear hw0 w0)
    go_ret
    exact ⟨rfl, hb⟩
  | true =>
    simp only [q1] at kn
    by_cases q2 : 0 ≤ nx ∧ nx ≤ 1000000000
    rotate_left
    · have f0 : decide (0 ≤ nx ∧ nx ≤ 1000000000) = false := decide_eq_false q2
      obtain rfl := hno (fun h => h.nx0) q2
      clear hno HNO HYES
      go_enter Tryd.func30, Tryd.ntmps30
      go_wp2_with (first | (go_at_call 50; refine (kn _).mono ?_; rintro e w0 ⟨rfl, hw0⟩; rw [← hw0]; clear hw0 w0) | (go_at_call 37; refine (ky.within _ _ _ _).mono ?_; rintro e w0 ⟨rfl, hw0⟩; rw [← hw0]; clear hw0 w0; try rw [f0]))
      go_ret
      exact ⟨rfl, hb⟩
    have f0 : decide (0 ≤ nx ∧ nx ≤ 1000000000) = true := decide_eq_true q2
    by_cases q3 : 0 ≤ lo ∧ lo ≤ nx
    rotate_left
    · have f1 : decide (0 ≤ lo ∧ lo ≤ nx) = false := decide_eq_false q3
      obtain rfl := hno (fun h => h.lo0) q3
      clear hno HNO HYES
      go_enter Tryd.func30, Tryd.ntmps30
      go_wp2_with (first | (go_at_call 50; refine (kn _).mono ?_; rintro e w0 ⟨rfl, hw0⟩; rw [← hw0]; clear hw0 w0) | (go_at_call 37; refine (ky.within _ _ _ _).mono ?_; rintro e w0 ⟨rfl, hw0⟩; rw [← hw0]; clear hw0 w0; try rw [f0]; try rw [f1]))
      go_ret
      exact ⟨rfl, hb⟩
    have f1 : decide (0 ≤ lo ∧ lo ≤ nx) = true := decide_eq_true q3
    have i4 : IntKind.i64.wrap (nx - lo) = nx - lo := by rw [IntKind.wrap_i64]; omega
    by_cases q4 : nx - lo = (es.length : Int)
    rotate_left
    · have f2 : ((es.length : Int) != nx - lo) = true := by simpa using (fun h => q4 h.symm)
      obtain rfl := hno (fun h => h.len.symm) q4
      clear hno HNO HYES
      go_enter Tryd.func30, Tryd.ntmps30
      go_wp2_with (first | (go_at_call 50; refine (kn _).mono ?_; rintro e w0 ⟨rfl, hw0⟩; rw [← hw0]; clear hw0 w0) | (go_at_call 37; refine (ky.within _ _ _ _).mono ?_; rintro e w0 ⟨rfl, hw0⟩; rw [← hw0]; clear hw0 w0; try rw [f0]; try rw [f1]))
      go_ret
      exact ⟨rfl, hb⟩
    have f2 : ((es.length : Int) != nx - lo) = false := by simpa using q4.symm
    by_cases q5 : es.length ≤ 400
    rotate_left
    · have f3 : decide ((400 : Int) < (es.length : Int)) = true := by simp; omega
      obtain rfl := hno (fun h => h.el) q5
      clear hno HNO HYES
      go_enter Tryd.func30, Tryd.ntmps30
      go_wp2_with (first | (go_at_call 50; refine (kn _).mono ?_; rintro e w0 ⟨rfl, hw0⟩; rw [← hw0]; clear hw0 w0) | (go_at_call 37; refine (ky.within _ _ _ _).mono ?_; rintro e w0 ⟨rfl, hw0⟩; rw [← hw0]; clear hw0 w0; try rw [f0]; try rw [f1]))
      go_ret
      exact ⟨rfl, hb⟩
    have f3 : decide ((400 : Int) < (es.length : Int)) = false := by simp; omega
    by_cases q6 : ms.length ≤ 20
    rotate_left
    · have f4 : decide ((20 : Int) < (ms.length : Int)) = true := by simp; omega
      obtain rfl := hno (fun h => h.ml) q6
      clear hno HNO HYES
      go_enter Tryd.func30, Tryd.ntmps30
      go_wp2_with (first | (go_at_call 50; refine (kn _).mono ?_; rintro e w0 ⟨rfl, hw0⟩; rw [← hw0]; clear hw0 w0) | (go_at_call 37; refine (ky.within _ _ _ _).mono ?_; rintro e w0 ⟨rfl, hw0⟩; rw [← hw0]; clear hw0 w0; try rw [f0]; try rw [f1]))
      go_ret
      exact ⟨rfl, hb⟩
    have f4 : decide ((20 : Int) < (ms.length : Int)) = false := by simp; omega
    clear hno
    have HQ : Hid ((0 ≤ nx ∧ nx ≤ 1000000000) ∧ (0 ≤ lo ∧ lo ≤ nx) ∧ (es.length : Int) = nx - lo ∧ es.length ≤ 400 ∧ ms.length ≤ 20) := ⟨q2, q3, q4.symm, q5, q6⟩
    have l0 : 0 ≤ lo := q3.1
    have l1 : lo ≤ 1000000000 := by omega
    go_enter Tryd.func30, Tryd.ntmps30
    go_wp2_with (first | (go_at_call 50; refine (kn _).mono ?_; rintro e w0 ⟨rfl, hw0⟩; rw [← hw0]; clear hw0 w0) | (go_at_call 37; refine (ky.within _ _ _ _).mono ?_; rintro e w0 ⟨rfl, hw0⟩; rw [← hw0]; clear hw0 w0; try rw [f0]; try rw [f1]))
    clear hW c0 c1 c2 c3 c4 kn f0 f1 f2 f3 f4 q2 q3 q4 i4
    go_loopw [3, 4] (fun v _ wr => ∃ k : Nat, k ≤ es.length ∧ v = .int .i64 k ∧ Hid (GoodY lo es k) ∧ Below W.heap.size W wr) (fun v _ _ => es.length - (intOf v).toNat)
    case atStart => exact ⟨0, Nat.zero_le _, rfl, goodY_zero lo es, Below.refl _ _⟩
    case round =>
      obtain ⟨k, hk, rfl, hgood, hbel⟩ := hrel
      have hbsz := hbel.size
      obtain ⟨c0, c1, c2, c3, c4⟩ := BOX.out wr hbel
      by_cases hkl : k < es.length
      · have g0 : es[k]? = some es[k] := List.getElem?_eq_getElem hkl
        have hqa : ga = some ⟨g, 0, none⟩ := hga.out (by omega)
        have hsz := HF.out.eb es[k] (List.getElem_mem hkl)
        obtain ⟨a0, a1, a2⟩ := (HY.out.below hbel).2 k _ g0
        have HG : Hid (es[k]? = some es[k]) := g0
        obtain ⟨⟨eo, et, eb⟩, he⟩ : ∃ e, es[k] = e := ⟨_, rfl⟩
        rw [he] at a0 a1 a2 HG hsz
        have hsz' : eb.size ≤ 1048576 := hsz
        have hbX : Below W.heap.size W (wr.alloc (.cells #[.int .i64 eo, .int .i64 et, .string eb] 43)) := hbel.alloc hbsz _
        have hx1 := bnew wr #[.int .i64 eo, .int .i64 et, .string eb] 43
        have hxl : wr.heap.size < (wr.alloc (.cells #[.int .i64 eo, .int .i64 et, .string eb] 43)).heap.size := by simp
        obtain ⟨X1, hX1⟩ : ∃ X1, wr.alloc (.cells #[.int .i64 eo, .int .i64 et, .string eb] 43) = X1 := ⟨_, rfl⟩
        rw [hX1] at hbX hx1 hxl
        have x0 : ∀ N : qi.Cls X1, N.x.cell? ⟨wr.heap.size, 0, none⟩ = some (.int .i64 eo) := fun N => bcell (bstay hx1 N.h hxl) rfl
        have x1 : ∀ N : qi.Cls X1, N.x.cell? ⟨wr.heap.size, 1, none⟩ = some (.int .i64 et) := fun N => bcell (bstay hx1 N.h hxl) rfl
        have x2 : ∀ N : qi.Cls X1, N.x.cell? ⟨wr.heap.size, 2, none⟩ = some (.string eb) := fun N => bcell (bstay hx1 N.h hxl) rfl
        have r1 : ∀ N : qi.Cls X1, N.x.cell? ⟨w.heap.size, 1, none⟩ = some (.int .i64 lo) := fun N => (BOX.out N.x (hbX.trans (Below.mono N.h hbX.size))).2.1
        have r3 : ∀ N : qi.Cls X1, N.x.cell? ⟨w.heap.size, 3, none⟩ = some (.slice ga es.length cg) := fun N => (BOX.out N.x (hbX.trans (Below.mono N.h hbX.size))).2.2.2.1
        have kin := fun N : qi.Cls X1 => rk.in' et 0 1000000000 N
        have i2 : (k : Int) < (es.length : Int) := by omega
        have i3 : IntKind.i64.wrap (lo + (k : Int)) = lo + (k : Int) := by rw [IntKind.wrap_i64]; omega
        have hbadp : Hid (¬ enOk lo k ⟨eo, et, eb⟩ → ob = false) := fun hh => HNO.out (fun h => h.eo k _ HG.out) hh
        clear g0 he hx1
        by_cases p1 : lo + (k : Int) = eo
        rotate_left
        · have u1 : (eo != lo + (k : Int)) = true := by simpa using (fun h => p1 h.symm)
          obtain rfl := hbadp.out (fun h => p1 h.1.symm)
          clear hbadp HNO HYES
          go_wp2
          refine qi.region_in X1 (qi.T.refl X1) (by kernel_rfl) (by kernel_rfl) ?_
          repeat (go_big_quiet_step (first | (go_at_call 37; refine (kin _).mono ?_; rintro e wx ⟨rfl, hTx⟩; exact ⟨rfl, ⟨wx, hTx⟩, rfl⟩)))
          refine wpQuiet_nil ?_
          rintro _ ⟨N, rfl⟩
          have hN := N.h
          generalize N.x = wN at hN ⊢
          clear N kin x0 x1 x2 r1 r3
          have hbN : Below W.heap.size W wN := hbX.trans (Below.mono hN hbX.size)
          go_wp2
          go_ret
          exact ⟨rfl, hb.trans (hbN.mono hb.size)⟩
        have u1 : (eo != lo + (k : Int)) = false := by simpa using p1.symm
        by_cases p2 : 0 ≤ et ∧ et ≤ 1000000000
        rotate_left
        · have u2 : decide ((0 : Int) ≤ et ∧ et ≤ 1000000000) = false := decide_eq_false p2
          simp only [u2] at kin
          obtain rfl := hbadp.out (fun h => p2 ⟨h.2.1, h.2.2.1⟩)
          clear p2 hbadp HNO HYES u2
          go_wp2
          refine qi.region_in X1 (qi.T.refl X1) (by kernel_rfl) (by kernel_rfl) ?_
          repeat (go_big_quiet_step (first | (go_at_call 37; refine (kin _).mono ?_; rintro e wx ⟨rfl, hTx⟩; exact ⟨rfl, ⟨wx, hTx⟩, rfl⟩)))
          refine wpQuiet_nil ?_
          rintro _ ⟨N, rfl⟩
          have hN := N.h
          generalize N.x = wN at hN ⊢
          clear N kin x0 x1 x2 r1 r3
          have hbN : Below W.heap.size W wN := hbX.trans (Below.mono hN hbX.size)
          go_wp2
          go_ret
          exact ⟨rfl, hb.trans (hbN.mono hb.size)⟩
        have u2 : decide ((0 : Int) ≤ et ∧ et ≤ 1000000000) = true := decide_eq_true p2
        simp only [u2] at kin
        by_cases p3 : eb.size ≤ 3000
        rotate_left
        · have u3 : decide ((3000 : Int) < (eb.size : Int)) = true := by simp; omega
          obtain rfl := hbadp.out (fun h => p3 h.2.2.2)
          clear p2 hbadp HNO HYES u2
          go_wp2
          refine qi.region_in X1 (qi.T.refl X1) (by kernel_rfl) (by kernel_rfl) ?_
          repeat (go_big_quiet_step (first | (go_at_call 37; refine (kin _).mono ?_; rintro e wx ⟨rfl, hTx⟩; exact ⟨rfl, ⟨wx, hTx⟩, rfl⟩)))
          refine wpQuiet_nil ?_
          rintro _ ⟨N, rfl⟩
          have hN := N.h
          generalize N.x = wN at hN ⊢
          clear N kin x0 x1 x2 r1 r3
          have hbN : Below W.heap.size W wN := hbX.trans (Below.mono hN hbX.size)
          go_wp2
          go_ret
          exact ⟨rfl, hb.trans (hbN.mono hb.size)⟩
        have u3 : decide ((3000 : Int) < (eb.size : Int)) = false := by simp; omega
        have hen : enOk lo k ⟨eo, et, eb⟩ := ⟨p1.symm, p2.1, p2.2, p3⟩
        clear hbadp u2
        by_cases hk0 : k = 0
        · subst hk0
          have hnext : Hid (GoodY lo es (0 + 1)) := goodY_next hgood.out HG.out hen (fun p h => absurd rfl h)
          have u1' : (eo != lo) = false := by simpa using u1
          have i3' : IntKind.i64.wrap lo = lo := by simpa using i3
          clear hen p2 p1
          go_wp2
          refine qi.region_in X1 (qi.T.refl X1) (by kernel_rfl) (by kernel_rfl) ?_
          repeat (go_big_quiet_step (first | (go_at_call 37; refine (kin _).mono ?_; rintro e wx ⟨rfl, hTx⟩; exact ⟨rfl, ⟨wx, hTx⟩, rfl⟩)))
          refine wpQuiet_nil ?_
          rintro _ ⟨N, rfl⟩
          have hN := N.h
          generalize N.x = wN at hN ⊢
          clear N kin x0 x1 x2 r1 r3
          have hbN : Below W.heap.size W wN := hbX.trans (Below.mono hN hbX.size)
          go_wp2
          try rw [← hqa]
          try rw [← hqh]
          go_roundw
          case rel => exact ⟨0 + 1, by omega, by go_num, hnext, hbN⟩
          case measure => simp [intOf]; omega
        obtain ⟨m, rfl⟩ : ∃ m, k = m + 1 := ⟨k - 1, by omega⟩
        have g1 : es[m]? = some es[m] := List.getElem?_eq_getElem (by omega)
        obtain ⟨d0, d1, d2⟩ := (HY.out.below hbX).2 m _ g1
        have HG1 : Hid (es[m]? = some es[m]) := g1
        obtain ⟨⟨po, pt, pb⟩, hpe⟩ : ∃ e, es[m] = e := ⟨_, rfl⟩
        rw [hpe] at d0 d1 d2 HG1
        have hgeX := (HY.out.below hbX).1
        have P1 : ∀ N : qi.Cls X1, N.x.cell? ⟨g, m * 3 + 1, none⟩ = some (.int .i64 pt) := fun N => (Below.cell N.h (p := ⟨g, m * 3 + 1, none⟩) hgeX).trans d1
        have j1 : IntKind.i64.wrap (m : Int) = (m : Int) := by rw [IntKind.wrap_i64]; omega
        have j2 : (m : Int) < (es.length : Int) := by omega
        have j3 : ((m + 1 : Nat) : Int) = (m : Int) + 1 := by omega
        rw [j3] at u1 i3 p1
        clear j3
        clear g1 hpe d0 d1 d2
        by_cases p4 : pt ≤ et
        rotate_left
        · have u4 : decide (et < pt) = true := by simp; omega
          obtain rfl := HNO.out (fun h => h.eu m _ _ HG1.out HG.out) (by show ¬ pt ≤ et; omega)
          clear hen p2 HNO HYES
          go_wp2
          refine qi.region_in X1 (qi.T.refl X1) (by kernel_rfl) (by kernel_rfl) ?_
          repeat (go_big_quiet_step (first | (go_at_call 37; refine (kin _).mono ?_; rintro e wx ⟨rfl, hTx⟩; exact ⟨rfl, ⟨wx, hTx⟩, rfl⟩)))
          refine wpQuiet_nil ?_
          rintro _ ⟨N, rfl⟩
          have hN := N.h
          generalize N.x = wN at hN ⊢
          clear N kin x0 x1 x2 r1 r3 P1
          have hbN : Below W.heap.size W wN := hbX.trans (Below.mono hN hbX.size)
          go_wp2
          go_ret
          exact ⟨rfl, hb.trans (hbN.mono hb.size)⟩
        have u4 : decide (et < pt) = false := by simp; omega
        have hnext : Hid (GoodY lo es (m + 1 + 1)) := goodY_next hgood.out HG.out hen (fun p _ hp => by
          have hp2 : es[m]? = some p := hp
          rw [HG1.out] at hp2
          cases hp2
          exact p4)
        clear hen p2
        go_wp2
        refine qi.region_in X1 (qi.T.refl X1) (by kernel_rfl) (by kernel_rfl) ?_
        repeat (go_big_quiet_step (first | (go_at_call 37; refine (kin _).mono ?_; rintro e wx ⟨rfl, hTx⟩; exact ⟨rfl, ⟨wx, hTx⟩, rfl⟩)))
        refine wpQuiet_nil ?_
        rintro _ ⟨N, rfl⟩
        have hN := N.h
        generalize N.x = wN at hN ⊢
        clear N kin x0 x1 x2 r1 r3 P1
        have hbN : Below W.heap.size W wN := hbX.trans (Below.mono hN hbX.size)
        go_wp2
        try rw [← hqa]
        try rw [← hqh]
        go_roundw
        case rel => exact ⟨m + 1 + 1, by omega, by go_num, hnext, hbN⟩
        case measure => simp [intOf]; omega
      · obtain rfl : k = es.length := by omega
        have HGY : Hid (GoodY lo es es.length) := hgood
        clear hgood
        go_wp2
        clear c0 c1 c2 c3 c4
        go_loopw [5, 6] (fun v _ wq => ∃ k : Nat, k ≤ ms.length ∧ v = .int .i64 k ∧ Hid (GoodK nx ms k) ∧ Below W.heap.size W wq) (fun v _ _ => ms.length - (intOf v).toNat)
        case atStart => exact ⟨0, Nat.zero_le _, rfl, goodK_zero nx ms, hbel⟩
        case round =>
          clear hbel hbsz
          obtain ⟨k, hk, rfl, hgood, hbel⟩ := hrel
          have hbsz := hbel.size
          obtain ⟨c0, c1, c2, c3, c4⟩ := BOX.out wr hbel
          by_cases hkl : k < ms.length
          · have g0 : ms[k]? = some ms[k] := List.getElem?_eq_getElem hkl
            have hqh : ha = some ⟨h, 0, none⟩ := hha.out (by omega)
            have hsz := HF.out.mb ms[k] (List.getElem_mem hkl)
            obtain ⟨a0, a1⟩ := (HE.out.below hbel).2 k _ g0
            have HG : Hid (ms[k]? = some ms[k]) := g0
            obtain ⟨⟨mn, mo⟩, he⟩ : ∃ e, ms[k] = e := ⟨_, rfl⟩
            rw [he] at a0 a1 HG hsz
            have hbX : Below W.heap.size W (wr.alloc (.cells #[.string mn, .int .i64 mo] 45)) := hbel.alloc hbsz _
            have hx1 := bnew wr #[.string mn, .int .i64 mo] 45
            have hxl : wr.heap.size < (wr.alloc (.cells #[.string mn, .int .i64 mo] 45)).heap.size := by simp
            obtain ⟨X1, hX1⟩ : ∃ X1, wr.alloc (.cells #[.string mn, .int .i64 mo] 45) = X1 := ⟨_, rfl⟩
            rw [hX1] at hbX hx1 hxl
            have x0 : ∀ N : qi.Cls X1, N.x.cell? ⟨wr.heap.size, 0, none⟩ = some (.string mn) := fun N => bcell (bstay hx1 N.h hxl) rfl
            have x1 : ∀ N : qi.Cls X1, N.x.cell? ⟨wr.heap.size, 1, none⟩ = some (.int .i64 mo) := fun N => bcell (bstay hx1 N.h hxl) rfl
            have x2 : True := trivial
            have r1 : ∀ N : qi.Cls X1, N.x.cell? ⟨w.heap.size, 2, none⟩ = some (.int .i64 nx) := fun N => (BOX.out N.x (hbX.trans (Below.mono N.h hbX.size))).2.2.1
            have r3 : ∀ N : qi.Cls X1, N.x.cell? ⟨w.heap.size, 4, none⟩ = some (.slice ha ms.length ch) := fun N => (BOX.out N.x (hbX.trans (Below.mono N.h hbX.size))).2.2.2.2
            have kq := fun N : qi.Cls X1 => rk.name' mn hsz N
            have kin := fun N : qi.Cls X1 => rk.in' mo 0 nx N
            have i2 : (k : Int) < (ms.length : Int) := by omega
            have hbadp : Hid (¬ mkOk nx ⟨mn, mo⟩ → ob = false) := fun hh => HNO.out (fun h => h.mo k _ HG.out) hh
            clear g0 he hx1
            cases p1 : nm.good mn with
            | false =>
              simp only [p1] at kq
              obtain rfl := hbadp.out (fun h => by have h2 : nm.good mn = true := h.1; rw [p1] at h2; cases h2)
              clear hbadp HNO HYES
              go_wp2
              refine qi.region_in X1 (qi.T.refl X1) (by kernel_rfl) (by kernel_rfl) ?_
              repeat (go_big_quiet_step (first | (go_at_call 50; refine (kq _).mono ?_; rintro e wx ⟨rfl, hTx⟩; exact ⟨rfl, ⟨wx, hTx⟩, rfl⟩) | (go_at_call 37; refine (kin _).mono ?_; rintro e wx ⟨rfl, hTx⟩; exact ⟨rfl, ⟨wx, hTx⟩, rfl⟩)))
              refine wpQuiet_nil ?_
              rintro _ ⟨N, rfl⟩
              have hN := N.h
              generalize N.x = wN at hN ⊢
              clear N kin kq x0 x1 x2 r1 r3
              have hbN : Below W.heap.size W wN := hbX.trans (Below.mono hN hbX.size)
              go_wp2
              go_ret
              exact ⟨rfl, hb.trans (hbN.mono hb.size)⟩
            | true =>
            simp only [p1] at kq
            by_cases p2 : 0 ≤ mo ∧ mo ≤ nx
            rotate_left
            · have u2 : decide ((0 : Int) ≤ mo ∧ mo ≤ nx) = false := decide_eq_false p2
              simp only [u2] at kin
              obtain rfl := hbadp.out (fun h => p2 h.2)
              clear p2 hbadp HNO HYES u2
              go_wp2
              refine qi.region_in X1 (qi.T.refl X1) (by kernel_rfl) (by kernel_rfl) ?_
              repeat (go_big_quiet_step (first | (go_at_call 50; refine (kq _).mono ?_; rintro e wx ⟨rfl, hTx⟩; exact ⟨rfl, ⟨wx, hTx⟩, rfl⟩) | (go_at_call 37; refine (kin _).mono ?_; rintro e wx ⟨rfl, hTx⟩; exact ⟨rfl, ⟨wx, hTx⟩, rfl⟩)))
              refine wpQuiet_nil ?_
              rintro _ ⟨N, rfl⟩
              have hN := N.h
              generalize N.x = wN at hN ⊢
              clear N kin kq x0 x1 x2 r1 r3
              have hbN : Below W.heap.size W wN := hbX.trans (Below.mono hN hbX.size)
              go_wp2
              go_ret
              exact ⟨rfl, hb.trans (hbN.mono hb.size)⟩
            have u2 : decide ((0 : Int) ≤ mo ∧ mo ≤ nx) = true := decide_eq_true p2
            simp only [u2] at kin
            have hmk : mkOk nx ⟨mn, mo⟩ := ⟨p1, p2⟩
            clear hbadp u2
            by_cases hk0 : k = 0
            · subst hk0
              have hnext : Hid (GoodK nx ms (0 + 1)) := goodK_next hgood.out HG.out hmk (fun p h => absurd rfl h)
              clear hmk p2
              go_wp2
              refine qi.region_in X1 (qi.T.refl X1) (by kernel_rfl) (by kernel_rfl) ?_
              repeat (go_big_quiet_step (first | (go_at_call 50; refine (kq _).mono ?_; rintro e wx ⟨rfl, hTx⟩; exact ⟨rfl, ⟨wx, hTx⟩, rfl⟩) | (go_at_call 37; refine (kin _).mono ?_; rintro e wx ⟨rfl, hTx⟩; exact ⟨rfl, ⟨wx, hTx⟩, rfl⟩)))
              refine wpQuiet_nil ?_
              rintro _ ⟨N, rfl⟩
              have hN := N.h
              generalize N.x = wN at hN ⊢
              clear N kin kq x0 x1 x2 r1 r3
              have hbN : Below W.heap.size W wN := hbX.trans (Below.mono hN hbX.size)
              go_wp2
              try rw [← hqa]
              try rw [← hqh]
              go_roundw
              case rel => exact ⟨0 + 1, by omega, by go_num, hnext, hbN⟩
              case measure => simp [intOf]; omega
            obtain ⟨m, rfl⟩ : ∃ m, k = m + 1 := ⟨k - 1, by omega⟩
            have g1 : ms[m]? = some ms[m] := List.getElem?_eq_getElem (by omega)
            obtain ⟨d0, d1⟩ := (HE.out.below hbX).2 m _ g1
            have HG1 : Hid (ms[m]? = some ms[m]) := g1
            obtain ⟨⟨pn, po⟩, hpe⟩ : ∃ e, ms[m] = e := ⟨_, rfl⟩
            rw [hpe] at d0 d1 HG1
            have hgeX := (HE.out.below hbX).1
            have P1 : ∀ N : qi.Cls X1, N.x.cell? ⟨h, m * 2, none⟩ = some (.string pn) := fun N => (Below.cell N.h (p := ⟨h, m * 2, none⟩) hgeX).trans d0
            have j1 : IntKind.i64.wrap (m : Int) = (m : Int) := by rw [IntKind.wrap_i64]; omega
            have j2 : (m : Int) < (ms.length : Int) := by omega
            clear g1 hpe d0 d1
            cases p4 : (Op.bytesLess mn.toList pn.toList || mn.toList == pn.toList) with
            | true =>
              obtain rfl := HNO.out (fun h => ro.cmp_neg.1 (h.mu m _ _ (by omega) HG1.out HG.out)) (fun hl => by
                have h2 := ro.above.2 hl
                have h3 : (lt mn pn || mn.toList == pn.toList) = true := p4
                rw [h2] at h3
                cases h3)
              clear hmk p2 HNO HYES
              go_wp2
              refine qi.region_in X1 (qi.T.refl X1) (by kernel_rfl) (by kernel_rfl) ?_
              repeat (go_big_quiet_step (first | (go_at_call 50; refine (kq _).mono ?_; rintro e wx ⟨rfl, hTx⟩; exact ⟨rfl, ⟨wx, hTx⟩, rfl⟩) | (go_at_call 37; refine (kin _).mono ?_; rintro e wx ⟨rfl, hTx⟩; exact ⟨rfl, ⟨wx, hTx⟩, rfl⟩)))
              refine wpQuiet_nil ?_
              rintro _ ⟨N, rfl⟩
              have hN := N.h
              generalize N.x = wN at hN ⊢
              clear N kin kq x0 x1 x2 r1 r3 P1
              have hbN : Below W.heap.size W wN := hbX.trans (Below.mono hN hbX.size)
              go_wp2
              go_ret
              exact ⟨rfl, hb.trans (hbN.mono hb.size)⟩
            | false =>
            have hnext : Hid (GoodK nx ms (m + 1 + 1)) := goodK_next hgood.out HG.out hmk (fun p _ hp => by
              have hp2 : ms[m]? = some p := hp
              rw [HG1.out] at hp2
              cases hp2
              exact ro.above.1 p4)
            clear hmk p2
            go_wp2
            refine qi.region_in X1 (qi.T.refl X1) (by kernel_rfl) (by kernel_rfl) ?_
            repeat (go_big_quiet_step (first | (go_at_call 50; refine (kq _).mono ?_; rintro e wx ⟨rfl, hTx⟩; exact ⟨rfl, ⟨wx, hTx⟩, rfl⟩) | (go_at_call 37; refine (kin _).mono ?_; rintro e wx ⟨rfl, hTx⟩; exact ⟨rfl, ⟨wx, hTx⟩, rfl⟩)))
            refine wpQuiet_nil ?_
            rintro _ ⟨N, rfl⟩
            have hN := N.h
            generalize N.x = wN at hN ⊢
            clear N kin kq x0 x1 x2 r1 r3 P1
            have hbN : Below W.heap.size W wN := hbX.trans (Below.mono hN hbX.size)
            go_wp2
            try rw [← hqa]
            try rw [← hqh]
            go_roundw
            case rel => exact ⟨m + 1 + 1, by omega, by go_num, hnext, hbN⟩
            case measure => simp [intOf]; omega
          · obtain rfl : k = ms.length := by omega
            obtain rfl := HYES.out ⟨q1, HQ.out.1, HQ.out.2.1, HQ.out.2.2.1, HQ.out.2.2.2.1, HQ.out.2.2.2.2, (goodY_all HGY.out (Nat.le_refl _)).1, (goodY_all HGY.out (Nat.le_refl _)).2, fun i m hm => hgood.out.1 i m (List.getElem?_eq_some_iff.1 hm).1 hm, hgood.out.2⟩
            go_wp2
            go_ret
            exact ⟨rfl, hb.trans (hbel.mono hb.size)⟩
end Go.Proofs.YtlfhfcgcfggjcaaDoor.sts
