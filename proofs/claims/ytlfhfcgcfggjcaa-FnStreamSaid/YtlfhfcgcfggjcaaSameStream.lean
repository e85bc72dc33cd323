/- Two streams that are alike, held beside each other: the laws' sameStream says true. -/
import Derived.Test.YtlfhfcgcfggjcaaEntryEq
import Derived.Test.YtlfhfcgcfggjcaaMarkEq
import Derived.Test.YtlfhfcgcfggjcaaFlatOwn
import Derived.Test.YtlfhfcgcfggjcaaStreamRows
import Derived.Deep.QuietTactic
import Derived.BigQuiet
namespace Go.Proofs.Ytlfhfcgcfggjcaa.sst
open Go.ChangeShapes Go.WideShapes Go.ChangeAt Go.RowKit Go.Proofs.Ytlfhfcgcfggjcaa.fl Go.Proofs.Ytlfhfcgcfggjcaa.rr Go.Proofs.Ytlfhfcgcfggjcaa.st
set_option linter.unusedVariables false

set_option maxRecDepth 100000 in
set_option maxHeartbeats 2000000 in
theorem same_stream (sn : ByteArray) (lo nx : Int) (es : List flY.En) (ms : List Ex) (a1 a2 b1 b2 : Option Addr) (c1 c2 d1 d2 : Nat) (w : World) (F : Fit sn es ms) (hA1 : Row flY.c 3 w w.heap.size a1 es) (hA2 : Row flY.c 3 w w.heap.size a2 es) (hB1 : Row flK.c 2 w w.heap.size b1 ms) (hB2 : Row flK.c 2 w w.heap.size b2 ms) :
    Calls Try.prog 13 #[.agg #[.string sn, .int .i64 lo, .int .i64 nx, .slice a1 es.length c1, .slice b1 ms.length d1], .agg #[.string sn, .int .i64 lo, .int .i64 nx, .slice a2 es.length c2, .slice b2 ms.length d2]] w fun e w' => e = .returned (.bool true) ∧ Below w.heap.size w w' := by
  have hel := F.el
  have hml := F.ml
  have hb : Below w.heap.size w ((w.alloc (.cells #[.string sn, .int .i64 lo, .int .i64 nx, .slice a1 es.length c1, .slice b1 ms.length d1] 27)).alloc (.cells #[.string sn, .int .i64 lo, .int .i64 nx, .slice a2 es.length c2, .slice b2 ms.length d2] 27)) := ((Below.refl _ _).alloc (Nat.le_refl _) _).alloc (by simp) _
  have hA := bold (bnew w #[.string sn, .int .i64 lo, .int .i64 nx, .slice a1 es.length c1, .slice b1 ms.length d1] 27) (.cells #[.string sn, .int .i64 lo, .int .i64 nx, .slice a2 es.length c2, .slice b2 ms.length d2] 27)
  have hB := bnew (w.alloc (.cells #[.string sn, .int .i64 lo, .int .i64 nx, .slice a1 es.length c1, .slice b1 ms.length d1] 27)) #[.string sn, .int .i64 lo, .int .i64 nx, .slice a2 es.length c2, .slice b2 ms.length d2] 27
  rw [World.size_alloc] at hB
  have hlt : w.heap.size + 1 < ((w.alloc (.cells #[.string sn, .int .i64 lo, .int .i64 nx, .slice a1 es.length c1, .slice b1 ms.length d1] 27)).alloc (.cells #[.string sn, .int .i64 lo, .int .i64 nx, .slice a2 es.length c2, .slice b2 ms.length d2] 27)).heap.size := by simp
  obtain ⟨W, hW⟩ : ∃ W, (w.alloc (.cells #[.string sn, .int .i64 lo, .int .i64 nx, .slice a1 es.length c1, .slice b1 ms.length d1] 27)).alloc (.cells #[.string sn, .int .i64 lo, .int .i64 nx, .slice a2 es.length c2, .slice b2 ms.length d2] 27) = W := ⟨_, rfl⟩
  rw [hW] at hb hA hB hlt
  have BOX : Hid (∀ wr, Below W.heap.size W wr → (wr.cell? ⟨w.heap.size, 0, none⟩ = some (.string sn) ∧ wr.cell? ⟨w.heap.size, 1, none⟩ = some (.int .i64 lo) ∧ wr.cell? ⟨w.heap.size, 2, none⟩ = some (.int .i64 nx) ∧ wr.cell? ⟨w.heap.size, 3, none⟩ = some (.slice a1 es.length c1) ∧ wr.cell? ⟨w.heap.size, 4, none⟩ = some (.slice b1 ms.length d1)) ∧ wr.cell? ⟨w.heap.size + 1, 0, none⟩ = some (.string sn) ∧ wr.cell? ⟨w.heap.size + 1, 1, none⟩ = some (.int .i64 lo) ∧ wr.cell? ⟨w.heap.size + 1, 2, none⟩ = some (.int .i64 nx) ∧ wr.cell? ⟨w.heap.size + 1, 3, none⟩ = some (.slice a2 es.length c2) ∧ wr.cell? ⟨w.heap.size + 1, 4, none⟩ = some (.slice b2 ms.length d2)) := fun wr hr => by
    have h1 := bstay hA hr (by omega)
    have h2 := bstay hB hr hlt
    exact ⟨⟨bcell h1 rfl, bcell h1 rfl, bcell h1 rfl, bcell h1 rfl, bcell h1 rfl⟩, bcell h2 rfl, bcell h2 rfl, bcell h2 rfl, bcell h2 rfl, bcell h2 rfl⟩
  have HA1 : Hid (Row flY.c 3 W W.heap.size a1 es) := hA1.inn hb
  have HA2 : Hid (Row flY.c 3 W W.heap.size a2 es) := hA2.inn hb
  have HB1 : Hid (Row flK.c 2 W W.heap.size b1 ms) := hB1.inn hb
  have HB2 : Hid (Row flK.c 2 W W.heap.size b2 ms) := hB2.inn hb
  obtain ⟨⟨e0, e1, e2, e3, e4⟩, f0, f1, f2, f3, f4⟩ := BOX.out W (Below.refl _ _)
  have HBW : Hid (Below w.heap.size w W) := hb
  clear hA1 hA2 hB1 hB2 hA hB F hb
  go_enter Try.func13, Try.ntmps13
  go_wp2
  clear hW e0 e1 e2 e3 e4 f0 f1 f2 f3 f4
  go_loopw [5] (fun x wr => ∃ k : Nat, k ≤ es.length ∧ x = .int .i64 k ∧ Hid (Below W.heap.size W wr)) (fun x _ => es.length - (intOf x).toNat)
  case atStart => exact ⟨0, Nat.zero_le _, rfl, Below.refl _ _⟩
  case round =>
    obtain ⟨k, hk, rfl, hbel⟩ := hrel
    obtain ⟨⟨e0, e1, e2, e3, e4⟩, f0, f1, f2, f3, f4⟩ := BOX.out wr hbel.out
    by_cases hkl : k < es.length
    · have i2 : (k : Int) < (es.length : Int) := by omega
      have HG : Hid (es[k]? = some es[k]) := List.getElem?_eq_getElem hkl
      obtain ⟨⟨pk, pv, pg⟩, he⟩ : ∃ e, es[k] = e := ⟨_, rfl⟩
      rw [he] at HG
      obtain ⟨g1, o1, rfl, hlt1, hc1⟩ := HA1.out.resolve_left (by rintro rfl; simp at hkl)
      obtain ⟨g2, o2, rfl, hlt2, hc2⟩ := HA2.out.resolve_left (by rintro rfl; simp at hkl)
      have go1 : ∀ (o : Nat) (v : Value), W.cell? ⟨g1, o, none⟩ = some v → wr.cell? ⟨g1, o, none⟩ = some v := fun o v hv => (hbel.out.cell (p := ⟨g1, o, none⟩) hlt1).trans hv
      have go2 : ∀ (o : Nat) (v : Value), W.cell? ⟨g2, o, none⟩ = some v → wr.cell? ⟨g2, o, none⟩ = some v := fun o v hv => (hbel.out.cell (p := ⟨g2, o, none⟩) hlt2).trans hv
      have p0 := go1 _ _ (hc1 k _ HG.out 0 _ rfl)
      have p1 := go1 _ _ (hc1 k _ HG.out 1 _ rfl)
      have p2 := go1 _ _ (hc1 k _ HG.out 2 _ rfl)
      have q0 := go2 _ _ (hc2 k _ HG.out 0 _ rfl)
      have q1 := go2 _ _ (hc2 k _ HG.out 1 _ rfl)
      have q2 := go2 _ _ (hc2 k _ HG.out 2 _ rfl)
      rw [Nat.add_zero] at p0 q0
      have hgd := @eeq.guard_run
      have hrn := eeq.neq_run pk pv pk pv pg pg
      rw [eeq.same_iff.2 rfl] at hrn
      clear he hc1 hc2 go1 go2
      go_wp2
      go_quiet (fail)
      have HBN : Hid (Below W.heap.size W (wr.drewN nq)) := bdrewN hbel.out nq
      go_wp2
      go_roundw
      case rel => exact ⟨k + 1, by omega, by go_num, HBN⟩
      case measure => simp [intOf]; omega
    · obtain rfl : k = es.length := by omega
      obtain ⟨wq, hwq⟩ : ∃ wq, wq = wr := ⟨_, rfl⟩
      have HBQ : Hid (Below W.heap.size W wq) := hwq ▸ hbel
      subst hwq
      clear hbel
      go_wp2
      clear e0 e1 e2 e3 e4 f0 f1 f2 f3 f4
      go_loopw [6] (fun x wr => ∃ k : Nat, k ≤ ms.length ∧ x = .int .i64 k ∧ Hid (Below W.heap.size W wr)) (fun x _ => ms.length - (intOf x).toNat)
      case atStart => exact ⟨0, Nat.zero_le _, rfl, HBQ⟩
      case round =>
        obtain ⟨k, hk, rfl, hbel⟩ := hrel
        obtain ⟨⟨e0, e1, e2, e3, e4⟩, f0, f1, f2, f3, f4⟩ := BOX.out wr hbel.out
        by_cases hkl : k < ms.length
        · have i2 : (k : Int) < (ms.length : Int) := by omega
          have HG : Hid (ms[k]? = some ms[k]) := List.getElem?_eq_getElem hkl
          obtain ⟨⟨pk, pv⟩, he⟩ : ∃ e, ms[k] = e := ⟨_, rfl⟩
          rw [he] at HG
          obtain ⟨g1, o1, rfl, hlt1, hc1⟩ := HB1.out.resolve_left (by rintro rfl; simp at hkl)
          obtain ⟨g2, o2, rfl, hlt2, hc2⟩ := HB2.out.resolve_left (by rintro rfl; simp at hkl)
          have go1 : ∀ (o : Nat) (v : Value), W.cell? ⟨g1, o, none⟩ = some v → wr.cell? ⟨g1, o, none⟩ = some v := fun o v hv => (hbel.out.cell (p := ⟨g1, o, none⟩) hlt1).trans hv
          have go2 : ∀ (o : Nat) (v : Value), W.cell? ⟨g2, o, none⟩ = some v → wr.cell? ⟨g2, o, none⟩ = some v := fun o v hv => (hbel.out.cell (p := ⟨g2, o, none⟩) hlt2).trans hv
          have p0 := go1 _ _ (hc1 k _ HG.out 0 _ rfl)
          have p1 := go1 _ _ (hc1 k _ HG.out 1 _ rfl)
          have q0 := go2 _ _ (hc2 k _ HG.out 0 _ rfl)
          have q1 := go2 _ _ (hc2 k _ HG.out 1 _ rfl)
          rw [Nat.add_zero] at p0 q0
          have hgd := @meq.guard_run
          have hrn := meq.neq_run pk pk pv pv
          rw [meq.same_iff.2 rfl] at hrn
          clear he hc1 hc2 go1 go2
          go_wp2
          go_quiet (fail)
          have HBN : Hid (Below W.heap.size W (wr.drewN nq)) := bdrewN hbel.out nq
          go_wp2
          go_roundw
          case rel => exact ⟨k + 1, by omega, by go_num, HBN⟩
          case measure => simp [intOf]; omega
        · obtain rfl : k = ms.length := by omega
          go_wp2
          go_ret
          exact ⟨rfl, HBW.out.trans (hbel.out.mono HBW.out.size)⟩
end Go.Proofs.Ytlfhfcgcfggjcaa.sst
