/- copyPair and copyPairs: the same pairs, each text cloned, in a row of their own; new memory alone. -/
import Derived.Test.YtoemkbooomgieaaGreatDoorDoneKit
import Derived.Test.YtoemkbooomgieaaGreatDoorCloneLaid
import Derived.Test.YtoemkbooomgieaaGreatDoorRunLib
namespace Go.Proofs.YtoemkbooomgieaaGreatDoor.cpp
open Go.ChangeShapes Go.WideShapes Go.ChangeAt Go.RowKit Go.Proofs.YtoemkbooomgieaaGreatDoor.fl Go.Proofs.YtoemkbooomgieaaGreatDoor.rn
set_option linter.unusedVariables false

def fin (s : Nat) (pk pv : ByteArray) (pg : Bool) : Act := { tmps := #[.agg #[.string pk, .string pv, .bool pg], .pointer (some ⟨s, 0, none⟩), .pointer (some ⟨s + 1, 0, none⟩), .pointer (some ⟨s, 0, none⟩), .string pk, .string pk, .pointer (some ⟨s, 1, none⟩), .string pv, .string pv, .pointer (some ⟨s, 2, none⟩), .bool pg, .agg #[.string pk, .string pv, .bool pg]], defers := [] }
/-- the worlds on the way: nothing that was there is turned; the answer is laid once the store is done -/
def D (w : World) (pk pv : ByteArray) (pg : Bool) (b : Bool) (W : World) : Prop :=
  Below w.heap.size w W ∧ W.heap[w.heap.size]? = some (.cells #[.string pk, .string pv, .bool pg] 61 (0, 0)) ∧
    W.heap[w.heap.size + 1]? = some (.cells (if b then #[.string pk, .string pv, .bool pg] else #[.string ByteArray.empty, .string ByteArray.empty, .bool false]) 61 (0, 0))
theorem D.on {w : World} {pk pv : ByteArray} {pg : Bool} {b : Bool} {W W' : World} (h : D w pk pv pg b W) (hb : Below W.heap.size W W') : D w pk pv pg b W' := by
  obtain ⟨h1, h2, h3⟩ := h
  have hs : w.heap.size + 1 < W.heap.size := (Array.getElem?_eq_some_iff.1 h3).1
  exact ⟨h1.trans (hb.mono h1.size), bstay h2 hb (by omega), bstay h3 hb hs⟩

set_option maxRecDepth 100000 in
set_option maxHeartbeats 1000000 in
theorem copy_pair (e : flP.Pr) (w : World) (hx : e.k.size ≤ 1048576 ∧ e.v.size ≤ 1048576) : Calls Tryz.prog 38 #[.agg #[.string e.k, .string e.v, .bool e.g]] w fun r w' => r = .returned (.agg #[.string e.k, .string e.v, .bool e.g]) ∧ Below w.heap.size w w' := by
  obtain ⟨pk, pv, pg⟩ := e
  obtain ⟨hx1, hx2⟩ := hx
  have cl1 := fun W => cl.clone pk W (by have : pk.size ≤ 1048576 := hx1; omega)
  have cl2 := fun W => cl.clone pv W (by have : pv.size ≤ 1048576 := hx2; omega)
  have h0 : D w pk pv pg false ((w.alloc (.cells #[.string pk, .string pv, .bool pg] 61)).alloc (.cells #[.string ByteArray.empty, .string ByteArray.empty, .bool false] 61)).drew := by
    refine ⟨(((Below.refl _ _).alloc (Nat.le_refl _) _).alloc (by simp) _).drew, ?_, ?_⟩
    · exact bold (bnew w _ _) _
    · have := bnew (w.alloc (.cells #[.string pk, .string pv, .bool pg] 61)) #[.string ByteArray.empty, .string ByteArray.empty, .bool false] 61
      rw [World.size_alloc] at this
      exact this
  go_enter Tryz.func38, Tryz.ntmps38
  go_wp2
  refine dn.region_done (fin w.heap.size pk pv pg) (dk.Cl (D w pk pv pg) 9) (by kernel_rfl) (by kernel_rfl) rfl rfl [0, 1, 2] (by kernel_rfl) (fun s hs => by simp at hs; rcases hs with rfl | rfl | rfl <;> rfl) h0 ?each ?fin
  case each =>
    refine ⟨dk.q (by decide) (.pointer (some ⟨w.heap.size, 0, none⟩)) (by rintro _ ⟨⟩; rfl) (fun b W h => by simp [execOp, go_sem, fin, Act.eval]), ?_⟩
    refine ⟨dk.q (by decide) (.string pk) (by rintro _ ⟨⟩; rfl) (fun b W h => by have c : W.cell? ⟨w.heap.size, 0, none⟩ = some (.string pk) := bcell h.2.1 rfl; simp [execOp, go_sem, fin, Act.eval, c]), ?_⟩
    refine ⟨dk.call (by decide) 25 #[.string pk] (.string pk) (by rintro _ ⟨⟩; rfl) (fun b W h => by simp [go_sem, fin, Act.eval]) (fun b W h => (cl1 W).mono fun e w' ⟨h1, h2⟩ => ⟨h1, h.on h2⟩), ?_⟩
    refine ⟨dk.q (by decide) (.pointer (some ⟨w.heap.size, 1, none⟩)) (by rintro _ ⟨⟩; rfl) (fun b W h => by simp [execOp, go_sem, fin, Act.eval]), ?_⟩
    refine ⟨dk.q (by decide) (.string pv) (by rintro _ ⟨⟩; rfl) (fun b W h => by have c : W.cell? ⟨w.heap.size, 1, none⟩ = some (.string pv) := bcell h.2.1 rfl; simp [execOp, go_sem, fin, Act.eval, c]), ?_⟩
    refine ⟨dk.call (by decide) 25 #[.string pv] (.string pv) (by rintro _ ⟨⟩; rfl) (fun b W h => by simp [go_sem, fin, Act.eval]) (fun b W h => (cl2 W).mono fun e w' ⟨h1, h2⟩ => ⟨h1, h.on h2⟩), ?_⟩
    refine ⟨dk.q (by decide) (.pointer (some ⟨w.heap.size, 2, none⟩)) (by rintro _ ⟨⟩; rfl) (fun b W h => by simp [execOp, go_sem, fin, Act.eval]), ?_⟩
    refine ⟨dk.q (by decide) (.bool pg) (by rintro _ ⟨⟩; rfl) (fun b W h => by have c : W.cell? ⟨w.heap.size, 2, none⟩ = some (.bool pg) := bcell h.2.1 rfl; simp [execOp, go_sem, fin, Act.eval, c]), ?_⟩
    refine ⟨dk.q (by decide) (.agg #[.string pk, .string pv, .bool pg]) (by rintro _ ⟨⟩; rfl) (fun b W h => by simp [execOp, go_sem, fin, Act.eval]), ?_⟩
    refine ⟨dk.last rfl (fun W h => ?_), trivial⟩
    obtain ⟨h1, h2, h3⟩ := h
    have c0 : W.cell? ⟨w.heap.size + 1, 0, none⟩ = some (.string ByteArray.empty) := bcell h3 rfl
    have c1 : W.cell? ⟨w.heap.size + 1, 1, none⟩ = some (.string ByteArray.empty) := bcell h3 rfl
    have c2 : W.cell? ⟨w.heap.size + 1, 2, none⟩ = some (.bool false) := bcell h3 rfl
    have f0 := bfree h3 0
    have f1 := bfree h3 1
    have f2 := bfree h3 2
    refine ⟨((W.setCell ⟨w.heap.size + 1, 0, none⟩ (.string pk)).setCell ⟨w.heap.size + 1, 1, none⟩ (.string pv)).setCell ⟨w.heap.size + 1, 2, none⟩ (.bool pg), by simp [execOp, go_sem, fin, Act.eval, c0, c1, c2, f0, f1, f2], ?_, ?_, ?_⟩
    · exact ((h1.setCell (by show w.heap.size ≤ w.heap.size + 1; omega) _).setCell (by show w.heap.size ≤ w.heap.size + 1; omega) _).setCell (by show w.heap.size ≤ w.heap.size + 1; omega) _
    · exact boff (boff (boff h2 _ _ _ (by omega)) _ _ _ (by omega)) _ _ _ (by omega)
    · exact bset (bset (bset h3 0 (.string pk)) 1 (.string pv)) 2 (.bool pg)
  case fin =>
    intro L W hL hC
    have hC' : D w pk pv pg true W := by
      have := hL 9 (by decide)
      unfold dk.Cl at hC
      rw [this] at hC
      exact hC
    obtain ⟨h1, h2, h3⟩ := hC'
    have c0 : W.cell? ⟨w.heap.size + 1, 0, none⟩ = some (.string pk) := bcell h3 rfl
    have c1 : W.cell? ⟨w.heap.size + 1, 1, none⟩ = some (.string pv) := bcell h3 rfl
    have c2 : W.cell? ⟨w.heap.size + 1, 2, none⟩ = some (.bool pg) := bcell h3 rfl
    unfold fin
    go_wp2
    refine bodyPost_ret (v := .agg #[.string pk, .string pv, .bool pg]) (by simp [results, Tryz.results38, go_sem, c0, c1, c2]) rfl ⟨rfl, h1⟩

set_option maxRecDepth 100000 in
set_option maxHeartbeats 1000000 in
theorem copy_pairs (l : List flP.Pr) (a : Option Addr) (cap : Nat) (w : World) (hl : l.length ≤ 1048576) (hx : ∀ e ∈ l, e.k.size ≤ 1048576 ∧ e.v.size ≤ 1048576) (hS : Row flP.c 3 w w.heap.size a l) :
    Calls Tryz.prog 56 #[.slice a l.length cap] w fun e w' => e = .returned (.slice (some ⟨w.heap.size, 0, none⟩) l.length l.length) ∧ Own flP.c 3 61 w' w.heap.size l l.length ∧ Below w.heap.size w w' := by
  obtain ⟨i0, hi, hz0, hz1, hz2⟩ : ∃ i0, Tryz.prog.info? 61 = some i0 ∧ i0.zero = some (.agg #[.string ByteArray.empty, .string ByteArray.empty, .bool false]) ∧ i0.size = 3 ∧ i0.bytes = 40 := by
    have h := flP.info
    cases hh : Tryz.prog.info? 61 with
    | none => rw [hh] at h; cases h
    | some i => rw [hh] at h; simp at h; exact ⟨i, rfl, h.1, h.2.1, h.2.2⟩
  have hmk := run_makeSlice (P := Tryz.prog) w 28 61 i0 _ Tryz.underlying28 hi hz0 .i64 .i64 (l.length : Int) (l.length : Int) (by omega) (Int.le_refl _) (by rw [hz1]; simp; omega) (by rw [hz2]; omega) (by omega)
  rw [hz1, show ((l.length : Int)).toNat = l.length by omega] at hmk
  have hmk2 : (Instr.makeSlice 28 (.int .i64 (l.length : Int)) (.int .i64 (l.length : Int))).run Tryz.prog w = .ok (.slice (some ⟨w.heap.size, 0, none⟩) l.length l.length) (w.alloc (.cells (madeCells #[.string ByteArray.empty, .string ByteArray.empty, .bool false] (l.length * 3)) 61)) := hmk
  have hf0 : Own flP.c 3 61 (w.alloc (.cells (madeCells #[.string ByteArray.empty, .string ByteArray.empty, .bool false] (l.length * 3)) 61)) w.heap.size l 0 := made #[.string ByteArray.empty, .string ByteArray.empty, .bool false].toList w l rfl
  have hb0 : Below w.heap.size w (w.alloc (.cells (madeCells #[.string ByteArray.empty, .string ByteArray.empty, .bool false] (l.length * 3)) 61)) := (Below.refl _ _).alloc (Nat.le_refl _) _
  obtain ⟨W, hW⟩ : ∃ W, w.alloc (.cells (madeCells #[.string ByteArray.empty, .string ByteArray.empty, .bool false] (l.length * 3)) 61) = W := ⟨_, rfl⟩
  rw [hW] at hmk2 hf0 hb0
  have HF0 : Hid (Own flP.c 3 61 W w.heap.size l 0) := hf0
  have HX : Hid (∀ e ∈ l, e.k.size ≤ 1048576 ∧ e.v.size ≤ 1048576) := hx
  clear hmk hW hf0 hx
  rcases hS with rfl | ⟨b, off, rfl, hlt, hc⟩
  · have hmk3 : (Instr.makeSlice 28 (.int .i64 0) (.int .i64 0)).run Tryz.prog w = .ok (.slice (some ⟨w.heap.size, 0, none⟩) 0 0) W := by simpa using hmk2
    clear hmk2
    go_enter Tryz.func56, Tryz.ntmps56
    go_wp2
    refine wp_loop_rounds 1 ?_
    rw [rounds_succ]
    go_wp2
    go_ret
    exact ⟨rfl, HF0.out, hb0⟩
  · have HC : Hid (∀ (i : Nat) (e : flP.Pr), l[i]? = some e → ∀ (j : Nat) (v : Value), (flP.c e)[j]? = some v → w.cell? ⟨b, off + i * 3 + j, none⟩ = some v) := hc
    clear hc
    go_enter Tryz.func56, Tryz.ntmps56
    go_wp2
    go_loopw [4, 5, 11] (fun _ _ x wr => ∃ k : Nat, k ≤ l.length ∧ x = .int .i64 k ∧ Below w.heap.size w wr ∧ Hid (Own flP.c 3 61 wr w.heap.size l k)) (fun _ _ x _ => l.length - (intOf x).toNat)
    case atStart => exact ⟨0, Nat.zero_le _, rfl, hb0, HF0⟩
    case round =>
      obtain ⟨k, hk, rfl, hbel, hf⟩ := hrel
      have hbs := hbel.size
      by_cases hkl : k < l.length
      · have HG : Hid (l[k]? = some l[k]) := List.getElem?_eq_getElem hkl
        have hxs := HX.out l[k] (List.getElem_mem hkl)
        obtain ⟨⟨pk, pv, pg⟩, he⟩ : ∃ e, l[k] = e := ⟨_, rfl⟩
        rw [he] at HG hxs
        have c0 : wr.cell? ⟨b, off + k * 3, none⟩ = some (.string pk) := (hbel.cell (p := ⟨b, off + k * 3, none⟩) hlt).trans (HC.out k _ HG.out 0 _ rfl)
        have c1 : wr.cell? ⟨b, off + k * 3 + 1, none⟩ = some (.string pv) := (hbel.cell (p := ⟨b, off + k * 3 + 1, none⟩) hlt).trans (HC.out k _ HG.out 1 _ rfl)
        have c2 : wr.cell? ⟨b, off + k * 3 + 2, none⟩ = some (.bool pg) := (hbel.cell (p := ⟨b, off + k * 3 + 2, none⟩) hlt).trans (HC.out k _ HG.out 2 _ rfl)
        have hal : Below wr.heap.size wr (wr.alloc (.cells #[.string pk, .string pv, .bool pg] 61)) := (Below.refl _ _).alloc (Nat.le_refl _) _
        have hone := copy_pair ⟨pk, pv, pg⟩ (wr.alloc (.cells #[.string pk, .string pv, .bool pg] 61)) hxs
        have hfl := hf.out.lt
        have i2 : (k : Int) < (l.length : Int) := by omega
        clear he hxs
        go_wp2_with (go_at_call 38; refine hone.mono ?_; rintro e w1 ⟨rfl, hb1⟩; have hb1' : Below wr.heap.size wr w1 := hal.trans (hb1.mono hal.size); have hf1 := hf.out.below hb1' hfl; obtain ⟨v0, g0⟩ := hf1.at (k * 3) (by omega); have z0 := hf1.free (k * 3); obtain ⟨v1, g1⟩ := hf1.at (k * 3 + 1) (by omega); have z1 := hf1.free (k * 3 + 1); obtain ⟨v2, g2⟩ := hf1.at (k * 3 + 2) (by omega); have z2 := hf1.free (k * 3 + 2); have HN : Hid (Own flP.c 3 61 (((w1.setCell ⟨w.heap.size, k * 3, none⟩ (.string pk)).setCell ⟨w.heap.size, k * 3 + 1, none⟩ (.string pv)).setCell ⟨w.heap.size, k * 3 + 2, none⟩ (.bool pg)) w.heap.size l (k + 1)) := flP.own_set pk pv pg hf1 HG.out; clear hf1)
        go_roundw
        case rel => exact ⟨k + 1, by omega, by go_num, (((hbel.trans (hb1'.mono hbs)).setCell (Nat.le_refl _) _).setCell (Nat.le_refl _) _).setCell (Nat.le_refl _) _, HN⟩
        case measure => simp [intOf]; omega
      · obtain rfl : k = l.length := by omega
        go_wp2
        go_ret
        exact ⟨rfl, hf.out, hbel⟩
end Go.Proofs.YtoemkbooomgieaaGreatDoor.cpp
