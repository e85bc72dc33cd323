/- The laws' lists of the structure AckOp: weighed, laid anew, held beside each other; new memory alone. -/
import Derived.Test.YtiphjegaodaooaaFlatLib
namespace Go.Proofs.Ytiphjegaodaooaa.flA
open Go.ChangeShapes Go.WideShapes Go.ChangeAt Go.RowKit Go.Proofs.Ytiphjegaodaooaa.fl
set_option linter.unusedVariables false

structure Ak where
  t : Int
  a : Bool
  n : Bool
  b : Bool

def c (e : Ak) : List Value := [.int .i64 e.t, .bool e.a, .bool e.n, .bool e.b]
theorem c_len (e : Ak) : (c e).length = 4 := rfl
def ok (e : Ak) : Prop := True
def wt (e : Ak) : Nat := 0

theorem sz_all (l : List Ak) (a : Option Addr) (cap : Nat) (left : Int) (w : World) (hl : l.length ≤ maxLen) (h0 : -1 ≤ left) (h1 : left ≤ 1048576) :
    Calls Try.prog 21 #[.slice a l.length cap, .int .i64 left] w fun e w' => ∃ r : Int, e = .returned (.int .i64 r) ∧ (0 ≤ r → r = left - l.length) ∧ -1 ≤ r ∧ r ≤ 1048576 ∧ Below w.heap.size w w' := by
  have hl' := hl
  unfold maxLen at hl'
  by_cases hneg : left - l.length < 0
  · go_enter Try.func21, Try.ntmps21
    go_wp2
    go_ret
    exact ⟨-1, rfl, by omega, by omega, by omega, Below.refl _ _⟩
  · go_enter Try.func21, Try.ntmps21
    go_wp2
    go_ret
    exact ⟨_, rfl, fun _ => rfl, by omega, by omega, Below.refl _ _⟩

theorem to_one (e : Ak) (w : World) : Calls Try.prog 37 #[.agg #[.int .i64 e.t, .bool e.a, .bool e.n, .bool e.b]] w fun r w' => r = .returned (.agg #[.int .i64 e.t, .bool e.a, .bool e.n, .bool e.b]) ∧ Below w.heap.size w w' := by
  obtain ⟨ft, fa, fn, fb⟩ := e
  go_enter Try.func37, Try.ntmps37
  go_wp2
  refine bodyPost_ret (v := .agg #[.int .i64 ft, .bool fa, .bool fn, .bool fb]) (by simp [results, Try.results37, go_sem]) rfl ⟨rfl, ?_⟩
  repeat (first | exact Below.refl _ _ | refine Below.setCell ?_ ?_ _ | refine Below.alloc ?_ ?_ _)
  all_goals (simp; try omega)

theorem own_set {T : TypeId} {w : World} {g k : Nat} {l : List Ak} (ft : Int) (fa : Bool) (fn : Bool) (fb : Bool) (h : Own c 4 T w g l k) (he : l[k]? = some ⟨ft, fa, fn, fb⟩) : Own c 4 T ((((w.setCell ⟨g, k * 4, none⟩ (.int .i64 ft)).setCell ⟨g, k * 4 + 1, none⟩ (.bool fa)).setCell ⟨g, k * 4 + 2, none⟩ (.bool fn)).setCell ⟨g, k * 4 + 3, none⟩ (.bool fb)) g l (k + 1) := by
  have := Own.set c_len h he
  simpa only [setRow, c, Nat.add_assoc, Nat.reduceAdd] using this

theorem info : (Try.prog.info? 66).map (fun i => (i.zero, i.size, i.bytes)) = some (some (.agg #[.int .i64 0, .bool false, .bool false, .bool false]), 4, 16) := by kernel_rfl

set_option maxRecDepth 100000 in
set_option maxHeartbeats 1000000 in
theorem to_all (l : List Ak) (a : Option Addr) (cap : Nat) (w : World) (hl : l.length ≤ 1048576) (hS : Row c 4 w w.heap.size a l) :
    Calls Try.prog 24 #[.slice a l.length cap] w fun e w' => e = .returned (.slice (some ⟨w.heap.size, 0, none⟩) l.length l.length) ∧ Own c 4 66 w' w.heap.size l l.length ∧ Below w.heap.size w w' := by
  obtain ⟨i0, hi, hz0, hz1, hz2⟩ : ∃ i0, Try.prog.info? 66 = some i0 ∧ i0.zero = some (.agg #[.int .i64 0, .bool false, .bool false, .bool false]) ∧ i0.size = 4 ∧ i0.bytes = 16 := by
    have h := info
    cases hh : Try.prog.info? 66 with
    | none => rw [hh] at h; cases h
    | some i => rw [hh] at h; simp at h; exact ⟨i, rfl, h.1, h.2.1, h.2.2⟩
  have hmk := run_makeSlice (P := Try.prog) w 39 66 i0 _ Try.underlying39 hi hz0 .i64 .i64 (l.length : Int) (l.length : Int) (by omega) (Int.le_refl _) (by rw [hz1]; simp; omega) (by rw [hz2]; omega) (by omega)
  rw [hz1, show ((l.length : Int)).toNat = l.length by omega] at hmk
  have hmk2 : (Instr.makeSlice 39 (.int .i64 (l.length : Int)) (.int .i64 (l.length : Int))).run Try.prog w = .ok (.slice (some ⟨w.heap.size, 0, none⟩) l.length l.length) (w.alloc (.cells (madeCells #[.int .i64 0, .bool false, .bool false, .bool false] (l.length * 4)) 66)) := hmk
  have hf0 : Own c 4 66 (w.alloc (.cells (madeCells #[.int .i64 0, .bool false, .bool false, .bool false] (l.length * 4)) 66)) w.heap.size l 0 := made #[.int .i64 0, .bool false, .bool false, .bool false].toList w l rfl
  have hb0 : Below w.heap.size w (w.alloc (.cells (madeCells #[.int .i64 0, .bool false, .bool false, .bool false] (l.length * 4)) 66)) := (Below.refl _ _).alloc (Nat.le_refl _) _
  obtain ⟨W, hW⟩ : ∃ W, w.alloc (.cells (madeCells #[.int .i64 0, .bool false, .bool false, .bool false] (l.length * 4)) 66) = W := ⟨_, rfl⟩
  rw [hW] at hmk2 hf0 hb0
  have HF0 : Hid (Own c 4 66 W w.heap.size l 0) := hf0
  clear hmk hW hf0
  rcases hS with rfl | ⟨b, off, rfl, hlt, hc⟩
  · have hmk3 : (Instr.makeSlice 39 (.int .i64 0) (.int .i64 0)).run Try.prog w = .ok (.slice (some ⟨w.heap.size, 0, none⟩) 0 0) W := by simpa using hmk2
    clear hmk2
    go_enter Try.func24, Try.ntmps24
    go_wp2
    refine wp_loop_rounds 1 ?_
    rw [rounds_succ]
    go_wp2
    go_ret
    exact ⟨rfl, HF0.out, hb0⟩
  · have HC : Hid (∀ (i : Nat) (e : Ak), l[i]? = some e → ∀ (j : Nat) (v : Value), (c e)[j]? = some v → w.cell? ⟨b, off + i * 4 + j, none⟩ = some v) := hc
    clear hc
    go_enter Try.func24, Try.ntmps24
    go_wp2
    go_loopw [4] (fun x wr => ∃ k : Nat, k ≤ l.length ∧ x = .int .i64 k ∧ Below w.heap.size w wr ∧ Hid (Own c 4 66 wr w.heap.size l k)) (fun x _ => l.length - (intOf x).toNat)
    case atStart => exact ⟨0, Nat.zero_le _, rfl, hb0, HF0⟩
    case round =>
      obtain ⟨k, hk, rfl, hbel, hf⟩ := hrel
      have hbs := hbel.size
      by_cases hkl : k < l.length
      · have HG : Hid (l[k]? = some l[k]) := List.getElem?_eq_getElem hkl
        obtain ⟨⟨ft, fa, fn, fb⟩, he⟩ : ∃ e, l[k] = e := ⟨_, rfl⟩
        rw [he] at HG
        have c0 : wr.cell? ⟨b, off + k * 4, none⟩ = some (.int .i64 ft) := (hbel.cell (p := ⟨b, off + k * 4, none⟩) hlt).trans (HC.out k _ HG.out 0 _ rfl)
        have c1 : wr.cell? ⟨b, off + k * 4 + 1, none⟩ = some (.bool fa) := (hbel.cell (p := ⟨b, off + k * 4 + 1, none⟩) hlt).trans (HC.out k _ HG.out 1 _ rfl)
        have c2 : wr.cell? ⟨b, off + k * 4 + 2, none⟩ = some (.bool fn) := (hbel.cell (p := ⟨b, off + k * 4 + 2, none⟩) hlt).trans (HC.out k _ HG.out 2 _ rfl)
        have c3 : wr.cell? ⟨b, off + k * 4 + 3, none⟩ = some (.bool fb) := (hbel.cell (p := ⟨b, off + k * 4 + 3, none⟩) hlt).trans (HC.out k _ HG.out 3 _ rfl)
        have hone := to_one ⟨ft, fa, fn, fb⟩ wr
        have hfl := hf.out.lt
        clear he
        go_wp2_with (go_at_call 37; refine hone.mono ?_; rintro e w1 ⟨rfl, hb1⟩; have hf1 := hf.out.below hb1 hfl; obtain ⟨v0, g0⟩ := hf1.at (k * 4) (by omega); have z0 := hf1.free (k * 4); obtain ⟨v1, g1⟩ := hf1.at (k * 4 + 1) (by omega); have z1 := hf1.free (k * 4 + 1); obtain ⟨v2, g2⟩ := hf1.at (k * 4 + 2) (by omega); have z2 := hf1.free (k * 4 + 2); obtain ⟨v3, g3⟩ := hf1.at (k * 4 + 3) (by omega); have z3 := hf1.free (k * 4 + 3); have HN : Hid (Own c 4 66 ((((w1.setCell ⟨w.heap.size, k * 4, none⟩ (.int .i64 ft)).setCell ⟨w.heap.size, k * 4 + 1, none⟩ (.bool fa)).setCell ⟨w.heap.size, k * 4 + 2, none⟩ (.bool fn)).setCell ⟨w.heap.size, k * 4 + 3, none⟩ (.bool fb)) w.heap.size l (k + 1)) := own_set ft fa fn fb hf1 HG.out; clear hf1)
        go_roundw
        case rel => exact ⟨k + 1, by omega, by go_num, (((((hbel.trans (hb1.mono hbs)).setCell (Nat.le_refl _) _).setCell (Nat.le_refl _) _).setCell (Nat.le_refl _) _).setCell (Nat.le_refl _) _), HN⟩
        case measure => simp [intOf]; omega
      · obtain rfl : k = l.length := by omega
        go_wp2
        go_ret
        exact ⟨rfl, hf.out, hbel⟩

theorem eq_one (e : Ak) (w : World) : Calls Try.prog 39 #[.agg #[.int .i64 e.t, .bool e.a, .bool e.n, .bool e.b], .agg #[.int .i64 e.t, .bool e.a, .bool e.n, .bool e.b]] w fun r w' => r = .returned (.bool true) ∧ Below w.heap.size w w' := by
  obtain ⟨ft, fa, fn, fb⟩ := e
  go_enter Try.func39, Try.ntmps39
  go_wp2
  go_ret
  exact ⟨rfl, ((Below.refl _ _).alloc (Nat.le_refl _) _).alloc (by simp) _⟩

set_option maxRecDepth 100000 in
set_option maxHeartbeats 1000000 in
theorem eq_all (l : List Ak) (a a' : Option Addr) (ca ca' : Nat) (w : World) (hl : l.length ≤ maxLen) (ha : Row c 4 w w.heap.size a l) (hb : Row c 4 w w.heap.size a' l) :
    Calls Try.prog 26 #[.slice a l.length ca, .slice a' l.length ca'] w fun e w' => e = .returned (.bool true) ∧ Below w.heap.size w w' := by
  have hl' := hl
  unfold maxLen at hl'
  have nilw : ∀ a a' : Option Addr, Calls Try.prog 26 #[.slice a 0 ca, .slice a' 0 ca'] w fun e w' => e = .returned (.bool true) ∧ Below w.heap.size w w' := fun a a' => by
    go_enter Try.func26, Try.ntmps26
    go_wp2
    refine wp_loop_rounds 1 ?_
    rw [rounds_succ]
    go_wp2
    go_ret
    exact ⟨rfl, Below.refl _ _⟩
  rcases ha with rfl | ⟨b, off, rfl, hlt, hc⟩
  · exact nilw a a'
  rcases hb with rfl | ⟨b', off_, rfl, hlt', hc'⟩
  · exact nilw _ _
  · have HA : Hid (∀ (i : Nat) (e : Ak), l[i]? = some e → ∀ (j : Nat) (v : Value), (c e)[j]? = some v → w.cell? ⟨b, off + i * 4 + j, none⟩ = some v) := hc
    have HB : Hid (∀ (i : Nat) (e : Ak), l[i]? = some e → ∀ (j : Nat) (v : Value), (c e)[j]? = some v → w.cell? ⟨b', off_ + i * 4 + j, none⟩ = some v) := hc'
    clear hc hc' nilw
    go_enter Try.func26, Try.ntmps26
    go_wp2
    go_loopw [5] (fun x wr => ∃ k : Nat, k ≤ l.length ∧ x = .int .i64 k ∧ Below w.heap.size w wr) (fun x _ => l.length - (intOf x).toNat)
    case atStart => exact ⟨0, Nat.zero_le _, rfl, Below.refl _ _⟩
    case round =>
      obtain ⟨k, hk, rfl, hbel⟩ := hrel
      have hbs := hbel.size
      by_cases hkl : k < l.length
      · have HG : Hid (l[k]? = some l[k]) := List.getElem?_eq_getElem hkl
        obtain ⟨⟨ft, fa, fn, fb⟩, he⟩ : ∃ e, l[k] = e := ⟨_, rfl⟩
        rw [he] at HG
        have a0 : wr.cell? ⟨b, off + k * 4, none⟩ = some (.int .i64 ft) := (hbel.cell (p := ⟨b, off + k * 4, none⟩) hlt).trans (HA.out k _ HG.out 0 _ rfl)
        have b0 : wr.cell? ⟨b', off_ + k * 4, none⟩ = some (.int .i64 ft) := (hbel.cell (p := ⟨b', off_ + k * 4, none⟩) hlt').trans (HB.out k _ HG.out 0 _ rfl)
        have a1 : wr.cell? ⟨b, off + k * 4 + 1, none⟩ = some (.bool fa) := (hbel.cell (p := ⟨b, off + k * 4 + 1, none⟩) hlt).trans (HA.out k _ HG.out 1 _ rfl)
        have b1 : wr.cell? ⟨b', off_ + k * 4 + 1, none⟩ = some (.bool fa) := (hbel.cell (p := ⟨b', off_ + k * 4 + 1, none⟩) hlt').trans (HB.out k _ HG.out 1 _ rfl)
        have a2 : wr.cell? ⟨b, off + k * 4 + 2, none⟩ = some (.bool fn) := (hbel.cell (p := ⟨b, off + k * 4 + 2, none⟩) hlt).trans (HA.out k _ HG.out 2 _ rfl)
        have b2 : wr.cell? ⟨b', off_ + k * 4 + 2, none⟩ = some (.bool fn) := (hbel.cell (p := ⟨b', off_ + k * 4 + 2, none⟩) hlt').trans (HB.out k _ HG.out 2 _ rfl)
        have a3 : wr.cell? ⟨b, off + k * 4 + 3, none⟩ = some (.bool fb) := (hbel.cell (p := ⟨b, off + k * 4 + 3, none⟩) hlt).trans (HA.out k _ HG.out 3 _ rfl)
        have b3 : wr.cell? ⟨b', off_ + k * 4 + 3, none⟩ = some (.bool fb) := (hbel.cell (p := ⟨b', off_ + k * 4 + 3, none⟩) hlt').trans (HB.out k _ HG.out 3 _ rfl)
        have hone := eq_one ⟨ft, fa, fn, fb⟩ wr.drew
        have i2 : (k : Int) < (l.length : Int) := by omega
        clear he
        go_wp2
        go_region_with (go_at_call 39; refine hone.mono ?_; rintro e w1 ⟨rfl, hb1⟩)
        all_goals go_wp2
        all_goals go_roundw
        all_goals first | exact ⟨k + 1, by omega, by go_num, hbel.drew.trans (hb1.mono hbs)⟩ | (simp [intOf]; omega)
      · obtain rfl : k = l.length := by omega
        go_wp2
        go_ret
        exact ⟨rfl, hbel⟩
end Go.Proofs.Ytiphjegaodaooaa.flA
