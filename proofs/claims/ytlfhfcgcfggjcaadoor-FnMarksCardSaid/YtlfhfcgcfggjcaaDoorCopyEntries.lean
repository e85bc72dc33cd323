/- copyEntries: the same entries in a row of their own; new memory alone. -/
import Derived.Test.YtlfhfcgcfggjcaaDoorStreamRows
import Derived.Test.YtlfhfcgcfggjcaaDoorCloneLaid
import Derived.Test.YtlfhfcgcfggjcaaDoorFlatOff
namespace Go.Proofs.YtlfhfcgcfggjcaaDoor.ce
open Go.ChangeShapes Go.WideShapes Go.ChangeAt Go.RowKit Go.Proofs.YtlfhfcgcfggjcaaDoor.fl Go.Proofs.YtlfhfcgcfggjcaaDoor.fo
set_option linter.unusedVariables false

/-- the cells of block g from cell off on hold the entries l -/
def RYo (w : World) (g off : Nat) (l : List flY.En) : Prop := g < w.heap.size ∧ ∀ (i : Nat) (e : flY.En), l[i]? = some e → w.cell? ⟨g, off + i * 3, none⟩ = some (.int .i64 e.o) ∧ w.cell? ⟨g, off + i * 3 + 1, none⟩ = some (.int .i64 e.t) ∧ w.cell? ⟨g, off + i * 3 + 2, none⟩ = some (.string e.b)
theorem RYo.below {w w' : World} {g off : Nat} {l : List flY.En} (h : RYo w g off l) (hb : Below w.heap.size w w') : RYo w' g off l :=
  ⟨Nat.lt_of_lt_of_le h.1 hb.size, fun i e he => ⟨(hb.cell (p := ⟨g, _, none⟩) h.1).trans (h.2 i e he).1, (hb.cell (p := ⟨g, _, none⟩) h.1).trans (h.2 i e he).2.1, (hb.cell (p := ⟨g, _, none⟩) h.1).trans (h.2 i e he).2.2⟩⟩
theorem ryo {w : World} {g : Nat} {l : List flY.En} (h : st.RY w g l) : RYo w g 0 l := ⟨h.1, fun i e he => by rw [Nat.zero_add]; exact h.2 i e he⟩
theorem RYo.cut {w : World} {g og : Nat} {l : List flY.En} (h : RYo w g og l) (d m : Nat) : RYo w g (og + d * 3) ((l.drop d).take m) := ⟨h.1, fun i e he => by
  have hi : i < m := by
    have := (List.getElem?_eq_some_iff.1 he).1
    rw [List.length_take] at this
    omega
  rw [List.getElem?_take_of_lt hi, List.getElem?_drop] at he
  have := h.2 (d + i) e he
  rw [Nat.add_mul, ← Nat.add_assoc] at this
  exact this⟩
/-- behind the clone: the box, and that the new row stays -/
theorem box {wr w1 : World} {n k : Nat} {l : List flY.En} {eo et : Int} {eb : ByteArray} (hf : Own flY.c 3 43 wr n l k) (hb1 : Below (wr.alloc (.cells #[.int .i64 eo, .int .i64 et, .string eb] 43)).heap.size (wr.alloc (.cells #[.int .i64 eo, .int .i64 et, .string eb] 43)) w1) :
    w1.heap[wr.heap.size]? = some (.cells #[.int .i64 eo, .int .i64 et, .string eb] 43 (0, 0)) ∧ Own flY.c 3 43 (w1.setCell ⟨wr.heap.size, 2, none⟩ (.string eb)) n l k ∧ n ≠ wr.heap.size := by
  have hn := hf.lt
  have hx := bstay (bnew wr #[.int .i64 eo, .int .i64 et, .string eb] 43) hb1 (by simp)
  refine ⟨hx, ?_, by omega⟩
  refine ((hf.kept (Below.heap_alloc wr _ n hn)).below hb1 (by simp; omega)).kept (Below.heap_setCell _ _ _ _ (by show n ≠ wr.heap.size; omega))

set_option maxRecDepth 100000 in
set_option maxHeartbeats 2000000 in
theorem copy_entries (l : List flY.En) (g off cap : Nat) (w : World) (hl : l.length ≤ 1048576) (hbd : ∀ e ∈ l, e.b.size ≤ 1048576) (hY : RYo w g off l) (ga : Option Addr) (hga : Hid (0 < l.length → ga = some ⟨g, off, none⟩)) :
    Calls Tryd.prog 32 #[.slice ga l.length cap] w fun e w' => e = .returned (.slice (some ⟨w.heap.size, 0, none⟩) l.length l.length) ∧ Own flY.c 3 43 w' w.heap.size l l.length ∧ Below w.heap.size w w' := by
  obtain ⟨i0, hi, hz0, hz1, hz2⟩ : ∃ i0, Tryd.prog.info? 43 = some i0 ∧ i0.zero = some (.agg #[.int .i64 0, .int .i64 0, .string ByteArray.empty]) ∧ i0.size = 3 ∧ i0.bytes = 32 := by
    have h := flY.info
    cases hh : Tryd.prog.info? 43 with
    | none => rw [hh] at h; cases h
    | some i => rw [hh] at h; simp at h; exact ⟨i, rfl, h.1, h.2.1, h.2.2⟩
  have hmk := run_makeSlice (P := Tryd.prog) w 24 43 i0 _ Tryd.underlying24 hi hz0 .i64 .i64 (l.length : Int) (l.length : Int) (by omega) (Int.le_refl _) (by rw [hz1]; simp; omega) (by rw [hz2]; omega) (by omega)
  rw [hz1, show ((l.length : Int)).toNat = l.length by omega] at hmk
  have hmk2 : (Instr.makeSlice 24 (.int .i64 (l.length : Int)) (.int .i64 (l.length : Int))).run Tryd.prog w = .ok (.slice (some ⟨w.heap.size, 0, none⟩) l.length l.length) (w.alloc (.cells (madeCells #[.int .i64 0, .int .i64 0, .string ByteArray.empty] (l.length * 3)) 43)) := hmk
  have hf0 : Own flY.c 3 43 (w.alloc (.cells (madeCells #[.int .i64 0, .int .i64 0, .string ByteArray.empty] (l.length * 3)) 43)) w.heap.size l 0 := made #[.int .i64 0, .int .i64 0, .string ByteArray.empty].toList w l rfl
  have hb0 : Below w.heap.size w (w.alloc (.cells (madeCells #[.int .i64 0, .int .i64 0, .string ByteArray.empty] (l.length * 3)) 43)) := (Below.refl _ _).alloc (Nat.le_refl _) _
  obtain ⟨W, hW⟩ : ∃ W, w.alloc (.cells (madeCells #[.int .i64 0, .int .i64 0, .string ByteArray.empty] (l.length * 3)) 43) = W := ⟨_, rfl⟩
  rw [hW] at hmk2 hf0 hb0
  have HF0 : Hid (Own flY.c 3 43 W w.heap.size l 0) := hf0
  clear hmk hW hf0
  have HY : Hid (RYo w g off l) := hY
  have HBD : Hid (∀ e ∈ l, e.b.size ≤ 1048576) := hbd
  clear hY hbd
  go_enter Tryd.func32, Tryd.ntmps32
  go_wp2
  go_loopw [11, 4, 5] (fun x _ _ wr => ∃ k : Nat, k ≤ l.length ∧ x = .int .i64 k ∧ Below w.heap.size w wr ∧ Hid (Own flY.c 3 43 wr w.heap.size l k)) (fun x _ _ _ => l.length - (intOf x).toNat)
  case atStart => exact ⟨0, Nat.zero_le _, rfl, hb0, HF0⟩
  case round =>
    obtain ⟨k, hk, rfl, hbel, hf⟩ := hrel
    have hbs := hbel.size
    by_cases hkl : k < l.length
    · have g0 : l[k]? = some l[k] := List.getElem?_eq_getElem hkl
      have hqa : ga = some ⟨g, off, none⟩ := hga.out (by omega)
      have hsz := HBD.out l[k] (List.getElem_mem hkl)
      obtain ⟨c0, c1, c2⟩ := (HY.out.below hbel).2 k _ g0
      have HG : Hid (l[k]? = some l[k]) := g0
      obtain ⟨⟨eo, et, eb⟩, he⟩ : ∃ e, l[k] = e := ⟨_, rfl⟩
      rw [he] at c0 c1 c2 HG hsz
      have hcl := fun W => cl.clone eb W (by have : eb.size ≤ 1048576 := hsz; omega)
      have i2 : (k : Int) < (l.length : Int) := by omega
      have p0 : k * 3 < l.length * 3 := by omega
      have p1 : k * 3 + 1 < l.length * 3 := by omega
      have p2 : k * 3 + 2 < l.length * 3 := by omega
      have hws : w.heap.size ≤ wr.heap.size := hbs
      clear g0 he
      go_wp2_with (go_at_call 25; refine (hcl _).mono ?_; rintro e w1 ⟨rfl, hb1⟩; obtain ⟨hx, hf1, hne⟩ := box hf.out hb1; have y0 : w1.cell? ⟨wr.heap.size, 0, none⟩ = some (.int .i64 eo) := bcell hx rfl; have y1 : w1.cell? ⟨wr.heap.size, 1, none⟩ = some (.int .i64 et) := bcell hx rfl; have y2 : w1.cell? ⟨wr.heap.size, 2, none⟩ = some (.string eb) := bcell hx rfl; have yf := bfree hx 2; have hne2 : wr.heap.size ≠ w.heap.size := fun e => hne e.symm; obtain ⟨v0, g0⟩ := hf1.at (k * 3) p0; have z0 := hf1.free (k * 3); obtain ⟨v1, g1⟩ := hf1.at (k * 3 + 1) p1; have z1 := hf1.free (k * 3 + 1); obtain ⟨v2, g2⟩ := hf1.at (k * 3 + 2) p2; have z2 := hf1.free (k * 3 + 2); have HN : Hid (Own flY.c 3 43 ((((w1.setCell ⟨wr.heap.size, 2, none⟩ (.string eb)).setCell ⟨w.heap.size, k * 3, none⟩ (.int .i64 eo)).setCell ⟨w.heap.size, k * 3 + 1, none⟩ (.int .i64 et)).setCell ⟨w.heap.size, k * 3 + 2, none⟩ (.string eb)) w.heap.size l (k + 1)) := flY.own_set eo et eb hf1 HG.out; have hbw : Below w.heap.size w (w1.setCell ⟨wr.heap.size, 2, none⟩ (.string eb)) := ((hbel.alloc hbs _).trans (hb1.mono (by simp; omega))).setCell hws _; clear hf1)
      try rw [← hqa]
      try rw [← hqh]
      go_roundw
      case rel => exact ⟨k + 1, by omega, by go_num, ((hbw.setCell (Nat.le_refl _) _).setCell (Nat.le_refl _) _).setCell (Nat.le_refl _) _, HN⟩
      case measure => simp [intOf]; omega
    · obtain rfl : k = l.length := by omega
      go_wp2
      go_ret
      exact ⟨rfl, hf.out, hbel⟩
end Go.Proofs.YtlfhfcgcfggjcaaDoor.ce
