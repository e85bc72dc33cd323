/- The laws' lists of the structure Message: weighed, laid anew, held beside each other; new memory alone. -/
import Derived.Test.YtpkljkahdclcgaaGreatFlatLib
namespace Go.Proofs.YtpkljkahdclcgaaGreat.flM
open Go.ChangeShapes Go.WideShapes Go.ChangeAt Go.RowKit Go.Proofs.YtpkljkahdclcgaaGreat.fl
set_option linter.unusedVariables false

structure Ms where
  q : Int
  x : ByteArray
  k : ByteArray
  b : ByteArray
  a : Bool

def c (e : Ms) : List Value := [.int .i64 e.q, .string e.x, .string e.k, .string e.b, .bool e.a]
theorem c_len (e : Ms) : (c e).length = 5 := rfl
def ok (e : Ms) : Prop := e.x.size ≤ maxLen ∧ e.k.size ≤ maxLen ∧ e.b.size ≤ maxLen
def wt (e : Ms) : Nat := e.x.size + e.k.size + e.b.size

theorem sz_one (e : Ms) (left : Int) (w : World) (h0 : -1 ≤ left) (h1 : left ≤ 1048576) (hx : ok e) :
    Calls Tryz.prog 184 #[.agg #[.int .i64 e.q, .string e.x, .string e.k, .string e.b, .bool e.a], .int .i64 left] w fun r w' => r = .returned (.int .i64 (if left - (wt e : Int) < 0 then -1 else left - (wt e : Int))) ∧ Below w.heap.size w w' := by
  obtain ⟨fq, fx, fk, fb, fa⟩ := e
  obtain ⟨hx0, hx1, hx2⟩ := hx
  have hx0 : fx.size ≤ 9223372036854775807 := hx0
  have hx1 : fk.size ≤ 9223372036854775807 := hx1
  have hx2 : fb.size ≤ 9223372036854775807 := hx2
  unfold wt
  by_cases g0 : left - (fx.size : Int) < 0
  · rw [if_pos (by show left - ((fx.size + fk.size + fb.size : Nat) : Int) < 0; omega)]
    go_enter Tryz.func184, Tryz.ntmps184
    go_wp2
    go_ret
    exact ⟨rfl, (Below.refl _ _).alloc (Nat.le_refl _) _⟩
  by_cases g1 : left - (fx.size : Int) - (fk.size : Int) < 0
  · rw [if_pos (by show left - ((fx.size + fk.size + fb.size : Nat) : Int) < 0; omega)]
    go_enter Tryz.func184, Tryz.ntmps184
    go_wp2
    go_ret
    exact ⟨rfl, (Below.refl _ _).alloc (Nat.le_refl _) _⟩
  by_cases g2 : left - (fx.size : Int) - (fk.size : Int) - (fb.size : Int) < 0
  · rw [if_pos (by show left - ((fx.size + fk.size + fb.size : Nat) : Int) < 0; omega)]
    go_enter Tryz.func184, Tryz.ntmps184
    go_wp2
    go_ret
    exact ⟨rfl, (Below.refl _ _).alloc (Nat.le_refl _) _⟩
  have he : left - ((fx.size + fk.size + fb.size : Nat) : Int) = left - (fx.size : Int) - (fk.size : Int) - (fb.size : Int) := by omega
  rw [if_neg (by show ¬ left - ((fx.size + fk.size + fb.size : Nat) : Int) < 0; omega)]
  show Calls _ _ _ _ fun r w' => r = .returned (.int .i64 (left - ((fx.size + fk.size + fb.size : Nat) : Int))) ∧ _
  rw [he]
  go_enter Tryz.func184, Tryz.ntmps184
  go_wp2
  go_ret
  exact ⟨rfl, (Below.refl _ _).alloc (Nat.le_refl _) _⟩

set_option maxRecDepth 100000 in
theorem sz_all (l : List Ms) (a : Option Addr) (cap : Nat) (left : Int) (w : World) (hl : l.length ≤ maxLen) (hx : ∀ e ∈ l, ok e) (h0 : -1 ≤ left) (h1 : left ≤ 1048576) (hS : Row c 5 w w.heap.size a l) :
    Calls Tryz.prog 150 #[.slice a l.length cap, .int .i64 left] w fun e w' => ∃ r : Int, e = .returned (.int .i64 r) ∧ (0 ≤ r → r = left - l.length - bulk wt l) ∧ -1 ≤ r ∧ r ≤ 1048576 ∧ Below w.heap.size w w' := by
  have hl' := hl
  unfold maxLen at hl'
  by_cases hneg : left - l.length < 0
  · go_enter Tryz.func150, Tryz.ntmps150
    go_wp2
    go_ret
    exact ⟨-1, rfl, by omega, by omega, by omega, Below.refl _ _⟩
  rcases hS with rfl | ⟨b, off, rfl, hlt, hc⟩
  · go_enter Tryz.func150, Tryz.ntmps150
    go_wp2
    refine wp_loop_rounds 1 ?_
    rw [rounds_succ]
    go_wp2
    go_ret
    exact ⟨_, rfl, fun _ => by simp [bulk], by simp at hneg; omega, by simp at hneg; omega, Below.refl _ _⟩
  · have HC : Hid (∀ (i : Nat) (e : Ms), l[i]? = some e → ∀ (j : Nat) (v : Value), (c e)[j]? = some v → w.cell? ⟨b, off + i * 5 + j, none⟩ = some v) := hc
    have HX : Hid (∀ e ∈ l, ok e) := hx
    clear hc hx
    go_enter Tryz.func150, Tryz.ntmps150
    go_wp2
    go_loopw [1, 5] (fun y x wr => ∃ k : Nat, k ≤ l.length ∧ x = .int .i64 k ∧ y = .int .i64 (left - l.length - bulk wt (l.take k)) ∧ 0 ≤ left - l.length - bulk wt (l.take k) ∧ Below w.heap.size w wr) (fun _ x _ => l.length - (intOf x).toNat)
    case atStart => exact ⟨0, Nat.zero_le _, rfl, by simp [bulk], by simp [bulk]; omega, Below.refl _ _⟩
    case round =>
      obtain ⟨k, hk, rfl, rfl, hr0, hbel⟩ := hrel
      have hbs := hbel.size
      by_cases hkl : k < l.length
      · have HG : Hid (l[k]? = some l[k]) := List.getElem?_eq_getElem hkl
        have hxs := HX.out l[k] (List.getElem_mem hkl)
        have HBK : Hid (bulk wt (l.take (k + 1)) = bulk wt (l.take k) + wt l[k]) := bulk_take wt hkl
        obtain ⟨⟨fq, fx, fk, fb, fa⟩, he⟩ : ∃ e, l[k] = e := ⟨_, rfl⟩
        rw [he] at hxs HBK HG
        have c0 : wr.cell? ⟨b, off + k * 5, none⟩ = some (.int .i64 fq) := (hbel.cell (p := ⟨b, off + k * 5, none⟩) hlt).trans (HC.out k _ HG.out 0 _ rfl)
        have c1 : wr.cell? ⟨b, off + k * 5 + 1, none⟩ = some (.string fx) := (hbel.cell (p := ⟨b, off + k * 5 + 1, none⟩) hlt).trans (HC.out k _ HG.out 1 _ rfl)
        have c2 : wr.cell? ⟨b, off + k * 5 + 2, none⟩ = some (.string fk) := (hbel.cell (p := ⟨b, off + k * 5 + 2, none⟩) hlt).trans (HC.out k _ HG.out 2 _ rfl)
        have c3 : wr.cell? ⟨b, off + k * 5 + 3, none⟩ = some (.string fb) := (hbel.cell (p := ⟨b, off + k * 5 + 3, none⟩) hlt).trans (HC.out k _ HG.out 3 _ rfl)
        have c4 : wr.cell? ⟨b, off + k * 5 + 4, none⟩ = some (.bool fa) := (hbel.cell (p := ⟨b, off + k * 5 + 4, none⟩) hlt).trans (HC.out k _ HG.out 4 _ rfl)
        obtain ⟨m, hm⟩ : ∃ m, bulk wt (l.take k) = m := ⟨_, rfl⟩
        rw [hm] at HBK hr0 ⊢
        have hone := sz_one ⟨fq, fx, fk, fb, fa⟩ (left - l.length - m) wr (by omega) (by omega) hxs
        obtain ⟨wv, hwt⟩ : ∃ wv, wt ⟨fq, fx, fk, fb, fa⟩ = wv := ⟨_, rfl⟩
        rw [hwt] at hone HBK
        clear hm he hwt hxs
        by_cases hlo : left - l.length - m - wv < 0
        · rw [if_pos hlo] at hone
          go_wp2_with (go_at_call 184; refine hone.mono ?_; rintro e w1 ⟨rfl, hb1⟩)
          go_ret
          exact ⟨-1, rfl, by omega, by omega, by omega, hbel.trans (hb1.mono hbs)⟩
        · rw [if_neg hlo] at hone
          go_wp2_with (go_at_call 184; refine hone.mono ?_; rintro e w1 ⟨rfl, hb1⟩)
          go_roundw
          case rel => exact ⟨k + 1, by omega, by go_num, by rw [HBK.out]; congr 1; omega, by rw [HBK.out]; omega, hbel.trans (hb1.mono hbs)⟩
          case measure => simp [intOf]; omega
      · obtain rfl : k = l.length := by omega
        rw [List.take_length] at hr0 ⊢
        go_wp2
        go_ret
        exact ⟨_, rfl, fun _ => rfl, by omega, by omega, hbel⟩

theorem to_one (e : Ms) (w : World) : Calls Tryz.prog 188 #[.agg #[.int .i64 e.q, .string e.x, .string e.k, .string e.b, .bool e.a]] w fun r w' => r = .returned (.agg #[.int .i64 e.q, .string e.x, .string e.k, .string e.b, .bool e.a]) ∧ Below w.heap.size w w' := by
  obtain ⟨fq, fx, fk, fb, fa⟩ := e
  go_enter Tryz.func188, Tryz.ntmps188
  go_wp2
  refine bodyPost_ret (v := .agg #[.int .i64 fq, .string fx, .string fk, .string fb, .bool fa]) (by simp [results, Tryz.results188, go_sem]) rfl ⟨rfl, ?_⟩
  repeat (first | exact Below.refl _ _ | refine Below.setCell ?_ ?_ _ | refine Below.alloc ?_ ?_ _)
  all_goals (simp; try omega)

theorem own_set {T : TypeId} {w : World} {g k : Nat} {l : List Ms} (fq : Int) (fx : ByteArray) (fk : ByteArray) (fb : ByteArray) (fa : Bool) (h : Own c 5 T w g l k) (he : l[k]? = some ⟨fq, fx, fk, fb, fa⟩) : Own c 5 T (((((w.setCell ⟨g, k * 5, none⟩ (.int .i64 fq)).setCell ⟨g, k * 5 + 1, none⟩ (.string fx)).setCell ⟨g, k * 5 + 2, none⟩ (.string fk)).setCell ⟨g, k * 5 + 3, none⟩ (.string fb)).setCell ⟨g, k * 5 + 4, none⟩ (.bool fa)) g l (k + 1) := by
  have := Own.set c_len h he
  simpa only [setRow, c, Nat.add_assoc, Nat.reduceAdd] using this

theorem info : (Tryz.prog.info? 48).map (fun i => (i.zero, i.size, i.bytes)) = some (some (.agg #[.int .i64 0, .string ByteArray.empty, .string ByteArray.empty, .string ByteArray.empty, .bool false]), 5, 64) := by kernel_rfl

set_option maxRecDepth 100000 in
set_option maxHeartbeats 1000000 in
theorem to_all (l : List Ms) (a : Option Addr) (cap : Nat) (w : World) (hl : l.length ≤ 1048576) (hS : Row c 5 w w.heap.size a l) :
    Calls Tryz.prog 156 #[.slice a l.length cap] w fun e w' => e = .returned (.slice (some ⟨w.heap.size, 0, none⟩) l.length l.length) ∧ Own c 5 48 w' w.heap.size l l.length ∧ Below w.heap.size w w' := by
  obtain ⟨i0, hi, hz0, hz1, hz2⟩ : ∃ i0, Tryz.prog.info? 48 = some i0 ∧ i0.zero = some (.agg #[.int .i64 0, .string ByteArray.empty, .string ByteArray.empty, .string ByteArray.empty, .bool false]) ∧ i0.size = 5 ∧ i0.bytes = 64 := by
    have h := info
    cases hh : Tryz.prog.info? 48 with
    | none => rw [hh] at h; cases h
    | some i => rw [hh] at h; simp at h; exact ⟨i, rfl, h.1, h.2.1, h.2.2⟩
  have hmk := run_makeSlice (P := Tryz.prog) w 65 48 i0 _ Tryz.underlying65 hi hz0 .i64 .i64 (l.length : Int) (l.length : Int) (by omega) (Int.le_refl _) (by rw [hz1]; simp; omega) (by rw [hz2]; omega) (by omega)
  rw [hz1, show ((l.length : Int)).toNat = l.length by omega] at hmk
  have hmk2 : (Instr.makeSlice 65 (.int .i64 (l.length : Int)) (.int .i64 (l.length : Int))).run Tryz.prog w = .ok (.slice (some ⟨w.heap.size, 0, none⟩) l.length l.length) (w.alloc (.cells (madeCells #[.int .i64 0, .string ByteArray.empty, .string ByteArray.empty, .string ByteArray.empty, .bool false] (l.length * 5)) 48)) := hmk
  have hf0 : Own c 5 48 (w.alloc (.cells (madeCells #[.int .i64 0, .string ByteArray.empty, .string ByteArray.empty, .string ByteArray.empty, .bool false] (l.length * 5)) 48)) w.heap.size l 0 := made #[.int .i64 0, .string ByteArray.empty, .string ByteArray.empty, .string ByteArray.empty, .bool false].toList w l rfl
  have hb0 : Below w.heap.size w (w.alloc (.cells (madeCells #[.int .i64 0, .string ByteArray.empty, .string ByteArray.empty, .string ByteArray.empty, .bool false] (l.length * 5)) 48)) := (Below.refl _ _).alloc (Nat.le_refl _) _
  obtain ⟨W, hW⟩ : ∃ W, w.alloc (.cells (madeCells #[.int .i64 0, .string ByteArray.empty, .string ByteArray.empty, .string ByteArray.empty, .bool false] (l.length * 5)) 48) = W := ⟨_, rfl⟩
  rw [hW] at hmk2 hf0 hb0
  have HF0 : Hid (Own c 5 48 W w.heap.size l 0) := hf0
  clear hmk hW hf0
  rcases hS with rfl | ⟨b, off, rfl, hlt, hc⟩
  · have hmk3 : (Instr.makeSlice 65 (.int .i64 0) (.int .i64 0)).run Tryz.prog w = .ok (.slice (some ⟨w.heap.size, 0, none⟩) 0 0) W := by simpa using hmk2
    clear hmk2
    go_enter Tryz.func156, Tryz.ntmps156
    go_wp2
    refine wp_loop_rounds 1 ?_
    rw [rounds_succ]
    go_wp2
    go_ret
    exact ⟨rfl, HF0.out, hb0⟩
  · have HC : Hid (∀ (i : Nat) (e : Ms), l[i]? = some e → ∀ (j : Nat) (v : Value), (c e)[j]? = some v → w.cell? ⟨b, off + i * 5 + j, none⟩ = some v) := hc
    clear hc
    go_enter Tryz.func156, Tryz.ntmps156
    go_wp2
    go_loopw [4] (fun x wr => ∃ k : Nat, k ≤ l.length ∧ x = .int .i64 k ∧ Below w.heap.size w wr ∧ Hid (Own c 5 48 wr w.heap.size l k)) (fun x _ => l.length - (intOf x).toNat)
    case atStart => exact ⟨0, Nat.zero_le _, rfl, hb0, HF0⟩
    case round =>
      obtain ⟨k, hk, rfl, hbel, hf⟩ := hrel
      have hbs := hbel.size
      by_cases hkl : k < l.length
      · have HG : Hid (l[k]? = some l[k]) := List.getElem?_eq_getElem hkl
        obtain ⟨⟨fq, fx, fk, fb, fa⟩, he⟩ : ∃ e, l[k] = e := ⟨_, rfl⟩
        rw [he] at HG
        have c0 : wr.cell? ⟨b, off + k * 5, none⟩ = some (.int .i64 fq) := (hbel.cell (p := ⟨b, off + k * 5, none⟩) hlt).trans (HC.out k _ HG.out 0 _ rfl)
        have c1 : wr.cell? ⟨b, off + k * 5 + 1, none⟩ = some (.string fx) := (hbel.cell (p := ⟨b, off + k * 5 + 1, none⟩) hlt).trans (HC.out k _ HG.out 1 _ rfl)
        have c2 : wr.cell? ⟨b, off + k * 5 + 2, none⟩ = some (.string fk) := (hbel.cell (p := ⟨b, off + k * 5 + 2, none⟩) hlt).trans (HC.out k _ HG.out 2 _ rfl)
        have c3 : wr.cell? ⟨b, off + k * 5 + 3, none⟩ = some (.string fb) := (hbel.cell (p := ⟨b, off + k * 5 + 3, none⟩) hlt).trans (HC.out k _ HG.out 3 _ rfl)
        have c4 : wr.cell? ⟨b, off + k * 5 + 4, none⟩ = some (.bool fa) := (hbel.cell (p := ⟨b, off + k * 5 + 4, none⟩) hlt).trans (HC.out k _ HG.out 4 _ rfl)
        have hone := to_one ⟨fq, fx, fk, fb, fa⟩ wr
        have hfl := hf.out.lt
        clear he
        go_wp2_with (go_at_call 188; refine hone.mono ?_; rintro e w1 ⟨rfl, hb1⟩; have hf1 := hf.out.below hb1 hfl; obtain ⟨v0, g0⟩ := hf1.at (k * 5) (by omega); have z0 := hf1.free (k * 5); obtain ⟨v1, g1⟩ := hf1.at (k * 5 + 1) (by omega); have z1 := hf1.free (k * 5 + 1); obtain ⟨v2, g2⟩ := hf1.at (k * 5 + 2) (by omega); have z2 := hf1.free (k * 5 + 2); obtain ⟨v3, g3⟩ := hf1.at (k * 5 + 3) (by omega); have z3 := hf1.free (k * 5 + 3); obtain ⟨v4, g4⟩ := hf1.at (k * 5 + 4) (by omega); have z4 := hf1.free (k * 5 + 4); have HN : Hid (Own c 5 48 (((((w1.setCell ⟨w.heap.size, k * 5, none⟩ (.int .i64 fq)).setCell ⟨w.heap.size, k * 5 + 1, none⟩ (.string fx)).setCell ⟨w.heap.size, k * 5 + 2, none⟩ (.string fk)).setCell ⟨w.heap.size, k * 5 + 3, none⟩ (.string fb)).setCell ⟨w.heap.size, k * 5 + 4, none⟩ (.bool fa)) w.heap.size l (k + 1)) := own_set fq fx fk fb fa hf1 HG.out; clear hf1)
        go_roundw
        case rel => exact ⟨k + 1, by omega, by go_num, ((((((hbel.trans (hb1.mono hbs)).setCell (Nat.le_refl _) _).setCell (Nat.le_refl _) _).setCell (Nat.le_refl _) _).setCell (Nat.le_refl _) _).setCell (Nat.le_refl _) _), HN⟩
        case measure => simp [intOf]; omega
      · obtain rfl : k = l.length := by omega
        go_wp2
        go_ret
        exact ⟨rfl, hf.out, hbel⟩

theorem eq_one (e : Ms) (w : World) : Calls Tryz.prog 21 #[.agg #[.int .i64 e.q, .string e.x, .string e.k, .string e.b, .bool e.a], .agg #[.int .i64 e.q, .string e.x, .string e.k, .string e.b, .bool e.a]] w fun r w' => r = .returned (.bool true) ∧ Below w.heap.size w w' := by
  obtain ⟨fq, fx, fk, fb, fa⟩ := e
  go_enter Tryz.func21, Tryz.ntmps21
  go_wp2
  go_ret
  exact ⟨rfl, ((Below.refl _ _).alloc (Nat.le_refl _) _).alloc (by simp) _⟩

set_option maxRecDepth 100000 in
set_option maxHeartbeats 1000000 in
theorem eq_all (l : List Ms) (a a' : Option Addr) (ca ca' : Nat) (w : World) (hl : l.length ≤ maxLen) (ha : Row c 5 w w.heap.size a l) (hb : Row c 5 w w.heap.size a' l) :
    Calls Tryz.prog 171 #[.slice a l.length ca, .slice a' l.length ca'] w fun e w' => e = .returned (.bool true) ∧ Below w.heap.size w w' := by
  have hl' := hl
  unfold maxLen at hl'
  have nilw : ∀ a a' : Option Addr, Calls Tryz.prog 171 #[.slice a 0 ca, .slice a' 0 ca'] w fun e w' => e = .returned (.bool true) ∧ Below w.heap.size w w' := fun a a' => by
    go_enter Tryz.func171, Tryz.ntmps171
    go_wp2
    refine wp_loop_rounds 1 ?_
    rw [rounds_succ]
    go_wp2
    go_ret
    exact ⟨rfl, Below.refl _ _⟩
  rcases ha with rfl | ⟨b, off, rfl, hlt, hc⟩
  · exact nilw a a'
  rcases hb with rfl | ⟨b', off_, rfl, hlt', hc'⟩
  · exact nilw _ _
  · have HA : Hid (∀ (i : Nat) (e : Ms), l[i]? = some e → ∀ (j : Nat) (v : Value), (c e)[j]? = some v → w.cell? ⟨b, off + i * 5 + j, none⟩ = some v) := hc
    have HB : Hid (∀ (i : Nat) (e : Ms), l[i]? = some e → ∀ (j : Nat) (v : Value), (c e)[j]? = some v → w.cell? ⟨b', off_ + i * 5 + j, none⟩ = some v) := hc'
    clear hc hc' nilw
    go_enter Tryz.func171, Tryz.ntmps171
    go_wp2
    go_loopw [5] (fun x wr => ∃ k : Nat, k ≤ l.length ∧ x = .int .i64 k ∧ Below w.heap.size w wr) (fun x _ => l.length - (intOf x).toNat)
    case atStart => exact ⟨0, Nat.zero_le _, rfl, Below.refl _ _⟩
    case round =>
      obtain ⟨k, hk, rfl, hbel⟩ := hrel
      have hbs := hbel.size
      by_cases hkl : k < l.length
      · have HG : Hid (l[k]? = some l[k]) := List.getElem?_eq_getElem hkl
        obtain ⟨⟨fq, fx, fk, fb, fa⟩, he⟩ : ∃ e, l[k] = e := ⟨_, rfl⟩
        rw [he] at HG
        have a0 : wr.cell? ⟨b, off + k * 5, none⟩ = some (.int .i64 fq) := (hbel.cell (p := ⟨b, off + k * 5, none⟩) hlt).trans (HA.out k _ HG.out 0 _ rfl)
        have b0 : wr.cell? ⟨b', off_ + k * 5, none⟩ = some (.int .i64 fq) := (hbel.cell (p := ⟨b', off_ + k * 5, none⟩) hlt').trans (HB.out k _ HG.out 0 _ rfl)
        have a1 : wr.cell? ⟨b, off + k * 5 + 1, none⟩ = some (.string fx) := (hbel.cell (p := ⟨b, off + k * 5 + 1, none⟩) hlt).trans (HA.out k _ HG.out 1 _ rfl)
        have b1 : wr.cell? ⟨b', off_ + k * 5 + 1, none⟩ = some (.string fx) := (hbel.cell (p := ⟨b', off_ + k * 5 + 1, none⟩) hlt').trans (HB.out k _ HG.out 1 _ rfl)
        have a2 : wr.cell? ⟨b, off + k * 5 + 2, none⟩ = some (.string fk) := (hbel.cell (p := ⟨b, off + k * 5 + 2, none⟩) hlt).trans (HA.out k _ HG.out 2 _ rfl)
        have b2 : wr.cell? ⟨b', off_ + k * 5 + 2, none⟩ = some (.string fk) := (hbel.cell (p := ⟨b', off_ + k * 5 + 2, none⟩) hlt').trans (HB.out k _ HG.out 2 _ rfl)
        have a3 : wr.cell? ⟨b, off + k * 5 + 3, none⟩ = some (.string fb) := (hbel.cell (p := ⟨b, off + k * 5 + 3, none⟩) hlt).trans (HA.out k _ HG.out 3 _ rfl)
        have b3 : wr.cell? ⟨b', off_ + k * 5 + 3, none⟩ = some (.string fb) := (hbel.cell (p := ⟨b', off_ + k * 5 + 3, none⟩) hlt').trans (HB.out k _ HG.out 3 _ rfl)
        have a4 : wr.cell? ⟨b, off + k * 5 + 4, none⟩ = some (.bool fa) := (hbel.cell (p := ⟨b, off + k * 5 + 4, none⟩) hlt).trans (HA.out k _ HG.out 4 _ rfl)
        have b4 : wr.cell? ⟨b', off_ + k * 5 + 4, none⟩ = some (.bool fa) := (hbel.cell (p := ⟨b', off_ + k * 5 + 4, none⟩) hlt').trans (HB.out k _ HG.out 4 _ rfl)
        have hone := eq_one ⟨fq, fx, fk, fb, fa⟩ wr.drew
        have i2 : (k : Int) < (l.length : Int) := by omega
        clear he
        go_wp2
        go_region_with (go_at_call 21; refine hone.mono ?_; rintro e w1 ⟨rfl, hb1⟩)
        all_goals go_wp2
        all_goals go_roundw
        all_goals first | exact ⟨k + 1, by omega, by go_num, hbel.drew.trans (hb1.mono hbs)⟩ | (simp [intOf]; omega)
      · obtain rfl : k = l.length := by omega
        go_wp2
        go_ret
        exact ⟨rfl, hbel⟩
end Go.Proofs.YtpkljkahdclcgaaGreat.flM
