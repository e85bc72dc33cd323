/- A law's argument of routes, laid anew as the program's own: the laws' toExchange, toBinding and their kin; new memory alone. -/
import Derived.Test.YtpkljkahdclcgaaGreatRouteSize
import Derived.Laws.MakeOwn
namespace Go.Proofs.YtpkljkahdclcgaaGreat.rt
open Go.ChangeShapes Go.WideShapes Go.ChangeAt Go.RowKit Go.Proofs.YtpkljkahdclcgaaGreat.rr Go.Proofs.YtpkljkahdclcgaaGreat.ra
set_option linter.unusedVariables false

theorem to_oneE (e : Ex) (w : World) : Calls Tryz.prog 154 #[.agg #[.string e.n, .int .i64 e.k]] w fun r w' => r = .returned (.agg #[.string e.n, .int .i64 e.k]) ∧ Below w.heap.size w w' := by
  obtain ⟨en, ek⟩ := e
  go_enter Tryz.func154, Tryz.ntmps154
  go_wp2
  refine bodyPost_ret (v := .agg #[.string en, .int .i64 ek]) (by simp [results, Tryz.results154, go_sem]) rfl ⟨rfl, ?_⟩
  repeat (first | exact Below.refl _ _ | refine Below.setCell ?_ ?_ _ | refine Below.alloc ?_ ?_ _)
  all_goals (simp; try omega)

theorem to_oneB (e : Bi) (w : World) : Calls Tryz.prog 155 #[.agg #[.string e.x, .string e.k, .string e.q]] w fun r w' => r = .returned (.agg #[.string e.x, .string e.k, .string e.q]) ∧ Below w.heap.size w w' := by
  obtain ⟨ex, ek, eq⟩ := e
  go_enter Tryz.func155, Tryz.ntmps155
  go_wp2
  refine bodyPost_ret (v := .agg #[.string ex, .string ek, .string eq]) (by simp [results, Tryz.results155, go_sem]) rfl ⟨rfl, ?_⟩
  repeat (first | exact Below.refl _ _ | refine Below.setCell ?_ ?_ _ | refine Below.alloc ?_ ?_ _)
  all_goals (simp; try omega)

theorem infoE : (Tryz.prog.info? 125).map (fun i => (i.zero, i.size, i.bytes)) = some (some (.agg #[.string ByteArray.empty, .int .i64 0]), 2, 24) := by kernel_rfl
/-- block g is a row of its own for l; the first k are laid -/
def FE (w : World) (g : Nat) (l : List Ex) (k : Nat) : Prop := ∃ cur, w.heap[g]? = some (.cells cur 125 (0, 0)) ∧ l.length * 2 ≤ cur.size ∧ ∀ (i : Nat) (e : Ex), i < k → l[i]? = some e → cur[i * 2]? = some (.string e.n) ∧ cur[i * 2 + 1]? = some (.int .i64 e.k)
theorem FE.at {w : World} {g k : Nat} {l : List Ex} (h : FE w g l k) (o : Nat) (ho : o < l.length * 2) : ∃ v, w.cell? ⟨g, o, none⟩ = some v := by
  obtain ⟨cur, hg, hs, _⟩ := h
  exact ⟨cur[o]'(by omega), by simp [World.cell?, hg, Array.getElem?_eq_getElem (show o < cur.size by omega)]⟩
theorem FE.free {w : World} {g k : Nat} {l : List Ex} (h : FE w g l k) (o : Nat) : w.frozen? ⟨g, o, none⟩ = false := by
  obtain ⟨cur, hg, _⟩ := h
  simp [World.frozen?, hg]
theorem FE.below {w w' : World} {g k B : Nat} {l : List Ex} (h : FE w g l k) (hb : Below B w w') (hg : g < B) : FE w' g l k := by
  obtain ⟨cur, h1, h2⟩ := h
  exact ⟨cur, by rw [hb.block g hg]; exact h1, h2⟩
theorem FE.lt {w : World} {g k : Nat} {l : List Ex} (h : FE w g l k) : g < w.heap.size := by
  obtain ⟨cur, hg, _⟩ := h
  exact (Array.getElem?_eq_some_iff.1 hg).1
theorem FE.set {w : World} {g k : Nat} {l : List Ex} {e : Ex} (h : FE w g l k) (he : l[k]? = some e) : FE ((w.setCell ⟨g, k * 2, none⟩ (.string e.n)).setCell ⟨g, k * 2 + 1, none⟩ (.int .i64 e.k)) g l (k + 1) := by
  obtain ⟨cur, h1, h2, h3⟩ := h
  have hk := (List.getElem?_eq_some_iff.1 he).1
  have s0 := heap_setCell_same w g (k * 2) cur _ (.string e.n) h1
  have s1 := heap_setCell_same (w.setCell ⟨g, k * 2, none⟩ (.string e.n)) g (k * 2 + 1) (cur.setIfInBounds (k * 2) (.string e.n)) _ (.int .i64 e.k) s0
  refine ⟨_, s1, by simpa using h2, fun i f hi hf => ?_⟩
  by_cases ei : i = k
  · subst ei
    rw [he] at hf
    cases hf
    simp [Array.getElem?_setIfInBounds]
    omega
  · have hold := h3 i f (by omega) hf
    simp only [Array.getElem?_setIfInBounds]
    repeat rw [if_neg (by omega)]
    exact hold
theorem FE.all {w : World} {g : Nat} {l : List Ex} (h : FE w g l l.length) : RE w g l := by
  have hlt := h.lt
  obtain ⟨cur, hg, _, hc⟩ := h
  refine ⟨hlt, fun i e he => ?_⟩
  have hx := hc i e (List.getElem?_eq_some_iff.1 he).1 he
  simp only [World.cell?, hg]
  simpa using hx
theorem madeE (w : World) (l : List Ex) : FE (w.alloc (.cells (madeCells #[.string ByteArray.empty, .int .i64 0] (l.length * 2)) 125)) w.heap.size l 0 :=
  ⟨_, heap_alloc_new w _, Nat.le_of_eq (size_madeCells _ _).symm, fun i e hi => by omega⟩

set_option maxRecDepth 100000 in
set_option maxHeartbeats 1000000 in
theorem to_allE (l : List Ex) (a : Option Addr) (cap : Nat) (w : World) (hl : l.length ≤ 1048576) (hS : SE w w.heap.size a l) :
    Calls Tryz.prog 86 #[.slice a l.length cap] w fun e w' => e = .returned (.slice (some ⟨w.heap.size, 0, none⟩) l.length l.length) ∧ RE w' w.heap.size l ∧ Below w.heap.size w w' := by
  obtain ⟨i0, hi, hz0, hz1, hz2⟩ : ∃ i0, Tryz.prog.info? 125 = some i0 ∧ i0.zero = some (.agg #[.string ByteArray.empty, .int .i64 0]) ∧ i0.size = 2 ∧ i0.bytes = 24 := by
    have h := infoE
    cases hh : Tryz.prog.info? 125 with
    | none => rw [hh] at h; cases h
    | some i => rw [hh] at h; simp at h; exact ⟨i, rfl, h.1, h.2.1, h.2.2⟩
  have hmk := run_makeSlice (P := Tryz.prog) w 32 125 i0 _ Tryz.underlying32 hi hz0 .i64 .i64 (l.length : Int) (l.length : Int) (by omega) (Int.le_refl _) (by rw [hz1]; simp; omega) (by rw [hz2]; omega) (by omega)
  rw [hz1, show ((l.length : Int)).toNat = l.length by omega] at hmk
  have hmk2 : (Instr.makeSlice 32 (.int .i64 (l.length : Int)) (.int .i64 (l.length : Int))).run Tryz.prog w = .ok (.slice (some ⟨w.heap.size, 0, none⟩) l.length l.length) (w.alloc (.cells (madeCells #[.string ByteArray.empty, .int .i64 0] (l.length * 2)) 125)) := hmk
  have hf0 := madeE w l
  have hb0 : Below w.heap.size w (w.alloc (.cells (madeCells #[.string ByteArray.empty, .int .i64 0] (l.length * 2)) 125)) := (Below.refl _ _).alloc (Nat.le_refl _) _
  obtain ⟨W, hW⟩ : ∃ W, w.alloc (.cells (madeCells #[.string ByteArray.empty, .int .i64 0] (l.length * 2)) 125) = W := ⟨_, rfl⟩
  rw [hW] at hmk2 hf0 hb0
  have HF0 : Hid (FE W w.heap.size l 0) := hf0
  clear hmk hW hf0
  rcases hS with rfl | ⟨b, off, rfl, hlt, hc⟩
  · have hmk3 : (Instr.makeSlice 32 (.int .i64 0) (.int .i64 0)).run Tryz.prog w = .ok (.slice (some ⟨w.heap.size, 0, none⟩) 0 0) W := by simpa using hmk2
    clear hmk2
    go_enter Tryz.func86, Tryz.ntmps86
    go_wp2
    refine wp_loop_rounds 1 ?_
    rw [rounds_succ]
    go_wp2
    go_ret
    exact ⟨rfl, HF0.out.all, hb0⟩
  · have HC : Hid (∀ (i : Nat) (e : Ex), l[i]? = some e → w.cell? ⟨b, off + i * 2, none⟩ = some (.string e.n) ∧ w.cell? ⟨b, off + i * 2 + 1, none⟩ = some (.int .i64 e.k)) := hc
    clear hc
    go_enter Tryz.func86, Tryz.ntmps86
    go_wp2
    go_loopw [4] (fun x wr => ∃ k : Nat, k ≤ l.length ∧ x = .int .i64 k ∧ Below w.heap.size w wr ∧ Hid (FE wr w.heap.size l k)) (fun x _ => l.length - (intOf x).toNat)
    case atStart => exact ⟨0, Nat.zero_le _, rfl, hb0, HF0⟩
    case round =>
      obtain ⟨k, hk, rfl, hbel, hf⟩ := hrel
      have hbs := hbel.size
      by_cases hkl : k < l.length
      · have g0 : l[k]? = some l[k] := List.getElem?_eq_getElem hkl
        obtain ⟨a0, a1⟩ := HC.out k l[k] g0
        have c0 := (hbel.cell (p := ⟨b, off + k * 2, none⟩) hlt).trans a0
        have c1 := (hbel.cell (p := ⟨b, off + k * 2 + 1, none⟩) hlt).trans a1
        have HG : Hid (l[k]? = some l[k]) := g0
        obtain ⟨⟨en, ek⟩, he⟩ : ∃ e, l[k] = e := ⟨_, rfl⟩
        rw [he] at c0 c1 HG
        have hone := to_oneE ⟨en, ek⟩ wr
        have hfl := hf.out.lt
        clear g0 he a0 a1
        go_wp2_with (go_at_call 154; refine hone.mono ?_; rintro e w1 ⟨rfl, hb1⟩; have hf1 := hf.out.below hb1 hfl; obtain ⟨v0, g0⟩ := hf1.at (k * 2) (by omega); have z0 := hf1.free (k * 2); obtain ⟨v1, g1⟩ := hf1.at (k * 2 + 1) (by omega); have z1 := hf1.free (k * 2 + 1); have HN : Hid (FE ((w1.setCell ⟨w.heap.size, k * 2, none⟩ (.string en)).setCell ⟨w.heap.size, k * 2 + 1, none⟩ (.int .i64 ek)) w.heap.size l (k + 1)) := FE.set (e := ⟨en, ek⟩) hf1 HG.out; clear hf1)
        go_roundw
        case rel => exact ⟨k + 1, by omega, by go_num, (((hbel.trans (hb1.mono hbs)).setCell (Nat.le_refl _) _).setCell (Nat.le_refl _) _), HN⟩
        case measure => simp [intOf]; omega
      · obtain rfl : k = l.length := by omega
        go_wp2
        go_ret
        exact ⟨rfl, hf.out.all, hbel⟩

theorem infoB : (Tryz.prog.info? 127).map (fun i => (i.zero, i.size, i.bytes)) = some (some (.agg #[.string ByteArray.empty, .string ByteArray.empty, .string ByteArray.empty]), 3, 48) := by kernel_rfl
/-- block g is a row of its own for l; the first k are laid -/
def FB (w : World) (g : Nat) (l : List Bi) (k : Nat) : Prop := ∃ cur, w.heap[g]? = some (.cells cur 127 (0, 0)) ∧ l.length * 3 ≤ cur.size ∧ ∀ (i : Nat) (e : Bi), i < k → l[i]? = some e → cur[i * 3]? = some (.string e.x) ∧ cur[i * 3 + 1]? = some (.string e.k) ∧ cur[i * 3 + 2]? = some (.string e.q)
theorem FB.at {w : World} {g k : Nat} {l : List Bi} (h : FB w g l k) (o : Nat) (ho : o < l.length * 3) : ∃ v, w.cell? ⟨g, o, none⟩ = some v := by
  obtain ⟨cur, hg, hs, _⟩ := h
  exact ⟨cur[o]'(by omega), by simp [World.cell?, hg, Array.getElem?_eq_getElem (show o < cur.size by omega)]⟩
theorem FB.free {w : World} {g k : Nat} {l : List Bi} (h : FB w g l k) (o : Nat) : w.frozen? ⟨g, o, none⟩ = false := by
  obtain ⟨cur, hg, _⟩ := h
  simp [World.frozen?, hg]
theorem FB.below {w w' : World} {g k B : Nat} {l : List Bi} (h : FB w g l k) (hb : Below B w w') (hg : g < B) : FB w' g l k := by
  obtain ⟨cur, h1, h2⟩ := h
  exact ⟨cur, by rw [hb.block g hg]; exact h1, h2⟩
theorem FB.lt {w : World} {g k : Nat} {l : List Bi} (h : FB w g l k) : g < w.heap.size := by
  obtain ⟨cur, hg, _⟩ := h
  exact (Array.getElem?_eq_some_iff.1 hg).1
theorem FB.set {w : World} {g k : Nat} {l : List Bi} {e : Bi} (h : FB w g l k) (he : l[k]? = some e) : FB (((w.setCell ⟨g, k * 3, none⟩ (.string e.x)).setCell ⟨g, k * 3 + 1, none⟩ (.string e.k)).setCell ⟨g, k * 3 + 2, none⟩ (.string e.q)) g l (k + 1) := by
  obtain ⟨cur, h1, h2, h3⟩ := h
  have hk := (List.getElem?_eq_some_iff.1 he).1
  have s0 := heap_setCell_same w g (k * 3) cur _ (.string e.x) h1
  have s1 := heap_setCell_same (w.setCell ⟨g, k * 3, none⟩ (.string e.x)) g (k * 3 + 1) (cur.setIfInBounds (k * 3) (.string e.x)) _ (.string e.k) s0
  have s2 := heap_setCell_same ((w.setCell ⟨g, k * 3, none⟩ (.string e.x)).setCell ⟨g, k * 3 + 1, none⟩ (.string e.k)) g (k * 3 + 2) ((cur.setIfInBounds (k * 3) (.string e.x)).setIfInBounds (k * 3 + 1) (.string e.k)) _ (.string e.q) s1
  refine ⟨_, s2, by simpa using h2, fun i f hi hf => ?_⟩
  by_cases ei : i = k
  · subst ei
    rw [he] at hf
    cases hf
    simp [Array.getElem?_setIfInBounds]
    omega
  · have hold := h3 i f (by omega) hf
    simp only [Array.getElem?_setIfInBounds]
    repeat rw [if_neg (by omega)]
    exact hold
theorem FB.all {w : World} {g : Nat} {l : List Bi} (h : FB w g l l.length) : RB w g l := by
  have hlt := h.lt
  obtain ⟨cur, hg, _, hc⟩ := h
  refine ⟨hlt, fun i e he => ?_⟩
  have hx := hc i e (List.getElem?_eq_some_iff.1 he).1 he
  simp only [World.cell?, hg]
  simpa using hx
theorem madeB (w : World) (l : List Bi) : FB (w.alloc (.cells (madeCells #[.string ByteArray.empty, .string ByteArray.empty, .string ByteArray.empty] (l.length * 3)) 127)) w.heap.size l 0 :=
  ⟨_, heap_alloc_new w _, Nat.le_of_eq (size_madeCells _ _).symm, fun i e hi => by omega⟩

set_option maxRecDepth 100000 in
set_option maxHeartbeats 1000000 in
theorem to_allB (l : List Bi) (a : Option Addr) (cap : Nat) (w : World) (hl : l.length ≤ 1048576) (hS : SB w w.heap.size a l) :
    Calls Tryz.prog 87 #[.slice a l.length cap] w fun e w' => e = .returned (.slice (some ⟨w.heap.size, 0, none⟩) l.length l.length) ∧ RB w' w.heap.size l ∧ Below w.heap.size w w' := by
  obtain ⟨i0, hi, hz0, hz1, hz2⟩ : ∃ i0, Tryz.prog.info? 127 = some i0 ∧ i0.zero = some (.agg #[.string ByteArray.empty, .string ByteArray.empty, .string ByteArray.empty]) ∧ i0.size = 3 ∧ i0.bytes = 48 := by
    have h := infoB
    cases hh : Tryz.prog.info? 127 with
    | none => rw [hh] at h; cases h
    | some i => rw [hh] at h; simp at h; exact ⟨i, rfl, h.1, h.2.1, h.2.2⟩
  have hmk := run_makeSlice (P := Tryz.prog) w 33 127 i0 _ Tryz.underlying33 hi hz0 .i64 .i64 (l.length : Int) (l.length : Int) (by omega) (Int.le_refl _) (by rw [hz1]; simp; omega) (by rw [hz2]; omega) (by omega)
  rw [hz1, show ((l.length : Int)).toNat = l.length by omega] at hmk
  have hmk2 : (Instr.makeSlice 33 (.int .i64 (l.length : Int)) (.int .i64 (l.length : Int))).run Tryz.prog w = .ok (.slice (some ⟨w.heap.size, 0, none⟩) l.length l.length) (w.alloc (.cells (madeCells #[.string ByteArray.empty, .string ByteArray.empty, .string ByteArray.empty] (l.length * 3)) 127)) := hmk
  have hf0 := madeB w l
  have hb0 : Below w.heap.size w (w.alloc (.cells (madeCells #[.string ByteArray.empty, .string ByteArray.empty, .string ByteArray.empty] (l.length * 3)) 127)) := (Below.refl _ _).alloc (Nat.le_refl _) _
  obtain ⟨W, hW⟩ : ∃ W, w.alloc (.cells (madeCells #[.string ByteArray.empty, .string ByteArray.empty, .string ByteArray.empty] (l.length * 3)) 127) = W := ⟨_, rfl⟩
  rw [hW] at hmk2 hf0 hb0
  have HF0 : Hid (FB W w.heap.size l 0) := hf0
  clear hmk hW hf0
  rcases hS with rfl | ⟨b, off, rfl, hlt, hc⟩
  · have hmk3 : (Instr.makeSlice 33 (.int .i64 0) (.int .i64 0)).run Tryz.prog w = .ok (.slice (some ⟨w.heap.size, 0, none⟩) 0 0) W := by simpa using hmk2
    clear hmk2
    go_enter Tryz.func87, Tryz.ntmps87
    go_wp2
    refine wp_loop_rounds 1 ?_
    rw [rounds_succ]
    go_wp2
    go_ret
    exact ⟨rfl, HF0.out.all, hb0⟩
  · have HC : Hid (∀ (i : Nat) (e : Bi), l[i]? = some e → w.cell? ⟨b, off + i * 3, none⟩ = some (.string e.x) ∧ w.cell? ⟨b, off + i * 3 + 1, none⟩ = some (.string e.k) ∧ w.cell? ⟨b, off + i * 3 + 2, none⟩ = some (.string e.q)) := hc
    clear hc
    go_enter Tryz.func87, Tryz.ntmps87
    go_wp2
    go_loopw [4] (fun x wr => ∃ k : Nat, k ≤ l.length ∧ x = .int .i64 k ∧ Below w.heap.size w wr ∧ Hid (FB wr w.heap.size l k)) (fun x _ => l.length - (intOf x).toNat)
    case atStart => exact ⟨0, Nat.zero_le _, rfl, hb0, HF0⟩
    case round =>
      obtain ⟨k, hk, rfl, hbel, hf⟩ := hrel
      have hbs := hbel.size
      by_cases hkl : k < l.length
      · have g0 : l[k]? = some l[k] := List.getElem?_eq_getElem hkl
        obtain ⟨a0, a1, a2⟩ := HC.out k l[k] g0
        have c0 := (hbel.cell (p := ⟨b, off + k * 3, none⟩) hlt).trans a0
        have c1 := (hbel.cell (p := ⟨b, off + k * 3 + 1, none⟩) hlt).trans a1
        have c2 := (hbel.cell (p := ⟨b, off + k * 3 + 2, none⟩) hlt).trans a2
        have HG : Hid (l[k]? = some l[k]) := g0
        obtain ⟨⟨ex, ek, eq⟩, he⟩ : ∃ e, l[k] = e := ⟨_, rfl⟩
        rw [he] at c0 c1 c2 HG
        have hone := to_oneB ⟨ex, ek, eq⟩ wr
        have hfl := hf.out.lt
        clear g0 he a0 a1 a2
        go_wp2_with (go_at_call 155; refine hone.mono ?_; rintro e w1 ⟨rfl, hb1⟩; have hf1 := hf.out.below hb1 hfl; obtain ⟨v0, g0⟩ := hf1.at (k * 3) (by omega); have z0 := hf1.free (k * 3); obtain ⟨v1, g1⟩ := hf1.at (k * 3 + 1) (by omega); have z1 := hf1.free (k * 3 + 1); obtain ⟨v2, g2⟩ := hf1.at (k * 3 + 2) (by omega); have z2 := hf1.free (k * 3 + 2); have HN : Hid (FB (((w1.setCell ⟨w.heap.size, k * 3, none⟩ (.string ex)).setCell ⟨w.heap.size, k * 3 + 1, none⟩ (.string ek)).setCell ⟨w.heap.size, k * 3 + 2, none⟩ (.string eq)) w.heap.size l (k + 1)) := FB.set (e := ⟨ex, ek, eq⟩) hf1 HG.out; clear hf1)
        go_roundw
        case rel => exact ⟨k + 1, by omega, by go_num, ((((hbel.trans (hb1.mono hbs)).setCell (Nat.le_refl _) _).setCell (Nat.le_refl _) _).setCell (Nat.le_refl _) _), HN⟩
        case measure => simp [intOf]; omega
      · obtain rfl : k = l.length := by omega
        go_wp2
        go_ret
        exact ⟨rfl, hf.out.all, hbel⟩
end Go.Proofs.YtpkljkahdclcgaaGreat.rt
