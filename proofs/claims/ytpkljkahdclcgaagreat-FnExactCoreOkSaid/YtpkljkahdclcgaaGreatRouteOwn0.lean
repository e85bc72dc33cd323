/- Routes laid anew for a law, in rows of their own; and the laws' marks in routes: laid, and held. -/
import Derived.Test.YtpkljkahdclcgaaGreatRouteLib
import Derived.Test.YtpkljkahdclcgaaGreatFlatLib
import Derived.Test.YtpkljkahdclcgaaGreatRouteMarksB0
namespace Go.Proofs.YtpkljkahdclcgaaGreat.ro2
open Go.ChangeShapes Go.WideShapes Go.ChangeAt Go.RowKit Go.Proofs.YtpkljkahdclcgaaGreat.rr Go.Proofs.YtpkljkahdclcgaaGreat.ra Go.Proofs.YtpkljkahdclcgaaGreat.rt Go.Proofs.YtpkljkahdclcgaaGreat.fl Go.Proofs.YtpkljkahdclcgaaGreat.rm
set_option linter.unusedVariables false

theorem keptE {w w' : World} {g k : Nat} {l : List Ex} (h : FE w g l k) (hg : w'.heap[g]? = w.heap[g]?) : FE w' g l k := by
  obtain ⟨cur, h1, h2⟩ := h
  exact ⟨cur, by rw [hg]; exact h1, h2⟩
theorem keptB {w w' : World} {g k : Nat} {l : List Bi} (h : FB w g l k) (hg : w'.heap[g]? = w.heap[g]?) : FB w' g l k := by
  obtain ⟨cur, h1, h2⟩ := h
  exact ⟨cur, by rw [hg]; exact h1, h2⟩


set_option maxRecDepth 100000 in
set_option maxHeartbeats 1000000 in
theorem to_allE (l : List Ex) (a : Option Addr) (cap : Nat) (w : World) (hl : l.length ≤ 1048576) (hS : SE w w.heap.size a l) :
    Calls Tryz.prog 86 #[.slice a l.length cap] w fun e w' => e = .returned (.slice (some ⟨w.heap.size, 0, none⟩) l.length l.length) ∧ FE w' w.heap.size l l.length ∧ Below w.heap.size w w' := by
  obtain ⟨i0, hi, hz0, hz1, hz2⟩ : ∃ i0, Tryz.prog.info? 125 = some i0 ∧ i0.zero = some (.agg #[.string ByteArray.empty, .int .i64 0]) ∧ i0.size = 2 ∧ i0.bytes = 24 := by
    have h := infoE
    cases hh : Tryz.prog.info? 125 with
    | none => rw [hh] at h; cases h
    | some i => rw [hh] at h; simp at h; exact ⟨i, rfl, h.1, h.2.1, h.2.2⟩
  have hmk := run_makeSlice (P := Tryz.prog) w 32 125 i0 _ Tryz.underlying32 hi hz0 .i64 .i64 (l.length : Int) (l.length : Int) (by omega) (Int.le_refl _) (by rw [hz1]; simp; omega) (by rw [hz2]; omega) (by omega)
  rw [hz1, show ((l.length : Int)).toNat = l.length by omega] at hmk
  have hmk2 : (Instr.makeSlice 32 (.int .i64 (l.length : Int)) (.int .i64 (l.length : Int))).run Tryz.prog w = .ok (.slice (some ⟨w.heap.size, 0, none⟩) l.length l.length) (w.alloc (.cells (madeCells #[.string ByteArray.empty, .int .i64 0] (l.length * 2)) 125)) := hmk
  have hf0 := madeE w l
  have hb0 : Below w.heap.size w (w.alloc (.cells (madeCells #[.string ByteArray.empty, .int .i64 0] (l.length * 2)) 125)) := (Below.refl _ _).alloc (Nat.le_refl _) _
  obtain ⟨W, hW⟩ : ∃ W, w.alloc (.cells (madeCells #[.string ByteArray.empty, .int .i64 0] (l.length * 2)) 125) = W := ⟨_, rfl⟩
  rw [hW] at hmk2 hf0 hb0
  have HF0 : Hid (FE W w.heap.size l 0) := hf0
  clear hmk hW hf0
  rcases hS with rfl | ⟨b, off, rfl, hlt, hc⟩
  · have hmk3 : (Instr.makeSlice 32 (.int .i64 0) (.int .i64 0)).run Tryz.prog w = .ok (.slice (some ⟨w.heap.size, 0, none⟩) 0 0) W := by simpa using hmk2
    clear hmk2
    go_enter Tryz.func86, Tryz.ntmps86
    go_wp2
    refine wp_loop_rounds 1 ?_
    rw [rounds_succ]
    go_wp2
    go_ret
    exact ⟨rfl, HF0.out, hb0⟩
  · have HC : Hid (∀ (i : Nat) (e : Ex), l[i]? = some e → w.cell? ⟨b, off + i * 2, none⟩ = some (.string e.n) ∧ w.cell? ⟨b, off + i * 2 + 1, none⟩ = some (.int .i64 e.k)) := hc
    clear hc
    go_enter Tryz.func86, Tryz.ntmps86
    go_wp2
    go_loopw [4] (fun x wr => ∃ k : Nat, k ≤ l.length ∧ x = .int .i64 k ∧ Below w.heap.size w wr ∧ Hid (FE wr w.heap.size l k)) (fun x _ => l.length - (intOf x).toNat)
    case atStart => exact ⟨0, Nat.zero_le _, rfl, hb0, HF0⟩
    case round =>
      obtain ⟨k, hk, rfl, hbel, hf⟩ := hrel
      have hbs := hbel.size
      by_cases hkl : k < l.length
      · have g0 : l[k]? = some l[k] := List.getElem?_eq_getElem hkl
        obtain ⟨a0, a1⟩ := HC.out k l[k] g0
        have c0 := (hbel.cell (p := ⟨b, off + k * 2, none⟩) hlt).trans a0
        have c1 := (hbel.cell (p := ⟨b, off + k * 2 + 1, none⟩) hlt).trans a1
        have HG : Hid (l[k]? = some l[k]) := g0
        obtain ⟨⟨en, ek⟩, he⟩ : ∃ e, l[k] = e := ⟨_, rfl⟩
        rw [he] at c0 c1 HG
        have hone := to_oneE ⟨en, ek⟩ wr
        have hfl := hf.out.lt
        clear g0 he a0 a1
        go_wp2_with (go_at_call 154; refine hone.mono ?_; rintro e w1 ⟨rfl, hb1⟩; have hf1 := hf.out.below hb1 hfl; obtain ⟨v0, g0⟩ := hf1.at (k * 2) (by omega); have z0 := hf1.free (k * 2); obtain ⟨v1, g1⟩ := hf1.at (k * 2 + 1) (by omega); have z1 := hf1.free (k * 2 + 1); have HN : Hid (FE ((w1.setCell ⟨w.heap.size, k * 2, none⟩ (.string en)).setCell ⟨w.heap.size, k * 2 + 1, none⟩ (.int .i64 ek)) w.heap.size l (k + 1)) := FE.set (e := ⟨en, ek⟩) hf1 HG.out; clear hf1)
        go_roundw
        case rel => exact ⟨k + 1, by omega, by go_num, (((hbel.trans (hb1.mono hbs)).setCell (Nat.le_refl _) _).setCell (Nat.le_refl _) _), HN⟩
        case measure => simp [intOf]; omega
      · obtain rfl : k = l.length := by omega
        go_wp2
        go_ret
        exact ⟨rfl, hf.out, hbel⟩

set_option maxRecDepth 100000 in
set_option maxHeartbeats 1000000 in
theorem to_allB (l : List Bi) (a : Option Addr) (cap : Nat) (w : World) (hl : l.length ≤ 1048576) (hS : SB w w.heap.size a l) :
    Calls Tryz.prog 87 #[.slice a l.length cap] w fun e w' => e = .returned (.slice (some ⟨w.heap.size, 0, none⟩) l.length l.length) ∧ FB w' w.heap.size l l.length ∧ Below w.heap.size w w' := by
  obtain ⟨i0, hi, hz0, hz1, hz2⟩ : ∃ i0, Tryz.prog.info? 127 = some i0 ∧ i0.zero = some (.agg #[.string ByteArray.empty, .string ByteArray.empty, .string ByteArray.empty]) ∧ i0.size = 3 ∧ i0.bytes = 48 := by
    have h := infoB
    cases hh : Tryz.prog.info? 127 with
    | none => rw [hh] at h; cases h
    | some i => rw [hh] at h; simp at h; exact ⟨i, rfl, h.1, h.2.1, h.2.2⟩
  have hmk := run_makeSlice (P := Tryz.prog) w 33 127 i0 _ Tryz.underlying33 hi hz0 .i64 .i64 (l.length : Int) (l.length : Int) (by omega) (Int.le_refl _) (by rw [hz1]; simp; omega) (by rw [hz2]; omega) (by omega)
  rw [hz1, show ((l.length : Int)).toNat = l.length by omega] at hmk
  have hmk2 : (Instr.makeSlice 33 (.int .i64 (l.length : Int)) (.int .i64 (l.length : Int))).run Tryz.prog w = .ok (.slice (some ⟨w.heap.size, 0, none⟩) l.length l.length) (w.alloc (.cells (madeCells #[.string ByteArray.empty, .string ByteArray.empty, .string ByteArray.empty] (l.length * 3)) 127)) := hmk
  have hf0 := madeB w l
  have hb0 : Below w.heap.size w (w.alloc (.cells (madeCells #[.string ByteArray.empty, .string ByteArray.empty, .string ByteArray.empty] (l.length * 3)) 127)) := (Below.refl _ _).alloc (Nat.le_refl _) _
  obtain ⟨W, hW⟩ : ∃ W, w.alloc (.cells (madeCells #[.string ByteArray.empty, .string ByteArray.empty, .string ByteArray.empty] (l.length * 3)) 127) = W := ⟨_, rfl⟩
  rw [hW] at hmk2 hf0 hb0
  have HF0 : Hid (FB W w.heap.size l 0) := hf0
  clear hmk hW hf0
  rcases hS with rfl | ⟨b, off, rfl, hlt, hc⟩
  · have hmk3 : (Instr.makeSlice 33 (.int .i64 0) (.int .i64 0)).run Tryz.prog w = .ok (.slice (some ⟨w.heap.size, 0, none⟩) 0 0) W := by simpa using hmk2
    clear hmk2
    go_enter Tryz.func87, Tryz.ntmps87
    go_wp2
    refine wp_loop_rounds 1 ?_
    rw [rounds_succ]
    go_wp2
    go_ret
    exact ⟨rfl, HF0.out, hb0⟩
  · have HC : Hid (∀ (i : Nat) (e : Bi), l[i]? = some e → w.cell? ⟨b, off + i * 3, none⟩ = some (.string e.x) ∧ w.cell? ⟨b, off + i * 3 + 1, none⟩ = some (.string e.k) ∧ w.cell? ⟨b, off + i * 3 + 2, none⟩ = some (.string e.q)) := hc
    clear hc
    go_enter Tryz.func87, Tryz.ntmps87
    go_wp2
    go_loopw [4] (fun x wr => ∃ k : Nat, k ≤ l.length ∧ x = .int .i64 k ∧ Below w.heap.size w wr ∧ Hid (FB wr w.heap.size l k)) (fun x _ => l.length - (intOf x).toNat)
    case atStart => exact ⟨0, Nat.zero_le _, rfl, hb0, HF0⟩
    case round =>
      obtain ⟨k, hk, rfl, hbel, hf⟩ := hrel
      have hbs := hbel.size
      by_cases hkl : k < l.length
      · have g0 : l[k]? = some l[k] := List.getElem?_eq_getElem hkl
        obtain ⟨a0, a1, a2⟩ := HC.out k l[k] g0
        have c0 := (hbel.cell (p := ⟨b, off + k * 3, none⟩) hlt).trans a0
        have c1 := (hbel.cell (p := ⟨b, off + k * 3 + 1, none⟩) hlt).trans a1
        have c2 := (hbel.cell (p := ⟨b, off + k * 3 + 2, none⟩) hlt).trans a2
        have HG : Hid (l[k]? = some l[k]) := g0
        obtain ⟨⟨ex, ek, eq⟩, he⟩ : ∃ e, l[k] = e := ⟨_, rfl⟩
        rw [he] at c0 c1 c2 HG
        have hone := to_oneB ⟨ex, ek, eq⟩ wr
        have hfl := hf.out.lt
        clear g0 he a0 a1 a2
        go_wp2_with (go_at_call 155; refine hone.mono ?_; rintro e w1 ⟨rfl, hb1⟩; have hf1 := hf.out.below hb1 hfl; obtain ⟨v0, g0⟩ := hf1.at (k * 3) (by omega); have z0 := hf1.free (k * 3); obtain ⟨v1, g1⟩ := hf1.at (k * 3 + 1) (by omega); have z1 := hf1.free (k * 3 + 1); obtain ⟨v2, g2⟩ := hf1.at (k * 3 + 2) (by omega); have z2 := hf1.free (k * 3 + 2); have HN : Hid (FB (((w1.setCell ⟨w.heap.size, k * 3, none⟩ (.string ex)).setCell ⟨w.heap.size, k * 3 + 1, none⟩ (.string ek)).setCell ⟨w.heap.size, k * 3 + 2, none⟩ (.string eq)) w.heap.size l (k + 1)) := FB.set (e := ⟨ex, ek, eq⟩) hf1 HG.out; clear hf1)
        go_roundw
        case rel => exact ⟨k + 1, by omega, by go_num, ((((hbel.trans (hb1.mono hbs)).setCell (Nat.le_refl _) _).setCell (Nat.le_refl _) _).setCell (Nat.le_refl _) _), HN⟩
        case measure => simp [intOf]; omega
      · obtain rfl : k = l.length := by omega
        go_wp2
        go_ret
        exact ⟨rfl, hf.out, hbel⟩
set_option maxRecDepth 100000 in
set_option maxHeartbeats 1000000 in
theorem to_routes (es : List Ex) (bs : List Bi) (ea ba : Option Addr) (ec bc : Nat) (w : World) (hel : es.length ≤ 1048576) (hbl : bs.length ≤ 1048576) (hE : SE w w.heap.size ea es) (hB : SB w w.heap.size ba bs) :
    Calls Tryz.prog 37 #[.agg #[.slice ea es.length ec, .slice ba bs.length bc]] w fun e w' => ∃ g h, e = .returned (.agg #[.slice (some ⟨g, 0, none⟩) es.length es.length, .slice (some ⟨h, 0, none⟩) bs.length bs.length]) ∧ w.heap.size ≤ g ∧ w.heap.size ≤ h ∧ g ≠ h ∧ FE w' g es es.length ∧ FB w' h bs bs.length ∧ Below w.heap.size w w' := by
  have hb : Below w.heap.size w (((w.alloc (.cells #[.slice ea es.length ec, .slice ba bs.length bc] 25)).alloc (.cells #[.slice none 0 0, .slice none 0 0] 35)).alloc (.cells #[.slice none 0 0, .slice none 0 0] 35)) := (((Below.refl _ _).alloc (Nat.le_refl _) _).alloc (by simp) _).alloc (by simp; omega) _
  have hA : (((w.alloc (.cells #[.slice ea es.length ec, .slice ba bs.length bc] 25)).alloc (.cells #[.slice none 0 0, .slice none 0 0] 35)).alloc (.cells #[.slice none 0 0, .slice none 0 0] 35)).heap[w.heap.size]? = some (.cells #[.slice ea es.length ec, .slice ba bs.length bc] 25 (0, 0)) := by
    rw [Below.heap_alloc _ _ _ (by simp; omega), Below.heap_alloc _ _ _ (by simp)]
    exact heap_alloc_new w _
  have hR : (((w.alloc (.cells #[.slice ea es.length ec, .slice ba bs.length bc] 25)).alloc (.cells #[.slice none 0 0, .slice none 0 0] 35)).alloc (.cells #[.slice none 0 0, .slice none 0 0] 35)).heap[w.heap.size + 1]? = some (.cells #[.slice none 0 0, .slice none 0 0] 35 (0, 0)) := by
    rw [Below.heap_alloc _ _ _ (by simp)]
    have := heap_alloc_new (w.alloc (.cells #[.slice ea es.length ec, .slice ba bs.length bc] 25)) (.cells #[.slice none 0 0, .slice none 0 0] 35)
    rwa [World.size_alloc] at this
  have hO : (((w.alloc (.cells #[.slice ea es.length ec, .slice ba bs.length bc] 25)).alloc (.cells #[.slice none 0 0, .slice none 0 0] 35)).alloc (.cells #[.slice none 0 0, .slice none 0 0] 35)).heap[w.heap.size + 1 + 1]? = some (.cells #[.slice none 0 0, .slice none 0 0] 35 (0, 0)) := by
    have := heap_alloc_new ((w.alloc (.cells #[.slice ea es.length ec, .slice ba bs.length bc] 25)).alloc (.cells #[.slice none 0 0, .slice none 0 0] 35)) (.cells #[.slice none 0 0, .slice none 0 0] 35)
    rwa [World.size_alloc, World.size_alloc] at this
  have hS : (((w.alloc (.cells #[.slice ea es.length ec, .slice ba bs.length bc] 25)).alloc (.cells #[.slice none 0 0, .slice none 0 0] 35)).alloc (.cells #[.slice none 0 0, .slice none 0 0] 35)).heap.size = w.heap.size + 3 := by simp
  obtain ⟨W, hW⟩ : ∃ W, ((w.alloc (.cells #[.slice ea es.length ec, .slice ba bs.length bc] 25)).alloc (.cells #[.slice none 0 0, .slice none 0 0] 35)).alloc (.cells #[.slice none 0 0, .slice none 0 0] 35) = W := ⟨_, rfl⟩
  rw [hW] at hb hA hR hO hS
  have he := to_allE es ea ec W hel (rl.SE.inn hE hb)
  have hS3 : w.heap.size + 3 ≤ W.heap.size := by omega
  have HSB : Hid (SB w w.heap.size ba bs) := hB
  have x0 : W.cell? ⟨w.heap.size, 0, none⟩ = some (.slice ea es.length ec) := by simp [World.cell?, hA]
  have HA : Hid (W.heap[w.heap.size]? = some (.cells #[.slice ea es.length ec, .slice ba bs.length bc] 25 (0, 0))) := hA
  have HR : Hid (W.heap[w.heap.size + 1]? = some (.cells #[.slice none 0 0, .slice none 0 0] 35 (0, 0))) := hR
  have HO : Hid (W.heap[w.heap.size + 1 + 1]? = some (.cells #[.slice none 0 0, .slice none 0 0] 35 (0, 0))) := hO
  clear hE hB hA hR hO hS
  go_enter Tryz.func37, Tryz.ntmps37
  go_wp2_with (go_at_call 86; fail)
  clear hW
  refine he.mono ?_
  rintro e w1 ⟨rfl, hre, hb1⟩
  have hs1 := hb1.size
  have o1 := (hb1.block (w.heap.size + 1 + 1) (by omega)).trans HO.out
  have o0c : w1.cell? ⟨w.heap.size + 1 + 1, 0, none⟩ = some (.slice none 0 0) := by simp [World.cell?, o1]
  have o0f : w1.frozen? ⟨w.heap.size + 1 + 1, 0, none⟩ = false := by simp [World.frozen?, o1]
  -- the row is stored
  have o2 := heap_setCell_same w1 (w.heap.size + 1 + 1) 0 _ _ (.slice (some ⟨W.heap.size, 0, none⟩) es.length es.length) o1
  have a2 := (Below.heap_setCell w1 ⟨w.heap.size + 1 + 1, 0, none⟩ (.slice (some ⟨W.heap.size, 0, none⟩) es.length es.length) w.heap.size (by show w.heap.size ≠ w.heap.size + 1 + 1; omega)).trans ((hb1.block w.heap.size (by omega)).trans HA.out)
  have r2 := (Below.heap_setCell w1 ⟨w.heap.size + 1 + 1, 0, none⟩ (.slice (some ⟨W.heap.size, 0, none⟩) es.length es.length) (w.heap.size + 1) (by show w.heap.size + 1 ≠ w.heap.size + 1 + 1; omega)).trans ((hb1.block (w.heap.size + 1) (by omega)).trans HR.out)
  have hbw2 : Below w.heap.size w (w1.setCell ⟨w.heap.size + 1 + 1, 0, none⟩ (.slice (some ⟨W.heap.size, 0, none⟩) es.length es.length)) := (hb.trans (hb1.mono (by omega))).setCell (by show w.heap.size ≤ w.heap.size + 1 + 1; omega) _
  have re2 : FE (w1.setCell ⟨w.heap.size + 1 + 1, 0, none⟩ (.slice (some ⟨W.heap.size, 0, none⟩) es.length es.length)) W.heap.size es es.length := keptE hre (Below.heap_setCell _ _ _ _ (by show W.heap.size ≠ w.heap.size + 1 + 1; omega))
  have hsz2 : (w1.setCell ⟨w.heap.size + 1 + 1, 0, none⟩ (.slice (some ⟨W.heap.size, 0, none⟩) es.length es.length)).heap.size = w1.heap.size := by simp
  have sb2 := rl.SB.inn HSB.out hbw2
  have hq := to_allB bs ba bc _ hbl sb2
  obtain ⟨W2, hW2⟩ : ∃ W2, w1.setCell ⟨w.heap.size + 1 + 1, 0, none⟩ (.slice (some ⟨W.heap.size, 0, none⟩) es.length es.length) = W2 := ⟨_, rfl⟩
  rw [hW2] at o2 a2 r2 hbw2 re2 hsz2 hq
  simp at o2
  have a1c : W2.cell? ⟨w.heap.size, 1, none⟩ = some (.slice ba bs.length bc) := by simp [World.cell?, a2]
  have HO2 : Hid (W2.heap[w.heap.size + 1 + 1]? = some (.cells #[.slice (some ⟨W.heap.size, 0, none⟩) es.length es.length, .slice none 0 0] 35 (0, 0))) := o2
  have HR2 : Hid (W2.heap[w.heap.size + 1]? = some (.cells #[.slice none 0 0, .slice none 0 0] 35 (0, 0))) := r2
  have HRE : Hid (FE W2 W.heap.size es es.length) := re2
  have hl2 : w.heap.size + 3 ≤ W2.heap.size := by omega
  clear he x0 hre o1 o2 a2 r2 re2 sb2
  go_wp2_with (go_at_call 87; fail)
  clear hW2
  refine hq.mono ?_
  rintro e w3 ⟨rfl, hrb, hb3⟩
  have hs3 := hb3.size
  have u := (hb3.block (w.heap.size + 1 + 1) (by omega)).trans HO2.out
  have v := (hb3.block (w.heap.size + 1) (by omega)).trans HR2.out
  have u0 : w3.cell? ⟨w.heap.size + 1 + 1, 0, none⟩ = some (.slice (some ⟨W.heap.size, 0, none⟩) es.length es.length) := by simp [World.cell?, u]
  have u1 : w3.cell? ⟨w.heap.size + 1 + 1, 1, none⟩ = some (.slice none 0 0) := by simp [World.cell?, u]
  have uf : w3.frozen? ⟨w.heap.size + 1 + 1, 1, none⟩ = false := by simp [World.frozen?, u]
  have v0 : w3.cell? ⟨w.heap.size + 1, 0, none⟩ = some (.slice none 0 0) := by simp [World.cell?, v]
  have v1 : w3.cell? ⟨w.heap.size + 1, 1, none⟩ = some (.slice none 0 0) := by simp [World.cell?, v]
  have vf0 : w3.frozen? ⟨w.heap.size + 1, 0, none⟩ = false := by simp [World.frozen?, v]
  have vf1 : w3.frozen? ⟨w.heap.size + 1, 1, none⟩ = false := by simp [World.frozen?, v]
  have HRB : Hid (FB w3 W2.heap.size bs bs.length) := hrb
  have HRE3 : Hid (FE w3 W.heap.size es es.length) := HRE.out.below hb3 HRE.out.lt
  have hbw3 : Below w.heap.size w w3 := hbw2.trans (hb3.mono (by omega))
  have q1 : W.heap.size ≤ w1.heap.size := hs1
  clear hq u v hrb a1c o0c o0f
  go_wp2
  refine bodyPost_ret (v := .agg #[.slice (some ⟨W.heap.size, 0, none⟩) es.length es.length, .slice (some ⟨W2.heap.size, 0, none⟩) bs.length bs.length]) (by simp [results, Tryz.results37, go_sem, v0, v1]) rfl ⟨W.heap.size, W2.heap.size, rfl, by omega, by omega, by have := HRE.out.lt; omega, ?_, ?_, ?_⟩
  · exact keptE (keptE (keptE HRE3.out (Below.heap_setCell _ _ _ _ (by show W.heap.size ≠ w.heap.size + 1 + 1; omega))) (Below.heap_setCell _ _ _ _ (by show W.heap.size ≠ w.heap.size + 1; omega))) (Below.heap_setCell _ _ _ _ (by show W.heap.size ≠ w.heap.size + 1; omega))
  · exact keptB (keptB (keptB HRB.out (Below.heap_setCell _ _ _ _ (by show W2.heap.size ≠ w.heap.size + 1 + 1; omega))) (Below.heap_setCell _ _ _ _ (by show W2.heap.size ≠ w.heap.size + 1; omega))) (Below.heap_setCell _ _ _ _ (by show W2.heap.size ≠ w.heap.size + 1; omega))
  · exact ((hbw3.setCell (by show w.heap.size ≤ w.heap.size + 1 + 1; omega) _).setCell (by show w.heap.size ≤ w.heap.size + 1; omega) _).setCell (by show w.heap.size ≤ w.heap.size + 1; omega) _
/-- nothing but two rows is turned -/
structure Tn (w w' : World) (a b : Nat) : Prop where
  os : w'.os = w.os
  tape : w'.tape = w.tape
  output : w'.output = w.output
  size : w.heap.size ≤ w'.heap.size
  block : ∀ k, k < w.heap.size → k ≠ a → k ≠ b → w'.heap[k]? = w.heap[k]?
theorem Tn.below {w w' : World} {a b B : Nat} (h : Tn w w' a b) (hs : B ≤ w.heap.size) (ha : B ≤ a) (hb : B ≤ b) : Below B w w' := ⟨h.os, h.tape, h.output, h.size, fun k hk => h.block k (by omega) (by omega) (by omega)⟩

set_option maxRecDepth 100000 in
theorem mark_routes (es : List Ex) (bs : List Bi) (g h ce cb : Nat) (w : World) (hel : es.length ≤ 1048576) (hbl : bs.length ≤ 1048576) (hgh : g ≠ h) (fe : FE w g es es.length) (fb : FB w h bs bs.length) :
    Calls Tryz.prog 58 #[.agg #[.slice (some ⟨g, 0, none⟩) es.length ce, .slice (some ⟨h, 0, none⟩) bs.length cb], .int .i64 1] w fun e w' => e = .returned (.int .i64 (1 + 2 * es.length + bs.length * 3 : Nat)) ∧ FE w' g (mksE 1 es.length) es.length ∧ FB w' h (mksB (1 + 2 * es.length) bs.length) bs.length ∧ Tn w w' g h := by
  have hal : Below w.heap.size w (w.alloc (.cells #[.slice (some ⟨g, 0, none⟩) es.length ce, .slice (some ⟨h, 0, none⟩) bs.length cb] 35)) := (Below.refl _ _).alloc (Nat.le_refl _) _
  have hA := bnew w #[.slice (some ⟨g, 0, none⟩) es.length ce, .slice (some ⟨h, 0, none⟩) bs.length cb] 35
  have hgl := fe.lt
  have hhl := fb.lt
  have fe1 := fe.below hal hgl
  have fb1 := fb.below hal hhl
  obtain ⟨W, hW⟩ : ∃ W, w.alloc (.cells #[.slice (some ⟨g, 0, none⟩) es.length ce, .slice (some ⟨h, 0, none⟩) bs.length cb] 35) = W := ⟨_, rfl⟩
  rw [hW] at hal hA fe1 fb1
  have hmE := mark_exs es.length g ce 1 W (by omega) (by omega) (anyE fe1 (mksE_len _ _))
  have x0 : W.cell? ⟨w.heap.size, 0, none⟩ = some (.slice (some ⟨g, 0, none⟩) es.length ce) := bcell hA rfl
  have HA : Hid (W.heap[w.heap.size]? = some (.cells #[.slice (some ⟨g, 0, none⟩) es.length ce, .slice (some ⟨h, 0, none⟩) bs.length cb] 35 (0, 0))) := hA
  have HFB : Hid (FB W h bs bs.length) := fb1
  have hWs := (Array.getElem?_eq_some_iff.1 hA).1
  clear fe fb fe1 fb1 hA
  go_enter Tryz.func58, Tryz.ntmps58
  go_wp2_with (go_at_call 126; fail)
  clear hW
  refine hmE.mono ?_
  rintro e w1 ⟨rfl, hg1, fe1⟩
  have x1 : w1.cell? ⟨w.heap.size, 1, none⟩ = some (.slice (some ⟨h, 0, none⟩) bs.length cb) := bcell ((hg1.block w.heap.size hWs (by simp; omega)).trans HA.out) rfl
  have fb1 : FB w1 h bs bs.length := keptB HFB.out (hg1.block h (by omega) (by simp; omega))
  have hmB := mark_bis bs.length h cb (1 + 2 * es.length) w1 (by omega) (by omega) (CB.of fb1)
  have HFE : Hid (FE w1 g (mksE 1 es.length) es.length) := fe1
  clear hmE x0 fe1 fb1
  go_wp2_with (go_at_call 127; fail)
  refine hmB.mono ?_
  rintro e w2 ⟨rfl, hg2, fb2⟩
  have HFB2 : Hid (FB w2 h (mksB (1 + 2 * es.length) bs.length) bs.length) := fb2
  clear hmB x1 fb2
  go_wp2
  go_ret
  refine ⟨rfl, keptE HFE.out (hg2.block g (by have := hg1.size; omega) (by simp; omega)), HFB2.out, hg2.os.trans (hg1.os.trans hal.os), hg2.tape.trans (hg1.tape.trans hal.tape), hg2.output.trans (hg1.output.trans hal.output), by have := hg1.size; have := hg2.size; have := hal.size; omega, fun k hk ha hb => ?_⟩
  have := hg1.size
  rw [hg2.block k (by omega) (by simpa using hb), hg1.block k (by omega) (by simpa using ha), hal.block k hk]

end Go.Proofs.YtpkljkahdclcgaaGreat.ro2
