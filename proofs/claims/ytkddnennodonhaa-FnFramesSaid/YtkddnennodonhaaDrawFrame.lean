/- The specification's draws of frames and of their bytes: some values within bounds; nothing that was there is turned. -/
import Derived.Test.YtkddnennodonhaaDrawBytes
import Derived.Test.YtkddnennodonhaaPutFrameWalks
import Derived.Test.YtkddnennodonhaaNextFrameWalks
import Derived.Deep.RegionWith
namespace Go.Proofs.Ytkddnennodonhaa.df
open Go.ChangeShapes Go.WideShapes Go.ChangeAt Go.RowKit Go.Proofs.Ytkddnennodonhaa.dw
set_option linter.unusedVariables false

theorem On.fresh {p b i : Nat} {a w : World} (h : On p a w) (hb : a.heap.size ≤ b) (v : Value) : On p a (w.setCell ⟨b, i, none⟩ v) :=
  ⟨h.os, h.tape, h.output, by simpa [World.setCell] using h.size, fun k hk hp => (Below.heap_setCell w ⟨b, i, none⟩ v k (by show k ≠ b; omega)).trans (h.block k hk hp)⟩
theorem Cur.other {w : World} {p b i : Nat} {a : Option Addr} {len cap : Nat} (h : Cur w p a len cap) (hb : p < b) (v : Value) : Cur (w.setCell ⟨b, i, none⟩ v) p a len cap := by
  have hp := h.lt
  obtain ⟨h1, h2, j, x, h3, h4⟩ := h
  have hblk : ∀ k, k ≠ b → (w.setCell ⟨b, i, none⟩ v).heap[k]? = w.heap[k]? := fun k hk => Below.heap_setCell w ⟨b, i, none⟩ v k hk
  refine ⟨h1, ?_, j, x, h3, by rw [hblk p (by omega)]; exact h4⟩
  rcases h2 with h | ⟨g, off, ha, hlt, hc⟩
  · exact .inl h
  · refine .inr ⟨g, off, ha, hlt, fun m hm => ?_⟩
    obtain ⟨u, hu, hcell⟩ := hc m hm
    refine ⟨u, hu, ?_⟩
    rw [← hcell]
    simp only [World.cell?, hblk g (by omega)]

def kinds : List Int := [1, 1, 2, 3, 8]
def badKinds : List Int := [0, 4, 9, -1]
def badChans : List Int := [-1, 65535, 65536]
theorem kinds_in : ∀ z ∈ kinds, -1 ≤ z ∧ z ≤ 9 := by decide
theorem badKinds_in : ∀ z ∈ badKinds, -1 ≤ z ∧ z ≤ 9 := by decide
theorem badChans_in : ∀ z ∈ badChans, -1 ≤ z ∧ z ≤ 65536 := by decide

/-- the answer's block and the frame's -/
def Two (W : World) (r b : Nat) (k c : Int) (s : ByteArray) : Prop := W.heap[r]? = some (.cells #[.int .i64 0, .int .i64 0, .string ⟨#[]⟩] 25 (0, 0)) ∧ W.heap[b]? = some (.cells #[.int .i64 k, .int .i64 c, .string s] 25 (0, 0))
theorem Two.on {W W' : World} {r b p : Nat} {k c : Int} {s : ByteArray} (h : Two W r b k c s) (hb : On p W W') (h1 : r ≠ p) (h2 : b ≠ p) : Two W' r b k c s :=
  ⟨(hb.block r (Array.getElem?_eq_some_iff.1 h.1).1 (by simpa using h1)).trans h.1, (hb.block b (Array.getElem?_eq_some_iff.1 h.2).1 (by simpa using h2)).trans h.2⟩
theorem Two.facts {W : World} {r b : Nat} {k c : Int} {s : ByteArray} (h : Two W r b k c s) :
    (W.cell? ⟨r, 0, none⟩ = some (.int .i64 0) ∧ W.cell? ⟨r, 1, none⟩ = some (.int .i64 0) ∧ W.cell? ⟨r, 2, none⟩ = some (.string ⟨#[]⟩)) ∧ (W.frozen? ⟨r, 0, none⟩ = false ∧ W.frozen? ⟨r, 1, none⟩ = false ∧ W.frozen? ⟨r, 2, none⟩ = false) ∧
    (W.cell? ⟨b, 0, none⟩ = some (.int .i64 k) ∧ W.cell? ⟨b, 1, none⟩ = some (.int .i64 c) ∧ W.cell? ⟨b, 2, none⟩ = some (.string s)) ∧ W.frozen? ⟨b, 0, none⟩ = false ∧ W.frozen? ⟨b, 1, none⟩ = false ∧ W.frozen? ⟨b, 2, none⟩ = false := by
  obtain ⟨h1, h2⟩ := h
  simp [World.cell?, World.frozen?, h1, h2]

set_option maxRecDepth 100000 in
set_option maxHeartbeats 2000000 in
theorem draw_frame (p : Nat) (a : Option Addr) (len cap : Nat) (w : World) (hc : Cur w p a len cap) :
    Calls Try.prog 57 #[.pointer (some ⟨p, 0, none⟩)] w fun e w' => (∃ (k c : Int) (s : ByteArray), -1 ≤ k ∧ k ≤ 9 ∧ -1 ≤ c ∧ c ≤ 65536 ∧ s.size ≤ 4001 ∧ e = .returned (.agg #[.int .i64 k, .int .i64 c, .string s])) ∧ Cur w' p a len cap ∧ On p w w' := by
  have hp := hc.lt
  have hc0 := hc.alloc (.cells #[.int .i64 0, .int .i64 0, .string ⟨#[]⟩] 25)
  have h1 := draw_pick_int p a len cap (w.alloc (.cells #[.int .i64 0, .int .i64 0, .string ⟨#[]⟩] 25)).heap.size 5 kinds _ (by omega) (by simp; omega) (at_list _ kinds 3) (hc0.alloc _)
  rw [World.size_alloc] at h1
  clear hc hc0
  go_enter Try.func57, Try.ntmps57
  have t1 : True := trivial
  go_wp2_with (first | (go_at_call 69; have _t := t1; refine h1.mono ?_; rintro e w1 ⟨⟨k, hk, rfl⟩, hc1, hb1⟩; clear t1))
  have hk1 := kinds_in k hk
  have h2 := draw_below p a len cap 4 w1 (by omega) hc1
  refine h2.mono ?_
  rintro e w2 ⟨⟨c, hcc, rfl⟩, hc2, hb2⟩
  have h3 := draw_below p a len cap 12 w2 (by omega) hc2
  clear h1 h2
  have t2 : True := trivial
  go_wp2_with (first | (go_at_call 67; have _t := t2; refine h3.mono ?_; rintro e w3 ⟨⟨m, hm, rfl⟩, hc3, hb3⟩; clear t2) | (go_at_call 61; refine (draw_bytes p a len cap m w3 (by omega) hc3).mono ?_; rintro e w4 ⟨⟨s, hs, rfl⟩, hc4, hb4⟩))
  have hsz1 : w.heap.size + 2 ≤ w1.heap.size := by have := hb1.size; simp at this; omega
  have hsz2 := hb2.size
  have hsz3 := hb3.size
  have hsz4 := hb4.size
  have h5 := draw_below p a len cap 20 _ (by omega) (hc4.alloc (.cells #[.int .i64 k, .int .i64 (c : Int), .string s] 25))
  refine h5.mono ?_
  rintro e w5 ⟨⟨x, hx, rfl⟩, hc5, hb5⟩
  have hon4 : On p w w4 := ((((((On.refl p w).alloc (.cells #[.int .i64 0, .int .i64 0, .string ⟨#[]⟩] 25)).alloc _).trans hb1).trans hb2).trans hb3).trans hb4
  have hon5 : On p w w5 := (hon4.alloc _).trans hb5
  have htw4 : Two (w4.alloc (.cells #[.int .i64 k, .int .i64 (c : Int), .string s] 25)) w.heap.size w4.heap.size k c s := by
    refine ⟨?_, heap_alloc_new w4 _⟩
    have hW : On p (w.alloc (.cells #[.int .i64 0, .int .i64 0, .string ⟨#[]⟩] 25)) w4 := (((((On.refl p _).alloc _).trans hb1).trans hb2).trans hb3).trans hb4
    rw [Below.heap_alloc w4 _ w.heap.size (by omega), hW.block w.heap.size (by simp) (by simp; omega)]
    exact heap_alloc_new w _
  have htw5 := htw4.on hb5 (by omega) (by omega)
  have hsz5 : w4.heap.size + 1 ≤ w5.heap.size := by have := hb5.size; simpa using this
  obtain ⟨⟨r0, r1, r2⟩, ⟨q0, q1, q2⟩, ⟨b0, b1, b2⟩, g0, g1, g2⟩ := htw5.facts
  have hbp : w4.heap.size ≠ p := by omega
  have hbr : w4.heap.size ≠ w.heap.size := by omega
  have HT : Hid (Two w5 w.heap.size w4.heap.size k c s) := htw5
  have HO : Hid (On p w w5) := hon5
  have HCUR : Hid (Cur w5 p a len cap) := hc5
  clear htw4 htw5 hon4 hon5 hb1 hb2 hb3 hb4 hb5 hc1 hc2 hc3 hc4 hc5 h3 h5
  by_cases hx0 : x = 0
  · subst hx0
    have h6 := draw_pick_int p a len cap w5.heap.size 4 badKinds _ (by omega) (by omega) (at_list w5 badKinds 3) (HCUR.out.alloc _)
    go_wp2_with (go_at_call 69; refine h6.mono ?_; rintro e w6 ⟨⟨k', hk', rfl⟩, hc6, hb6⟩; have htw6 := (HT.out.on ((On.refl p w5).alloc _) (by omega) (by omega)).on hb6 (by omega) (by omega); obtain ⟨⟨u0, u1, u2⟩, ⟨v0, v1, v2⟩, ⟨x0, x1, x2⟩, y0, y1, y2⟩ := htw6.facts)
    refine bodyPost_ret (v := .agg #[.int .i64 k', .int .i64 (c : Int), .string s]) (by simp [results, Try.results57, go_sem, u0, u1, u2]) rfl ⟨⟨k', c, s, (badKinds_in k' hk').1, (badKinds_in k' hk').2, by omega, by omega, by omega, rfl⟩, (Cur.other (Cur.other (Cur.other (Cur.other hc6 (b := w4.heap.size) (i := 0) (by omega) (.int .i64 k')) (b := w.heap.size) (i := 0) (by omega) (.int .i64 k')) (b := w.heap.size) (i := 1) (by omega) (.int .i64 (c : Int))) (b := w.heap.size) (i := 2) (by omega) (.string s)), (On.fresh (On.fresh (On.fresh (On.fresh ((HO.out.alloc _).trans hb6) (b := w4.heap.size) (i := 0) (by omega) (.int .i64 k')) (b := w.heap.size) (i := 0) (Nat.le_refl _) (.int .i64 k')) (b := w.heap.size) (i := 1) (Nat.le_refl _) (.int .i64 (c : Int))) (b := w.heap.size) (i := 2) (Nat.le_refl _) (.string s))⟩
  · by_cases hx1 : x = 1
    · subst hx1
      have h6 := draw_pick_int p a len cap w5.heap.size 3 badChans _ (by omega) (by omega) (at_list w5 badChans 3) (HCUR.out.alloc _)
      go_wp2_with (go_at_call 69; refine h6.mono ?_; rintro e w6 ⟨⟨k', hk', rfl⟩, hc6, hb6⟩; have htw6 := (HT.out.on ((On.refl p w5).alloc _) (by omega) (by omega)).on hb6 (by omega) (by omega); obtain ⟨⟨u0, u1, u2⟩, ⟨v0, v1, v2⟩, ⟨x0, x1, x2⟩, y0, y1, y2⟩ := htw6.facts)
      refine bodyPost_ret (v := .agg #[.int .i64 k, .int .i64 k', .string s]) (by simp [results, Try.results57, go_sem, u0, u1, u2]) rfl ⟨⟨k, k', s, hk1.1, hk1.2, (badChans_in k' hk').1, (badChans_in k' hk').2, by omega, rfl⟩, (Cur.other (Cur.other (Cur.other (Cur.other hc6 (b := w4.heap.size) (i := 1) (by omega) (.int .i64 k')) (b := w.heap.size) (i := 0) (by omega) (.int .i64 k)) (b := w.heap.size) (i := 1) (by omega) (.int .i64 k')) (b := w.heap.size) (i := 2) (by omega) (.string s)), (On.fresh (On.fresh (On.fresh (On.fresh ((HO.out.alloc _).trans hb6) (b := w4.heap.size) (i := 1) (by omega) (.int .i64 k')) (b := w.heap.size) (i := 0) (Nat.le_refl _) (.int .i64 k)) (b := w.heap.size) (i := 1) (Nat.le_refl _) (.int .i64 k')) (b := w.heap.size) (i := 2) (Nat.le_refl _) (.string s))⟩
    · by_cases hx2 : x = 2
      · subst hx2
        have h6 := draw_below p a len cap 2 w5 (by omega) HCUR.out
        have t3 : True := trivial
        go_wp2_with (go_at_call 67; have _t := t3; refine h6.mono ?_; rintro e w6 ⟨⟨m2, hm2, rfl⟩, hc6, hb6⟩; clear t3)
        have h7 := draw_bytes p a len cap (4000 + m2) w6 (by omega) hc6
        have e7 : ((4000 + m2 : Nat) : Int) = 4000 + (m2 : Int) := by omega
        rw [e7] at h7
        refine h7.mono ?_
        rintro e w7 ⟨⟨s2, hs2, rfl⟩, hc7, hb7⟩
        have htw7 := (HT.out.on hb6 (by omega) (by omega)).on hb7 (by omega) (by omega)
        obtain ⟨⟨u0, u1, u2⟩, ⟨v0, v1, v2⟩, ⟨x0, x1, x2⟩, y0, y1, y2⟩ := htw7.facts
        clear h6 h7 e7
        go_wp2
        refine bodyPost_ret (v := .agg #[.int .i64 k, .int .i64 (c : Int), .string s2]) (by simp [results, Try.results57, go_sem, u0, u1, u2]) rfl ⟨⟨k, c, s2, hk1.1, hk1.2, by omega, by omega, by omega, rfl⟩, (Cur.other (Cur.other (Cur.other (Cur.other hc7 (b := w4.heap.size) (i := 2) (by omega) (.string s2)) (b := w.heap.size) (i := 0) (by omega) (.int .i64 k)) (b := w.heap.size) (i := 1) (by omega) (.int .i64 (c : Int))) (b := w.heap.size) (i := 2) (by omega) (.string s2)), (On.fresh (On.fresh (On.fresh (On.fresh ((HO.out.trans hb6).trans hb7) (b := w4.heap.size) (i := 2) (by omega) (.string s2)) (b := w.heap.size) (i := 0) (Nat.le_refl _) (.int .i64 k)) (b := w.heap.size) (i := 1) (Nat.le_refl _) (.int .i64 (c : Int))) (b := w.heap.size) (i := 2) (Nat.le_refl _) (.string s2))⟩
      · have e0 : ((x : Int) == 0) = false := by simp only [beq_eq_false_iff_ne]; omega
        have e1 : ((x : Int) == 1) = false := by simp only [beq_eq_false_iff_ne]; omega
        have e2 : ((x : Int) == 2) = false := by simp only [beq_eq_false_iff_ne]; omega
        go_wp2
        refine bodyPost_ret (v := .agg #[.int .i64 k, .int .i64 (c : Int), .string s]) (by simp [results, Try.results57, go_sem, r0, r1, r2]) rfl ⟨⟨k, c, s, hk1.1, hk1.2, by omega, by omega, by omega, rfl⟩, (Cur.other (Cur.other (Cur.other HCUR.out (b := w.heap.size) (i := 0) (by omega) (.int .i64 k)) (b := w.heap.size) (i := 1) (by omega) (.int .i64 (c : Int))) (b := w.heap.size) (i := 2) (by omega) (.string s)), (On.fresh (On.fresh (On.fresh HO.out (b := w.heap.size) (i := 0) (Nat.le_refl _) (.int .i64 k)) (b := w.heap.size) (i := 1) (Nat.le_refl _) (.int .i64 (c : Int))) (b := w.heap.size) (i := 2) (Nat.le_refl _) (.string s))⟩

theorem res_facts {w w1 w2 : World} {o : Obj} (h1 : Below (w.heap.size + 1) (w.alloc o) w1) (h2 : On (w.heap.size + 1) w1 w2) : Below (w.alloc o).heap.size (w.alloc o) w2 := by
  have hs := h1.size
  rw [World.size_alloc] at hs ⊢
  exact h1.trans (h2.below (Nat.le_refl _) hs)

set_option maxRecDepth 100000 in
theorem draw_PutFrame (a : Option Addr) (len cap : Nat) (w : World) (hlen : len ≤ 1048576) (hc : dw.Code w w.heap.size a len) :
    Calls Try.prog 18 #[.slice a len cap] w fun e w' => (∃ (k c : Int) (s : ByteArray), -1 ≤ k ∧ k ≤ 9 ∧ -1 ≤ c ∧ c ≤ 65536 ∧ s.size ≤ 4001 ∧ e = .returned (.agg #[.int .i64 k, .int .i64 c, .string s])) ∧ Below w.heap.size w w' := by
  have hb0 : Below w.heap.size w (w.alloc (.cells #[.int .i64 0, .int .i64 0, .string ⟨#[]⟩] 25)) := (Below.refl _ _).alloc (Nat.le_refl _) _
  have hcode := (hc.below hb0 (Nat.le_refl _)).mono hb0.size
  have h1 := draw_new a len cap _ hlen hcode
  rw [World.size_alloc] at h1
  clear hc hcode
  go_enter Try.func18, Try.ntmps18
  go_wp2_with (first | (go_at_call 58; refine h1.mono ?_; rintro e w1 ⟨rfl, hc1, hb1⟩) | (go_at_call 57; refine (draw_frame (w.heap.size + 1) a len cap w1 hc1).mono ?_; rintro e w2 ⟨⟨k, c, s, hk1, hk2, hcc1, hcc2, hs, rfl⟩, hc2, hb2⟩; obtain ⟨⟨q0, q1, q2⟩, f0, f1, f2⟩ := nf.box3 (w := w) (x := .int .i64 0) (y := .int .i64 0) (z := .string ⟨#[]⟩) (t := 25) (W := w2) (res_facts hb1 hb2)))
  refine bodyPost_ret (v := .agg #[.int .i64 k, .int .i64 c, .string s]) (by simp [results, Try.results18, go_sem, q0, q1, q2]) rfl ⟨⟨k, c, s, hk1, hk2, hcc1, hcc2, hs, rfl⟩, ?_⟩
  have hb2' : Below w.heap.size w w2 := hb0.trans ((res_facts hb1 hb2).mono (by simp))
  exact ((hb2'.setCell (p := ⟨w.heap.size, 0, none⟩) (Nat.le_refl _) _).setCell (p := ⟨w.heap.size, 1, none⟩) (Nat.le_refl _) _).setCell (p := ⟨w.heap.size, 2, none⟩) (Nat.le_refl _) _

set_option maxRecDepth 100000 in
set_option maxHeartbeats 2000000 in
theorem draw_spoil (p : Nat) (a : Option Addr) (len cap : Nat) (s : ByteArray) (w : World) (hs : s.size ≤ 100000) (hc : Cur w p a len cap) :
    Calls Try.prog 62 #[.pointer (some ⟨p, 0, none⟩), .string s] w fun e w' => (∃ t : ByteArray, t.size ≤ s.size + 1 ∧ e = .returned (.string t)) ∧ Cur w' p a len cap ∧ On p w w' := by
  have h1 := draw_below p a len cap (s.size + 1) w (by omega) hc
  have e1 : ((s.size + 1 : Nat) : Int) = (s.size : Int) + 1 := by omega
  rw [e1] at h1
  clear hc e1
  go_enter Try.func62, Try.ntmps62
  have t1 : True := trivial
  go_wp2_with (go_at_call 67; have _t := t1; refine h1.mono ?_; rintro e w1 ⟨⟨i, hi, rfl⟩, hc1, hb1⟩; clear t1)
  have h2 := draw_below p a len cap 8 w1 (by omega) hc1
  refine h2.mono ?_
  rintro e w2 ⟨⟨x, hx, rfl⟩, hc2, hb2⟩
  have hon := hb1.trans hb2
  have hcd : Cur w2.drew p a len cap := hc2
  have hby := draw_bytes p a len cap 1 w2.drew (by omega) hcd
  clear h1 h2 hc1 hb1 hb2
  have hi2 : (i : Int) ≤ s.size := by omega
  have hsl1 : ∀ W : World, (Instr.slice 9 (.string s) none (some (.int .i64 (i : Int))) none).run Try.prog W = .ok (.string (s.extract 0 i)) W := fun W => by
    rw [run_slice_string_h (P := Try.prog) W 9 s Try.underlying9 .i64 (i : Int) (by omega) (by omega), show ((i : Int)).toNat = i by omega]
  have hsl2 : ∀ W : World, (Instr.slice 9 (.string s) (some (.int .i64 (i : Int))) none none).run Try.prog W = .ok (.string (s.extract i s.size)) W := fun W => by
    rw [run_slice_string_l (P := Try.prog) W 9 s Try.underlying9 .i64 (i : Int) (by omega) (by omega), show ((i : Int)).toNat = i by omega]
  have z1 : (s.extract 0 i).size = i := by rw [ByteArray.size_extract]; omega
  have z2 : (s.extract i s.size).size = s.size - i := by rw [ByteArray.size_extract]; omega
  obtain ⟨A1, hA1⟩ : ∃ A1, s.extract 0 i = A1 := ⟨_, rfl⟩
  obtain ⟨A2, hA2⟩ : ∃ A2, s.extract i s.size = A2 := ⟨_, rfl⟩
  rw [hA1] at hsl1 z1
  rw [hA2] at hsl2 z2
  have hA1s : A1.size ≤ 100000 := by omega
  have hA2s : A2.size ≤ 100000 := by omega
  have Z1 : Hid (A1.size = i) := z1
  have Z2 : Hid (A2.size = s.size - i) := z2
  clear hA1 hA2 z1 z2
  by_cases hx0 : x = 0
  · subst hx0
    go_wp2
    go_ret
    exact ⟨⟨A1, by have := Z1.out; omega, rfl⟩, hc2, hon⟩
  · by_cases hx1 : x = 1
    · subst hx1
      go_wp2
      go_region_with (go_at_call 61; refine hby.mono ?_; rintro e w3 ⟨⟨t, ht, rfl⟩, hc3, hb3⟩)
      all_goals go_wp2
      all_goals go_ret
      all_goals exact ⟨⟨_, by rw [ByteArray.size_append, ByteArray.size_append]; have := Z1.out; have := Z2.out; omega, rfl⟩, hc3, hon.drew.trans hb3⟩
    · by_cases hx2 : x = 2
      · subst hx2
        by_cases hil : i < s.size
        · have hsl3 : ∀ W : World, (Instr.slice 9 (.string s) (some (.int .i64 ((i : Int) + 1))) none none).run Try.prog W = .ok (.string (s.extract (i + 1) s.size)) W := fun W => by
            rw [run_slice_string_l (P := Try.prog) W 9 s Try.underlying9 .i64 ((i : Int) + 1) (by omega) (by omega), show ((i : Int) + 1).toNat = i + 1 by omega]
          have z3 : (s.extract (i + 1) s.size).size = s.size - (i + 1) := by rw [ByteArray.size_extract]; omega
          obtain ⟨A3, hA3⟩ : ∃ A3, s.extract (i + 1) s.size = A3 := ⟨_, rfl⟩
          rw [hA3] at hsl3 z3
          have hA3s : A3.size ≤ 100000 := by omega
          have Z3 : Hid (A3.size = s.size - (i + 1)) := z3
          have hi3 : (i : Int) + 1 ≤ s.size := by omega
          have hi4 : (0 : Int) ≤ (i : Int) + 1 := by omega
          have hwr : IntKind.i64.wrap ((i : Int) + 1) = (i : Int) + 1 := by rw [IntKind.wrap_i64]; omega
          clear hA3 z3 hsl2
          go_wp2
          go_region_with (go_at_call 61; refine hby.mono ?_; rintro e w3 ⟨⟨t, ht, rfl⟩, hc3, hb3⟩)
          all_goals go_wp2
          all_goals go_ret
          all_goals exact ⟨⟨_, by rw [ByteArray.size_append, ByteArray.size_append]; have := Z1.out; have := Z3.out; omega, rfl⟩, hc3, hon.drew.trans hb3⟩
        · go_wp2
          go_ret
          exact ⟨⟨s, by omega, rfl⟩, hc2, hon⟩
      · have e0 : ((x : Int) == 0) = false := by simp only [beq_eq_false_iff_ne]; omega
        have e1 : ((x : Int) == 1) = false := by simp only [beq_eq_false_iff_ne]; omega
        have e2 : ((x : Int) == 2) = false := by simp only [beq_eq_false_iff_ne]; omega
        go_wp2
        go_ret
        exact ⟨⟨s, by omega, rfl⟩, hc2, hon⟩

def heads : List ByteArray := [⟨#[15, 160]⟩, ⟨#[15, 161]⟩, ⟨#[255, 255]⟩]
theorem heads_in : ∀ z ∈ heads, z.size = 2 := by decide

set_option maxRecDepth 100000 in
set_option maxHeartbeats 2000000 in
theorem draw_NextFrame (a : Option Addr) (len cap : Nat) (w : World) (hlen : len ≤ 1048576) (hc : dw.Code w w.heap.size a len) :
    Calls Try.prog 20 #[.slice a len cap] w fun e w' => (∃ t : ByteArray, t.size ≤ 5000 ∧ e = .returned (.string t)) ∧ Below w.heap.size w w' := by
  have h1 := draw_new a len cap w hlen hc
  clear hc
  go_enter Try.func20, Try.ntmps20
  go_wp2_with (first | (go_at_call 58; refine h1.mono ?_; rintro e w1 ⟨rfl, hc1, hb1⟩) | (go_at_call 57; refine (draw_frame w.heap.size a len cap w1 hc1).mono ?_; rintro e w2 ⟨⟨k, c, s, hk1, hk2, hcc1, hcc2, hs, rfl⟩, hc2, hb2⟩))
  obtain ⟨u, hu⟩ : ∃ u, pf.bytes k c s = u := ⟨_, rfl⟩
  have hput := pf.spec_put k c s w2 (by omega) (by omega)
  have hus := pf.bytes_size k c s
  rw [hu] at hput hus
  clear hu h1
  go_wp2_with (first | (go_at_call 23; refine hput.mono ?_; rintro e w3 ⟨rfl, hb3⟩; have hc3 := hc2.below hb3) | (go_at_call 59; refine (draw_once w.heap.size a len cap 12 w3 (by omega) hc3).mono ?_; rintro e w4 ⟨⟨b, rfl⟩, hc4, hb4⟩) | (go_at_call 62; refine (draw_spoil w.heap.size a len cap u w4 (by omega) hc4).mono ?_; rintro e w5 ⟨⟨t, ht, rfl⟩, hc5, hb5⟩))
  · have hp4 := hc4.lt
    have h5 := draw_pick w.heap.size a len cap w4.heap.size 3 heads _ (by omega) (by omega) (at_texts w4 heads 9) (hc4.alloc _)
    refine h5.mono ?_
    rintro e w5 ⟨⟨z, hz, rfl⟩, hc5, hb5⟩
    have hz2 := heads_in z hz
    have hz3 : z.size ≤ 2 := by omega
    have hby := draw_bytes w.heap.size a len cap 4 w5 (by omega) hc5
    clear h5 hz2
    go_wp2_with (go_at_call 61; refine hby.mono ?_; rintro e w6 ⟨⟨q, hq, rfl⟩, hc6, hb6⟩)
    go_ret
    refine ⟨⟨_, ?_, rfl⟩, hb1.trans (((((((hb2.trans (On.of_below hb3)).trans hb4).alloc _).trans hb5).trans hb6)).below (Nat.le_refl _) hb1.size)⟩
    rw [ByteArray.size_append, ByteArray.size_append]
    show 5 + z.size + q.size ≤ 5000
    omega
  · go_ret
    exact ⟨⟨t, by omega, rfl⟩, hb1.trans ((((hb2.trans (On.of_below hb3)).trans hb4).trans hb5).below (Nat.le_refl _) hb1.size)⟩

theorem bytes_small (k c : Int) (q : ByteArray) : (pf.bytes k c q).size ≤ 32 + q.size := by
  unfold pf.bytes
  cases h : fr.ok k c q with
  | true =>
    have s1 := pi.text_size k 1
    have s2 := pi.text_size c 2
    have s4 := pi.text_size q.size 4
    have s6 := pi.text_size 206 1
    simp only [if_true, ByteArray.size_append]
    omega
  | false => simp

set_option maxRecDepth 100000 in
set_option maxHeartbeats 2000000 in
theorem draw_Frames (a : Option Addr) (len cap : Nat) (w : World) (hlen : len ≤ 1048576) (hc : dw.Code w w.heap.size a len) :
    Calls Try.prog 26 #[.slice a len cap] w fun e w' => (∃ t : ByteArray, t.size ≤ 100000 ∧ e = .returned (.string t)) ∧ Below w.heap.size w w' := by
  have h1 := draw_new a len cap w hlen hc
  clear hc
  go_enter Try.func26, Try.ntmps26
  have t1 : True := trivial
  go_wp2_with (first | (go_at_call 58; refine h1.mono ?_; rintro e w1 ⟨rfl, hc1, hb1⟩) | (go_at_call 67; have _t := t1; refine (draw_below w.heap.size a len cap 5 w1 (by omega) hc1).mono ?_; rintro e w2 ⟨⟨n5, hn5, rfl⟩, hc2, hb2⟩; clear t1) | (go_at_call 59; refine (draw_once w.heap.size a len cap 80 w2 (by omega) hc2).mono ?_; rintro e w3 ⟨⟨b, rfl⟩, hc3, hb3⟩))
  · have h4 := draw_below w.heap.size a len cap 2 w3 (by omega) hc3
    refine h4.mono ?_
    rintro e w4 ⟨⟨n2, hn2, rfl⟩, hc4, hb4⟩
    clear h4 h1
    have hon : On w.heap.size w1 w4 := (hb2.trans hb3).trans hb4
    obtain ⟨N, hN, hN2⟩ : ∃ N : Nat, 200 + (n2 : Int) = (N : Int) ∧ N ≤ 201 := ⟨200 + n2, by omega, by omega⟩
    have HC4 : Hid (Cur w4 w.heap.size a len cap) := hc4
    clear hc3 hc4 hb2 hb3 hb4 hc1 hc2
    go_wp2
    go_loopw [4, 6] (fun y x wr => ∃ (j : Nat) (t : ByteArray), j ≤ N ∧ x = .int .i64 j ∧ y = .string t ∧ t.size ≤ 35 * j ∧ Hid (Cur wr w.heap.size a len cap) ∧ On w.heap.size w1 wr) (fun _ x _ => N - (intOf x).toNat)
    case atStart => exact ⟨0, ⟨#[]⟩, Nat.zero_le _, rfl, rfl, Nat.zero_le _, HC4, hon⟩
    case round =>
      obtain ⟨j, t, hj, rfl, rfl, htz, hcur, honr⟩ := hrel
      by_cases hjN : j < N
      · have g1 := draw_below w.heap.size a len cap 4 wr (by omega) hcur.out
        have u1 : True := trivial
        go_wp2_with (go_at_call 67; have _t := u1; refine g1.mono ?_; rintro e x1 ⟨⟨c, hcc, rfl⟩, hd1, hf1⟩; clear u1)
        have g2 := draw_below w.heap.size a len cap 4 x1 (by omega) hd1
        refine g2.mono ?_
        rintro e x2 ⟨⟨m, hm, rfl⟩, hd2, hf2⟩
        clear g1 g2
        go_wp2_with (go_at_call 61; refine (draw_bytes w.heap.size a len cap m x2 (by omega) hd2).mono ?_; rintro e x3 ⟨⟨q, hq, rfl⟩, hd3, hf3⟩)
        obtain ⟨u, hu⟩ : ∃ u, pf.bytes 1 c q = u := ⟨_, rfl⟩
        have hput := pf.spec_put 1 c q x3 (by omega) (by omega)
        have hus := bytes_small 1 c q
        rw [hu] at hput hus
        have hts : t.size ≤ 100000 := by omega
        have hus2 : u.size ≤ 100 := by omega
        refine hput.mono ?_
        rintro e x4 ⟨rfl, hb4⟩
        have hd4 := hd3.below hb4
        have hf4 := (((honr.trans hf1).trans hf2).trans hf3).trans (On.of_below (p := w.heap.size) hb4)
        have HD4 : Hid (Cur x4 w.heap.size a len cap) := hd4
        have htu : (t ++ u).size ≤ 35 * (j + 1) := by rw [ByteArray.size_append]; omega
        have HTU : Hid ((t ++ u).size ≤ 35 * (j + 1)) := htu
        clear hput hu hd1 hd2 hd3 hd4 hf1 hf2 hf3 hb4 htu hcur
        go_wp2
        go_roundw
        case rel => exact ⟨j + 1, t ++ u, by omega, by go_num, rfl, HTU.out, HD4, hf4⟩
        case measure => simp [intOf]; omega
      · obtain rfl : j = N := by omega
        have hsp := draw_spoil w.heap.size a len cap t wr (by omega) hcur.out
        clear hcur
        go_wp2_with (go_at_call 62; refine hsp.mono ?_; rintro e x5 ⟨⟨v, hv, rfl⟩, hd5, hf5⟩)
        go_ret
        exact ⟨⟨v, by omega, rfl⟩, hb1.trans ((honr.trans hf5).below (Nat.le_refl _) hb1.size)⟩
  · clear h1
    obtain rfl : b = false := by first | assumption | exact Bool.not_eq_true b ▸ ‹¬b = true›
    obtain ⟨N, hN, hN2⟩ : ∃ N : Nat, (n5 : Int) = (N : Int) ∧ N ≤ 201 := ⟨n5, by omega, by omega⟩
    obtain rfl : n5 = N := by omega
    have hon : On w.heap.size w1 w3 := hb2.trans hb3
    have HC3 : Hid (Cur w3 w.heap.size a len cap) := hc3
    clear hc3 hb2 hb3 hc1 hc2 hN
    clear hN2
    have hN2 : n5 ≤ 201 := by omega
    go_loopw [4, 6] (fun y x wr => ∃ (j : Nat) (t : ByteArray), j ≤ n5 ∧ x = .int .i64 j ∧ y = .string t ∧ t.size ≤ 35 * j ∧ Hid (Cur wr w.heap.size a len cap) ∧ On w.heap.size w1 wr) (fun _ x _ => n5 - (intOf x).toNat)
    case atStart => exact ⟨0, ⟨#[]⟩, Nat.zero_le _, rfl, rfl, Nat.zero_le _, HC3, hon⟩
    case round =>
      obtain ⟨j, t, hj, rfl, rfl, htz, hcur, honr⟩ := hrel
      by_cases hjN : j < n5
      · have g1 := draw_below w.heap.size a len cap 4 wr (by omega) hcur.out
        have u1 : True := trivial
        go_wp2_with (go_at_call 67; have _t := u1; refine g1.mono ?_; rintro e x1 ⟨⟨c, hcc, rfl⟩, hd1, hf1⟩; clear u1)
        have g2 := draw_below w.heap.size a len cap 4 x1 (by omega) hd1
        refine g2.mono ?_
        rintro e x2 ⟨⟨m, hm, rfl⟩, hd2, hf2⟩
        clear g1 g2
        go_wp2_with (go_at_call 61; refine (draw_bytes w.heap.size a len cap m x2 (by omega) hd2).mono ?_; rintro e x3 ⟨⟨q, hq, rfl⟩, hd3, hf3⟩)
        obtain ⟨u, hu⟩ : ∃ u, pf.bytes 1 c q = u := ⟨_, rfl⟩
        have hput := pf.spec_put 1 c q x3 (by omega) (by omega)
        have hus := bytes_small 1 c q
        rw [hu] at hput hus
        have hts : t.size ≤ 100000 := by omega
        have hus2 : u.size ≤ 100 := by omega
        refine hput.mono ?_
        rintro e x4 ⟨rfl, hb4⟩
        have hd4 := hd3.below hb4
        have hf4 := (((honr.trans hf1).trans hf2).trans hf3).trans (On.of_below (p := w.heap.size) hb4)
        have HD4 : Hid (Cur x4 w.heap.size a len cap) := hd4
        have htu : (t ++ u).size ≤ 35 * (j + 1) := by rw [ByteArray.size_append]; omega
        have HTU : Hid ((t ++ u).size ≤ 35 * (j + 1)) := htu
        clear hput hu hd1 hd2 hd3 hd4 hf1 hf2 hf3 hb4 htu hcur
        go_wp2
        go_roundw
        case rel => exact ⟨j + 1, t ++ u, by omega, by go_num, rfl, HTU.out, HD4, hf4⟩
        case measure => simp [intOf]; omega
      · obtain rfl : j = n5 := by omega
        have hsp := draw_spoil w.heap.size a len cap t wr (by omega) hcur.out
        clear hcur
        go_wp2_with (go_at_call 62; refine hsp.mono ?_; rintro e x5 ⟨⟨v, hv, rfl⟩, hd5, hf5⟩)
        go_ret
        exact ⟨⟨v, by omega, rfl⟩, hb1.trans ((honr.trans hf5).below (Nat.le_refl _) hb1.size)⟩
end Go.Proofs.Ytkddnennodonhaa.df
