/- heap.Push, heap.Pop and heap.Fix over the messages. -/
import Derived.Test.YtfgilmibeeljnaaQPush
namespace Go.Proofs.Ytfgilmibeeljnaa.qpo
open Go.ChangeShapes Go.WideShapes Go.ChangeAt Go.RowKit Go.Proofs.Ytfgilmibeeljnaa.fl Go.Proofs.Ytfgilmibeeljnaa.qit Go.Proofs.Ytfgilmibeeljnaa.qst Go.Proofs.Ytfgilmibeeljnaa.qpu
set_option linter.unusedVariables false

theorem len_run (a : Option Addr) (n cap : Nat) (w : World) : Calls Try.prog 65 #[.slice a n cap] w fun e w' => e = .returned (.int .i64 n) ∧ w = w' := by
  go_enter Try.func65, Try.ntmps65
  go_wp2
  go_ret
  exact ⟨rfl, rfl⟩

set_option maxRecDepth 100000 in
set_option maxHeartbeats 1000000 in
theorem push_run (W0 : World) (Q : qit.Qx) (hb : Nat) (L : List flM.Ms) (r : flM.Ms) (w : World) (hS : SN W0 hb Q L w) (hH : hp.Heap less L L.length) (hr : Fits W0 W0.heap.size r) (hl : L.length ≤ 900) :
    Calls Try.prog 64 #[.iface 52 (.pointer (some ⟨hb, 0, none⟩)), .iface 38 (.agg #[.int .i64 r.q, .string r.x, .string r.k, .string r.b, .bool r.a])] w fun e w' => e = .returned (.tuple #[]) ∧ ∃ M : List flM.Ms, M.Perm (L ++ [r]) ∧ hp.Heap less M M.length ∧ SN W0 hb Q M w' ∧ Kt hb w w' := by
  have hpm := push_m W0 Q hb L r w hS hr hl
  have hmp := meth_push hb w
  have HH : Hid (hp.Heap less L L.length) := hH
  clear hS hH hr
  go_enter Try.func64, Try.ntmps64
  go_wp2_with (go_at_call 118; fail)
  refine hpm.mono ?_
  rintro e w1 ⟨rfl, hs1, hk1⟩
  obtain ⟨g, cap, hsg⟩ := hs1.sg (by simp)
  have hlen : (L ++ [r]).length = L.length + 1 := by simp
  have hbx : w1.cell? ⟨hb, 0, none⟩ = some (.slice (some ⟨g, 0, none⟩) (L.length + 1) cap) := by rw [← hlen]; exact bcell hsg.box rfl
  have hml := meth_len hb _ w1 hbx
  have hup := qup.up_run W0 Q hb g cap L.length (L ++ [r]) w1 hsg (by omega) (by omega) (by rw [hlen]; exact hp.up_new HH.out)
  have HK1 : Hid (Kt hb w w1) := hk1
  have HROW : Hid (HR w1 g cap (L ++ [r])) := hsg.row
  clear hpm hmp hs1 hsg hlen hk1
  go_wp2_with (first | (go_at_call 65; refine (len_run _ _ _ _).mono ?_; rintro e w0 ⟨rfl, hw0⟩; rw [← hw0]; clear hw0 w0) | (go_at_call 79; fail))
  refine hup.mono ?_
  rintro e w2 ⟨rfl, M, hM, hHM, hSM, hKM⟩
  have HM : Hid (M.Perm (L ++ [r]) ∧ hp.Heap less M M.length ∧ SN W0 hb Q M w2 ∧ Kt hb w w2) := ⟨hM, hHM, .of hSM, HK1.out.trans (Kt.kp hKM HROW.out)⟩
  clear hup hml hbx hM hHM hSM hKM
  go_wp2
  go_end0
  exact ⟨rfl, M, HM.out⟩

/-- nothing but the box and the row is turned; new memory besides -/
structure Kq (hb g : Nat) (w w' : World) : Prop where
  os : w'.os = w.os
  tape : w'.tape = w.tape
  output : w'.output = w.output
  size : w.heap.size ≤ w'.heap.size
  block : ∀ k, k < w.heap.size → k ≠ g → k ≠ hb → w'.heap[k]? = w.heap[k]?
theorem Kq.refl (hb g : Nat) (w : World) : Kq hb g w w := ⟨rfl, rfl, rfl, Nat.le_refl _, fun _ _ _ _ => rfl⟩
theorem Kq.trans {hb g : Nat} {a b c : World} (h1 : Kq hb g a b) (h2 : Kq hb g b c) : Kq hb g a c :=
  ⟨h2.os.trans h1.os, h2.tape.trans h1.tape, h2.output.trans h1.output, Nat.le_trans h1.size h2.size, fun k hk h3 h4 => (h2.block k (Nat.lt_of_lt_of_le hk h1.size) h3 h4).trans (h1.block k hk h3 h4)⟩
theorem Kq.of {hb g : Nat} {a b : World} (h : Kp g a b) : Kq hb g a b := ⟨h.os, h.tape, h.output, h.size, fun k hk h1 _ => h.block k hk h1⟩

set_option maxRecDepth 100000 in
set_option maxHeartbeats 1000000 in
theorem pop_m (W0 : World) (Q : qit.Qx) (hb g cap : Nat) (L : List flM.Ms) (r : flM.Ms) (w : World) (hS : SG W0 hb Q g cap (L ++ [r]) w) (hl : L.length ≤ 1000) :
    Calls Try.prog 117 #[.pointer (some ⟨hb, 0, none⟩)] w fun e w' => e = .returned (.iface 38 (.agg #[.int .i64 r.q, .string r.x, .string r.k, .string r.b, .bool r.a])) ∧ SG W0 hb Q g cap L w' ∧ Kq hb g w w' := by
  have hbx : w.cell? ⟨hb, 0, none⟩ = some (.slice (some ⟨g, 0, none⟩) (L.length + 1) cap) := by have := bcell (j := 0) hS.box rfl; simpa using this
  have hat := hS.row.at (i := L.length) (r := r) (by simp)
  have r0 := hat.c0
  have r1 := hat.c1
  have r2 := hat.c2
  have r3 := hat.c3
  have r4 := hat.c4
  have HS : Hid (SG W0 hb Q g cap (L ++ [r]) w) := hS
  have hblt := (Array.getElem?_eq_some_iff.1 hS.box).1
  have hxb := bold hS.box (.cells #[.int .i64 r.q, .string r.x, .string r.k, .string r.b, .bool r.a] 38)
  have hA := bnew w #[.int .i64 r.q, .string r.x, .string r.k, .string r.b, .bool r.a] 38
  have hal : Below w.heap.size w (w.alloc (.cells #[.int .i64 r.q, .string r.x, .string r.k, .string r.b, .bool r.a] 38)) := (Below.refl _ _).alloc (Nat.le_refl _) _
  obtain ⟨X, hX⟩ : ∃ X, w.alloc (.cells #[.int .i64 r.q, .string r.x, .string r.k, .string r.b, .bool r.a] 38) = X := ⟨_, rfl⟩
  rw [hX] at hxb hA hal
  have x0 : X.cell? ⟨hb, 0, none⟩ = some (.slice (some ⟨g, 0, none⟩) (L.length + 1) cap) := by have := bcell (j := 0) hxb rfl; simpa using this
  have xf : X.frozen? ⟨hb, 0, none⟩ = false := bfree hxb 0
  have hyA := boff hA hb 0 (.slice (some ⟨g, 0, none⟩) L.length cap) (by omega)
  have hyb := bset hxb 0 (.slice (some ⟨g, 0, none⟩) L.length cap)
  obtain ⟨Y, hY⟩ : ∃ Y, X.setCell ⟨hb, 0, none⟩ (.slice (some ⟨g, 0, none⟩) L.length cap) = Y := ⟨_, rfl⟩
  rw [hY] at hyA hyb
  have y0 : Y.cell? ⟨w.heap.size, 0, none⟩ = some (.int .i64 r.q) := bcell hyA rfl
  have y1 : Y.cell? ⟨w.heap.size, 1, none⟩ = some (.string r.x) := bcell hyA rfl
  have y2 : Y.cell? ⟨w.heap.size, 2, none⟩ = some (.string r.k) := bcell hyA rfl
  have y3 : Y.cell? ⟨w.heap.size, 3, none⟩ = some (.string r.b) := bcell hyA rfl
  have y4 : Y.cell? ⟨w.heap.size, 4, none⟩ = some (.bool r.a) := bcell hyA rfl
  have hkq : Kq hb g w Y := by
    refine ⟨by rw [← hY, ← hX]; rfl, by rw [← hY, ← hX]; rfl, by rw [← hY, ← hX]; rfl, by rw [← hY, ← hX]; simp, fun k hk h1 h2 => ?_⟩
    rw [← hY, Below.heap_setCell _ _ _ k h2]
    exact hal.block k hk
  have hgB := HS.out.gB
  have hgne := HS.out.ne
  have hbB := HS.out.hbB
  have hsz := HS.out.bel.size
  have hsg : SG W0 hb Q g cap L Y := by
    obtain ⟨cur, h1, h2, h3, h4, h5⟩ := HS.out.row
    have hgl := (Array.getElem?_eq_some_iff.1 h1).1
    refine ⟨⟨hkq.os.trans HS.out.bel.os, hkq.tape.trans HS.out.bel.tape, hkq.output.trans HS.out.bel.output, Nat.le_trans hsz hkq.size, fun k hk => (hkq.block k (by omega) (by omega) (by omega)).trans (HS.out.bel.block k hk)⟩, hbB, hgB, hgne, by simpa using hyb, ⟨cur, ?_, h2, by simp at h3; omega, h4, fun i q hq => h5 i q (by rw [List.getElem?_append_left (List.getElem?_eq_some_iff.1 hq).1]; exact hq)⟩, fun q hq => HS.out.fits q (by simp [hq])⟩
    rw [← hY, Below.heap_setCell _ _ _ g hgne]
    exact (hal.block g hgl).trans h1
  have HF : Hid (SG W0 hb Q g cap L Y ∧ Kq hb g w Y) := ⟨hsg, hkq⟩
  have i1 : (L.length : Int) ≤ (cap : Int) := by have := HS.out.row; obtain ⟨_, _, _, h3, _⟩ := this; simp at h3; omega
  clear hS hat hsg hkq hyA hyb hxb hA hal
  go_enter Try.func117, Try.ntmps117
  go_wp2
  go_ret
  exact ⟨rfl, HF.out⟩

set_option maxRecDepth 100000 in
set_option maxHeartbeats 1000000 in
theorem pop_run (W0 : World) (Q : qit.Qx) (hb g cap : Nat) (L : List flM.Ms) (r : flM.Ms) (w : World) (hS : SG W0 hb Q g cap L w) (h0 : L[0]? = some r) (hl : L.length ≤ 1000) (hH : hp.Heap less L L.length) :
    Calls Try.prog 68 #[.iface 52 (.pointer (some ⟨hb, 0, none⟩))] w fun e w' => e = .returned (.iface 38 (.agg #[.int .i64 r.q, .string r.x, .string r.k, .string r.b, .bool r.a])) ∧ ∃ M : List flM.Ms, (r :: M).Perm L ∧ hp.Heap less M M.length ∧ SG W0 hb Q g cap M w' ∧ Kq hb g w w' := by
  have hpos := (List.getElem?_eq_some_iff.1 h0).1
  obtain ⟨n, hn⟩ : ∃ n, L.length = n + 1 := ⟨L.length - 1, by omega⟩
  obtain ⟨q, hq⟩ : ∃ q, L[n]? = some q := ⟨_, List.getElem?_eq_getElem (by omega)⟩
  have hbx : w.cell? ⟨hb, 0, none⟩ = some (.slice (some ⟨g, 0, none⟩) L.length cap) := bcell hS.box rfl
  have hml := meth_len hb _ w hbx
  have hms := meth_swap hb _ w hbx
  obtain ⟨cur, c1, c2, c3, _⟩ := hS.row
  have hsw := qsw.swap_run g L.length cap 0 n cur r q w hpos (by omega) (by omega) c1 (hS.row.at h0) (hS.row.at hq)
  obtain ⟨hs1, hk1⟩ := hS.swap h0 hq
  have hD := hp.down_sw (m := n) h0 hq (by rw [← hn]; exact hH)
  have hsl : (hp.sw L 0 n).length = n + 1 := by rw [hp.sw_len, hn]
  have hlast : (hp.sw L 0 n)[n]? = some r := hp.sw_last h0 hq
  have hperm := hp.sw_perm h0 hq
  obtain ⟨X, hX⟩ : ∃ X, qsw.S2 w.drew g 0 n r q = X := ⟨_, rfl⟩
  rw [hX] at hsw hs1 hk1
  have hdn := qdn.down_run W0 Q hb g cap 0 n (hp.sw L 0 n) X hs1 (.inr rfl) (by omega) (by omega) hD
  have hmp := fun W => meth_pop hb W
  have HPM : Hid (∀ (M : List flM.Ms) (W : World), M.Perm (hp.sw L 0 n) → hp.Heap less M n → (∀ k, n ≤ k → M[k]? = (hp.sw L 0 n)[k]?) → SG W0 hb Q g cap M W → Kp g X W →
      Calls Try.prog 117 #[.pointer (some ⟨hb, 0, none⟩)] W fun e w' => e = .returned (.iface 38 (.agg #[.int .i64 r.q, .string r.x, .string r.k, .string r.b, .bool r.a])) ∧ ∃ M : List flM.Ms, (r :: M).Perm L ∧ hp.Heap less M M.length ∧ SG W0 hb Q g cap M w' ∧ Kq hb g w w') := fun M W p1 p2 p3 p4 p5 => by
    have hlM : M.length = n + 1 := by rw [p1.length_eq, hsl]
    have hMr : M[n]? = some r := by rw [p3 n (Nat.le_refl _), hlast]
    have hsplit : M = M.take n ++ [r] := by
      have h1 := List.take_append_getElem (l := M) (i := n) (by omega)
      have h2 : M[n]'(by omega) = r := (List.getElem?_eq_some_iff.1 hMr).2
      rw [h2, ← hlM, List.take_length] at h1
      exact h1.symm
    have htl : (M.take n).length = n := by rw [List.length_take]; omega
    rw [hsplit] at p4
    refine (pop_m W0 Q hb g cap (M.take n) r W p4 (by omega)).mono fun e w' ⟨hv, hs, hk⟩ => ⟨hv, M.take n, ?_, ?_, hs, ((Kq.of hk1).trans (Kq.of p5)).trans hk⟩
    · have h3 : (M.take n ++ [r]).Perm L := by rw [← hsplit]; exact p1.trans hperm
      exact (List.perm_append_singleton r (M.take n)).symm.trans h3
    · rw [htl]
      exact p2.take (Nat.le_refl _)
  rw [hn] at hml hms hsw hbx
  clear hS hH c1 c2 c3 hs1 hk1 hD hX hlast hperm hq h0
  go_enter Try.func68, Try.ntmps68
  go_wp2_with (first | (go_at_call 65; refine (len_run _ _ _ _).mono ?_; rintro e w0 ⟨rfl, hw0⟩; rw [← hw0]; clear hw0 w0) | (go_at_call 119; refine hsw.mono ?_; rintro e w1 ⟨rfl, rfl⟩) | (go_at_call 80; fail))
  refine hdn.mono ?_
  rintro e w2 ⟨⟨bb, rfl⟩, M, p1, p2, p3, p4, p5⟩
  have hpm := HPM.out M w2 p1 p2 p3 p4 p5
  clear hdn HPM p1 p2 p3 p4 p5 hsw hml hms
  go_wp2_with (go_at_call 117; fail)
  refine hpm.mono ?_
  rintro e w3 ⟨rfl, hM⟩
  have HM : Hid (∃ M : List flM.Ms, (r :: M).Perm L ∧ hp.Heap less M M.length ∧ SG W0 hb Q g cap M w3 ∧ Kq hb g w w3) := hM
  clear hpm hM
  go_wp2
  go_ret
  exact ⟨rfl, HM.out⟩
end Go.Proofs.Ytfgilmibeeljnaa.qpo
