/- The program's newestOf: the newest pair of each key, ascending, in a row of its own. -/
import Derived.Test.YtoemkbooomgieaaGreatDoorDw06
import Derived.Test.YtoemkbooomgieaaGreatDoorDw04
import Derived.Test.YtoemkbooomgieaaGreatDoorDw05
import Derived.Test.YtoemkbooomgieaaGreatDoorDw01
import Derived.Maps.AppendAt
import Derived.Deep.QuietTactic
import Derived.BigQuiet

/- heap.Push, heap.Pop and heap.Fix over the runs. -/
namespace Go.Proofs.YtoemkbooomgieaaGreatDoor.rpo
open Go.ChangeShapes Go.WideShapes Go.ChangeAt Go.RowKit Go.Proofs.YtoemkbooomgieaaGreatDoor.fl Go.Proofs.YtoemkbooomgieaaGreatDoor.ri Go.Proofs.YtoemkbooomgieaaGreatDoor.rst Go.Proofs.YtoemkbooomgieaaGreatDoor.rpu
set_option linter.unusedVariables false

theorem len_run (a : Option Addr) (n cap : Nat) (w : World) : Calls Tryz.prog 53 #[.slice a n cap] w fun e w' => e = .returned (.int .i64 n) ∧ w = w' := by
  go_enter Tryz.func53, Tryz.ntmps53
  go_wp2
  go_ret
  exact ⟨rfl, rfl⟩

set_option maxRecDepth 100000 in
set_option maxHeartbeats 1000000 in
theorem push_run (W0 : World) (hb : Nat) (L : List It) (r : It) (w : World) (hS : SN W0 hb L w) (hH : hp.Heap less L L.length) (hr : Fits W0 W0.heap.size r) (hl : L.length ≤ 50) :
    Calls Tryz.prog 52 #[.iface 99 (.pointer (some ⟨hb, 0, none⟩)), .iface 101 (.agg #[.slice (some ⟨r.b, r.o, none⟩) r.l.length r.c, .int .i64 r.p])] w fun e w' => e = .returned (.tuple #[]) ∧ ∃ M : List It, M.Perm (L ++ [r]) ∧ hp.Heap less M M.length ∧ SN W0 hb M w' := by
  have hpm := push_m W0 hb L r w hS hr hl
  have hmp := meth_push ⟨hb, 0, none⟩ w
  have HH : Hid (hp.Heap less L L.length) := hH
  clear hS hH hr
  go_enter Tryz.func52, Tryz.ntmps52
  go_wp2_with (go_at_call 165; fail)
  refine hpm.mono ?_
  rintro e w1 ⟨rfl, hs1⟩
  obtain ⟨g, cap, hsg⟩ := hs1.sg (by simp)
  have hlen : (L ++ [r]).length = L.length + 1 := by simp
  have hbx : w1.cell? ⟨hb, 0, none⟩ = some (.slice (some ⟨g, 0, none⟩) (L.length + 1) cap) := by rw [← hlen]; exact bcell hsg.box rfl
  have hml := meth_len ⟨hb, 0, none⟩ _ w1 hbx
  have hup := rup.up_run W0 hb g cap L.length (L ++ [r]) w1 hsg (by omega) (by omega) (by rw [hlen]; exact hp.up_new HH.out)
  clear hpm hmp hs1 hsg hlen
  go_wp2_with (first | (go_at_call 53; refine (len_run _ _ _ _).mono ?_; rintro e w0 ⟨rfl, hw0⟩; rw [← hw0]; clear hw0 w0) | (go_at_call 79; fail))
  refine hup.mono ?_
  rintro e w2 ⟨rfl, M, hM, hHM, hSM, _⟩
  have HM : Hid (M.Perm (L ++ [r]) ∧ hp.Heap less M M.length ∧ SN W0 hb M w2) := ⟨hM, hHM, .of hSM⟩
  clear hup hml hbx hM hHM hSM
  go_wp2
  go_end0
  exact ⟨rfl, M, HM.out⟩

set_option maxRecDepth 100000 in
set_option maxHeartbeats 1000000 in
theorem fix_run (W0 : World) (hb g cap : Nat) (L : List It) (w : World) (hS : SG W0 hb g cap L w) (h0 : 0 < L.length) (hl : L.length ≤ 100) (hD : hp.DnI less L 0 L.length) :
    Calls Tryz.prog 81 #[.iface 99 (.pointer (some ⟨hb, 0, none⟩)), .int .i64 0] w fun e w' => e = .returned (.tuple #[]) ∧ ∃ M : List It, M.Perm L ∧ hp.Heap less M M.length ∧ SG W0 hb g cap M w' ∧ Kp g w w' := by
  have hbx : w.cell? ⟨hb, 0, none⟩ = some (.slice (some ⟨g, 0, none⟩) L.length cap) := bcell hS.box rfl
  have hml := meth_len ⟨hb, 0, none⟩ _ w hbx
  have hdn := rdn.down_run W0 hb g cap 0 L.length L w hS (.inr rfl) (Nat.le_refl _) hl hD
  clear hS hD
  go_enter Tryz.func81, Tryz.ntmps81
  go_wp2_with (first | (go_at_call 53; refine (len_run _ _ _ _).mono ?_; rintro e w0 ⟨rfl, hw0⟩; rw [← hw0]; clear hw0 w0) | (go_at_call 103; fail))
  refine hdn.mono ?_
  rintro e w2 ⟨⟨bb, rfl⟩, M, hM, hHM, _, hSM, hKM⟩
  have hlM := hM.length_eq
  have HM : Hid (M.Perm L ∧ hp.Heap less M M.length ∧ SG W0 hb g cap M w2 ∧ Kp g w w2) := ⟨hM, by rw [hlM]; exact hHM, hSM, hKM⟩
  have hup := rup.up_run W0 hb g cap 0 M w2 hSM (by omega) (by omega) ⟨fun i h1 h2 h3 => HM.out.2.1 i h1 h2, fun h => absurd h (by omega)⟩
  clear hdn hml hbx hM hHM hSM hKM hlM
  cases bb with
  | true =>
    clear hup
    go_wp2
    go_end0
    exact ⟨rfl, M, HM.out⟩
  | false =>
    go_wp2_with (go_at_call 79; fail)
    refine hup.mono ?_
    rintro e w3 ⟨rfl, M3, hM3, hH3, hS3, hK3⟩
    have HM3 : Hid (M3.Perm L ∧ hp.Heap less M3 M3.length ∧ SG W0 hb g cap M3 w3 ∧ Kp g w w3) := ⟨hM3.trans HM.out.1, hH3, hS3, HM.out.2.2.2.trans hK3⟩
    clear hup hM3 hH3 hS3 hK3
    go_wp2
    go_end0
    exact ⟨rfl, M3, HM3.out⟩

/-- nothing but the box and the row is turned; new memory besides -/
structure Kq (hb g : Nat) (w w' : World) : Prop where
  os : w'.os = w.os
  tape : w'.tape = w.tape
  output : w'.output = w.output
  size : w.heap.size ≤ w'.heap.size
  block : ∀ k, k < w.heap.size → k ≠ g → k ≠ hb → w'.heap[k]? = w.heap[k]?
theorem Kq.refl (hb g : Nat) (w : World) : Kq hb g w w := ⟨rfl, rfl, rfl, Nat.le_refl _, fun _ _ _ _ => rfl⟩
theorem Kq.trans {hb g : Nat} {a b c : World} (h1 : Kq hb g a b) (h2 : Kq hb g b c) : Kq hb g a c :=
  ⟨h2.os.trans h1.os, h2.tape.trans h1.tape, h2.output.trans h1.output, Nat.le_trans h1.size h2.size, fun k hk h3 h4 => (h2.block k (Nat.lt_of_lt_of_le hk h1.size) h3 h4).trans (h1.block k hk h3 h4)⟩
theorem Kq.of {hb g : Nat} {a b : World} (h : Kp g a b) : Kq hb g a b := ⟨h.os, h.tape, h.output, h.size, fun k hk h1 _ => h.block k hk h1⟩

set_option maxRecDepth 100000 in
set_option maxHeartbeats 1000000 in
theorem pop_m (W0 : World) (hb g cap : Nat) (L : List It) (r : It) (w : World) (hS : SG W0 hb g cap (L ++ [r]) w) (hl : L.length ≤ 100) :
    Calls Tryz.prog 164 #[.pointer (some ⟨hb, 0, none⟩)] w fun e w' => (∃ v, e = .returned v) ∧ SG W0 hb g cap L w' ∧ Kq hb g w w' := by
  have hbx : w.cell? ⟨hb, 0, none⟩ = some (.slice (some ⟨g, 0, none⟩) (L.length + 1) cap) := by have := bcell (j := 0) hS.box rfl; simpa using this
  have hat := hS.row.at (i := L.length) (r := r) (by simp)
  have r0 := hat.c0
  have r1 := hat.c1
  have HS : Hid (SG W0 hb g cap (L ++ [r]) w) := hS
  have hblt := (Array.getElem?_eq_some_iff.1 hS.box).1
  have hxb := bold hS.box (.cells #[.slice (some ⟨r.b, r.o, none⟩) r.l.length r.c, .int .i64 r.p] 101)
  have hA := bnew w #[.slice (some ⟨r.b, r.o, none⟩) r.l.length r.c, .int .i64 r.p] 101
  have hal : Below w.heap.size w (w.alloc (.cells #[.slice (some ⟨r.b, r.o, none⟩) r.l.length r.c, .int .i64 r.p] 101)) := (Below.refl _ _).alloc (Nat.le_refl _) _
  obtain ⟨X, hX⟩ : ∃ X, w.alloc (.cells #[.slice (some ⟨r.b, r.o, none⟩) r.l.length r.c, .int .i64 r.p] 101) = X := ⟨_, rfl⟩
  rw [hX] at hxb hA hal
  have x0 : X.cell? ⟨hb, 0, none⟩ = some (.slice (some ⟨g, 0, none⟩) (L.length + 1) cap) := by have := bcell (j := 0) hxb rfl; simpa using this
  have xf : X.frozen? ⟨hb, 0, none⟩ = false := bfree hxb 0
  have hyA := boff hA hb 0 (.slice (some ⟨g, 0, none⟩) L.length cap) (by omega)
  have hyb := bset hxb 0 (.slice (some ⟨g, 0, none⟩) L.length cap)
  obtain ⟨Y, hY⟩ : ∃ Y, X.setCell ⟨hb, 0, none⟩ (.slice (some ⟨g, 0, none⟩) L.length cap) = Y := ⟨_, rfl⟩
  rw [hY] at hyA hyb
  have y0 : Y.cell? ⟨w.heap.size, 0, none⟩ = some (.slice (some ⟨r.b, r.o, none⟩) r.l.length r.c) := bcell hyA rfl
  have y1 : Y.cell? ⟨w.heap.size, 1, none⟩ = some (.int .i64 r.p) := bcell hyA rfl
  have hkq : Kq hb g w Y := by
    refine ⟨by rw [← hY, ← hX]; rfl, by rw [← hY, ← hX]; rfl, by rw [← hY, ← hX]; rfl, by rw [← hY, ← hX]; simp, fun k hk h1 h2 => ?_⟩
    rw [← hY, Below.heap_setCell _ _ _ k h2]
    exact hal.block k hk
  have hgB := HS.out.gB
  have hgne := HS.out.ne
  have hbB := HS.out.hbB
  have hsz := HS.out.bel.size
  have hsg : SG W0 hb g cap L Y := by
    obtain ⟨cur, h1, h2, h3, h4, h5⟩ := HS.out.row
    have hgl := (Array.getElem?_eq_some_iff.1 h1).1
    refine ⟨⟨hkq.os.trans HS.out.bel.os, hkq.tape.trans HS.out.bel.tape, hkq.output.trans HS.out.bel.output, Nat.le_trans hsz hkq.size, fun k hk => (hkq.block k (by omega) (by omega) (by omega)).trans (HS.out.bel.block k hk)⟩, hbB, hgB, hgne, by simpa using hyb, ⟨cur, ?_, h2, by simp at h3; omega, h4, fun i q hq => h5 i q (by rw [List.getElem?_append_left (List.getElem?_eq_some_iff.1 hq).1]; exact hq)⟩, fun q hq => HS.out.fits q (by simp [hq])⟩
    rw [← hY, Below.heap_setCell _ _ _ g hgne]
    exact (hal.block g hgl).trans h1
  have HF : Hid (SG W0 hb g cap L Y ∧ Kq hb g w Y) := ⟨hsg, hkq⟩
  have i1 : (L.length : Int) ≤ (cap : Int) := by have := HS.out.row; obtain ⟨_, _, _, h3, _⟩ := this; simp at h3; omega
  clear hS hat hsg hkq hyA hyb hxb hA hal
  go_enter Tryz.func164, Tryz.ntmps164
  go_wp2
  go_ret
  exact ⟨⟨_, rfl⟩, HF.out⟩

set_option maxRecDepth 100000 in
set_option maxHeartbeats 1000000 in
theorem pop_run (W0 : World) (hb g cap : Nat) (L : List It) (r : It) (w : World) (hS : SG W0 hb g cap L w) (h0 : L[0]? = some r) (hl : L.length ≤ 100) (hH : hp.Heap less L L.length) :
    Calls Tryz.prog 80 #[.iface 99 (.pointer (some ⟨hb, 0, none⟩))] w fun e w' => (∃ v, e = .returned v) ∧ ∃ M : List It, (r :: M).Perm L ∧ hp.Heap less M M.length ∧ SG W0 hb g cap M w' ∧ Kq hb g w w' := by
  have hpos := (List.getElem?_eq_some_iff.1 h0).1
  obtain ⟨n, hn⟩ : ∃ n, L.length = n + 1 := ⟨L.length - 1, by omega⟩
  obtain ⟨q, hq⟩ : ∃ q, L[n]? = some q := ⟨_, List.getElem?_eq_getElem (by omega)⟩
  have hbx : w.cell? ⟨hb, 0, none⟩ = some (.slice (some ⟨g, 0, none⟩) L.length cap) := bcell hS.box rfl
  have hml := meth_len ⟨hb, 0, none⟩ _ w hbx
  have hms := meth_swap ⟨hb, 0, none⟩ _ w hbx
  obtain ⟨cur, c1, c2, c3, _⟩ := hS.row
  have hsw := rsw.swap_run g L.length cap 0 n cur r q w hpos (by omega) (by omega) c1 (hS.row.at h0) (hS.row.at hq)
  obtain ⟨hs1, hk1⟩ := hS.swap h0 hq
  have hD := hp.down_sw (m := n) h0 hq (by rw [← hn]; exact hH)
  have hsl : (hp.sw L 0 n).length = n + 1 := by rw [hp.sw_len, hn]
  have hlast : (hp.sw L 0 n)[n]? = some r := hp.sw_last h0 hq
  have hperm := hp.sw_perm h0 hq
  obtain ⟨X, hX⟩ : ∃ X, rsw.S2 w.drew g 0 n r q = X := ⟨_, rfl⟩
  rw [hX] at hsw hs1 hk1
  have hdn := rdn.down_run W0 hb g cap 0 n (hp.sw L 0 n) X hs1 (.inr rfl) (by omega) (by omega) hD
  have hmp := fun W => meth_pop ⟨hb, 0, none⟩ W
  have HPM : Hid (∀ (M : List It) (W : World), M.Perm (hp.sw L 0 n) → hp.Heap less M n → (∀ k, n ≤ k → M[k]? = (hp.sw L 0 n)[k]?) → SG W0 hb g cap M W → Kp g X W →
      Calls Tryz.prog 164 #[.pointer (some ⟨hb, 0, none⟩)] W fun e w' => (∃ v, e = .returned v) ∧ ∃ M : List It, (r :: M).Perm L ∧ hp.Heap less M M.length ∧ SG W0 hb g cap M w' ∧ Kq hb g w w') := fun M W p1 p2 p3 p4 p5 => by
    have hlM : M.length = n + 1 := by rw [p1.length_eq, hsl]
    have hMr : M[n]? = some r := by rw [p3 n (Nat.le_refl _), hlast]
    have hsplit : M = M.take n ++ [r] := by
      have h1 := List.take_append_getElem (l := M) (i := n) (by omega)
      have h2 : M[n]'(by omega) = r := (List.getElem?_eq_some_iff.1 hMr).2
      rw [h2, ← hlM, List.take_length] at h1
      exact h1.symm
    have htl : (M.take n).length = n := by rw [List.length_take]; omega
    rw [hsplit] at p4
    refine (pop_m W0 hb g cap (M.take n) r W p4 (by omega)).mono fun e w' ⟨hv, hs, hk⟩ => ⟨hv, M.take n, ?_, ?_, hs, ((Kq.of hk1).trans (Kq.of p5)).trans hk⟩
    · have h3 : (M.take n ++ [r]).Perm L := by rw [← hsplit]; exact p1.trans hperm
      exact (List.perm_append_singleton r (M.take n)).symm.trans h3
    · rw [htl]
      exact p2.take (Nat.le_refl _)
  rw [hn] at hml hms hsw hbx
  clear hS hH c1 c2 c3 hs1 hk1 hD hX hlast hperm hq h0
  go_enter Tryz.func80, Tryz.ntmps80
  go_wp2_with (first | (go_at_call 53; refine (len_run _ _ _ _).mono ?_; rintro e w0 ⟨rfl, hw0⟩; rw [← hw0]; clear hw0 w0) | (go_at_call 160; refine hsw.mono ?_; rintro e w1 ⟨rfl, rfl⟩) | (go_at_call 103; fail))
  refine hdn.mono ?_
  rintro e w2 ⟨⟨bb, rfl⟩, M, p1, p2, p3, p4, p5⟩
  have hpm := HPM.out M w2 p1 p2 p3 p4 p5
  clear hdn HPM p1 p2 p3 p4 p5 hsw hml hms
  go_wp2_with (go_at_call 164; fail)
  refine hpm.mono ?_
  rintro e w3 ⟨⟨v, rfl⟩, hM⟩
  have HM : Hid (∃ M : List It, (r :: M).Perm L ∧ hp.Heap less M M.length ∧ SG W0 hb g cap M w3 ∧ Kq hb g w w3) := hM
  clear hpm hM
  go_wp2
  go_ret
  exact ⟨⟨_, rfl⟩, HM.out⟩
end Go.Proofs.YtoemkbooomgieaaGreatDoor.rpo

/- The first pair of all runs, taken out of their heap. -/
namespace Go.Proofs.YtoemkbooomgieaaGreatDoor.rfi
open Go.ChangeShapes Go.WideShapes Go.ChangeAt Go.RowKit Go.Proofs.YtoemkbooomgieaaGreatDoor.fl Go.Proofs.YtoemkbooomgieaaGreatDoor.ri Go.Proofs.YtoemkbooomgieaaGreatDoor.rst Go.Proofs.YtoemkbooomgieaaGreatDoor.rpu Go.Proofs.YtoemkbooomgieaaGreatDoor.rpo
set_option linter.unusedVariables false

/-- what is left of a run behind its first pair -/
def nx (r : It) : List It := match r.l with
  | _ :: x :: t => [⟨r.b, r.o + 3, r.c - 1, x :: t, r.p⟩]
  | _ => []
set_option maxRecDepth 100000 in
set_option maxHeartbeats 1000000 in
theorem first_one (W0 : World) (hb g cap : Nat) (L : List It) (r : It) (e : flP.Pr) (w : World) (hS : SG W0 hb g cap L w) (h0 : L[0]? = some r) (hr : r.l = [e]) (hl : L.length ≤ 100) (hH : hp.Heap less L L.length) :
    Calls Tryz.prog 54 #[.pointer (some ⟨hb, 0, none⟩)] w fun x w' => x = .returned (.agg #[.string e.k, .string e.v, .bool e.g]) ∧ ∃ M : List It, (r :: M).Perm L ∧ hp.Heap less M M.length ∧ SG W0 hb g cap M w' ∧ Kq hb g w w' := by
  have hal : Below w.heap.size w (w.alloc (.cells #[.string ⟨#[]⟩, .string ⟨#[]⟩, .bool false] 61)) := (Below.refl _ _).alloc (Nat.le_refl _) _
  have hbn := bnew w #[.string ⟨#[]⟩, .string ⟨#[]⟩, .bool false] 61
  obtain ⟨X, hX⟩ : ∃ X, w.alloc (.cells #[.string ⟨#[]⟩, .string ⟨#[]⟩, .bool false] 61) = X := ⟨_, rfl⟩
  rw [hX] at hal hbn
  have hSX := hS.on hal
  have hbl := (Array.getElem?_eq_some_iff.1 hS.box).1
  obtain ⟨hgc, hgl⟩ : ∃ o, w.heap[g]? = some o := by obtain ⟨cur, h1, _⟩ := hS.row; exact ⟨_, h1⟩
  have hgl2 := (Array.getElem?_eq_some_iff.1 hgl).1
  have HBN : Hid (X.heap[w.heap.size]? = some (.cells #[.string ⟨#[]⟩, .string ⟨#[]⟩, .bool false] 61 (0, 0))) := hbn
  have hXl := (Array.getElem?_eq_some_iff.1 hbn).1
  have hbx : X.cell? ⟨hb, 0, none⟩ = some (.slice (some ⟨g, 0, none⟩) L.length cap) := bcell hSX.box rfl
  have hat := hSX.row.at h0
  have hpos := (List.getElem?_eq_some_iff.1 h0).1
  have i1 : (0 : Int) < (L.length : Int) := by omega
  have HF : Hid (Fits W0 W0.heap.size r) := hS.fits r (List.mem_of_getElem? h0)
  have hrl : r.l[0]? = some e := by rw [hr]; rfl
  have r0 : X.cell? ⟨g, 0, none⟩ = some (.slice (some ⟨r.b, r.o, none⟩) 1 r.c) := by have := hat.c0; rw [hr] at this; simpa using this
  have hpop := pop_run W0 hb g cap L r X hSX h0 hl hH
  have hS0 := hS.bel.size
  clear hS hSX h0 hH hat hbn hgl
  go_enter Tryz.func54, Tryz.ntmps54
  go_wp2_with (go_at_call 80; fail)
  clear hX
  refine hpop.mono ?_
  rintro x w1 ⟨⟨v, rfl⟩, M, p1, p2, p3, p4⟩
  have hF1 := HF.out.below p3.bel
  have d0 : w1.cell? ⟨r.b, r.o, none⟩ = some (.string e.k) := by simpa using hF1.cells 0 e hrl 0 _ rfl
  have d1 : w1.cell? ⟨r.b, r.o + 1, none⟩ = some (.string e.v) := by simpa using hF1.cells 0 e hrl 1 _ rfl
  have d2 : w1.cell? ⟨r.b, r.o + 2, none⟩ = some (.bool e.g) := by simpa using hF1.cells 0 e hrl 2 _ rfl
  have hb1 : w1.heap[w.heap.size]? = some (.cells #[.string ⟨#[]⟩, .string ⟨#[]⟩, .bool false] 61 (0, 0)) := (p4.block w.heap.size hXl (by omega) (by omega)).trans HBN.out
  have b0 : w1.cell? ⟨w.heap.size, 0, none⟩ = some (.string ⟨#[]⟩) := bcell hb1 rfl
  have b1 : w1.cell? ⟨w.heap.size, 1, none⟩ = some (.string ⟨#[]⟩) := bcell hb1 rfl
  have b2 : w1.cell? ⟨w.heap.size, 2, none⟩ = some (.bool false) := bcell hb1 rfl
  have bf : ∀ k, w1.frozen? ⟨w.heap.size, k, none⟩ = false := fun k => bfree hb1 k
  have bf0 := bf 0
  have bf1 := bf 1
  have bf2 := bf 2
  have hYb := bset (bset (bset hb1 0 (.string e.k)) 1 (.string e.v)) 2 (.bool e.g)
  obtain ⟨Y, hY⟩ : ∃ Y, ((w1.setCell ⟨w.heap.size, 0, none⟩ (.string e.k)).setCell ⟨w.heap.size, 1, none⟩ (.string e.v)).setCell ⟨w.heap.size, 2, none⟩ (.bool e.g) = Y := ⟨_, rfl⟩
  have hw1s : w.heap.size < w1.heap.size := (Array.getElem?_eq_some_iff.1 hb1).1
  have hYo : ∀ k, k ≠ w.heap.size → Y.heap[k]? = w1.heap[k]? := fun k hk => by rw [← hY, Below.heap_setCell _ _ _ k hk, Below.heap_setCell _ _ _ k hk, Below.heap_setCell _ _ _ k hk]
  have hYs : Y.heap.size = w1.heap.size := by rw [← hY]; simp
  rw [hY] at hYb
  have y0 : Y.cell? ⟨w.heap.size, 0, none⟩ = some (.string e.k) := bcell hYb rfl
  have y1 : Y.cell? ⟨w.heap.size, 1, none⟩ = some (.string e.v) := bcell hYb rfl
  have y2 : Y.cell? ⟨w.heap.size, 2, none⟩ = some (.bool e.g) := bcell hYb rfl
  have hsz := p3.bel.size
  have hSY : SG W0 hb g cap M Y := by
    obtain ⟨cur, c1, c2⟩ := p3.row
    refine ⟨⟨by rw [← hY]; exact p3.bel.os, by rw [← hY]; exact p3.bel.tape, by rw [← hY]; exact p3.bel.output, by omega, fun k hk => (hYo k (by have := hS0; omega)).trans (p3.bel.block k hk)⟩, p3.hbB, p3.gB, p3.ne, (hYo hb (by omega)).trans p3.box, ⟨cur, (hYo g (by omega)).trans c1, c2⟩, p3.fits⟩
  have hKY : Kq hb g w Y := ⟨by rw [← hY]; exact p4.os.trans hal.os, by rw [← hY]; exact p4.tape.trans hal.tape, by rw [← hY]; exact p4.output.trans hal.output, by omega, fun k hk h1 h2 => ((hYo k (by omega)).trans (p4.block k (by omega) h1 h2)).trans (hal.block k hk)⟩
  have HM : Hid (∃ M : List It, (r :: M).Perm L ∧ hp.Heap less M M.length ∧ SG W0 hb g cap M Y ∧ Kq hb g w Y) := ⟨M, p1, p2, hSY, hKY⟩
  clear hpop p1 p2 p3 p4 hF1 hbx r0 hSY hKY hYo hYs hYb hb1 bf HBN
  go_wp2
  exact bodyPost_ret (v := .agg #[.string e.k, .string e.v, .bool e.g]) (by simp [results, Tryz.results54, go_sem, y0, y1, y2]) rfl ⟨rfl, HM.out⟩

def ws (hb g n cap : Nat) (r : It) (m : Nat) : List (Nat × Value) :=
  [(16, .pointer (some ⟨hb, 0, none⟩)), (17, .pointer (some ⟨hb, 0, none⟩)), (18, .slice (some ⟨g, 0, none⟩) n cap), (19, .slice (some ⟨r.b, r.o, none⟩) (m + 2) r.c), (20, .slice (some ⟨r.b, r.o + 3, none⟩) (m + 1) (r.c - 1)), (21, .pointer (some ⟨g, 0, none⟩)), (22, .pointer (some ⟨g, 0, none⟩))]
def D (X Y : World) (b : Bool) (W : World) : Prop := W = if b = true then Y else X
theorem D.at {X Y W : World} {b : Bool} (h : D X Y b W) {a : Addr} {v : Value} (hx : X.cell? a = some v) (hy : Y.cell? a = some v) : W.cell? a = some v := by
  unfold D at h
  subst h
  split <;> assumption

set_option maxRecDepth 100000 in
set_option maxHeartbeats 1000000 in
theorem first_more (W0 : World) (hb g cap : Nat) (L : List It) (r : It) (e f : flP.Pr) (t : List flP.Pr) (w : World) (hS : SG W0 hb g cap L w) (h0 : L[0]? = some r) (hr : r.l = e :: f :: t) (hl : L.length ≤ 100) (hc : r.l.length ≤ r.c) (hH : hp.Heap less L L.length) :
    Calls Tryz.prog 54 #[.pointer (some ⟨hb, 0, none⟩)] w fun x w' => x = .returned (.agg #[.string e.k, .string e.v, .bool e.g]) ∧ ∃ M : List It, M.Perm (L.set 0 ⟨r.b, r.o + 3, r.c - 1, f :: t, r.p⟩) ∧ hp.Heap less M M.length ∧ SG W0 hb g cap M w' ∧ Kq hb g w w' := by
  have hal : Below w.heap.size w (w.alloc (.cells #[.string ⟨#[]⟩, .string ⟨#[]⟩, .bool false] 61)) := (Below.refl _ _).alloc (Nat.le_refl _) _
  have hbn := bnew w #[.string ⟨#[]⟩, .string ⟨#[]⟩, .bool false] 61
  obtain ⟨X, hX⟩ : ∃ X, w.alloc (.cells #[.string ⟨#[]⟩, .string ⟨#[]⟩, .bool false] 61) = X := ⟨_, rfl⟩
  rw [hX] at hal hbn
  have hSX := hS.on hal
  have hbl := (Array.getElem?_eq_some_iff.1 hS.box).1
  obtain ⟨hgc, hgl⟩ : ∃ o, w.heap[g]? = some o := by obtain ⟨cur, h1, _⟩ := hS.row; exact ⟨_, h1⟩
  have hgl2 := (Array.getElem?_eq_some_iff.1 hgl).1
  have HBN : Hid (X.heap[w.heap.size]? = some (.cells #[.string ⟨#[]⟩, .string ⟨#[]⟩, .bool false] 61 (0, 0))) := hbn
  have hXl := (Array.getElem?_eq_some_iff.1 hbn).1
  have hbx : X.cell? ⟨hb, 0, none⟩ = some (.slice (some ⟨g, 0, none⟩) L.length cap) := bcell hSX.box rfl
  have hat := hSX.row.at h0
  have hpos := (List.getElem?_eq_some_iff.1 h0).1
  have i1 : (0 : Int) < (L.length : Int) := by omega
  have HF : Hid (Fits W0 W0.heap.size r) := hS.fits r (List.mem_of_getElem? h0)
  have hrl : r.l[0]? = some e := by rw [hr]; rfl
  have hlen : r.l.length = t.length + 2 := by rw [hr]; rfl
  have r0 : X.cell? ⟨g, 0, none⟩ = some (.slice (some ⟨r.b, r.o, none⟩) (t.length + 2) r.c) := by have := hat.c0; rw [hlen] at this; simpa using this
  have hS0 := hS.bel.size
  obtain ⟨cur, c1, c2, c3, c4, c5⟩ := hSX.row
  have hne := hSX.ne
  have hgB := hSX.gB
  have hbB := hSX.hbB
  -- the world behind the store
  have hZb := bset (show X.drew.heap[g]? = some (.cells cur 101 (0, 0)) from c1) 0 (.slice (some ⟨r.b, r.o + 3, none⟩) (t.length + 1) (r.c - 1))
  obtain ⟨V, hV⟩ : ∃ V, X.drew = V := ⟨_, rfl⟩
  have v0 : V.cell? ⟨g, 0, none⟩ = some (.slice (some ⟨r.b, r.o, none⟩) (t.length + 2) r.c) := by rw [← hV]; exact r0
  have vf : V.frozen? ⟨g, 0, none⟩ = false := by rw [← hV]; exact bfree (show X.drew.heap[g]? = _ from c1) 0
  have vb : V.cell? ⟨hb, 0, none⟩ = some (.slice (some ⟨g, 0, none⟩) L.length cap) := by rw [← hV]; exact hbx
  rw [hV] at hZb
  obtain ⟨Z, hZ⟩ : ∃ Z, V.setCell ⟨g, 0, none⟩ (.slice (some ⟨r.b, r.o + 3, none⟩) (t.length + 1) (r.c - 1)) = Z := ⟨_, rfl⟩
  have hZo : ∀ k, k ≠ g → Z.heap[k]? = X.heap[k]? := fun k hk => by rw [← hZ, Below.heap_setCell _ _ _ k hk, ← hV]; rfl
  have hZs : Z.heap.size = X.heap.size := by rw [← hZ, ← hV]; simp
  have hKZ : Kq hb g X Z := ⟨by rw [← hZ, ← hV]; rfl, by rw [← hZ, ← hV]; rfl, by rw [← hZ, ← hV]; rfl, by omega, fun k _ h1 _ => hZo k h1⟩
  rw [hZ] at hZb
  have hzl : g < X.heap.size := (Array.getElem?_eq_some_iff.1 c1).1
  have zb : Z.cell? ⟨hb, 0, none⟩ = some (.slice (some ⟨g, 0, none⟩) L.length cap) := by
    have := (hZo hb (Ne.symm hne)).trans hSX.box
    exact bcell this rfl
  have hfr := hS.fits r (List.mem_of_getElem? h0)
  have hSZ : SG W0 hb g cap (L.set 0 ⟨r.b, r.o + 3, r.c - 1, f :: t, r.p⟩) Z := by
    have hXs := hSX.bel.size
    refine ⟨⟨hKZ.os.trans hSX.bel.os, hKZ.tape.trans hSX.bel.tape, hKZ.output.trans hSX.bel.output, by omega, fun k hk => (hZo k (by omega)).trans (hSX.bel.block k hk)⟩, hbB, hgB, hne, by rw [List.length_set]; exact (hZo hb (Ne.symm hne)).trans hSX.box, ⟨_, hZb, by simpa using c2, by rw [List.length_set]; exact c3, c4, fun i q hq j v hv => ?_⟩, fun q hq => ?_⟩
    · have hj : j < 2 := by have := (List.getElem?_eq_some_iff.1 hv).1; rwa [cI_len] at this
      rw [List.getElem?_set] at hq
      rw [Array.getElem?_setIfInBounds]
      by_cases ei : 0 = i
      · subst ei
        rw [if_pos rfl, if_pos hpos] at hq
        cases hq
        have : j = 0 ∨ j = 1 := by omega
        rcases this with rfl | rfl
        · rw [if_pos (by omega), if_pos (by omega)]
          simpa [cI] using hv
        · rw [if_neg (by omega)]
          exact c5 0 r h0 1 v hv
      · rw [if_neg ei] at hq
        rw [if_neg (by omega)]
        exact c5 i q hq j v hv
    · rcases List.mem_or_eq_of_mem_set hq with h | rfl
      · exact hS.fits q h
      · exact ⟨hfr.lt, by simp, by have := hfr.len; rw [hlen] at this; simp; omega, hfr.pl, fun i y hy j v hv => by
          have := hfr.cells (i + 1) y (by rw [hr]; simpa using hy) j v hv
          have e2 : r.o + (i + 1) * 3 + j = (r.o + 3) + i * 3 + j := by omega
          rw [e2] at this
          exact this⟩
  have hfix := fun W (h : Z = W) => fix_run W0 hb g cap (L.set 0 ⟨r.b, r.o + 3, r.c - 1, f :: t, r.p⟩) Z hSZ (by simpa using hpos) (by simpa using hl) (by rw [List.length_set]; exact hp.down_set hH)
  have hfixZ := hfix Z rfl
  have hcc : t.length + 2 ≤ r.c := by omega
  have hL0 : L ≠ [] := by rintro rfl; simp at hpos
  clear hfix hS hSX h0 hH hat hbn hgl hSZ c1 c2 c3 c4 c5 hfr hZb hlen hr hc
  go_enter Tryz.func54, Tryz.ntmps54
  go_wp2
  clear hX
  refine dk.region_sets (ws hb g L.length cap r t.length) [16, 17, 18, 19, 20, 21, 22] (dk.Cl (D V Z) 7) (by kernel_rfl) (by kernel_rfl) rfl (by kernel_rfl) (by show D V Z false X.drew; exact hV) ?each ?fin
  case each =>
    refine ⟨dk.q (by decide) (.pointer (some ⟨hb, 0, none⟩)) (by rintro _ ⟨⟩; exact dk.sets_on _ (by simp) _ rfl) (fun b W h => by simp [execOp, go_sem, Act.eval, dk.sets_get, ws, List.lookup]), ?_⟩
    refine ⟨dk.q (by decide) (.pointer (some ⟨hb, 0, none⟩)) (by rintro _ ⟨⟩; exact dk.sets_on _ (by simp) _ rfl) (fun b W h => by simp [execOp, go_sem, Act.eval, dk.sets_get, ws, List.lookup]), ?_⟩
    refine ⟨dk.q (by decide) (.slice (some ⟨g, 0, none⟩) L.length cap) (by rintro _ ⟨⟩; exact dk.sets_on _ (by simp) _ rfl) (fun b W h => by have c := D.at h vb zb; simp [execOp, go_sem, Act.eval, dk.sets_get, ws, List.lookup, c]), ?_⟩
    refine ⟨dk.q (by decide) (.slice (some ⟨r.b, r.o, none⟩) (t.length + 2) r.c) (by rintro _ ⟨⟩; exact dk.sets_on _ (by simp) _ rfl) (fun b W h => by simp [execOp, go_sem, Act.eval, dk.sets_get, ws, List.lookup]), ?_⟩
    refine ⟨dk.q (by decide) (.slice (some ⟨r.b, r.o + 3, none⟩) (t.length + 1) (r.c - 1)) (by rintro _ ⟨⟩; exact dk.sets_on _ (by simp) _ rfl) (fun b W h => by simp [execOp, go_sem, Act.eval, dk.sets_get, ws, List.lookup]; rw [if_pos (by omega), if_neg (by omega)]), ?_⟩
    refine ⟨dk.q (by decide) (.pointer (some ⟨g, 0, none⟩)) (by rintro _ ⟨⟩; exact dk.sets_on _ (by simp) _ rfl) (fun b W h => by simp [execOp, go_sem, Act.eval, dk.sets_get, ws, List.lookup, hL0]), ?_⟩
    refine ⟨dk.q (by decide) (.pointer (some ⟨g, 0, none⟩)) (by rintro _ ⟨⟩; exact dk.sets_on _ (by simp) _ rfl) (fun b W h => by simp [execOp, go_sem, Act.eval, dk.sets_get, ws, List.lookup]), ?_⟩
    exact ⟨dk.last rfl (fun W h => ⟨Z, by have h : W = V := h; subst h; rw [← hZ]; simp [execOp, go_sem, Act.eval, dk.sets_get, ws, List.lookup, v0, vf], rfl⟩), trivial⟩
  case fin =>
    intro K W hK hC
    have hC' : W = Z := by
      have h : D V Z (K 7) W := hC
      rw [hK 7 (by decide)] at h
      exact h
    subst hC'
    clear hC hK
    simp only [dk.sets, ws]
    go_wp2_with (go_at_call 81; fail)
    refine hfixZ.mono ?_
    rintro x w1 ⟨rfl, M, p1, p2, p3, p4'⟩
    have p4 := hKZ.trans (Kq.of (hb := hb) p4')
    have hF1 := HF.out.below p3.bel
    have d0 : w1.cell? ⟨r.b, r.o, none⟩ = some (.string e.k) := by simpa using hF1.cells 0 e hrl 0 _ rfl
    have d1 : w1.cell? ⟨r.b, r.o + 1, none⟩ = some (.string e.v) := by simpa using hF1.cells 0 e hrl 1 _ rfl
    have d2 : w1.cell? ⟨r.b, r.o + 2, none⟩ = some (.bool e.g) := by simpa using hF1.cells 0 e hrl 2 _ rfl
    have hb1 : w1.heap[w.heap.size]? = some (.cells #[.string ⟨#[]⟩, .string ⟨#[]⟩, .bool false] 61 (0, 0)) := (p4.block w.heap.size hXl (by omega) (by omega)).trans HBN.out
    have b0 : w1.cell? ⟨w.heap.size, 0, none⟩ = some (.string ⟨#[]⟩) := bcell hb1 rfl
    have b1 : w1.cell? ⟨w.heap.size, 1, none⟩ = some (.string ⟨#[]⟩) := bcell hb1 rfl
    have b2 : w1.cell? ⟨w.heap.size, 2, none⟩ = some (.bool false) := bcell hb1 rfl
    have bf : ∀ k, w1.frozen? ⟨w.heap.size, k, none⟩ = false := fun k => bfree hb1 k
    have bf0 := bf 0
    have bf1 := bf 1
    have bf2 := bf 2
    have hYb := bset (bset (bset hb1 0 (.string e.k)) 1 (.string e.v)) 2 (.bool e.g)
    obtain ⟨Y, hY⟩ : ∃ Y, ((w1.setCell ⟨w.heap.size, 0, none⟩ (.string e.k)).setCell ⟨w.heap.size, 1, none⟩ (.string e.v)).setCell ⟨w.heap.size, 2, none⟩ (.bool e.g) = Y := ⟨_, rfl⟩
    have hw1s : w.heap.size < w1.heap.size := (Array.getElem?_eq_some_iff.1 hb1).1
    have hYo : ∀ k, k ≠ w.heap.size → Y.heap[k]? = w1.heap[k]? := fun k hk => by rw [← hY, Below.heap_setCell _ _ _ k hk, Below.heap_setCell _ _ _ k hk, Below.heap_setCell _ _ _ k hk]
    have hYs : Y.heap.size = w1.heap.size := by rw [← hY]; simp
    rw [hY] at hYb
    have y0 : Y.cell? ⟨w.heap.size, 0, none⟩ = some (.string e.k) := bcell hYb rfl
    have y1 : Y.cell? ⟨w.heap.size, 1, none⟩ = some (.string e.v) := bcell hYb rfl
    have y2 : Y.cell? ⟨w.heap.size, 2, none⟩ = some (.bool e.g) := bcell hYb rfl
    have hsz := p3.bel.size
    have hSY : SG W0 hb g cap M Y := by
      obtain ⟨cur, c1, c2⟩ := p3.row
      refine ⟨⟨by rw [← hY]; exact p3.bel.os, by rw [← hY]; exact p3.bel.tape, by rw [← hY]; exact p3.bel.output, by omega, fun k hk => (hYo k (by have := hS0; omega)).trans (p3.bel.block k hk)⟩, p3.hbB, p3.gB, p3.ne, (hYo hb (by omega)).trans p3.box, ⟨cur, (hYo g (by omega)).trans c1, c2⟩, p3.fits⟩
    have hKY : Kq hb g w Y := ⟨by rw [← hY]; exact p4.os.trans hal.os, by rw [← hY]; exact p4.tape.trans hal.tape, by rw [← hY]; exact p4.output.trans hal.output, by omega, fun k hk h1 h2 => ((hYo k (by omega)).trans (p4.block k (by omega) h1 h2)).trans (hal.block k hk)⟩
    have HM : Hid (∃ M : List It, M.Perm (L.set 0 ⟨r.b, r.o + 3, r.c - 1, f :: t, r.p⟩) ∧ hp.Heap less M M.length ∧ SG W0 hb g cap M Y ∧ Kq hb g w Y) := ⟨M, p1, p2, hSY, hKY⟩
    clear hfixZ p1 p2 p3 p4 p4' hF1 hbx r0 hSY hKY hYo hYs hYb hb1 bf HBN hKZ hZo hZs zb vb v0 vf
    go_wp2
    exact bodyPost_ret (v := .agg #[.string e.k, .string e.v, .bool e.g]) (by simp [results, Tryz.results54, go_sem, y0, y1, y2]) rfl ⟨rfl, HM.out⟩
end Go.Proofs.YtoemkbooomgieaaGreatDoor.rfi

/- Layers of ascending pairs put together: the newest of each key, ascending. -/
namespace Go.Proofs.YtoemkbooomgieaaGreatDoor.mgp
open Go.Proofs.YtoemkbooomgieaaGreatDoor.rc Go.Proofs.YtoemkbooomgieaaGreatDoor.ro Go.Proofs.YtoemkbooomgieaaGreatDoor.tk Go.Proofs.YtoemkbooomgieaaGreatDoor.ptp Go.Proofs.YtoemkbooomgieaaGreatDoor.ri
set_option linter.unusedVariables false

theorem asc_of {l : List flP.Pr} (h : UpP l l.length) : Asc l := by
  unfold Asc
  rw [List.pairwise_iff_getElem]
  have step : ∀ (d i : Nat) a b, l[i]? = some a → l[i + d + 1]? = some b → lt a.k b.k = true := by
    intro d
    induction d with
    | zero => intro i a b ha hb; exact cmp_neg.1 (h i a b (List.getElem?_eq_some_iff.1 hb).1 ha hb)
    | succ d ih =>
      intro i a b ha hb
      have hlt : i + d + 1 < l.length := by have := (List.getElem?_eq_some_iff.1 hb).1; omega
      have hm : l[i + d + 1]? = some l[i + d + 1] := List.getElem?_eq_getElem hlt
      exact lt_trans (ih i a _ ha hm) (cmp_neg.1 (h (i + d + 1) _ b (by have := (List.getElem?_eq_some_iff.1 hb).1; omega) hm (by rw [show i + d + 1 + 1 = i + (d + 1) + 1 by omega]; exact hb)))
  intro i j hi hj hij
  obtain ⟨d, rfl⟩ : ∃ d, j = i + d + 1 := ⟨j - i - 1, by omega⟩
  exact step d i _ _ (List.getElem?_eq_getElem hi) (List.getElem?_eq_getElem hj)
/-- x is the newest of its key in the layers, the first one counting most -/
def New (ls : List (List flP.Pr)) (x : flP.Pr) : Prop := ∃ (i : Nat) (l : List flP.Pr), ls[i]? = some l ∧ x ∈ l ∧ ∀ (j : Nat) (m : List flP.Pr), j < i → ls[j]? = some m → ∀ y ∈ m, y.k ≠ x.k
theorem new_one {ls : List (List flP.Pr)} (hA : ∀ l ∈ ls, Asc l) {x y : flP.Pr} (hx : New ls x) (hy : New ls y) (hk : x.k = y.k) : x = y := by
  obtain ⟨i, l, h1, h2, h3⟩ := hx
  obtain ⟨j, m, k1, k2, k3⟩ := hy
  rcases Nat.lt_trichotomy i j with h | rfl | h
  · exact absurd hk (k3 i l h h1 x h2)
  · rw [h1] at k1; cases k1
    exact asc_key (hA l (List.mem_of_getElem? h1)) h2 k2 hk
  · exact absurd hk.symm (h3 j m h k1 y k2)
/-- the newest of each key, ascending: there is one such list -/
def Is (ls : List (List flP.Pr)) (out : List flP.Pr) : Prop := Asc out ∧ ∀ x, x ∈ out ↔ New ls x
theorem Is.one {ls : List (List flP.Pr)} {a b : List flP.Pr} (ha : Is ls a) (hb : Is ls b) : a = b := asc_ext ha.1 hb.1 fun e => (ha.2 e).trans (hb.2 e).symm

/-- what stands while the runs are put together -/
structure Inv (ls : List (List flP.Pr)) (M : List It) (out : List flP.Pr) : Prop where
  sf : ∀ r ∈ M, ∃ l d, ls[r.p]? = some l ∧ l = d ++ r.l
  up : Asc out
  lo : ∀ r ∈ M, ∀ e ∈ r.l, ∀ x ∈ out, lt e.k x.k = false
  nw : ∀ x ∈ out, New ls x
  cv : ∀ (i : Nat) l, ls[i]? = some l → ∀ e ∈ l, (∃ x ∈ out, x.k = e.k) ∨ ∃ r ∈ M, r.p = i ∧ e ∈ r.l
theorem Inv.perm {ls : List (List flP.Pr)} {M N : List It} {out : List flP.Pr} (h : Inv ls M out) (hp : N.Perm M) : Inv ls N out :=
  ⟨fun r hr => h.sf r (hp.mem_iff.1 hr), h.up, fun r hr => h.lo r (hp.mem_iff.1 hr), h.nw, fun i l hl e he => (h.cv i l hl e he).imp_right fun ⟨r, hr, h2⟩ => ⟨r, hp.mem_iff.2 hr, h2⟩⟩
theorem Inv.fin {ls : List (List flP.Pr)} {out : List flP.Pr} (hA : ∀ l ∈ ls, Asc l) (h : Inv ls [] out) : Is ls out := by
  refine ⟨h.up, fun x => ⟨h.nw x, fun hx => ?_⟩⟩
  obtain ⟨i, l, h1, h2, h3⟩ := hx
  rcases h.cv i l h1 x h2 with ⟨y, hy, hk⟩ | ⟨r, hr, _⟩
  · rw [← new_one hA (h.nw y hy) ⟨i, l, h1, h2, h3⟩ hk]; exact hy
  · cases hr
theorem suffix_asc {d l : List flP.Pr} (h : Asc (d ++ l)) : Asc l := (List.pairwise_append.1 h).2.1
/-- the first pair of all: no pair that is left comes ahead of it -/
theorem least {ls : List (List flP.Pr)} {r : It} {rest : List It} {e : flP.Pr} {t : List flP.Pr} {out : List flP.Pr} (hA : ∀ l ∈ ls, Asc l) (h : Inv ls (r :: rest) out) (hr : r.l = e :: t) (hm : ∀ q ∈ rest, less q r = false) : ∀ q ∈ r :: rest, ∀ y ∈ q.l, lt y.k e.k = false ∧ (y.k = e.k → r.p ≤ q.p) := by
  intro q hq y hy
  obtain ⟨l, d, h1, h2⟩ := h.sf q hq
  have hq2 : Asc q.l := suffix_asc (by rw [← h2]; exact hA l (List.mem_of_getElem? h1))
  obtain ⟨f, u, hf⟩ : ∃ f u, q.l = f :: u := by
    cases hh : q.l with
    | nil => rw [hh] at hy; cases hy
    | cons f u => exact ⟨f, u, rfl⟩
  have hke : key r = e.k := by unfold key; rw [hr]
  have hkf : key q = f.k := by unfold key; rw [hf]
  have hfy : lt y.k f.k = false ∧ (y.k = f.k ∨ lt f.k y.k = true) := by
    rw [hf] at hy hq2
    rcases List.mem_cons.1 hy with rfl | hy
    · exact ⟨lt_irrefl _, .inl rfl⟩
    · have := (List.pairwise_cons.1 hq2).1 y hy
      exact ⟨lt_asymm this, .inr this⟩
  have hfe : lt f.k e.k = false ∧ (f.k = e.k → r.p ≤ q.p) := by
    rcases List.mem_cons.1 hq with rfl | hq'
    · rw [hr] at hf; cases hf
      exact ⟨lt_irrefl _, fun _ => Nat.le_refl _⟩
    · have hl := hm q hq'
      refine ⟨?_, fun hk => ?_⟩
      · cases h3 : lt f.k e.k with
        | false => rfl
        | true => rw [less_iff.2 (.inl (by rw [hke, hkf]; exact h3))] at hl; cases hl
      · rcases Nat.lt_or_ge q.p r.p with h3 | h3
        · rw [less_iff.2 (.inr ⟨by rw [hke, hkf]; exact hk, h3⟩)] at hl; cases hl
        · exact h3
  refine ⟨?_, fun hk => ?_⟩
  · rcases hfy.2 with h3 | h3
    · rw [h3]; exact hfe.1
    · cases h4 : lt y.k e.k with
      | false => rfl
      | true => have := lt_trans h3 h4; rw [hfe.1] at this; cases this
  · refine hfe.2 ?_
    rcases hfy.2 with h3 | h3
    · rw [← h3]; exact hk
    · rw [hk] at h3
      rw [hfe.1] at h3; cases h3
theorem Inv.next {ls : List (List flP.Pr)} {r : It} {rest : List It} {e : flP.Pr} {t : List flP.Pr} {out out' : List flP.Pr} (h : Inv ls (r :: rest) out) (hr : r.l = e :: t) (hup : Asc out') (hlo : ∀ q ∈ rfi.nx r ++ rest, ∀ y ∈ q.l, ∀ x ∈ out', lt y.k x.k = false) (hnw : ∀ x ∈ out', New ls x) (hsub : ∀ x ∈ out, x ∈ out') (hek : ∃ x ∈ out', x.k = e.k) : Inv ls (rfi.nx r ++ rest) out' := by
  have hnx : ∀ q ∈ rfi.nx r, q.p = r.p ∧ q.l = t := fun q hq => by
    unfold rfi.nx at hq
    rw [hr] at hq
    cases t with
    | nil => cases hq
    | cons f u => simp at hq; subst hq; exact ⟨rfl, rfl⟩
  refine ⟨fun q hq => ?_, hup, hlo, hnw, fun i l hl y hy => ?_⟩
  · rcases List.mem_append.1 hq with hq | hq
    · obtain ⟨h1, h2⟩ := hnx q hq
      obtain ⟨l, d, h3, h4⟩ := h.sf r (by simp)
      exact ⟨l, d ++ [e], by rw [h1]; exact h3, by rw [h4, hr, h2]; simp⟩
    · exact h.sf q (by simp [hq])
  · rcases h.cv i l hl y hy with ⟨x, hx, hk⟩ | ⟨q, hq, h1, h2⟩
    · exact .inl ⟨x, hsub x hx, hk⟩
    · rcases List.mem_cons.1 hq with rfl | hq
      · rw [hr] at h2
        rcases List.mem_cons.1 h2 with rfl | h2
        · exact .inl hek
        · cases ht : t with
          | nil => rw [ht] at h2; cases h2
          | cons f u =>
            rw [ht] at h2
            refine .inr ⟨⟨q.b, q.o + 3, q.c - 1, f :: u, q.p⟩, ?_, h1, h2⟩
            unfold rfi.nx
            rw [hr, ht]
            simp
      · exact .inr ⟨q, by simp [hq], h1, h2⟩
/-- the popped pair's key is there already -/
theorem Inv.skip {ls : List (List flP.Pr)} {r : It} {rest : List It} {e z : flP.Pr} {t : List flP.Pr} {out : List flP.Pr} (h : Inv ls (r :: rest) out) (hr : r.l = e :: t) (hz : z ∈ out) (hk : z.k = e.k) : Inv ls (rfi.nx r ++ rest) out := by
  refine h.next hr h.up (fun q hq y hy x hx => ?_) h.nw (fun x hx => hx) ⟨z, hz, hk⟩
  rcases List.mem_append.1 hq with hq | hq
  · have : q.l = t := by
      unfold rfi.nx at hq
      rw [hr] at hq
      cases t with
      | nil => cases hq
      | cons f u => simp at hq; subst hq; rfl
    rw [this] at hy
    exact h.lo r (by simp) y (by rw [hr]; simp [hy]) x hx
  · exact h.lo q (by simp [hq]) y hy x hx
/-- the popped pair is a new one -/
theorem Inv.take {ls : List (List flP.Pr)} {r : It} {rest : List It} {e : flP.Pr} {t : List flP.Pr} {out : List flP.Pr} (hA : ∀ l ∈ ls, Asc l) (h : Inv ls (r :: rest) out) (hr : r.l = e :: t) (hm : ∀ q ∈ rest, less q r = false) (hne : ∀ z, out.getLast? = some z → z.k ≠ e.k) : Inv ls (rfi.nx r ++ rest) (out ++ [e]) := by
  have hl := least hA h hr hm
  have hout : ∀ x ∈ out, lt x.k e.k = true := fun x hx => by
    have h1 := h.lo r (by simp) e (by rw [hr]; simp) x hx
    cases hg : out.getLast? with
    | none => rw [List.getLast?_eq_none_iff] at hg; rw [hg] at hx; cases hx
    | some z =>
      obtain ⟨pre, hpre⟩ := List.getLast?_eq_some_iff.1 hg
      have hz : z ∈ out := by rw [hpre]; simp
      have hz1 := h.lo r (by simp) e (by rw [hr]; simp) z hz
      have hz2 : lt z.k e.k = true := lt_tri hz1 (Ne.symm (hne z hg))
      rw [hpre] at hx
      rcases List.mem_append.1 hx with hx | hx
      · have := h.up
        rw [hpre] at this
        exact lt_trans ((List.pairwise_append.1 this).2.2 x hx z (by simp)) hz2
      · simp at hx; subst hx; exact hz2
  refine h.next hr ?_ (fun q hq y hy x hx => ?_) (fun x hx => ?_) (fun x hx => by simp [hx]) ⟨e, by simp, rfl⟩
  · refine List.pairwise_append.2 ⟨h.up, by simp, fun x hx y hy => ?_⟩
    simp at hy; subst hy
    exact hout x hx
  · have hy' : lt y.k e.k = false ∧ ∀ x ∈ out, lt y.k x.k = false := by
      rcases List.mem_append.1 hq with hq | hq
      · have : q.l = t := by
          unfold rfi.nx at hq
          rw [hr] at hq
          cases t with
          | nil => cases hq
          | cons f u => simp at hq; subst hq; rfl
        rw [this] at hy
        exact ⟨(hl r (by simp) y (by rw [hr]; simp [hy])).1, h.lo r (by simp) y (by rw [hr]; simp [hy])⟩
      · exact ⟨(hl q (by simp [hq]) y hy).1, h.lo q (by simp [hq]) y hy⟩
    rcases List.mem_append.1 hx with hx | hx
    · exact hy'.2 x hx
    · simp at hx; subst hx; exact hy'.1
  · rcases List.mem_append.1 hx with hx | hx
    · exact h.nw x hx
    · simp at hx; subst hx
      obtain ⟨l, d, h1, h2⟩ := h.sf r (by simp)
      refine ⟨r.p, l, h1, by rw [h2, hr]; simp, fun j m hj hmm y hy hk => ?_⟩
      rcases h.cv j m hmm y hy with ⟨z, hz, hzk⟩ | ⟨q, hq, h3, h4⟩
      · have := hout z hz
        rw [hzk, hk, lt_irrefl] at this; cases this
      · have := (hl q hq y h4).2 hk
        omega
end Go.Proofs.YtoemkbooomgieaaGreatDoor.mgp

/- The newest of each key, one pair of the next layer after the other. -/
namespace Go.Proofs.YtoemkbooomgieaaGreatDoor.mgs
open Go.Proofs.YtoemkbooomgieaaGreatDoor.rc Go.Proofs.YtoemkbooomgieaaGreatDoor.ro Go.Proofs.YtoemkbooomgieaaGreatDoor.tk Go.Proofs.YtoemkbooomgieaaGreatDoor.ptp Go.Proofs.YtoemkbooomgieaaGreatDoor.mgp
set_option linter.unusedVariables false

theorem at_app {L : List (List flP.Pr)} {m l : List flP.Pr} {i : Nat} (h : (L ++ [m])[i]? = some l) : (i < L.length ∧ L[i]? = some l) ∨ (i = L.length ∧ l = m) := by
  rcases Nat.lt_or_ge i L.length with h1 | h1
  · rw [List.getElem?_append_left h1] at h; exact .inl ⟨h1, h⟩
  · rw [List.getElem?_append_right h1] at h
    have : i - L.length = 0 := by
      rcases Nat.eq_zero_or_pos (i - L.length) with h2 | h2
      · exact h2
      · rw [List.getElem?_eq_none (by simp; omega)] at h; cases h
    rw [this] at h
    simp at h
    exact .inr ⟨by omega, h.symm⟩
theorem new_app {L : List (List flP.Pr)} {m : List flP.Pr} {x : flP.Pr} : New (L ++ [m]) x ↔ New L x ∨ (x ∈ m ∧ ∀ (j : Nat) (l : List flP.Pr), L[j]? = some l → ∀ y ∈ l, y.k ≠ x.k) := by
  constructor
  · rintro ⟨i, l, h1, h2, h3⟩
    rcases at_app h1 with ⟨hi, hl⟩ | ⟨rfl, rfl⟩
    · exact .inl ⟨i, l, hl, h2, fun j q hj hq => h3 j q hj (by rw [List.getElem?_append_left (by omega)]; exact hq)⟩
    · exact .inr ⟨h2, fun j q hq => h3 j q (List.getElem?_eq_some_iff.1 hq).1 (by rw [List.getElem?_append_left (List.getElem?_eq_some_iff.1 hq).1]; exact hq)⟩
  · rintro (⟨i, l, h1, h2, h3⟩ | ⟨h2, h3⟩)
    · have hi := (List.getElem?_eq_some_iff.1 h1).1
      exact ⟨i, l, by rw [List.getElem?_append_left hi]; exact h1, h2, fun j q hj hq => h3 j q hj (by rw [List.getElem?_append_left (by omega)] at hq; exact hq)⟩
    · refine ⟨L.length, m, by simp, h2, fun j q hj hq => h3 j q (by rw [List.getElem?_append_left hj] at hq; exact hq)⟩
/-- a pair of a layer that counts more -/
theorem is_over {a b all : List flP.Pr} {k : Nat} {e : flP.Pr} (h : Is [a.take k, b] all) (hA : Asc a) (hk : a[k]? = some e) : Is [a.take (k + 1), b] (setP all e) := by
  obtain ⟨hl, rfl⟩ := List.getElem?_eq_some_iff.1 hk
  have ht : a.take (k + 1) = a.take k ++ [a[k]] := by rw [List.take_succ_eq_append_getElem hl]
  have hA2 : Asc (a.take k ++ [a[k]]) := by rw [← ht]; exact hA.sublist (List.take_sublist _ _)
  have two : ∀ (u v : List flP.Pr) (x : flP.Pr), New [u, v] x ↔ x ∈ u ∨ (x ∈ v ∧ ∀ y ∈ u, y.k ≠ x.k) := fun u v x => by
    have h1 := new_app (L := [u]) (m := v) (x := x)
    have h2 := new_app (L := []) (m := u) (x := x)
    rw [List.nil_append] at h2
    rw [show [u, v] = [u] ++ [v] from rfl, h1, h2]
    constructor
    · rintro ((⟨i, q, h3, _⟩ | ⟨h3, _⟩) | ⟨h3, h4⟩)
      · simp at h3
      · exact .inl h3
      · exact .inr ⟨h3, h4 0 u rfl⟩
    · rintro (h3 | ⟨h3, h4⟩)
      · exact .inl (.inr ⟨h3, fun j q hq => by simp at hq⟩)
      · refine .inr ⟨h3, fun j q hq => ?_⟩
        cases j with
        | zero => simp at hq; subst hq; exact h4
        | succ j => simp at hq
  refine ⟨setP_asc h.1 _, fun x => ?_⟩
  rw [setP_iff h.1, h.2 x, two, two, ht]
  constructor
  · rintro (rfl | ⟨h1 | ⟨h1, h2⟩, h3⟩)
    · exact .inl (List.mem_append_right _ (List.mem_singleton.2 rfl))
    · exact .inl (List.mem_append_left _ h1)
    · refine .inr ⟨h1, fun y hy => ?_⟩
      rcases List.mem_append.1 hy with hy | hy
      · exact h2 y hy
      · simp at hy; subst hy; exact fun e => h3 e.symm
  · rintro (h1 | ⟨h1, h2⟩)
    · rcases List.mem_append.1 h1 with h3 | h3
      · refine .inr ⟨.inl h3, fun hk2 => ?_⟩
        have := (List.pairwise_append.1 hA2).2.2 x h3 a[k] (by simp)
        rw [hk2, lt_irrefl] at this; cases this
      · simp at h3; exact .inl h3
    · exact .inr ⟨.inr ⟨h1, fun y hy => h2 y (List.mem_append_left _ hy)⟩, fun hk2 => h2 a[k] (List.mem_append_right _ (List.mem_singleton.2 rfl)) hk2.symm⟩
end Go.Proofs.YtoemkbooomgieaaGreatDoor.mgs

/- The program's newestOf: the newest pair of each key, ascending, in a row of its own. -/
namespace Go.Proofs.YtoemkbooomgieaaGreatDoor.rnw
open Go.ChangeShapes Go.WideShapes Go.ChangeAt Go.RowKit Go.Proofs.YtoemkbooomgieaaGreatDoor.fl Go.Proofs.YtoemkbooomgieaaGreatDoor.rn Go.Proofs.YtoemkbooomgieaaGreatDoor.ri Go.Proofs.YtoemkbooomgieaaGreatDoor.rst Go.Proofs.YtoemkbooomgieaaGreatDoor.rpu Go.Proofs.YtoemkbooomgieaaGreatDoor.rpo
set_option linter.unusedVariables false

/-- the heap holds the first k runs, those that are not empty -/
structure Jn (rs : List Rn) (k : Nat) (M : List It) : Prop where
  of : ∀ q ∈ M, ∃ r, rs[q.p]? = some r ∧ q.l = r.l ∧ q.p < k ∧ q.l.length ≤ q.c
  all : ∀ (i : Nat) r, i < k → rs[i]? = some r → r.l ≠ [] → ∃ q ∈ M, q.p = i ∧ q.l = r.l
  len : M.length ≤ k
theorem Jn.perm {rs : List Rn} {k : Nat} {M N : List It} (h : Jn rs k M) (hp : N.Perm M) : Jn rs k N :=
  ⟨fun q hq => h.of q (hp.mem_iff.1 hq), fun i r hi hr hn => by obtain ⟨q, hq, h2⟩ := h.all i r hi hr hn; exact ⟨q, hp.mem_iff.2 hq, h2⟩, by rw [hp.length_eq]; exact h.len⟩
theorem Jn.skip {rs : List Rn} {k : Nat} {M : List It} {r : Rn} (h : Jn rs k M) (hr : rs[k]? = some r) (he : r.l = []) : Jn rs (k + 1) M := by
  refine ⟨fun q hq => ?_, fun i x hi hx hn => ?_, by have := h.len; omega⟩
  · obtain ⟨x, h1, h2, h3, h4⟩ := h.of q hq
    exact ⟨x, h1, h2, by omega, h4⟩
  · by_cases e : i = k
    · subst e; rw [hr] at hx; cases hx; exact absurd he hn
    · exact h.all i x (by omega) hx hn
theorem Jn.push {rs : List Rn} {k : Nat} {M : List It} {r : Rn} {q : It} (h : Jn rs k M) (hr : rs[k]? = some r) (hq : q.p = k ∧ q.l = r.l ∧ q.l.length ≤ q.c) : Jn rs (k + 1) (M ++ [q]) := by
  obtain ⟨q1, q2, q3⟩ := hq
  refine ⟨fun x hx => ?_, fun i x hi hx hn => ?_, by have := h.len; simp; omega⟩
  · rcases List.mem_append.1 hx with hx | hx
    · obtain ⟨y, h1, h2, h3, h4⟩ := h.of x hx
      exact ⟨y, h1, h2, by omega, h4⟩
    · simp at hx; subst hx
      exact ⟨r, by rw [q1]; exact hr, q2, by omega, q3⟩
  · by_cases e : i = k
    · subst e; rw [hr] at hx; cases hx
      exact ⟨q, by simp, q1, q2⟩
    · obtain ⟨y, hy, h2⟩ := h.all i x (by omega) hx hn
      exact ⟨y, by simp [hy], h2⟩
theorem Jn.inv {rs : List Rn} {M : List It} (h : Jn rs rs.length M) : mgp.Inv (rs.map (·.l)) M [] := by
  refine ⟨fun q hq => ?_, by simp [mgp.Asc], fun _ _ _ _ x hx => (by cases hx), fun x hx => (by cases hx), fun i l hl e he => .inr ?_⟩
  · obtain ⟨r, h1, h2, _⟩ := h.of q hq
    exact ⟨r.l, [], by rw [List.getElem?_map, h1]; rfl, by rw [h2]; rfl⟩
  · rw [List.getElem?_map, Option.map_eq_some_iff] at hl
    obtain ⟨r, hr, rfl⟩ := hl
    obtain ⟨q, hq, h1, h2⟩ := h.all i r (List.getElem?_eq_some_iff.1 hr).1 hr (fun e2 => by rw [e2] at he; cases he)
    exact ⟨q, hq, h1, by rw [h2]; exact he⟩

def tot (M : List It) : Nat := (M.map fun q => q.l.length).sum
theorem tot_cons (q : It) (M : List It) : tot (q :: M) = q.l.length + tot M := by simp [tot]
theorem tot_app (M N : List It) : tot (M ++ N) = tot M + tot N := by simp [tot]
theorem tot_perm {M N : List It} (h : M.Perm N) : tot M = tot N := by
  induction h with
  | nil => rfl
  | cons x _ ih => rw [tot_cons, tot_cons, ih]
  | swap x y l => simp only [tot_cons]; omega
  | trans _ _ ih1 ih2 => exact ih1.trans ih2
theorem tot_nx {r : It} {e : flP.Pr} {t : List flP.Pr} (h : r.l = e :: t) : tot (rfi.nx r) = t.length := by
  unfold rfi.nx
  rw [h]
  cases t with
  | nil => rfl
  | cons f u => simp [tot]
theorem tot_le : ∀ {M : List It}, (∀ q ∈ M, q.l.length ≤ 300) → tot M ≤ 300 * M.length
  | [], _ => by simp [tot]
  | q :: M, h => by
    have h1 := h q (by simp)
    have h2 := tot_le (M := M) fun x hx => h x (by simp [hx])
    rw [tot_cons, List.length_cons]
    omega
def lenAt (w : World) (g i : Nat) : Nat := match w.cell? ⟨g, i * 2, none⟩ with
  | some (.slice _ m _) => m
  | _ => 0
/-- how many pairs are left in a heap, as memory tells it -/
def meas (hb g : Nat) (w : World) : Nat := match w.cell? ⟨hb, 0, none⟩ with
  | some (.slice _ n _) => ((List.range n).map (lenAt w g)).sum
  | _ => 0
theorem meas_eq {W0 : World} {hb g cap : Nat} {M : List It} {w : World} (h : SG W0 hb g cap M w) : meas hb g w = tot M := by
  have hb1 : w.cell? ⟨hb, 0, none⟩ = some (.slice (some ⟨g, 0, none⟩) M.length cap) := bcell h.box rfl
  unfold meas
  rw [hb1]
  show ((List.range M.length).map (lenAt w g)).sum = (M.map fun q => q.l.length).sum
  congr 1
  apply List.ext_getElem?
  intro i
  rw [List.getElem?_map, List.getElem?_map]
  by_cases hi : i < M.length
  · rw [List.getElem?_range hi, List.getElem?_eq_getElem hi]
    simp only [Option.map_some]
    have := (h.row.at (List.getElem?_eq_getElem hi)).c0
    unfold lenAt
    rw [this]
  · rw [List.getElem?_eq_none (by simpa using hi), List.getElem?_eq_none (by omega)]
    rfl
theorem own_kq {w w' : World} {B hb g n m : Nat} {T : TypeId} {v : Value} {xs : List Value} (h : w.ownsRow B T m v n xs) (hk : Kq hb g w w') (h1 : v.ownBlock ≠ some hb) (h2 : v.ownBlock ≠ some g) : w'.ownsRow B T m v n xs := by
  refine ⟨h.1, ?_⟩
  rcases h.2 with h3 | ⟨b, cap, cur, rfl, hB, hc, h4⟩
  · exact .inl h3
  · exact .inr ⟨b, cap, cur, rfl, hB, (hk.block b (Array.getElem?_eq_some_iff.1 hc).1 (fun e => h2 (by rw [e]; rfl)) (fun e => h1 (by rw [e]; rfl))).trans hc, h4⟩
theorem own_below {w w' : World} {B n m : Nat} {T : TypeId} {v : Value} {xs : List Value} (h : w.ownsRow B T m v n xs) (hb : Below w.heap.size w w') : w'.ownsRow B T m v n xs :=
  h.kept (row := none) ⟨hb.os, hb.tape, hb.output, hb.size, fun i hi _ => hb.block i hi⟩ (by
    cases hv : v.ownBlock with
    | none => exact .inl rfl
    | some g => right; simp)
theorem bdrewN {B : Nat} {a w : World} (h : Below B a w) (n : Nat) : Below B a (w.drewN n) := ⟨h.os, h.tape, h.output, h.size, h.block⟩

/-- the first pair of all, taken out of the heap -/
theorem first_run (W0 : World) (hb g cap : Nat) (r : It) (rest : List It) (e : flP.Pr) (t : List flP.Pr) (w : World) (hS : SG W0 hb g cap (r :: rest) w) (hr : r.l = e :: t) (hl : (r :: rest).length ≤ 100) (hc : r.l.length ≤ r.c) (hH : hp.Heap less (r :: rest) (r :: rest).length) :
    Calls Tryz.prog 54 #[.pointer (some ⟨hb, 0, none⟩)] w fun x w' => x = .returned (.agg #[.string e.k, .string e.v, .bool e.g]) ∧ ∃ M : List It, M.Perm (rfi.nx r ++ rest) ∧ hp.Heap less M M.length ∧ SG W0 hb g cap M w' ∧ Kq hb g w w' := by
  cases t with
  | nil =>
    refine (rfi.first_one W0 hb g cap (r :: rest) r e w hS rfl hr hl hH).mono fun x w' ⟨h1, M, h2, h3⟩ => ⟨h1, M, ?_, h3⟩
    have : rfi.nx r = [] := by unfold rfi.nx; rw [hr]
    rw [this]
    exact h2.cons_inv
  | cons f u =>
    refine (rfi.first_more W0 hb g cap (r :: rest) r e f u w hS rfl hr hl hc hH).mono fun x w' ⟨h1, M, h2, h3⟩ => ⟨h1, M, ?_, h3⟩
    have : rfi.nx r = [⟨r.b, r.o + 3, r.c - 1, f :: u, r.p⟩] := by unfold rfi.nx; rw [hr]
    rw [this]
    exact h2
/-- what stands at the head of a round -/
structure St (w : World) (g cap : Nat) (ls : List (List flP.Pr)) (M : List It) (out : List flP.Pr) (v : Value) (wr : World) : Prop where
  inv : mgp.Inv ls M out
  heap : hp.Heap less M M.length
  sg : SG w w.heap.size g cap M wr
  ml : M.length ≤ 20
  mc : ∀ q ∈ M, q.l.length ≤ q.c
  own : wr.ownsRow w.heap.size 61 3 v out.length (out.flatMap flP.c)
  n1 : v.ownBlock ≠ some w.heap.size
  n2 : v.ownBlock ≠ some g
  ol : out.length + tot M ≤ 6000
theorem St.on {w : World} {g cap : Nat} {ls : List (List flP.Pr)} {M : List It} {out : List flP.Pr} {v : Value} {wr w1 : World} (h : St w g cap ls M out v wr) (hb : Below wr.heap.size wr w1) : St w g cap ls M out v w1 :=
  ⟨h.inv, h.heap, h.sg.on hb, h.ml, h.mc, own_below h.own hb, h.n1, h.n2, h.ol⟩
theorem infoP : (Tryz.prog.info? 61).map (fun i => (i.zero, i.size, i.bytes)) = some (some (.agg #[.string ByteArray.empty, .string ByteArray.empty, .bool false]), 3, 40) := by kernel_rfl
theorem nx_mc {r : It} {e : flP.Pr} {t : List flP.Pr} (hr : r.l = e :: t) (hc : r.l.length ≤ r.c) : ∀ q ∈ rfi.nx r, q.l.length ≤ q.c := fun q hq => by
  unfold rfi.nx at hq
  rw [hr] at hq hc
  cases t with
  | nil => cases hq
  | cons f u => simp at hq hc; subst hq; simp; omega
theorem nx_len (r : It) : (rfi.nx r).length ≤ 1 := by
  unfold rfi.nx
  split <;> simp

set_option maxRecDepth 100000 in
set_option maxHeartbeats 2000000 in
theorem newest_run (rs : List Rn) (ra : Option Addr) (rc : Nat) (w : World) (hl : rs.length ≤ 20) (hlen : ∀ r ∈ rs, r.l.length ≤ 300 ∧ r.l.length ≤ r.c) (hA : ∀ l ∈ rs.map (·.l), mgp.Asc l) (hR : VR w w.heap.size ra rs) :
    Calls Tryz.prog 36 #[.slice ra rs.length rc] w fun e w' => ∃ v out, e = .returned v ∧ mgp.Is (rs.map (·.l)) out ∧ out.length ≤ 6000 ∧ w'.ownsRow w.heap.size 61 3 v out.length (out.flatMap flP.c) ∧ Below w.heap.size w w' := by
  have HR : Hid (VR w w.heap.size ra rs) := hR
  have HLE : Hid (∀ r ∈ rs, r.l.length ≤ 300 ∧ r.l.length ≤ r.c) := hlen
  have HAS : Hid (∀ l ∈ rs.map (·.l), mgp.Asc l) := hA
  have hal : Below w.heap.size w (w.alloc (.cells #[.slice none 0 0] 97)) := (Below.refl _ _).alloc (Nat.le_refl _) _
  have hbn := bnew w #[.slice none 0 0] 97
  have HS0 : Hid (SN w w.heap.size [] (w.alloc (.cells #[.slice none 0 0] 97))) := ⟨hal, Nat.le_refl _, ⟨_, hbn, World.ownsRow_nil _ _ _ _, by simp [Value.ownBlock]⟩, fun r hr => (by cases hr)⟩
  clear hR hlen hA hbn
  go_enter Tryz.func36, Tryz.ntmps36
  go_wp2
  go_loopw [4, 5, 10] (fun _ _ x wr => ∃ (k : Nat) (M : List It), k ≤ rs.length ∧ x = .int .i64 k ∧ Hid (Jn rs k M) ∧ Hid (hp.Heap less M M.length) ∧ Hid (SN w w.heap.size M wr)) (fun _ _ x _ => rs.length - (intOf x).toNat)
  case atStart => exact ⟨0, [], Nat.zero_le _, rfl, ⟨fun q hq => (by cases hq), fun i r hi => absurd hi (by omega), Nat.le_refl _⟩, fun i h0 h1 => absurd h1 (by simp), HS0⟩
  case round =>
    obtain ⟨k, M, hk, rfl, hjn, hhp, hsn⟩ := hrel
    by_cases hkl : k < rs.length
    · have HG : Hid (rs[k]? = some rs[k]) := List.getElem?_eq_getElem hkl
      have hmem := List.getElem_mem hkl
      have hrow := HR.out.2 rs[k] hmem
      have hle := HLE.out rs[k] hmem
      obtain ⟨⟨qa, qc, ql⟩, he⟩ : ∃ e, rs[k] = e := ⟨_, rfl⟩
      rw [he] at HG hrow hle
      obtain ⟨b, off, rfl, hlt, hc⟩ := HR.out.1.resolve_left (by rintro rfl; simp at hkl)
      have c0 : wr.cell? ⟨b, off + k, none⟩ = some (.slice qa ql.length qc) := (hsn.out.bel.cell (p := ⟨b, off + k, none⟩) hlt).trans (by have := hc k _ HG.out 0 _ rfl; simpa using this)
      have i2 : (k : Int) < (rs.length : Int) := by omega
      clear he hc hmem
      by_cases hq0 : ql = []
      · subst hq0
        have HJ : Hid (Jn rs (k + 1) M) := hjn.out.skip HG.out rfl
        go_wp2
        go_roundw
        case rel => exact ⟨k + 1, M, by omega, by go_num, HJ, hhp, hsn⟩
        case measure => simp [intOf]; omega
      · have hpos : 0 < ql.length := List.length_pos_iff.2 hq0
        rcases hrow with h0 | ⟨qb, qo, rfl, hqlt, hqc⟩
        · exact absurd h0 hq0
        have hfit : Fits w w.heap.size ⟨qb, qo, qc, ql, k⟩ := ⟨hqlt, hq0, hle.1, by show k ≤ 100; omega, hqc⟩
        have hpush := push_run w w.heap.size M ⟨qb, qo, qc, ql, k⟩ wr hsn.out hhp.out hfit (by have := hjn.out.len; omega)
        have HJ : Hid (Jn rs (k + 1) (M ++ [⟨qb, qo, qc, ql, k⟩])) := hjn.out.push HG.out ⟨rfl, rfl, hle.2⟩
        have i3 : (0 : Int) < (ql.length : Int) := by omega
        clear hqc hfit hsn hhp hjn
        go_wp2_with (go_at_call 52; fail)
        refine hpush.mono ?_
        rintro e w1 ⟨rfl, N, n1, n2, n3⟩
        have HJ2 : Hid (Jn rs (k + 1) N) := HJ.out.perm n1
        have HN2 : Hid (hp.Heap less N N.length) := n2
        have HN3 : Hid (SN w w.heap.size N w1) := n3
        clear hpush n1 n2 n3 c0
        go_wp2
        go_roundw
        case rel => exact ⟨k + 1, N, by omega, by go_num, HJ2, HN2, HN3⟩
        case measure => simp [intOf]; omega
    · obtain rfl : k = rs.length := by omega
      have HI : Hid (mgp.Inv (rs.map (·.l)) M []) := hjn.out.inv
      have HML : Hid (M.length ≤ 20) := by unfold Hid; have := hjn.out.len; omega
      have HMC : Hid (∀ q ∈ M, q.l.length ≤ q.c) := fun q hq => by obtain ⟨_, _, _, _, h4⟩ := hjn.out.of q hq; exact h4
      have hbx : ∃ a c, wr.cell? ⟨w.heap.size, 0, none⟩ = some (.slice a M.length c) := by
        obtain ⟨v, hv, ho, _⟩ := hsn.out.box
        rcases ho.2 with ⟨rfl, h0⟩ | ⟨g, cap, cur, rfl, _⟩
        · exact ⟨none, 0, by rw [h0]; exact bcell hv rfl⟩
        · exact ⟨_, _, bcell hv rfl⟩
      clear hjn hkl hk
      by_cases hM0 : M = []
      · subst hM0
        obtain ⟨a, c, hbx⟩ := hbx
        have hbx : wr.cell? ⟨w.heap.size, 0, none⟩ = some (.slice a 0 c) := hbx
        have hIs : Hid (mgp.Is (rs.map (·.l)) []) := HI.out.fin HAS.out
        have hbel : Below w.heap.size w wr := hsn.out.bel
        clear HI HMC HML
        go_wp2
        refine wp_loop_rounds 1 ?_
        rw [rounds_succ]
        go_wp2_with (go_at_call 53; refine (len_run _ _ _ _).mono ?_; rintro e w0 ⟨rfl, hw0⟩; rw [← hw0]; clear hw0 w0)
        go_ret
        exact ⟨_, [], rfl, hIs.out, by simp, World.ownsRow_nil _ _ _ _, hbel⟩
      · obtain ⟨g, cap, hsg⟩ := hsn.out.sg hM0
        have HSG : Hid (SG w w.heap.size g cap M wr) := hsg
        have hlt5 : ∀ q ∈ M, q.l.length ≤ 300 := fun q hq => (hsg.fits q hq).len
        have hst : Hid (St w g cap (rs.map (·.l)) M [] (.slice none 0 0) wr) := ⟨HI.out, hhp.out, hsg, HML.out, HMC.out, World.ownsRow_nil _ _ _ _, by simp [Value.ownBlock], by simp [Value.ownBlock], by have := tot_le hlt5; have := HML.out; simp; omega⟩
        obtain ⟨i0, hi, hz0, hz1, hz2⟩ := info_parts infoP
        clear hsn hsg hbx hM0 HI HML HMC HSG hhp hlt5
        go_wp2
        go_loopw [6, 7] (fun v _ wx => ∃ (N : List It) (out : List flP.Pr), Hid (St w g cap (rs.map (·.l)) N out v wx)) (fun _ _ wx => meas w.heap.size g wx)
        case atStart => exact ⟨M, [], hst⟩
        case round =>
          obtain ⟨N, out, hSt⟩ := hrel
          have hbx : wr.cell? ⟨w.heap.size, 0, none⟩ = some (.slice (some ⟨g, 0, none⟩) N.length cap) := bcell hSt.out.sg.box rfl
          cases N with
          | nil =>
            have hIs : Hid (mgp.Is (rs.map (·.l)) out) := hSt.out.inv.fin HAS.out
            have HFO : Hid (out.length ≤ 6000 ∧ wr.ownsRow w.heap.size 61 3 u6 out.length (out.flatMap flP.c) ∧ Below w.heap.size w wr) := ⟨by have := hSt.out.ol; omega, hSt.out.own, hSt.out.sg.bel⟩
            go_wp2_with (go_at_call 53; refine (len_run _ _ _ _).mono ?_; rintro e w0 ⟨rfl, hw0⟩; rw [← hw0]; clear hw0 w0)
            go_ret
            exact ⟨_, out, rfl, hIs.out, HFO.out⟩
          | cons r rest =>
            obtain ⟨e, t, hrl⟩ : ∃ e t, r.l = e :: t := by
              cases h : r.l with
              | nil => exact absurd h (hSt.out.sg.fits r (by simp)).ne
              | cons e t => exact ⟨e, t, rfl⟩
            have hfirst := first_run w w.heap.size g cap r rest e t wr hSt.out.sg hrl (by have := hSt.out.ml; omega) (hSt.out.mc r (by simp)) hSt.out.heap
            have hmin : ∀ q ∈ rest, less q r = false := fun q hq => by
              obtain ⟨i, hi⟩ := List.getElem?_of_mem hq
              exact hp.Heap.head ord hSt.out.heap (Nat.le_refl _) (i + 1) (by have := (List.getElem?_eq_some_iff.1 hi).1; simp; omega) r q rfl (by simpa using hi)
            have HTK : Hid ((∀ z, out.getLast? = some z → z.k ≠ e.k) → mgp.Inv (rs.map (·.l)) (rfi.nx r ++ rest) (out ++ [e])) := fun h => hSt.out.inv.take HAS.out hrl hmin h
            have HSK : Hid (∀ z, z ∈ out → z.k = e.k → mgp.Inv (rs.map (·.l)) (rfi.nx r ++ rest) out) := fun z hz hk => hSt.out.inv.skip hrl hz hk
            have hme : meas w.heap.size g wr = t.length + 1 + tot rest := by rw [meas_eq hSt.out.sg, tot_cons, hrl]; rfl
            have HTN : Hid (tot (rfi.nx r ++ rest) = t.length + tot rest) := by unfold Hid; rw [tot_app, tot_nx hrl]
            have HLN : Hid ((rfi.nx r ++ rest).length ≤ 20) := by unfold Hid; have := nx_len r; have := hSt.out.ml; simp at this ⊢; omega
            have HCN : Hid (∀ q ∈ rfi.nx r ++ rest, q.l.length ≤ q.c) := fun q hq => by
              rcases List.mem_append.1 hq with h | h
              · exact nx_mc hrl (hSt.out.mc r (by simp)) q h
              · exact hSt.out.mc q (by simp [h])
            have HOL : Hid (out.length + (t.length + 1 + tot rest) ≤ 6000) := by unfold Hid; have := hSt.out.ol; rw [tot_cons, hrl] at this; simpa using this
            obtain ⟨oa, oc, hu6, _⟩ := own_row flP.c_len hSt.out.own
            subst hu6
            have i1 : (0 : Int) < (rest.length : Int) + 1 := by omega
            have hbx : wr.cell? ⟨w.heap.size, 0, none⟩ = some (.slice (some ⟨g, 0, none⟩) (rest.length + 1) cap) := hbx
            clear hmin hrl
            go_wp2_with (first | (go_at_call 53; refine (len_run _ _ _ _).mono ?_; rintro e w0 ⟨rfl, hw0⟩; rw [← hw0]; clear hw0 w0) | (go_at_call 54; fail))
            refine hfirst.mono ?_
            rintro x w1 ⟨rfl, N2, n1, n2, n3, n4⟩
            have hown1 := own_kq hSt.out.own n4 hSt.out.n1 hSt.out.n2
            have hal1 : Below w1.heap.size w1 (w1.alloc (.cells #[.string e.k, .string e.v, .bool e.g] 61)) := (Below.refl _ _).alloc (Nat.le_refl _) _
            have hA1 := bnew w1 #[.string e.k, .string e.v, .bool e.g] 61
            obtain ⟨X, hX⟩ : ∃ X, w1.alloc (.cells #[.string e.k, .string e.v, .bool e.g] 61) = X := ⟨_, rfl⟩
            rw [hX] at hal1 hA1
            have hXl := (Array.getElem?_eq_some_iff.1 hA1).1
            have HOX : Hid (X.ownsRow w.heap.size 61 3 (.slice oa out.length oc) out.length (out.flatMap flP.c)) := own_below hown1 hal1
            have HSX : Hid (SG w w.heap.size g cap N2 X) := n3.on hal1
            have HAX : Hid (X.heap[w1.heap.size]? = some (.cells #[.string e.k, .string e.v, .bool e.g] 61 (0, 0))) := hA1
            have HN1 : Hid ((Value.slice oa out.length oc).ownBlock ≠ some w.heap.size) := hSt.out.n1
            have HN2 : Hid ((Value.slice oa out.length oc).ownBlock ≠ some g) := hSt.out.n2
            have HPM : Hid (N2.Perm (rfi.nx r ++ rest)) := n1
            have HHP : Hid (hp.Heap less N2 N2.length) := n2
            have x0 : X.cell? ⟨w1.heap.size, 0, none⟩ = some (.string e.k) := bcell hA1 rfl
            have hrowX : Row flP.c 3 X X.heap.size oa out := by
              obtain ⟨a2, c2, h2, h3⟩ := own_row flP.c_len HOX.out
              cases h2
              exact h3
            clear hfirst n1 n2 n3 n4 hown1 hal1 hA1 hSt hbx
            have fin_skip : ∀ (z : flP.Pr) (Y : World), z ∈ out → z.k = e.k → Below X.heap.size X Y → Hid (St w g cap (rs.map (·.l)) N2 out (.slice oa out.length oc) Y) := fun z Y hz hk hb => by
              have hi := (HSK.out z hz hk).perm HPM.out
              refine ⟨hi, HHP.out, HSX.out.on hb, by rw [HPM.out.length_eq]; exact HLN.out, fun q hq => HCN.out q (HPM.out.mem_iff.1 hq), own_below HOX.out hb, HN1.out, HN2.out, by rw [tot_perm HPM.out, HTN.out]; have := HOL.out; omega⟩
            have FSK : Hid (∀ (z : flP.Pr) (Y : World), z ∈ out → z.k = e.k → Below X.heap.size X Y → Hid (St w g cap (rs.map (·.l)) N2 out (.slice oa out.length oc) Y)) := fin_skip
            have hsb : w.heap.size < X.heap.size := (Array.getElem?_eq_some_iff.1 HSX.out.box).1
            have hsg : g < X.heap.size := by obtain ⟨cur, h1, _⟩ := HSX.out.row; exact (Array.getElem?_eq_some_iff.1 h1).1
            have FTK : Hid (∀ (Y Y2 : World) (v : Value), (∀ z, out.getLast? = some z → z.k ≠ e.k) → Below X.heap.size X Y → Y.grownBy Y2 (Value.slice oa out.length oc).ownBlock → Y2.ownsRow w.heap.size 61 3 v (out.length + 1) (out.flatMap flP.c ++ [.string e.k, .string e.v, .bool e.g]) → (v.ownBlock = (Value.slice oa out.length oc).ownBlock ∨ v.ownBlock = some Y.heap.size) → Hid (St w g cap (rs.map (·.l)) N2 (out ++ [e]) v Y2)) := fun Y Y2 v hz hb hg ho hat => by
              have hi := (HTK.out hz).perm HPM.out
              have hsy := HSX.out.on hb
              have hys := hb.size
              obtain ⟨cur, r1, r2⟩ := hsy.row
              have hsg2 : SG w w.heap.size g cap N2 Y2 := ⟨hsy.bel.grown hg (by omega) (fun b hbk => (HOX.out.lt b hbk).1), hsy.hbB, hsy.gB, hsy.ne, (hg.block _ (by omega) (Ne.symm HN1.out)).trans hsy.box, ⟨cur, (hg.block g (by omega) (Ne.symm HN2.out)).trans r1, r2⟩, hsy.fits⟩
              refine ⟨hi, HHP.out, hsg2, by rw [HPM.out.length_eq]; exact HLN.out, fun q hq => HCN.out q (HPM.out.mem_iff.1 hq), ?_, ?_, ?_, by rw [tot_perm HPM.out, HTN.out]; have := HOL.out; simp; omega⟩
              · rw [List.length_append, List.flatMap_append]
                simpa [flP.c] using ho
              · rcases hat with h | h
                · rw [h]; exact HN1.out
                · rw [h]; intro h2; have := Option.some.inj h2; omega
              · rcases hat with h | h
                · rw [h]; exact HN2.out
                · rw [h]; intro h2; have := Option.some.inj h2; omega
            have HMB : Hid (out.length ≤ 6000) := by unfold Hid; have := HOL.out; omega
            have HMT : Hid (∀ (Y : World) (o : List flP.Pr) (v : Value), St w g cap (rs.map (·.l)) N2 o v Y → meas w.heap.size g Y < meas w.heap.size g wr) := fun Y o v h => by rw [hme, meas_eq h.sg, tot_perm HPM.out, HTN.out]; omega
            clear fin_skip hme HTN HLN HCN HOL HTK HSK HPM HHP HSX HN1 HN2
            by_cases h0 : out.length = 0
            · have hcond : ∀ z, out.getLast? = some z → z.k ≠ e.k := fun z hz => by rw [List.eq_nil_of_length_eq_zero h0] at hz; cases hz
              rw [h0] at HOX FTK ⊢
              clear hrowX FSK
              have FSK : True := trivial
              go_wp2
              go_quiet (fail)
              have hbY := bdrewN (Below.refl X.heap.size X) nq
              obtain ⟨Y, hY⟩ : ∃ Y, X.drewN nq = Y := ⟨_, rfl⟩
              rw [hY] at hbY ⊢
              clear hY x0
              have hAY := bstay HAX.out hbY hXl
              have y0 : Y.cell? ⟨w1.heap.size, 0, none⟩ = some (.string e.k) := bcell hAY rfl
              have y1 : Y.cell? ⟨w1.heap.size, 1, none⟩ = some (.string e.v) := bcell hAY rfl
              have y2 : Y.cell? ⟨w1.heap.size, 2, none⟩ = some (.bool e.g) := bcell hAY rfl
              have hbY3 : Below X.heap.size X (Y.alloc (.cells #[.string e.k, .string e.v, .bool e.g] 61)) := hbY.alloc hbY.size _
              obtain ⟨v', Y4, hr, ho, hg, _, hat⟩ := run_append_own_at (P := Tryz.prog) (Y.alloc (.cells #[.string e.k, .string e.v, .bool e.g] 61)) w.heap.size 28 28 61 i0 (.agg #[.string ByteArray.empty, .string ByteArray.empty, .bool false]) 3 40 Tryz.underlying28 hi hz0 hz1 hz2 rfl (by decide) _ 0 (out.flatMap flP.c) (own_below HOX.out hbY3) ⟨Y.heap.size, 0, none⟩ 1 1 [.string e.k, .string e.v, .bool e.g] rfl (fun j u hu => by rw [pap.add0]; exact bcell (bnew Y _ _) (by simpa using hu)) (by intro u hu; simp at hu; rcases hu with rfl | rfl | rfl <;> rfl) (by unfold maxLen; omega) (by omega) (by have := hbY3.size; omega)
              have hst4 := FTK.out _ Y4 v' hcond hbY3 hg ho hat
              have hms := HMT.out Y4 _ v' hst4.out
              clear hAY ho hg hat hbY3 hbY FTK FSK HMT HOX HAX
              go_wp2_with (at_builtin; refine cpr.wpList_append_run rfl _ _ _ _ rfl _ _ _ rfl rfl hr ?_)
              go_roundw
              case rel => exact ⟨N2, out ++ [e], hst4⟩
              case measure => exact hms
            · obtain ⟨m, hm⟩ : ∃ m, out.length = m + 1 := ⟨out.length - 1, by omega⟩
              obtain ⟨z, hz⟩ : ∃ z, out[m]? = some z := ⟨_, List.getElem?_eq_getElem (by omega)⟩
              have hlast : out.getLast? = some z := by rw [List.getLast?_eq_getElem?, hm]; exact hz
              have hmb : m ≤ 6000 := by have := HMB.out; omega
              have wm : IntKind.i64.wrap (m : Int) = (m : Int) := by rw [IntKind.wrap_i64]; omega
              have wm2 : (m : Int) < (m : Int) + 1 := by omega
              have wm3 : ((m : Int) + 1 == 0) = false := by rw [beq_eq_false_iff_ne]; omega
              obtain ⟨ob, oo, rfl, holt, hoc⟩ := hrowX.resolve_left (by rintro rfl; simp at h0)
              have z0 : X.cell? ⟨ob, oo + m * 3, none⟩ = some (.string z.k) := by have := hoc m z hz 0 _ rfl; simpa using this
              rw [hm] at HOX FTK FSK ⊢
              clear hoc hrowX h0
              by_cases hk : z.k = e.k
              · have hskip := FSK.out z
                rw [hk] at z0
                have HZM : Hid (z ∈ out) := List.mem_of_getElem? hz
                clear hz hlast hm FTK
                go_wp2
                go_quiet (fail)
                have hbY := bdrewN (Below.refl X.heap.size X) nq
                obtain ⟨Y, hY⟩ : ∃ Y, X.drewN nq = Y := ⟨_, rfl⟩
                rw [hY] at hbY ⊢
                have hst4 := hskip Y HZM.out hk hbY
                have hms := HMT.out Y _ _ hst4.out
                clear hY x0 z0 hskip FSK HMT HOX HAX
                go_wp2
                go_roundw
                case rel => exact ⟨N2, out, hst4⟩
                case measure => exact hms
              · have hcond : ∀ y, out.getLast? = some y → y.k ≠ e.k := fun y hy => by rw [hlast] at hy; cases hy; exact hk
                have hq : (z.k.toList == e.k.toList) = false := by rw [beq_eq_false_iff_ne]; exact fun h => hk (Go.Proofs.YtoemkbooomgieaaGreatDoor.rc.of_same h)
                clear hz hlast hm hk
                go_wp2
                go_quiet (fail)
                clear z0
                have hbY := bdrewN (Below.refl X.heap.size X) nq
                obtain ⟨Y, hY⟩ : ∃ Y, X.drewN nq = Y := ⟨_, rfl⟩
                rw [hY] at hbY ⊢
                clear hY x0
                have hAY := bstay HAX.out hbY hXl
                have y0 : Y.cell? ⟨w1.heap.size, 0, none⟩ = some (.string e.k) := bcell hAY rfl
                have y1 : Y.cell? ⟨w1.heap.size, 1, none⟩ = some (.string e.v) := bcell hAY rfl
                have y2 : Y.cell? ⟨w1.heap.size, 2, none⟩ = some (.bool e.g) := bcell hAY rfl
                have hbY3 : Below X.heap.size X (Y.alloc (.cells #[.string e.k, .string e.v, .bool e.g] 61)) := hbY.alloc hbY.size _
                obtain ⟨v', Y4, hr, ho, hg, _, hat⟩ := run_append_own_at (P := Tryz.prog) (Y.alloc (.cells #[.string e.k, .string e.v, .bool e.g] 61)) w.heap.size 28 28 61 i0 (.agg #[.string ByteArray.empty, .string ByteArray.empty, .bool false]) 3 40 Tryz.underlying28 hi hz0 hz1 hz2 rfl (by decide) _ (m + 1) (out.flatMap flP.c) (own_below HOX.out hbY3) ⟨Y.heap.size, 0, none⟩ 1 1 [.string e.k, .string e.v, .bool e.g] rfl (fun j u hu => by rw [pap.add0]; exact bcell (bnew Y _ _) (by simpa using hu)) (by intro u hu; simp at hu; rcases hu with rfl | rfl | rfl <;> rfl) (by unfold maxLen; omega) (by omega) (by have := hbY3.size; omega)
                have hst4 := FTK.out _ Y4 v' hcond hbY3 hg ho hat
                have hms := HMT.out Y4 _ v' hst4.out
                clear hAY ho hg hat hbY3 hbY FTK FSK HMT HOX HAX
                go_wp2_with (at_builtin; refine cpr.wpList_append_run rfl _ _ _ _ rfl _ _ _ rfl rfl hr ?_)
                go_roundw
                case rel => exact ⟨N2, out ++ [e], hst4⟩
                case measure => exact hms
end Go.Proofs.YtoemkbooomgieaaGreatDoor.rnw
