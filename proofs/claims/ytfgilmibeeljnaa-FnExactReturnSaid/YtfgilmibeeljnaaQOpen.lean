/- A queue at work: opened, one more put in, the first taken out. -/
import Derived.Test.YtfgilmibeeljnaaQPop
import Derived.Test.YtfgilmibeeljnaaCopyQueue
namespace Go.Proofs.Ytfgilmibeeljnaa.qop
open Go.ChangeShapes Go.WideShapes Go.ChangeAt Go.RowKit Go.Proofs.Ytfgilmibeeljnaa.fl Go.Proofs.Ytfgilmibeeljnaa.qit Go.Proofs.Ytfgilmibeeljnaa.qst Go.Proofs.Ytfgilmibeeljnaa.qpu Go.Proofs.Ytfgilmibeeljnaa.qpo
set_option linter.unusedVariables false

theorem asc_lt {L : List flM.Ms} (h : ∀ (i : Nat) (a b : flM.Ms), L[i]? = some a → L[i + 1]? = some b → a.q < b.q) : ∀ (d i : Nat) (a b : flM.Ms), L[i]? = some a → L[i + d + 1]? = some b → a.q < b.q
  | 0, i, a, b, ha, hb => h i a b ha hb
  | d + 1, i, a, b, ha, hb => by
    have hlt := (List.getElem?_eq_some_iff.1 hb).1
    have hm : L[i + d + 1]? = some (L[i + d + 1]'(by omega)) := List.getElem?_eq_getElem _
    have h1 := asc_lt h d i a _ ha hm
    have h2 := h (i + d + 1) _ b hm hb
    omega
theorem sorted_heap {L : List flM.Ms} (h : ∀ (i : Nat) (a b : flM.Ms), L[i]? = some a → L[i + 1]? = some b → a.q < b.q) : hp.Heap less L L.length := fun i h0 hi a b ha hb => by
  have hpl := hp.P_lt h0
  have := asc_lt h (i - hp.P i - 1) (hp.P i) a b ha (by rw [show hp.P i + (i - hp.P i - 1) + 1 = i by omega]; exact hb)
  simp only [less, decide_eq_false_iff_not]
  omega
theorem hr_own {w : World} {g : Nat} {L : List flM.Ms} (h : Own flM.c 5 38 w g L L.length) (hl : L.length ≤ 1048576) : HR w g L.length L := by
  obtain ⟨cur, h1, h2, h3⟩ := h
  exact ⟨cur, h1, h2, Nat.le_refl _, by unfold maxLen; omega, fun i r hr j v hv => h3 i r (List.getElem?_eq_some_iff.1 hr).1 hr j v hv⟩

set_option maxRecDepth 100000 in
theorem open_of (nm : ByteArray) (nx : Int) (es : List flM.Ms) (ms : List flH.Hd) (a0 b0 ec bc : Nat) (w : World) (hn : nm.size ≤ 1048576) (hel : es.length ≤ 1048576) (hbl : ms.length ≤ 1048576) (hes : ∀ e ∈ es, e.x.size ≤ 1048576 ∧ e.k.size ≤ 1048576 ∧ e.b.size ≤ 1048576) (hbs : ∀ e ∈ ms, e.m.x.size ≤ 1048576 ∧ e.m.k.size ≤ 1048576 ∧ e.m.b.size ≤ 1048576) (hE : Row flM.c 5 w w.heap.size (some ⟨a0, 0, none⟩) es) (hB : Row flH.c 7 w w.heap.size (some ⟨b0, 0, none⟩) ms) :
    Calls Try.prog 29 #[.agg #[.string nm, .int .i64 nx, .slice (some ⟨a0, 0, none⟩) es.length ec, .slice (some ⟨b0, 0, none⟩) ms.length bc]] w fun e w' => ∃ hb g h, e = .returned (.pointer (some ⟨hb, 0, none⟩)) ∧ SG w hb ⟨nm, nx, some ⟨h, 0, none⟩, ms.length, ms.length⟩ g es.length es w' ∧ Own flH.c 7 66 w' h ms ms.length ∧ w.heap.size ≤ h ∧ h ≠ hb := by
  have hb0 : Below w.heap.size w (w.alloc (.cells #[.string nm, .int .i64 nx, .slice (some ⟨a0, 0, none⟩) es.length ec, .slice (some ⟨b0, 0, none⟩) ms.length bc] 30)) := (Below.refl _ _).alloc (Nat.le_refl _) _
  have hcq := cqu.copy_queue nm nx es ms a0 b0 ec bc _ hn hel hbl hes hbs (hE.inn hb0) (hB.inn hb0)
  clear hE hB hes hbs
  go_enter Try.func29, Try.ntmps29
  go_wp2_with (go_at_call 28; fail)
  refine hcq.mono ?_
  rintro e w1 ⟨g, h, rfl, hg, hh, hgh, oe, om, hb1⟩
  have hs1 := hb1.size
  have hB1 : Below w.heap.size w w1 := hb0.trans (hb1.mono hb0.size)
  have ha1 : Below w1.heap.size w1 ((w1.alloc (.cells #[.string nm, .int .i64 nx, .slice (some ⟨g, 0, none⟩) es.length es.length, .slice (some ⟨h, 0, none⟩) ms.length ms.length] 30)).alloc (.cells #[.slice (some ⟨g, 0, none⟩) es.length es.length, .string nm, .int .i64 nx, .slice (some ⟨h, 0, none⟩) ms.length ms.length] 58)) := ((Below.refl _ _).alloc (Nat.le_refl _) _).alloc (by simp) _
  have hnew := bnew (w1.alloc (.cells #[.string nm, .int .i64 nx, .slice (some ⟨g, 0, none⟩) es.length es.length, .slice (some ⟨h, 0, none⟩) ms.length ms.length] 30)) #[.slice (some ⟨g, 0, none⟩) es.length es.length, .string nm, .int .i64 nx, .slice (some ⟨h, 0, none⟩) ms.length ms.length] 58
  rw [World.size_alloc] at hnew
  have hgl := oe.lt
  have hhl := om.lt
  have HF : Hid (SG w (w1.heap.size + 1) ⟨nm, nx, some ⟨h, 0, none⟩, ms.length, ms.length⟩ g es.length es ((w1.alloc (.cells #[.string nm, .int .i64 nx, .slice (some ⟨g, 0, none⟩) es.length es.length, .slice (some ⟨h, 0, none⟩) ms.length ms.length] 30)).alloc (.cells #[.slice (some ⟨g, 0, none⟩) es.length es.length, .string nm, .int .i64 nx, .slice (some ⟨h, 0, none⟩) ms.length ms.length] 58)) ∧ Own flH.c 7 66 ((w1.alloc (.cells #[.string nm, .int .i64 nx, .slice (some ⟨g, 0, none⟩) es.length es.length, .slice (some ⟨h, 0, none⟩) ms.length ms.length] 30)).alloc (.cells #[.slice (some ⟨g, 0, none⟩) es.length es.length, .string nm, .int .i64 nx, .slice (some ⟨h, 0, none⟩) ms.length ms.length] 58)) h ms ms.length) := by
    rw [World.size_alloc] at hg
    exact ⟨⟨hB1.trans (ha1.mono hB1.size), by have := hB1.size; omega, by omega, by omega, hnew, hr_own (oe.below ha1 hgl) hel, fun _ _ => trivial⟩, om.below ha1 hhl⟩
  have hh2 : w.heap.size ≤ h := by rw [World.size_alloc] at hh; omega
  clear hcq oe om hnew
  go_wp2
  go_ret
  exact ⟨w1.heap.size + 1, g, h, rfl, HF.out.1, HF.out.2, hh2, by omega⟩

theorem SN.on {W0 : World} {hb : Nat} {Q : Qx} {L : List flM.Ms} {w w' : World} (h : SN W0 hb Q L w) (hb' : Below w.heap.size w w') : SN W0 hb Q L w' := by
  obtain ⟨v, h1, h2, h3⟩ := h.box
  refine ⟨h.bel.trans (hb'.mono h.bel.size), h.hbB, ⟨v, bstay h1 hb' (Array.getElem?_eq_some_iff.1 h1).1, ?_, h3⟩, h.fits⟩
  refine h2.kept (row := none) ⟨hb'.os, hb'.tape, hb'.output, hb'.size, fun i hi _ => hb'.block i hi⟩ ?_
  cases hv : v.ownBlock with
  | none => exact .inl rfl
  | some g => right; simp
set_option maxRecDepth 100000 in
theorem put_run (W0 : World) (Q : Qx) (hb : Nat) (L : List flM.Ms) (r : flM.Ms) (w : World) (hS : SN W0 hb Q L w) (hH : hp.Heap less L L.length) (hl : L.length ≤ 900) :
    Calls Try.prog 30 #[.pointer (some ⟨hb, 0, none⟩), .agg #[.int .i64 r.q, .string r.x, .string r.k, .string r.b, .bool r.a]] w fun e w' => e = .returned (.tuple #[]) ∧ ∃ M : List flM.Ms, M.Perm (L ++ [r]) ∧ hp.Heap less M M.length ∧ SN W0 hb Q M w' ∧ Kt hb w w' := by
  have hal : Below w.heap.size w (w.alloc (.cells #[.int .i64 r.q, .string r.x, .string r.k, .string r.b, .bool r.a] 38)) := (Below.refl _ _).alloc (Nat.le_refl _) _
  have hpu := push_run W0 Q hb L r _ (SN.on hS hal) hH trivial hl
  clear hS hH
  go_enter Try.func30, Try.ntmps30
  go_wp2_with (go_at_call 64; fail)
  refine hpu.mono ?_
  rintro e w1 ⟨rfl, M, h1, h2, h3, h4⟩
  have HF : Hid (M.Perm (L ++ [r]) ∧ hp.Heap less M M.length ∧ SN W0 hb Q M w1 ∧ Kt hb w w1) := ⟨h1, h2, h3, (Kt.of hal).trans h4⟩
  clear hpu h1 h2 h3 h4
  go_wp2
  go_end0
  exact ⟨rfl, M, HF.out⟩

theorem SG.off {W0 : World} {hb g cap : Nat} {Q : Qx} {L : List flM.Ms} {w : World} (h : SG W0 hb Q g cap L w) (b o : Nat) (v : Value) (h1 : hb ≠ b) (h2 : g ≠ b) (h3 : W0.heap.size ≤ b) : SG W0 hb Q g cap L (w.setCell ⟨b, o, none⟩ v) :=
  ⟨h.bel.setCell h3 v, h.hbB, h.gB, h.ne, boff h.box b o v h1, h.row.below (Below.heap_setCell _ _ _ g h2), h.fits⟩
theorem Kq.off {hb g b : Nat} {a w : World} (h : Kq hb g a w) (o : Nat) (v : Value) (hb' : a.heap.size ≤ b) : Kq hb g a (w.setCell ⟨b, o, none⟩ v) := by
  have h0 : Below 0 w (w.setCell ⟨b, o, none⟩ v) := (Below.refl 0 w).setCell (Nat.zero_le _) v
  exact ⟨h0.os.trans h.os, h0.tape.trans h.tape, h0.output.trans h.output, Nat.le_trans h.size h0.size, fun k hk h1 h2 => (Below.heap_setCell _ _ _ k (by show k ≠ b; omega)).trans (h.block k hk h1 h2)⟩
theorem Kq.on {hb g : Nat} {a w w' : World} (h : Kq hb g a w) (hb' : Below w.heap.size w w') : Kq hb g a w' :=
  ⟨hb'.os.trans h.os, hb'.tape.trans h.tape, hb'.output.trans h.output, Nat.le_trans h.size hb'.size, fun k hk h1 h2 => (hb'.block k (Nat.lt_of_lt_of_le hk h.size)).trans (h.block k hk h1 h2)⟩
set_option maxRecDepth 100000 in
theorem first_run (W0 : World) (Q : Qx) (hb g cap : Nat) (L : List flM.Ms) (r : flM.Ms) (w : World) (hS : SG W0 hb Q g cap L w) (h0 : L[0]? = some r) (hl : L.length ≤ 1000) (hH : hp.Heap less L L.length) :
    Calls Try.prog 41 #[.pointer (some ⟨hb, 0, none⟩)] w fun e w' => e = .returned (.agg #[.int .i64 r.q, .string r.x, .string r.k, .string r.b, .bool r.a]) ∧ ∃ M : List flM.Ms, (r :: M).Perm L ∧ hp.Heap less M M.length ∧ SG W0 hb Q g cap M w' ∧ Kq hb g w w' := by
  have hal : Below w.heap.size w (w.alloc (.cells #[.int .i64 0, .string ⟨#[]⟩, .string ⟨#[]⟩, .string ⟨#[]⟩, .bool false] 38)) := (Below.refl _ _).alloc (Nat.le_refl _) _
  have hX := bnew w #[.int .i64 0, .string ⟨#[]⟩, .string ⟨#[]⟩, .string ⟨#[]⟩, .bool false] 38
  have hgl : g < w.heap.size := by obtain ⟨cur, h1, _⟩ := hS.row; exact (Array.getElem?_eq_some_iff.1 h1).1
  have hbl : hb < w.heap.size := (Array.getElem?_eq_some_iff.1 hS.box).1
  have hWB : W0.heap.size ≤ w.heap.size := hS.bel.size
  have hpo := pop_run W0 Q hb g cap L r _ (hS.on hal) h0 hl hH
  have hta : ∀ W : World, (Instr.typeAssert (.iface 38 (.agg #[.int .i64 r.q, .string r.x, .string r.k, .string r.b, .bool r.a])) 20 38 true).run Try.prog W = .ok (.tuple #[.agg #[.int .i64 r.q, .string r.x, .string r.k, .string r.b, .bool r.a], .bool true]) W := fun W => by kernel_rfl
  have HAL : Hid (Kq hb g w (w.alloc (.cells #[.int .i64 0, .string ⟨#[]⟩, .string ⟨#[]⟩, .string ⟨#[]⟩, .bool false] 38))) := ⟨hal.os, hal.tape, hal.output, hal.size, fun k hk _ _ => hal.block k hk⟩
  have HX : Hid ((w.alloc (.cells #[.int .i64 0, .string ⟨#[]⟩, .string ⟨#[]⟩, .string ⟨#[]⟩, .bool false] 38)).heap[w.heap.size]? = some (.cells #[.int .i64 0, .string ⟨#[]⟩, .string ⟨#[]⟩, .string ⟨#[]⟩, .bool false] 38 (0, 0))) := hX
  clear hS hH h0 hX
  go_enter Try.func41, Try.ntmps41
  go_wp2_with (go_at_call 68; fail)
  refine hpo.mono ?_
  rintro e w1 ⟨rfl, M, h1, h2, h3, h4⟩
  have x1 := (h4.block w.heap.size (by simp) (by omega) (by omega)).trans HX.out
  have hal2 : Below w1.heap.size w1 (w1.alloc (.cells #[.int .i64 r.q, .string r.x, .string r.k, .string r.b, .bool r.a] 38)) := (Below.refl _ _).alloc (Nat.le_refl _) _
  have hwl := (Array.getElem?_eq_some_iff.1 x1).1
  have y1 := bold x1 (.cells #[.int .i64 r.q, .string r.x, .string r.k, .string r.b, .bool r.a] 38)
  obtain ⟨Y, hY⟩ : ∃ Y, w1.alloc (.cells #[.int .i64 r.q, .string r.x, .string r.k, .string r.b, .bool r.a] 38) = Y := ⟨_, rfl⟩
  rw [hY] at hal2 y1
  have hN := bnew w1 #[.int .i64 r.q, .string r.x, .string r.k, .string r.b, .bool r.a] 38
  rw [hY] at hN
  have z0 : Y.cell? ⟨w.heap.size, 0, none⟩ = some (.int .i64 0) := bcell y1 rfl
  have z1 : Y.cell? ⟨w.heap.size, 1, none⟩ = some (.string ⟨#[]⟩) := bcell y1 rfl
  have z2 : Y.cell? ⟨w.heap.size, 2, none⟩ = some (.string ⟨#[]⟩) := bcell y1 rfl
  have z3 : Y.cell? ⟨w.heap.size, 3, none⟩ = some (.string ⟨#[]⟩) := bcell y1 rfl
  have z4 : Y.cell? ⟨w.heap.size, 4, none⟩ = some (.bool false) := bcell y1 rfl
  have f0 := bfree y1 0
  have f1 := bfree y1 1
  have f2 := bfree y1 2
  have f3 := bfree y1 3
  have f4 := bfree y1 4
  have n0 : Y.cell? ⟨w1.heap.size, 0, none⟩ = some (.int .i64 r.q) := bcell hN rfl
  have n1 : Y.cell? ⟨w1.heap.size, 1, none⟩ = some (.string r.x) := bcell hN rfl
  have n2 : Y.cell? ⟨w1.heap.size, 2, none⟩ = some (.string r.k) := bcell hN rfl
  have n3 : Y.cell? ⟨w1.heap.size, 3, none⟩ = some (.string r.b) := bcell hN rfl
  have n4 : Y.cell? ⟨w1.heap.size, 4, none⟩ = some (.bool r.a) := bcell hN rfl
  have hwB : W0.heap.size ≤ w.heap.size := hWB
  have HF : Hid ((r :: M).Perm L ∧ hp.Heap less M M.length ∧ SG W0 hb Q g cap M Y ∧ Kq hb g w Y) := ⟨h1, h2, h3.on hal2, Kq.on (HAL.out.trans h4) hal2⟩
  clear hpo h1 h2 h3 h4 x1 y1 hN hal2
  go_wp2
  refine bodyPost_ret (v := .agg #[.int .i64 r.q, .string r.x, .string r.k, .string r.b, .bool r.a]) (by simp [results, Try.results41, go_sem, z0, z1, z2, z3, z4]) rfl ⟨rfl, M, HF.out.1, HF.out.2.1, ?_, ?_⟩
  · exact SG.off (SG.off (SG.off (SG.off (SG.off HF.out.2.2.1 _ _ _ (by omega) (by omega) hwB) _ _ _ (by omega) (by omega) hwB) _ _ _ (by omega) (by omega) hwB) _ _ _ (by omega) (by omega) hwB) _ _ _ (by omega) (by omega) hwB
  · exact Kq.off (Kq.off (Kq.off (Kq.off (Kq.off HF.out.2.2.2 _ _ (Nat.le_refl _)) _ _ (Nat.le_refl _)) _ _ (Nat.le_refl _)) _ _ (Nat.le_refl _)) _ _ (Nat.le_refl _)
end Go.Proofs.Ytfgilmibeeljnaa.qop
