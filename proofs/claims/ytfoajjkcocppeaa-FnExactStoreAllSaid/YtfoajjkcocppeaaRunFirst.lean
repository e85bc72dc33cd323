/- The first pair of all runs, taken out of their heap. -/
import Derived.Test.YtfoajjkcocppeaaRunPop
namespace Go.Proofs.Ytfoajjkcocppeaa.rfi
open Go.ChangeShapes Go.WideShapes Go.ChangeAt Go.RowKit Go.Proofs.Ytfoajjkcocppeaa.fl Go.Proofs.Ytfoajjkcocppeaa.ri Go.Proofs.Ytfoajjkcocppeaa.rst Go.Proofs.Ytfoajjkcocppeaa.rpu Go.Proofs.Ytfoajjkcocppeaa.rpo
set_option linter.unusedVariables false

/-- what is left of a run behind its first pair -/
def nx (r : It) : List It := match r.l with
  | _ :: x :: t => [⟨r.b, r.o + 3, r.c - 1, x :: t, r.p⟩]
  | _ => []
set_option maxRecDepth 100000 in
set_option maxHeartbeats 1000000 in
theorem first_one (W0 : World) (hb g cap : Nat) (L : List It) (r : It) (e : flP.Pr) (w : World) (hS : SG W0 hb g cap L w) (h0 : L[0]? = some r) (hr : r.l = [e]) (hl : L.length ≤ 100) (hH : hp.Heap less L L.length) :
    Calls Try.prog 77 #[.pointer (some ⟨hb, 0, none⟩)] w fun x w' => x = .returned (.agg #[.string e.k, .string e.v, .bool e.g]) ∧ ∃ M : List It, (r :: M).Perm L ∧ hp.Heap less M M.length ∧ SG W0 hb g cap M w' ∧ Kq hb g w w' := by
  have hal : Below w.heap.size w (w.alloc (.cells #[.string ⟨#[]⟩, .string ⟨#[]⟩, .bool false] 63)) := (Below.refl _ _).alloc (Nat.le_refl _) _
  have hbn := bnew w #[.string ⟨#[]⟩, .string ⟨#[]⟩, .bool false] 63
  obtain ⟨X, hX⟩ : ∃ X, w.alloc (.cells #[.string ⟨#[]⟩, .string ⟨#[]⟩, .bool false] 63) = X := ⟨_, rfl⟩
  rw [hX] at hal hbn
  have hSX := hS.on hal
  have hbl := (Array.getElem?_eq_some_iff.1 hS.box).1
  obtain ⟨hgc, hgl⟩ : ∃ o, w.heap[g]? = some o := by obtain ⟨cur, h1, _⟩ := hS.row; exact ⟨_, h1⟩
  have hgl2 := (Array.getElem?_eq_some_iff.1 hgl).1
  have HBN : Hid (X.heap[w.heap.size]? = some (.cells #[.string ⟨#[]⟩, .string ⟨#[]⟩, .bool false] 63 (0, 0))) := hbn
  have hXl := (Array.getElem?_eq_some_iff.1 hbn).1
  have hbx : X.cell? ⟨hb, 0, none⟩ = some (.slice (some ⟨g, 0, none⟩) L.length cap) := bcell hSX.box rfl
  have hat := hSX.row.at h0
  have hpos := (List.getElem?_eq_some_iff.1 h0).1
  have i1 : (0 : Int) < (L.length : Int) := by omega
  have HF : Hid (Fits W0 W0.heap.size r) := hS.fits r (List.mem_of_getElem? h0)
  have hrl : r.l[0]? = some e := by rw [hr]; rfl
  have r0 : X.cell? ⟨g, 0, none⟩ = some (.slice (some ⟨r.b, r.o, none⟩) 1 r.c) := by have := hat.c0; rw [hr] at this; simpa using this
  have hpop := pop_run W0 hb g cap L r X hSX h0 hl hH
  have hS0 := hS.bel.size
  clear hS hSX h0 hH hat hbn hgl
  go_enter Try.func77, Try.ntmps77
  go_wp2_with (go_at_call 88; fail)
  clear hX
  refine hpop.mono ?_
  rintro x w1 ⟨⟨v, rfl⟩, M, p1, p2, p3, p4⟩
  have hF1 := HF.out.below p3.bel
  have d0 : w1.cell? ⟨r.b, r.o, none⟩ = some (.string e.k) := by simpa using hF1.cells 0 e hrl 0 _ rfl
  have d1 : w1.cell? ⟨r.b, r.o + 1, none⟩ = some (.string e.v) := by simpa using hF1.cells 0 e hrl 1 _ rfl
  have d2 : w1.cell? ⟨r.b, r.o + 2, none⟩ = some (.bool e.g) := by simpa using hF1.cells 0 e hrl 2 _ rfl
  have hb1 : w1.heap[w.heap.size]? = some (.cells #[.string ⟨#[]⟩, .string ⟨#[]⟩, .bool false] 63 (0, 0)) := (p4.block w.heap.size hXl (by omega) (by omega)).trans HBN.out
  have b0 : w1.cell? ⟨w.heap.size, 0, none⟩ = some (.string ⟨#[]⟩) := bcell hb1 rfl
  have b1 : w1.cell? ⟨w.heap.size, 1, none⟩ = some (.string ⟨#[]⟩) := bcell hb1 rfl
  have b2 : w1.cell? ⟨w.heap.size, 2, none⟩ = some (.bool false) := bcell hb1 rfl
  have bf : ∀ k, w1.frozen? ⟨w.heap.size, k, none⟩ = false := fun k => bfree hb1 k
  have bf0 := bf 0
  have bf1 := bf 1
  have bf2 := bf 2
  have hYb := bset (bset (bset hb1 0 (.string e.k)) 1 (.string e.v)) 2 (.bool e.g)
  obtain ⟨Y, hY⟩ : ∃ Y, ((w1.setCell ⟨w.heap.size, 0, none⟩ (.string e.k)).setCell ⟨w.heap.size, 1, none⟩ (.string e.v)).setCell ⟨w.heap.size, 2, none⟩ (.bool e.g) = Y := ⟨_, rfl⟩
  have hw1s : w.heap.size < w1.heap.size := (Array.getElem?_eq_some_iff.1 hb1).1
  have hYo : ∀ k, k ≠ w.heap.size → Y.heap[k]? = w1.heap[k]? := fun k hk => by rw [← hY, Below.heap_setCell _ _ _ k hk, Below.heap_setCell _ _ _ k hk, Below.heap_setCell _ _ _ k hk]
  have hYs : Y.heap.size = w1.heap.size := by rw [← hY]; simp
  rw [hY] at hYb
  have y0 : Y.cell? ⟨w.heap.size, 0, none⟩ = some (.string e.k) := bcell hYb rfl
  have y1 : Y.cell? ⟨w.heap.size, 1, none⟩ = some (.string e.v) := bcell hYb rfl
  have y2 : Y.cell? ⟨w.heap.size, 2, none⟩ = some (.bool e.g) := bcell hYb rfl
  have hsz := p3.bel.size
  have hSY : SG W0 hb g cap M Y := by
    obtain ⟨cur, c1, c2⟩ := p3.row
    refine ⟨⟨by rw [← hY]; exact p3.bel.os, by rw [← hY]; exact p3.bel.tape, by rw [← hY]; exact p3.bel.output, by omega, fun k hk => (hYo k (by have := hS0; omega)).trans (p3.bel.block k hk)⟩, p3.hbB, p3.gB, p3.ne, (hYo hb (by omega)).trans p3.box, ⟨cur, (hYo g (by omega)).trans c1, c2⟩, p3.fits⟩
  have hKY : Kq hb g w Y := ⟨by rw [← hY]; exact p4.os.trans hal.os, by rw [← hY]; exact p4.tape.trans hal.tape, by rw [← hY]; exact p4.output.trans hal.output, by omega, fun k hk h1 h2 => ((hYo k (by omega)).trans (p4.block k (by omega) h1 h2)).trans (hal.block k hk)⟩
  have HM : Hid (∃ M : List It, (r :: M).Perm L ∧ hp.Heap less M M.length ∧ SG W0 hb g cap M Y ∧ Kq hb g w Y) := ⟨M, p1, p2, hSY, hKY⟩
  clear hpop p1 p2 p3 p4 hF1 hbx r0 hSY hKY hYo hYs hYb hb1 bf HBN
  go_wp2
  exact bodyPost_ret (v := .agg #[.string e.k, .string e.v, .bool e.g]) (by simp [results, Try.results77, go_sem, y0, y1, y2]) rfl ⟨rfl, HM.out⟩

def ws (hb g n cap : Nat) (r : It) (m : Nat) : List (Nat × Value) :=
  [(16, .pointer (some ⟨hb, 0, none⟩)), (17, .pointer (some ⟨hb, 0, none⟩)), (18, .slice (some ⟨g, 0, none⟩) n cap), (19, .slice (some ⟨r.b, r.o, none⟩) (m + 2) r.c), (20, .slice (some ⟨r.b, r.o + 3, none⟩) (m + 1) (r.c - 1)), (21, .pointer (some ⟨g, 0, none⟩)), (22, .pointer (some ⟨g, 0, none⟩))]
def D (X Y : World) (b : Bool) (W : World) : Prop := W = if b = true then Y else X
theorem D.at {X Y W : World} {b : Bool} (h : D X Y b W) {a : Addr} {v : Value} (hx : X.cell? a = some v) (hy : Y.cell? a = some v) : W.cell? a = some v := by
  unfold D at h
  subst h
  split <;> assumption

set_option maxRecDepth 100000 in
set_option maxHeartbeats 1000000 in
theorem first_more (W0 : World) (hb g cap : Nat) (L : List It) (r : It) (e f : flP.Pr) (t : List flP.Pr) (w : World) (hS : SG W0 hb g cap L w) (h0 : L[0]? = some r) (hr : r.l = e :: f :: t) (hl : L.length ≤ 100) (hc : r.l.length ≤ r.c) (hH : hp.Heap less L L.length) :
    Calls Try.prog 77 #[.pointer (some ⟨hb, 0, none⟩)] w fun x w' => x = .returned (.agg #[.string e.k, .string e.v, .bool e.g]) ∧ ∃ M : List It, M.Perm (L.set 0 ⟨r.b, r.o + 3, r.c - 1, f :: t, r.p⟩) ∧ hp.Heap less M M.length ∧ SG W0 hb g cap M w' ∧ Kq hb g w w' := by
  have hal : Below w.heap.size w (w.alloc (.cells #[.string ⟨#[]⟩, .string ⟨#[]⟩, .bool false] 63)) := (Below.refl _ _).alloc (Nat.le_refl _) _
  have hbn := bnew w #[.string ⟨#[]⟩, .string ⟨#[]⟩, .bool false] 63
  obtain ⟨X, hX⟩ : ∃ X, w.alloc (.cells #[.string ⟨#[]⟩, .string ⟨#[]⟩, .bool false] 63) = X := ⟨_, rfl⟩
  rw [hX] at hal hbn
  have hSX := hS.on hal
  have hbl := (Array.getElem?_eq_some_iff.1 hS.box).1
  obtain ⟨hgc, hgl⟩ : ∃ o, w.heap[g]? = some o := by obtain ⟨cur, h1, _⟩ := hS.row; exact ⟨_, h1⟩
  have hgl2 := (Array.getElem?_eq_some_iff.1 hgl).1
  have HBN : Hid (X.heap[w.heap.size]? = some (.cells #[.string ⟨#[]⟩, .string ⟨#[]⟩, .bool false] 63 (0, 0))) := hbn
  have hXl := (Array.getElem?_eq_some_iff.1 hbn).1
  have hbx : X.cell? ⟨hb, 0, none⟩ = some (.slice (some ⟨g, 0, none⟩) L.length cap) := bcell hSX.box rfl
  have hat := hSX.row.at h0
  have hpos := (List.getElem?_eq_some_iff.1 h0).1
  have i1 : (0 : Int) < (L.length : Int) := by omega
  have HF : Hid (Fits W0 W0.heap.size r) := hS.fits r (List.mem_of_getElem? h0)
  have hrl : r.l[0]? = some e := by rw [hr]; rfl
  have hlen : r.l.length = t.length + 2 := by rw [hr]; rfl
  have r0 : X.cell? ⟨g, 0, none⟩ = some (.slice (some ⟨r.b, r.o, none⟩) (t.length + 2) r.c) := by have := hat.c0; rw [hlen] at this; simpa using this
  have hS0 := hS.bel.size
  obtain ⟨cur, c1, c2, c3, c4, c5⟩ := hSX.row
  have hne := hSX.ne
  have hgB := hSX.gB
  have hbB := hSX.hbB
  -- the world behind the store
  have hZb := bset (show X.drew.heap[g]? = some (.cells cur 103 (0, 0)) from c1) 0 (.slice (some ⟨r.b, r.o + 3, none⟩) (t.length + 1) (r.c - 1))
  obtain ⟨V, hV⟩ : ∃ V, X.drew = V := ⟨_, rfl⟩
  have v0 : V.cell? ⟨g, 0, none⟩ = some (.slice (some ⟨r.b, r.o, none⟩) (t.length + 2) r.c) := by rw [← hV]; exact r0
  have vf : V.frozen? ⟨g, 0, none⟩ = false := by rw [← hV]; exact bfree (show X.drew.heap[g]? = _ from c1) 0
  have vb : V.cell? ⟨hb, 0, none⟩ = some (.slice (some ⟨g, 0, none⟩) L.length cap) := by rw [← hV]; exact hbx
  rw [hV] at hZb
  obtain ⟨Z, hZ⟩ : ∃ Z, V.setCell ⟨g, 0, none⟩ (.slice (some ⟨r.b, r.o + 3, none⟩) (t.length + 1) (r.c - 1)) = Z := ⟨_, rfl⟩
  have hZo : ∀ k, k ≠ g → Z.heap[k]? = X.heap[k]? := fun k hk => by rw [← hZ, Below.heap_setCell _ _ _ k hk, ← hV]; rfl
  have hZs : Z.heap.size = X.heap.size := by rw [← hZ, ← hV]; simp
  have hKZ : Kq hb g X Z := ⟨by rw [← hZ, ← hV]; rfl, by rw [← hZ, ← hV]; rfl, by rw [← hZ, ← hV]; rfl, by omega, fun k _ h1 _ => hZo k h1⟩
  rw [hZ] at hZb
  have hzl : g < X.heap.size := (Array.getElem?_eq_some_iff.1 c1).1
  have zb : Z.cell? ⟨hb, 0, none⟩ = some (.slice (some ⟨g, 0, none⟩) L.length cap) := by
    have := (hZo hb (Ne.symm hne)).trans hSX.box
    exact bcell this rfl
  have hfr := hS.fits r (List.mem_of_getElem? h0)
  have hSZ : SG W0 hb g cap (L.set 0 ⟨r.b, r.o + 3, r.c - 1, f :: t, r.p⟩) Z := by
    have hXs := hSX.bel.size
    refine ⟨⟨hKZ.os.trans hSX.bel.os, hKZ.tape.trans hSX.bel.tape, hKZ.output.trans hSX.bel.output, by omega, fun k hk => (hZo k (by omega)).trans (hSX.bel.block k hk)⟩, hbB, hgB, hne, by rw [List.length_set]; exact (hZo hb (Ne.symm hne)).trans hSX.box, ⟨_, hZb, by simpa using c2, by rw [List.length_set]; exact c3, c4, fun i q hq j v hv => ?_⟩, fun q hq => ?_⟩
    · have hj : j < 2 := by have := (List.getElem?_eq_some_iff.1 hv).1; rwa [cI_len] at this
      rw [List.getElem?_set] at hq
      rw [Array.getElem?_setIfInBounds]
      by_cases ei : 0 = i
      · subst ei
        rw [if_pos rfl, if_pos hpos] at hq
        cases hq
        have : j = 0 ∨ j = 1 := by omega
        rcases this with rfl | rfl
        · rw [if_pos (by omega), if_pos (by omega)]
          simpa [cI] using hv
        · rw [if_neg (by omega)]
          exact c5 0 r h0 1 v hv
      · rw [if_neg ei] at hq
        rw [if_neg (by omega)]
        exact c5 i q hq j v hv
    · rcases List.mem_or_eq_of_mem_set hq with h | rfl
      · exact hS.fits q h
      · exact ⟨hfr.lt, by simp, by have := hfr.len; rw [hlen] at this; simp; omega, hfr.pl, fun i y hy j v hv => by
          have := hfr.cells (i + 1) y (by rw [hr]; simpa using hy) j v hv
          have e2 : r.o + (i + 1) * 3 + j = (r.o + 3) + i * 3 + j := by omega
          rw [e2] at this
          exact this⟩
  have hfix := fun W (h : Z = W) => fix_run W0 hb g cap (L.set 0 ⟨r.b, r.o + 3, r.c - 1, f :: t, r.p⟩) Z hSZ (by simpa using hpos) (by simpa using hl) (by rw [List.length_set]; exact hp.down_set hH)
  have hfixZ := hfix Z rfl
  have hcc : t.length + 2 ≤ r.c := by omega
  have hL0 : L ≠ [] := by rintro rfl; simp at hpos
  clear hfix hS hSX h0 hH hat hbn hgl hSZ c1 c2 c3 c4 c5 hfr hZb hlen hr hc
  go_enter Try.func77, Try.ntmps77
  go_wp2
  clear hX
  refine dk.region_sets (ws hb g L.length cap r t.length) [16, 17, 18, 19, 20, 21, 22] (dk.Cl (D V Z) 7) (by kernel_rfl) (by kernel_rfl) rfl (by kernel_rfl) (by show D V Z false X.drew; exact hV) ?each ?fin
  case each =>
    refine ⟨dk.q (by decide) (.pointer (some ⟨hb, 0, none⟩)) (by rintro _ ⟨⟩; exact dk.sets_on _ (by simp) _ rfl) (fun b W h => by simp [execOp, go_sem, Act.eval, dk.sets_get, ws, List.lookup]), ?_⟩
    refine ⟨dk.q (by decide) (.pointer (some ⟨hb, 0, none⟩)) (by rintro _ ⟨⟩; exact dk.sets_on _ (by simp) _ rfl) (fun b W h => by simp [execOp, go_sem, Act.eval, dk.sets_get, ws, List.lookup]), ?_⟩
    refine ⟨dk.q (by decide) (.slice (some ⟨g, 0, none⟩) L.length cap) (by rintro _ ⟨⟩; exact dk.sets_on _ (by simp) _ rfl) (fun b W h => by have c := D.at h vb zb; simp [execOp, go_sem, Act.eval, dk.sets_get, ws, List.lookup, c]), ?_⟩
    refine ⟨dk.q (by decide) (.slice (some ⟨r.b, r.o, none⟩) (t.length + 2) r.c) (by rintro _ ⟨⟩; exact dk.sets_on _ (by simp) _ rfl) (fun b W h => by simp [execOp, go_sem, Act.eval, dk.sets_get, ws, List.lookup]), ?_⟩
    refine ⟨dk.q (by decide) (.slice (some ⟨r.b, r.o + 3, none⟩) (t.length + 1) (r.c - 1)) (by rintro _ ⟨⟩; exact dk.sets_on _ (by simp) _ rfl) (fun b W h => by simp [execOp, go_sem, Act.eval, dk.sets_get, ws, List.lookup]; rw [if_pos (by omega), if_neg (by omega)]), ?_⟩
    refine ⟨dk.q (by decide) (.pointer (some ⟨g, 0, none⟩)) (by rintro _ ⟨⟩; exact dk.sets_on _ (by simp) _ rfl) (fun b W h => by simp [execOp, go_sem, Act.eval, dk.sets_get, ws, List.lookup, hL0]), ?_⟩
    refine ⟨dk.q (by decide) (.pointer (some ⟨g, 0, none⟩)) (by rintro _ ⟨⟩; exact dk.sets_on _ (by simp) _ rfl) (fun b W h => by simp [execOp, go_sem, Act.eval, dk.sets_get, ws, List.lookup]), ?_⟩
    exact ⟨dk.last rfl (fun W h => ⟨Z, by have h : W = V := h; subst h; rw [← hZ]; simp [execOp, go_sem, Act.eval, dk.sets_get, ws, List.lookup, v0, vf], rfl⟩), trivial⟩
  case fin =>
    intro K W hK hC
    have hC' : W = Z := by
      have h : D V Z (K 7) W := hC
      rw [hK 7 (by decide)] at h
      exact h
    subst hC'
    clear hC hK
    simp only [dk.sets, ws]
    go_wp2_with (go_at_call 89; fail)
    refine hfixZ.mono ?_
    rintro x w1 ⟨rfl, M, p1, p2, p3, p4'⟩
    have p4 := hKZ.trans (Kq.of (hb := hb) p4')
    have hF1 := HF.out.below p3.bel
    have d0 : w1.cell? ⟨r.b, r.o, none⟩ = some (.string e.k) := by simpa using hF1.cells 0 e hrl 0 _ rfl
    have d1 : w1.cell? ⟨r.b, r.o + 1, none⟩ = some (.string e.v) := by simpa using hF1.cells 0 e hrl 1 _ rfl
    have d2 : w1.cell? ⟨r.b, r.o + 2, none⟩ = some (.bool e.g) := by simpa using hF1.cells 0 e hrl 2 _ rfl
    have hb1 : w1.heap[w.heap.size]? = some (.cells #[.string ⟨#[]⟩, .string ⟨#[]⟩, .bool false] 63 (0, 0)) := (p4.block w.heap.size hXl (by omega) (by omega)).trans HBN.out
    have b0 : w1.cell? ⟨w.heap.size, 0, none⟩ = some (.string ⟨#[]⟩) := bcell hb1 rfl
    have b1 : w1.cell? ⟨w.heap.size, 1, none⟩ = some (.string ⟨#[]⟩) := bcell hb1 rfl
    have b2 : w1.cell? ⟨w.heap.size, 2, none⟩ = some (.bool false) := bcell hb1 rfl
    have bf : ∀ k, w1.frozen? ⟨w.heap.size, k, none⟩ = false := fun k => bfree hb1 k
    have bf0 := bf 0
    have bf1 := bf 1
    have bf2 := bf 2
    have hYb := bset (bset (bset hb1 0 (.string e.k)) 1 (.string e.v)) 2 (.bool e.g)
    obtain ⟨Y, hY⟩ : ∃ Y, ((w1.setCell ⟨w.heap.size, 0, none⟩ (.string e.k)).setCell ⟨w.heap.size, 1, none⟩ (.string e.v)).setCell ⟨w.heap.size, 2, none⟩ (.bool e.g) = Y := ⟨_, rfl⟩
    have hw1s : w.heap.size < w1.heap.size := (Array.getElem?_eq_some_iff.1 hb1).1
    have hYo : ∀ k, k ≠ w.heap.size → Y.heap[k]? = w1.heap[k]? := fun k hk => by rw [← hY, Below.heap_setCell _ _ _ k hk, Below.heap_setCell _ _ _ k hk, Below.heap_setCell _ _ _ k hk]
    have hYs : Y.heap.size = w1.heap.size := by rw [← hY]; simp
    rw [hY] at hYb
    have y0 : Y.cell? ⟨w.heap.size, 0, none⟩ = some (.string e.k) := bcell hYb rfl
    have y1 : Y.cell? ⟨w.heap.size, 1, none⟩ = some (.string e.v) := bcell hYb rfl
    have y2 : Y.cell? ⟨w.heap.size, 2, none⟩ = some (.bool e.g) := bcell hYb rfl
    have hsz := p3.bel.size
    have hSY : SG W0 hb g cap M Y := by
      obtain ⟨cur, c1, c2⟩ := p3.row
      refine ⟨⟨by rw [← hY]; exact p3.bel.os, by rw [← hY]; exact p3.bel.tape, by rw [← hY]; exact p3.bel.output, by omega, fun k hk => (hYo k (by have := hS0; omega)).trans (p3.bel.block k hk)⟩, p3.hbB, p3.gB, p3.ne, (hYo hb (by omega)).trans p3.box, ⟨cur, (hYo g (by omega)).trans c1, c2⟩, p3.fits⟩
    have hKY : Kq hb g w Y := ⟨by rw [← hY]; exact p4.os.trans hal.os, by rw [← hY]; exact p4.tape.trans hal.tape, by rw [← hY]; exact p4.output.trans hal.output, by omega, fun k hk h1 h2 => ((hYo k (by omega)).trans (p4.block k (by omega) h1 h2)).trans (hal.block k hk)⟩
    have HM : Hid (∃ M : List It, M.Perm (L.set 0 ⟨r.b, r.o + 3, r.c - 1, f :: t, r.p⟩) ∧ hp.Heap less M M.length ∧ SG W0 hb g cap M Y ∧ Kq hb g w Y) := ⟨M, p1, p2, hSY, hKY⟩
    clear hfixZ p1 p2 p3 p4 p4' hF1 hbx r0 hSY hKY hYo hYs hYb hb1 bf HBN hKZ hZo hZs zb vb v0 vf
    go_wp2
    exact bodyPost_ret (v := .agg #[.string e.k, .string e.v, .bool e.g]) (by simp [results, Try.results77, go_sem, y0, y1, y2]) rfl ⟨rfl, HM.out⟩
end Go.Proofs.Ytfoajjkcocppeaa.rfi
