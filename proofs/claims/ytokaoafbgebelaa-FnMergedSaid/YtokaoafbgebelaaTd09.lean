/- The first pair of all runs, taken out of their heap. -/
import Derived.Test.YtokaoafbgebelaaTd08

/- heap.Push over the runs: one more run in the heap. -/
namespace Go.Proofs.Ytokaoafbgebelaa.rpu
open Go.ChangeShapes Go.WideShapes Go.ChangeAt Go.RowKit Go.Proofs.Ytokaoafbgebelaa.fl Go.Proofs.Ytokaoafbgebelaa.ri Go.Proofs.Ytokaoafbgebelaa.rst
set_option linter.unusedVariables false

/-- a heap's box and its row, or no row yet -/
structure SN (W0 : World) (hb : Nat) (L : List It) (w : World) : Prop where
  bel : Below W0.heap.size W0 w
  hbB : W0.heap.size ≤ hb
  box : ∃ v, w.heap[hb]? = some (.cells #[v] 87 (0, 0)) ∧ w.ownsRow W0.heap.size 91 2 v L.length (L.flatMap cI) ∧ v.ownBlock ≠ some hb
  fits : ∀ r ∈ L, Fits W0 W0.heap.size r
theorem take_eq {cur : Array Value} {L : List It} (h : ∀ (i : Nat) (r : It), L[i]? = some r → ∀ (j : Nat) (v : Value), (cI r)[j]? = some v → cur[i * 2 + j]? = some v) (hs : L.length * 2 ≤ cur.size) : cur.toList.take (L.length * 2) = L.flatMap cI := by
  apply List.ext_getElem?
  intro j
  by_cases hj : j < L.length * 2
  · rw [List.getElem?_take_of_lt hj]
    have hj2 : j < (L.flatMap cI).length := by rw [flat_len cI_len]; exact hj
    obtain ⟨u, hu⟩ : ∃ u, (L.flatMap cI)[j]? = some u := ⟨_, List.getElem?_eq_getElem hj2⟩
    obtain ⟨i, e, r, k1, k2, k3⟩ := flat_get cI_len L j _ hu
    rw [hu]
    subst k3
    have := h i e k1 r _ k2
    simpa using this
  · rw [List.getElem?_eq_none (by rw [List.length_take]; omega), List.getElem?_eq_none (by rw [flat_len cI_len]; omega)]
theorem SN.of {W0 : World} {hb g cap : Nat} {L : List It} {w : World} (h : SG W0 hb g cap L w) : SN W0 hb L w := by
  obtain ⟨cur, h1, h2, h3, h4, h5⟩ := h.row
  refine ⟨h.bel, h.hbB, ⟨_, h.box, ⟨flat_len cI_len L, .inr ⟨g, cap, cur, rfl, h.gB, h1, h3, h4, h2, take_eq h5 (by omega)⟩⟩, ?_⟩, h.fits⟩
  intro e
  exact h.ne (Option.some.inj e)
/-- its row, where there is one -/
theorem SN.sg {W0 : World} {hb : Nat} {L : List It} {w : World} (h : SN W0 hb L w) (h0 : L ≠ []) : ∃ g cap, SG W0 hb g cap L w := by
  obtain ⟨v, hv, ⟨_, ⟨rfl, hn⟩ | ⟨g, cap, cur, rfl, h1, h2, h3, h4, h5, h6⟩⟩, hne⟩ := h.box
  · exact absurd (List.eq_nil_of_length_eq_zero hn) h0
  · refine ⟨g, cap, h.bel, h.hbB, h1, fun e => hne (by rw [e]; rfl), hv, ⟨cur, h2, h5, h3, h4, fun i r hr j v hv => ?_⟩, h.fits⟩
    have hf := flat_at cI_len L i r hr j v hv
    rw [← h6] at hf
    have hlt := (List.getElem?_eq_some_iff.1 hf).1
    rw [List.length_take] at hlt
    rw [List.getElem?_take_of_lt (by omega)] at hf
    simpa using hf
theorem infoR : (Try.prog.info? 91).map (fun i => (i.zero, i.size, i.bytes)) = some (some (.agg #[.slice none 0 0, .int .i64 0]), 2, 32) := by kernel_rfl

def J0 : pap.J := ⟨3, 4, 5, 6, 8⟩
theorem J0_ok : J0.ok := by unfold pap.J.ok J0; decide
def ws (hb n : Nat) (v : Value) (r : It) (g : pap.G) : List (Nat × Value) :=
  [(12, .pointer (some ⟨hb, 0, none⟩)), (13, .pointer (some ⟨hb, 0, none⟩)), (14, .pointer (some ⟨hb, 0, none⟩)), (15, v), (16, .agg #[.slice (some ⟨r.b, r.o, none⟩) r.l.length r.c, .int .i64 r.p]), (17, .slice (some ⟨g.h, 0, none⟩) 1 1), (18, g.v1), (19, .pointer (some ⟨hb, 0, none⟩))]

set_option maxRecDepth 100000 in
set_option maxHeartbeats 1000000 in
theorem push_m (W0 : World) (hb : Nat) (L : List It) (r : It) (w : World) (hS : SN W0 hb L w) (hr : Fits W0 W0.heap.size r) (hl : L.length ≤ 50) :
    Calls Try.prog 107 #[.pointer (some ⟨hb, 0, none⟩), .iface 91 (.agg #[.slice (some ⟨r.b, r.o, none⟩) r.l.length r.c, .int .i64 r.p])] w fun e w' => e = .returned (.tuple #[]) ∧ SN W0 hb (L ++ [r]) w' := by
  obtain ⟨i0, hi, hz0, hz1, hz2⟩ := info_parts infoR
  obtain ⟨v, hv, hown, hne⟩ := hS.box
  have hlt := (Array.getElem?_eq_some_iff.1 hv).1
  have hsz := hS.bel.size
  have c0 : w.cell? ⟨hb, 0, none⟩ = some v := bcell hv rfl
  have HV : Hid (w.heap[hb]? = some (.cells #[v] 87 (0, 0))) := hv
  have HS : Hid (SN W0 hb L w) := hS
  have HRF : Hid (Fits W0 W0.heap.size r) := hr
  have hta : ∀ W : World, (Instr.typeAssert (.iface 91 (.agg #[.slice (some ⟨r.b, r.o, none⟩) r.l.length r.c, .int .i64 r.p])) 20 91 true).run Try.prog W = .ok (.tuple #[.agg #[.slice (some ⟨r.b, r.o, none⟩) r.l.length r.c, .int .i64 r.p], .bool true]) W := fun W => by kernel_rfl
  have hal : Below w.heap.size w (w.alloc (.cells #[.slice (some ⟨r.b, r.o, none⟩) r.l.length r.c, .int .i64 r.p] 91)) := (Below.refl _ _).alloc (Nat.le_refl _) _
  have hA := bnew w #[.slice (some ⟨r.b, r.o, none⟩) r.l.length r.c, .int .i64 r.p] 91
  obtain ⟨X, hX⟩ : ∃ X, w.alloc (.cells #[.slice (some ⟨r.b, r.o, none⟩) r.l.length r.c, .int .i64 r.p] 91) = X := ⟨_, rfl⟩
  rw [hX] at hal hA
  have hXl := (Array.getElem?_eq_some_iff.1 hA).1
  have HA : Hid (X.heap[w.heap.size]? = some (.cells #[.slice (some ⟨r.b, r.o, none⟩) r.l.length r.c, .int .i64 r.p] 91 (0, 0))) := hA
  have O : pap.Ok ⟨X, W0.heap.size, hb, 87, 91, 2, v, L.length, L.flatMap cI, cI r⟩ := ⟨Nat.le_trans hsz hal.size, hS.hbB, bstay hv hal hlt, hown.kept (row := none) ⟨hal.os, hal.tape, hal.output, hal.size, fun i hi _ => hal.block i hi⟩ (by
    cases hv : v.ownBlock with
    | none => exact .inl rfl
    | some g => right; simp), hne⟩
  have HO : Hid (pap.Ok ⟨X, W0.heap.size, hb, 87, 91, 2, v, L.length, L.flatMap cI, cI r⟩) := O
  clear hv hS hr hA O hown hne
  go_enter Try.func107, Try.ntmps107
  go_wp2
  clear hX
  refine dk.region_gsets (ws hb w.heap.size v r) [12, 13, 14, 15, 16, 17, 18, 19] (pap.C ⟨X, W0.heap.size, hb, 87, 91, 2, v, L.length, L.flatMap cI, cI r⟩ J0) ⟨0, .slice none 0 0⟩ (by kernel_rfl) (by kernel_rfl) (fun _ => rfl) (by kernel_rfl) (pap.start HO.out _ _) ?each ?fin
  case each =>
    refine ⟨pap.quiet (by decide) (by simp) (.pointer (some ⟨hb, 0, none⟩)) (by rintro s _ ⟨⟩; exact dk.sets_on _ (by simp) _ rfl) (fun s W => by simp [execOp, go_sem, Act.eval, dk.sets_get, ws, List.lookup]), ?_⟩
    refine ⟨pap.quiet (by decide) (by simp) (.pointer (some ⟨hb, 0, none⟩)) (by rintro s _ ⟨⟩; exact dk.sets_on _ (by simp) _ rfl) (fun s W => by simp [execOp, go_sem, Act.eval, dk.sets_get, ws, List.lookup]), ?_⟩
    refine ⟨pap.quiet (by decide) (by simp) (.pointer (some ⟨hb, 0, none⟩)) (by rintro s _ ⟨⟩; exact dk.sets_on _ (by simp) _ rfl) (fun s W => by simp [execOp, go_sem, Act.eval, dk.sets_get, ws, List.lookup]), ?_⟩
    refine ⟨pap.sl (x := J0) (d := 15) J0_ok (by simp) rfl (fun s => dk.sets_on _ (by simp) _ rfl) (fun s W h => by have c : W.cell? ⟨hb, 0, none⟩ = some v := bcell h rfl; simp [execOp, go_sem, Act.eval, dk.sets_get, ws, List.lookup, c]), ?_⟩
    refine ⟨pap.sm (x := J0) (d := 16) J0_ok (.agg #[.slice (some ⟨r.b, r.o, none⟩) r.l.length r.c, .int .i64 r.p]) (by simp) rfl (fun s => dk.sets_on _ (by simp) _ rfl) (fun s W h => by have hh := bstay HA.out h hXl; have d0 : W.cell? ⟨w.heap.size, 0, none⟩ = some (.slice (some ⟨r.b, r.o, none⟩) r.l.length r.c) := bcell hh rfl; have d1 : W.cell? ⟨w.heap.size, 1, none⟩ = some (.int .i64 r.p) := bcell hh rfl; simp [execOp, go_sem, Act.eval, dk.sets_get, ws, List.lookup, d0, d1]), ?_⟩
    refine ⟨pap.sb (x := J0) (d := 17) (idx := 5) HO.out J0_ok (by simp) rfl (by simp) (fun g => rfl) (fun g => rfl) (fun g e => rfl) (fun s W => by simp [execOp, go_sem, Act.eval, dk.sets_get, ws, List.lookup, cI]) ⟨⟨4, .data⟩, by simp, rfl, rfl⟩, ?_⟩
    refine ⟨pap.sa (x := J0) (d := 18) (s1 := 15) (s2 := 17) (idx := 6) HO.out J0_ok Try.underlying87 hi hz0 hz1 hz2 rfl (by show 0 < 2; decide) rfl rfl ⟨by simp, by simp, by simp⟩ (fun g => rfl) (fun g => rfl) (fun g => rfl) (fun g => rfl) (fun g v => rfl) rfl (by intro u hu; simp [cI] at hu; rcases hu with rfl | rfl <;> rfl) (by show L.length ≤ 1048576; omega) (by show (L.length + 1) * 32 ≤ 140737488355328; omega) ⟨⟨3, .data⟩, by simp, rfl, rfl⟩ ⟨⟨5, .data⟩, by simp, rfl, rfl⟩, ?_⟩
    refine ⟨pap.quiet (by decide) (by simp) (.pointer (some ⟨hb, 0, none⟩)) (by rintro s _ ⟨⟩; exact dk.sets_on _ (by simp) _ rfl) (fun s W => by simp [execOp, go_sem, Act.eval, dk.sets_get, ws, List.lookup]), ?_⟩
    exact ⟨pap.ss (x := J0) HO.out J0_ok rfl (by simp) (fun s W a m c' hv1 h => by have c : W.cell? ⟨hb, 0, none⟩ = some v := bcell h rfl; have f : W.frozen? ⟨hb, 0, none⟩ = false := bfree h 0; simp [execOp, go_sem, Act.eval, dk.sets_get, ws, List.lookup, c, f, hv1]) ⟨⟨6, .data⟩, by simp, rfl, rfl⟩, trivial⟩
  case fin =>
    intro s K W hK hC
    obtain ⟨d1, d2, d3, d4⟩ := pap.done hC (N := 9) (by decide) (by decide) hK
    have hsn : Hid (SN W0 hb (L ++ [r]) W) := by
      refine ⟨HS.out.bel.trans ((hal.mono hsz).trans d1), HS.out.hbB, ⟨s.v1, d2, ?_, d4⟩, fun q hq => ?_⟩
      · rw [List.length_append, List.flatMap_append]
        simpa using d3
      · rcases List.mem_append.1 hq with h | h
        · exact HS.out.fits q h
        · simp at h; subst h; exact HRF.out
    clear hC hK d1 d2 d3 d4
    simp only [dk.sets, ws]
    go_wp2
    go_end0
    exact ⟨rfl, hsn.out⟩
end Go.Proofs.Ytokaoafbgebelaa.rpu

/- heap.Push, heap.Pop and heap.Fix over the runs. -/
namespace Go.Proofs.Ytokaoafbgebelaa.rpo
open Go.ChangeShapes Go.WideShapes Go.ChangeAt Go.RowKit Go.Proofs.Ytokaoafbgebelaa.fl Go.Proofs.Ytokaoafbgebelaa.ri Go.Proofs.Ytokaoafbgebelaa.rst Go.Proofs.Ytokaoafbgebelaa.rpu
set_option linter.unusedVariables false

theorem len_run (a : Option Addr) (n cap : Nat) (w : World) : Calls Try.prog 62 #[.slice a n cap] w fun e w' => e = .returned (.int .i64 n) ∧ w = w' := by
  go_enter Try.func62, Try.ntmps62
  go_wp2
  go_ret
  exact ⟨rfl, rfl⟩

set_option maxRecDepth 100000 in
set_option maxHeartbeats 1000000 in
theorem push_run (W0 : World) (hb : Nat) (L : List It) (r : It) (w : World) (hS : SN W0 hb L w) (hH : hp.Heap less L L.length) (hr : Fits W0 W0.heap.size r) (hl : L.length ≤ 50) :
    Calls Try.prog 61 #[.iface 89 (.pointer (some ⟨hb, 0, none⟩)), .iface 91 (.agg #[.slice (some ⟨r.b, r.o, none⟩) r.l.length r.c, .int .i64 r.p])] w fun e w' => e = .returned (.tuple #[]) ∧ ∃ M : List It, M.Perm (L ++ [r]) ∧ hp.Heap less M M.length ∧ SN W0 hb M w' := by
  have hpm := push_m W0 hb L r w hS hr hl
  have hmp := meth_push ⟨hb, 0, none⟩ w
  have HH : Hid (hp.Heap less L L.length) := hH
  clear hS hH hr
  go_enter Try.func61, Try.ntmps61
  go_wp2_with (go_at_call 107; fail)
  refine hpm.mono ?_
  rintro e w1 ⟨rfl, hs1⟩
  obtain ⟨g, cap, hsg⟩ := hs1.sg (by simp)
  have hlen : (L ++ [r]).length = L.length + 1 := by simp
  have hbx : w1.cell? ⟨hb, 0, none⟩ = some (.slice (some ⟨g, 0, none⟩) (L.length + 1) cap) := by rw [← hlen]; exact bcell hsg.box rfl
  have hml := meth_len ⟨hb, 0, none⟩ _ w1 hbx
  have hup := rup.up_run W0 hb g cap L.length (L ++ [r]) w1 hsg (by omega) (by omega) (by rw [hlen]; exact hp.up_new HH.out)
  clear hpm hmp hs1 hsg hlen
  go_wp2_with (first | (go_at_call 62; refine (len_run _ _ _ _).mono ?_; rintro e w0 ⟨rfl, hw0⟩; rw [← hw0]; clear hw0 w0) | (go_at_call 74; fail))
  refine hup.mono ?_
  rintro e w2 ⟨rfl, M, hM, hHM, hSM, _⟩
  have HM : Hid (M.Perm (L ++ [r]) ∧ hp.Heap less M M.length ∧ SN W0 hb M w2) := ⟨hM, hHM, .of hSM⟩
  clear hup hml hbx hM hHM hSM
  go_wp2
  go_end0
  exact ⟨rfl, M, HM.out⟩

set_option maxRecDepth 100000 in
set_option maxHeartbeats 1000000 in
theorem fix_run (W0 : World) (hb g cap : Nat) (L : List It) (w : World) (hS : SG W0 hb g cap L w) (h0 : 0 < L.length) (hl : L.length ≤ 100) (hD : hp.DnI less L 0 L.length) :
    Calls Try.prog 76 #[.iface 89 (.pointer (some ⟨hb, 0, none⟩)), .int .i64 0] w fun e w' => e = .returned (.tuple #[]) ∧ ∃ M : List It, M.Perm L ∧ hp.Heap less M M.length ∧ SG W0 hb g cap M w' ∧ Kp g w w' := by
  have hbx : w.cell? ⟨hb, 0, none⟩ = some (.slice (some ⟨g, 0, none⟩) L.length cap) := bcell hS.box rfl
  have hml := meth_len ⟨hb, 0, none⟩ _ w hbx
  have hdn := rdn.down_run W0 hb g cap 0 L.length L w hS (.inr rfl) (Nat.le_refl _) hl hD
  clear hS hD
  go_enter Try.func76, Try.ntmps76
  go_wp2_with (first | (go_at_call 62; refine (len_run _ _ _ _).mono ?_; rintro e w0 ⟨rfl, hw0⟩; rw [← hw0]; clear hw0 w0) | (go_at_call 81; fail))
  refine hdn.mono ?_
  rintro e w2 ⟨⟨bb, rfl⟩, M, hM, hHM, _, hSM, hKM⟩
  have hlM := hM.length_eq
  have HM : Hid (M.Perm L ∧ hp.Heap less M M.length ∧ SG W0 hb g cap M w2 ∧ Kp g w w2) := ⟨hM, by rw [hlM]; exact hHM, hSM, hKM⟩
  have hup := rup.up_run W0 hb g cap 0 M w2 hSM (by omega) (by omega) ⟨fun i h1 h2 h3 => HM.out.2.1 i h1 h2, fun h => absurd h (by omega)⟩
  clear hdn hml hbx hM hHM hSM hKM hlM
  cases bb with
  | true =>
    clear hup
    go_wp2
    go_end0
    exact ⟨rfl, M, HM.out⟩
  | false =>
    go_wp2_with (go_at_call 74; fail)
    refine hup.mono ?_
    rintro e w3 ⟨rfl, M3, hM3, hH3, hS3, hK3⟩
    have HM3 : Hid (M3.Perm L ∧ hp.Heap less M3 M3.length ∧ SG W0 hb g cap M3 w3 ∧ Kp g w w3) := ⟨hM3.trans HM.out.1, hH3, hS3, HM.out.2.2.2.trans hK3⟩
    clear hup hM3 hH3 hS3 hK3
    go_wp2
    go_end0
    exact ⟨rfl, M3, HM3.out⟩

/-- nothing but the box and the row is turned; new memory besides -/
structure Kq (hb g : Nat) (w w' : World) : Prop where
  os : w'.os = w.os
  tape : w'.tape = w.tape
  output : w'.output = w.output
  size : w.heap.size ≤ w'.heap.size
  block : ∀ k, k < w.heap.size → k ≠ g → k ≠ hb → w'.heap[k]? = w.heap[k]?
theorem Kq.refl (hb g : Nat) (w : World) : Kq hb g w w := ⟨rfl, rfl, rfl, Nat.le_refl _, fun _ _ _ _ => rfl⟩
theorem Kq.trans {hb g : Nat} {a b c : World} (h1 : Kq hb g a b) (h2 : Kq hb g b c) : Kq hb g a c :=
  ⟨h2.os.trans h1.os, h2.tape.trans h1.tape, h2.output.trans h1.output, Nat.le_trans h1.size h2.size, fun k hk h3 h4 => (h2.block k (Nat.lt_of_lt_of_le hk h1.size) h3 h4).trans (h1.block k hk h3 h4)⟩
theorem Kq.of {hb g : Nat} {a b : World} (h : Kp g a b) : Kq hb g a b := ⟨h.os, h.tape, h.output, h.size, fun k hk h1 _ => h.block k hk h1⟩

set_option maxRecDepth 100000 in
set_option maxHeartbeats 1000000 in
theorem pop_m (W0 : World) (hb g cap : Nat) (L : List It) (r : It) (w : World) (hS : SG W0 hb g cap (L ++ [r]) w) (hl : L.length ≤ 100) :
    Calls Try.prog 106 #[.pointer (some ⟨hb, 0, none⟩)] w fun e w' => (∃ v, e = .returned v) ∧ SG W0 hb g cap L w' ∧ Kq hb g w w' := by
  have hbx : w.cell? ⟨hb, 0, none⟩ = some (.slice (some ⟨g, 0, none⟩) (L.length + 1) cap) := by have := bcell (j := 0) hS.box rfl; simpa using this
  have hat := hS.row.at (i := L.length) (r := r) (by simp)
  have r0 := hat.c0
  have r1 := hat.c1
  have HS : Hid (SG W0 hb g cap (L ++ [r]) w) := hS
  have hblt := (Array.getElem?_eq_some_iff.1 hS.box).1
  have hxb := bold hS.box (.cells #[.slice (some ⟨r.b, r.o, none⟩) r.l.length r.c, .int .i64 r.p] 91)
  have hA := bnew w #[.slice (some ⟨r.b, r.o, none⟩) r.l.length r.c, .int .i64 r.p] 91
  have hal : Below w.heap.size w (w.alloc (.cells #[.slice (some ⟨r.b, r.o, none⟩) r.l.length r.c, .int .i64 r.p] 91)) := (Below.refl _ _).alloc (Nat.le_refl _) _
  obtain ⟨X, hX⟩ : ∃ X, w.alloc (.cells #[.slice (some ⟨r.b, r.o, none⟩) r.l.length r.c, .int .i64 r.p] 91) = X := ⟨_, rfl⟩
  rw [hX] at hxb hA hal
  have x0 : X.cell? ⟨hb, 0, none⟩ = some (.slice (some ⟨g, 0, none⟩) (L.length + 1) cap) := by have := bcell (j := 0) hxb rfl; simpa using this
  have xf : X.frozen? ⟨hb, 0, none⟩ = false := bfree hxb 0
  have hyA := boff hA hb 0 (.slice (some ⟨g, 0, none⟩) L.length cap) (by omega)
  have hyb := bset hxb 0 (.slice (some ⟨g, 0, none⟩) L.length cap)
  obtain ⟨Y, hY⟩ : ∃ Y, X.setCell ⟨hb, 0, none⟩ (.slice (some ⟨g, 0, none⟩) L.length cap) = Y := ⟨_, rfl⟩
  rw [hY] at hyA hyb
  have y0 : Y.cell? ⟨w.heap.size, 0, none⟩ = some (.slice (some ⟨r.b, r.o, none⟩) r.l.length r.c) := bcell hyA rfl
  have y1 : Y.cell? ⟨w.heap.size, 1, none⟩ = some (.int .i64 r.p) := bcell hyA rfl
  have hkq : Kq hb g w Y := by
    refine ⟨by rw [← hY, ← hX]; rfl, by rw [← hY, ← hX]; rfl, by rw [← hY, ← hX]; rfl, by rw [← hY, ← hX]; simp, fun k hk h1 h2 => ?_⟩
    rw [← hY, Below.heap_setCell _ _ _ k h2]
    exact hal.block k hk
  have hgB := HS.out.gB
  have hgne := HS.out.ne
  have hbB := HS.out.hbB
  have hsz := HS.out.bel.size
  have hsg : SG W0 hb g cap L Y := by
    obtain ⟨cur, h1, h2, h3, h4, h5⟩ := HS.out.row
    have hgl := (Array.getElem?_eq_some_iff.1 h1).1
    refine ⟨⟨hkq.os.trans HS.out.bel.os, hkq.tape.trans HS.out.bel.tape, hkq.output.trans HS.out.bel.output, Nat.le_trans hsz hkq.size, fun k hk => (hkq.block k (by omega) (by omega) (by omega)).trans (HS.out.bel.block k hk)⟩, hbB, hgB, hgne, by simpa using hyb, ⟨cur, ?_, h2, by simp at h3; omega, h4, fun i q hq => h5 i q (by rw [List.getElem?_append_left (List.getElem?_eq_some_iff.1 hq).1]; exact hq)⟩, fun q hq => HS.out.fits q (by simp [hq])⟩
    rw [← hY, Below.heap_setCell _ _ _ g hgne]
    exact (hal.block g hgl).trans h1
  have HF : Hid (SG W0 hb g cap L Y ∧ Kq hb g w Y) := ⟨hsg, hkq⟩
  have i1 : (L.length : Int) ≤ (cap : Int) := by have := HS.out.row; obtain ⟨_, _, _, h3, _⟩ := this; simp at h3; omega
  clear hS hat hsg hkq hyA hyb hxb hA hal
  go_enter Try.func106, Try.ntmps106
  go_wp2
  go_ret
  exact ⟨⟨_, rfl⟩, HF.out⟩

set_option maxRecDepth 100000 in
set_option maxHeartbeats 1000000 in
theorem pop_run (W0 : World) (hb g cap : Nat) (L : List It) (r : It) (w : World) (hS : SG W0 hb g cap L w) (h0 : L[0]? = some r) (hl : L.length ≤ 100) (hH : hp.Heap less L L.length) :
    Calls Try.prog 75 #[.iface 89 (.pointer (some ⟨hb, 0, none⟩))] w fun e w' => (∃ v, e = .returned v) ∧ ∃ M : List It, (r :: M).Perm L ∧ hp.Heap less M M.length ∧ SG W0 hb g cap M w' ∧ Kq hb g w w' := by
  have hpos := (List.getElem?_eq_some_iff.1 h0).1
  obtain ⟨n, hn⟩ : ∃ n, L.length = n + 1 := ⟨L.length - 1, by omega⟩
  obtain ⟨q, hq⟩ : ∃ q, L[n]? = some q := ⟨_, List.getElem?_eq_getElem (by omega)⟩
  have hbx : w.cell? ⟨hb, 0, none⟩ = some (.slice (some ⟨g, 0, none⟩) L.length cap) := bcell hS.box rfl
  have hml := meth_len ⟨hb, 0, none⟩ _ w hbx
  have hms := meth_swap ⟨hb, 0, none⟩ _ w hbx
  obtain ⟨cur, c1, c2, c3, _⟩ := hS.row
  have hsw := rsw.swap_run g L.length cap 0 n cur r q w hpos (by omega) (by omega) c1 (hS.row.at h0) (hS.row.at hq)
  obtain ⟨hs1, hk1⟩ := hS.swap h0 hq
  have hD := hp.down_sw (m := n) h0 hq (by rw [← hn]; exact hH)
  have hsl : (hp.sw L 0 n).length = n + 1 := by rw [hp.sw_len, hn]
  have hlast : (hp.sw L 0 n)[n]? = some r := hp.sw_last h0 hq
  have hperm := hp.sw_perm h0 hq
  obtain ⟨X, hX⟩ : ∃ X, rsw.S2 w.drew g 0 n r q = X := ⟨_, rfl⟩
  rw [hX] at hsw hs1 hk1
  have hdn := rdn.down_run W0 hb g cap 0 n (hp.sw L 0 n) X hs1 (.inr rfl) (by omega) (by omega) hD
  have hmp := fun W => meth_pop ⟨hb, 0, none⟩ W
  have HPM : Hid (∀ (M : List It) (W : World), M.Perm (hp.sw L 0 n) → hp.Heap less M n → (∀ k, n ≤ k → M[k]? = (hp.sw L 0 n)[k]?) → SG W0 hb g cap M W → Kp g X W →
      Calls Try.prog 106 #[.pointer (some ⟨hb, 0, none⟩)] W fun e w' => (∃ v, e = .returned v) ∧ ∃ M : List It, (r :: M).Perm L ∧ hp.Heap less M M.length ∧ SG W0 hb g cap M w' ∧ Kq hb g w w') := fun M W p1 p2 p3 p4 p5 => by
    have hlM : M.length = n + 1 := by rw [p1.length_eq, hsl]
    have hMr : M[n]? = some r := by rw [p3 n (Nat.le_refl _), hlast]
    have hsplit : M = M.take n ++ [r] := by
      have h1 := List.take_append_getElem (l := M) (i := n) (by omega)
      have h2 : M[n]'(by omega) = r := (List.getElem?_eq_some_iff.1 hMr).2
      rw [h2, ← hlM, List.take_length] at h1
      exact h1.symm
    have htl : (M.take n).length = n := by rw [List.length_take]; omega
    rw [hsplit] at p4
    refine (pop_m W0 hb g cap (M.take n) r W p4 (by omega)).mono fun e w' ⟨hv, hs, hk⟩ => ⟨hv, M.take n, ?_, ?_, hs, ((Kq.of hk1).trans (Kq.of p5)).trans hk⟩
    · have h3 : (M.take n ++ [r]).Perm L := by rw [← hsplit]; exact p1.trans hperm
      exact (List.perm_append_singleton r (M.take n)).symm.trans h3
    · rw [htl]
      exact p2.take (Nat.le_refl _)
  rw [hn] at hml hms hsw hbx
  clear hS hH c1 c2 c3 hs1 hk1 hD hX hlast hperm hq h0
  go_enter Try.func75, Try.ntmps75
  go_wp2_with (first | (go_at_call 62; refine (len_run _ _ _ _).mono ?_; rintro e w0 ⟨rfl, hw0⟩; rw [← hw0]; clear hw0 w0) | (go_at_call 102; refine hsw.mono ?_; rintro e w1 ⟨rfl, rfl⟩) | (go_at_call 81; fail))
  refine hdn.mono ?_
  rintro e w2 ⟨⟨bb, rfl⟩, M, p1, p2, p3, p4, p5⟩
  have hpm := HPM.out M w2 p1 p2 p3 p4 p5
  clear hdn HPM p1 p2 p3 p4 p5 hsw hml hms
  go_wp2_with (go_at_call 106; fail)
  refine hpm.mono ?_
  rintro e w3 ⟨⟨v, rfl⟩, hM⟩
  have HM : Hid (∃ M : List It, (r :: M).Perm L ∧ hp.Heap less M M.length ∧ SG W0 hb g cap M w3 ∧ Kq hb g w w3) := hM
  clear hpm hM
  go_wp2
  go_ret
  exact ⟨⟨_, rfl⟩, HM.out⟩
end Go.Proofs.Ytokaoafbgebelaa.rpo

/- The first pair of all runs, taken out of their heap. -/
namespace Go.Proofs.Ytokaoafbgebelaa.rfi
open Go.ChangeShapes Go.WideShapes Go.ChangeAt Go.RowKit Go.Proofs.Ytokaoafbgebelaa.fl Go.Proofs.Ytokaoafbgebelaa.ri Go.Proofs.Ytokaoafbgebelaa.rst Go.Proofs.Ytokaoafbgebelaa.rpu Go.Proofs.Ytokaoafbgebelaa.rpo
set_option linter.unusedVariables false

/-- what is left of a run behind its first pair -/
def nx (r : It) : List It := match r.l with
  | _ :: x :: t => [⟨r.b, r.o + 3, r.c - 1, x :: t, r.p⟩]
  | _ => []
set_option maxRecDepth 100000 in
set_option maxHeartbeats 1000000 in
theorem first_one (W0 : World) (hb g cap : Nat) (L : List It) (r : It) (e : flP.Pr) (w : World) (hS : SG W0 hb g cap L w) (h0 : L[0]? = some r) (hr : r.l = [e]) (hl : L.length ≤ 100) (hH : hp.Heap less L L.length) :
    Calls Try.prog 63 #[.pointer (some ⟨hb, 0, none⟩)] w fun x w' => x = .returned (.agg #[.string e.k, .string e.v, .bool e.g]) ∧ ∃ M : List It, (r :: M).Perm L ∧ hp.Heap less M M.length ∧ SG W0 hb g cap M w' ∧ Kq hb g w w' := by
  have hal : Below w.heap.size w (w.alloc (.cells #[.string ⟨#[]⟩, .string ⟨#[]⟩, .bool false] 40)) := (Below.refl _ _).alloc (Nat.le_refl _) _
  have hbn := bnew w #[.string ⟨#[]⟩, .string ⟨#[]⟩, .bool false] 40
  obtain ⟨X, hX⟩ : ∃ X, w.alloc (.cells #[.string ⟨#[]⟩, .string ⟨#[]⟩, .bool false] 40) = X := ⟨_, rfl⟩
  rw [hX] at hal hbn
  have hSX := hS.on hal
  have hbl := (Array.getElem?_eq_some_iff.1 hS.box).1
  obtain ⟨hgc, hgl⟩ : ∃ o, w.heap[g]? = some o := by obtain ⟨cur, h1, _⟩ := hS.row; exact ⟨_, h1⟩
  have hgl2 := (Array.getElem?_eq_some_iff.1 hgl).1
  have HBN : Hid (X.heap[w.heap.size]? = some (.cells #[.string ⟨#[]⟩, .string ⟨#[]⟩, .bool false] 40 (0, 0))) := hbn
  have hXl := (Array.getElem?_eq_some_iff.1 hbn).1
  have hbx : X.cell? ⟨hb, 0, none⟩ = some (.slice (some ⟨g, 0, none⟩) L.length cap) := bcell hSX.box rfl
  have hat := hSX.row.at h0
  have hpos := (List.getElem?_eq_some_iff.1 h0).1
  have i1 : (0 : Int) < (L.length : Int) := by omega
  have HF : Hid (Fits W0 W0.heap.size r) := hS.fits r (List.mem_of_getElem? h0)
  have hrl : r.l[0]? = some e := by rw [hr]; rfl
  have r0 : X.cell? ⟨g, 0, none⟩ = some (.slice (some ⟨r.b, r.o, none⟩) 1 r.c) := by have := hat.c0; rw [hr] at this; simpa using this
  have hpop := pop_run W0 hb g cap L r X hSX h0 hl hH
  have hS0 := hS.bel.size
  clear hS hSX h0 hH hat hbn hgl
  go_enter Try.func63, Try.ntmps63
  go_wp2_with (go_at_call 75; fail)
  clear hX
  refine hpop.mono ?_
  rintro x w1 ⟨⟨v, rfl⟩, M, p1, p2, p3, p4⟩
  have hF1 := HF.out.below p3.bel
  have d0 : w1.cell? ⟨r.b, r.o, none⟩ = some (.string e.k) := by simpa using hF1.cells 0 e hrl 0 _ rfl
  have d1 : w1.cell? ⟨r.b, r.o + 1, none⟩ = some (.string e.v) := by simpa using hF1.cells 0 e hrl 1 _ rfl
  have d2 : w1.cell? ⟨r.b, r.o + 2, none⟩ = some (.bool e.g) := by simpa using hF1.cells 0 e hrl 2 _ rfl
  have hb1 : w1.heap[w.heap.size]? = some (.cells #[.string ⟨#[]⟩, .string ⟨#[]⟩, .bool false] 40 (0, 0)) := (p4.block w.heap.size hXl (by omega) (by omega)).trans HBN.out
  have b0 : w1.cell? ⟨w.heap.size, 0, none⟩ = some (.string ⟨#[]⟩) := bcell hb1 rfl
  have b1 : w1.cell? ⟨w.heap.size, 1, none⟩ = some (.string ⟨#[]⟩) := bcell hb1 rfl
  have b2 : w1.cell? ⟨w.heap.size, 2, none⟩ = some (.bool false) := bcell hb1 rfl
  have bf : ∀ k, w1.frozen? ⟨w.heap.size, k, none⟩ = false := fun k => bfree hb1 k
  have bf0 := bf 0
  have bf1 := bf 1
  have bf2 := bf 2
  have hYb := bset (bset (bset hb1 0 (.string e.k)) 1 (.string e.v)) 2 (.bool e.g)
  obtain ⟨Y, hY⟩ : ∃ Y, ((w1.setCell ⟨w.heap.size, 0, none⟩ (.string e.k)).setCell ⟨w.heap.size, 1, none⟩ (.string e.v)).setCell ⟨w.heap.size, 2, none⟩ (.bool e.g) = Y := ⟨_, rfl⟩
  have hw1s : w.heap.size < w1.heap.size := (Array.getElem?_eq_some_iff.1 hb1).1
  have hYo : ∀ k, k ≠ w.heap.size → Y.heap[k]? = w1.heap[k]? := fun k hk => by rw [← hY, Below.heap_setCell _ _ _ k hk, Below.heap_setCell _ _ _ k hk, Below.heap_setCell _ _ _ k hk]
  have hYs : Y.heap.size = w1.heap.size := by rw [← hY]; simp
  rw [hY] at hYb
  have y0 : Y.cell? ⟨w.heap.size, 0, none⟩ = some (.string e.k) := bcell hYb rfl
  have y1 : Y.cell? ⟨w.heap.size, 1, none⟩ = some (.string e.v) := bcell hYb rfl
  have y2 : Y.cell? ⟨w.heap.size, 2, none⟩ = some (.bool e.g) := bcell hYb rfl
  have hsz := p3.bel.size
  have hSY : SG W0 hb g cap M Y := by
    obtain ⟨cur, c1, c2⟩ := p3.row
    refine ⟨⟨by rw [← hY]; exact p3.bel.os, by rw [← hY]; exact p3.bel.tape, by rw [← hY]; exact p3.bel.output, by omega, fun k hk => (hYo k (by have := hS0; omega)).trans (p3.bel.block k hk)⟩, p3.hbB, p3.gB, p3.ne, (hYo hb (by omega)).trans p3.box, ⟨cur, (hYo g (by omega)).trans c1, c2⟩, p3.fits⟩
  have hKY : Kq hb g w Y := ⟨by rw [← hY]; exact p4.os.trans hal.os, by rw [← hY]; exact p4.tape.trans hal.tape, by rw [← hY]; exact p4.output.trans hal.output, by omega, fun k hk h1 h2 => ((hYo k (by omega)).trans (p4.block k (by omega) h1 h2)).trans (hal.block k hk)⟩
  have HM : Hid (∃ M : List It, (r :: M).Perm L ∧ hp.Heap less M M.length ∧ SG W0 hb g cap M Y ∧ Kq hb g w Y) := ⟨M, p1, p2, hSY, hKY⟩
  clear hpop p1 p2 p3 p4 hF1 hbx r0 hSY hKY hYo hYs hYb hb1 bf HBN
  go_wp2
  exact bodyPost_ret (v := .agg #[.string e.k, .string e.v, .bool e.g]) (by simp [results, Try.results63, go_sem, y0, y1, y2]) rfl ⟨rfl, HM.out⟩

def ws (hb g n cap : Nat) (r : It) (m : Nat) : List (Nat × Value) :=
  [(16, .pointer (some ⟨hb, 0, none⟩)), (17, .pointer (some ⟨hb, 0, none⟩)), (18, .slice (some ⟨g, 0, none⟩) n cap), (19, .slice (some ⟨r.b, r.o, none⟩) (m + 2) r.c), (20, .slice (some ⟨r.b, r.o + 3, none⟩) (m + 1) (r.c - 1)), (21, .pointer (some ⟨g, 0, none⟩)), (22, .pointer (some ⟨g, 0, none⟩))]
def D (X Y : World) (b : Bool) (W : World) : Prop := W = if b = true then Y else X
theorem D.at {X Y W : World} {b : Bool} (h : D X Y b W) {a : Addr} {v : Value} (hx : X.cell? a = some v) (hy : Y.cell? a = some v) : W.cell? a = some v := by
  unfold D at h
  subst h
  split <;> assumption

set_option maxRecDepth 100000 in
set_option maxHeartbeats 1000000 in
theorem first_more (W0 : World) (hb g cap : Nat) (L : List It) (r : It) (e f : flP.Pr) (t : List flP.Pr) (w : World) (hS : SG W0 hb g cap L w) (h0 : L[0]? = some r) (hr : r.l = e :: f :: t) (hl : L.length ≤ 100) (hc : r.l.length ≤ r.c) (hH : hp.Heap less L L.length) :
    Calls Try.prog 63 #[.pointer (some ⟨hb, 0, none⟩)] w fun x w' => x = .returned (.agg #[.string e.k, .string e.v, .bool e.g]) ∧ ∃ M : List It, M.Perm (L.set 0 ⟨r.b, r.o + 3, r.c - 1, f :: t, r.p⟩) ∧ hp.Heap less M M.length ∧ SG W0 hb g cap M w' ∧ Kq hb g w w' := by
  have hal : Below w.heap.size w (w.alloc (.cells #[.string ⟨#[]⟩, .string ⟨#[]⟩, .bool false] 40)) := (Below.refl _ _).alloc (Nat.le_refl _) _
  have hbn := bnew w #[.string ⟨#[]⟩, .string ⟨#[]⟩, .bool false] 40
  obtain ⟨X, hX⟩ : ∃ X, w.alloc (.cells #[.string ⟨#[]⟩, .string ⟨#[]⟩, .bool false] 40) = X := ⟨_, rfl⟩
  rw [hX] at hal hbn
  have hSX := hS.on hal
  have hbl := (Array.getElem?_eq_some_iff.1 hS.box).1
  obtain ⟨hgc, hgl⟩ : ∃ o, w.heap[g]? = some o := by obtain ⟨cur, h1, _⟩ := hS.row; exact ⟨_, h1⟩
  have hgl2 := (Array.getElem?_eq_some_iff.1 hgl).1
  have HBN : Hid (X.heap[w.heap.size]? = some (.cells #[.string ⟨#[]⟩, .string ⟨#[]⟩, .bool false] 40 (0, 0))) := hbn
  have hXl := (Array.getElem?_eq_some_iff.1 hbn).1
  have hbx : X.cell? ⟨hb, 0, none⟩ = some (.slice (some ⟨g, 0, none⟩) L.length cap) := bcell hSX.box rfl
  have hat := hSX.row.at h0
  have hpos := (List.getElem?_eq_some_iff.1 h0).1
  have i1 : (0 : Int) < (L.length : Int) := by omega
  have HF : Hid (Fits W0 W0.heap.size r) := hS.fits r (List.mem_of_getElem? h0)
  have hrl : r.l[0]? = some e := by rw [hr]; rfl
  have hlen : r.l.length = t.length + 2 := by rw [hr]; rfl
  have r0 : X.cell? ⟨g, 0, none⟩ = some (.slice (some ⟨r.b, r.o, none⟩) (t.length + 2) r.c) := by have := hat.c0; rw [hlen] at this; simpa using this
  have hS0 := hS.bel.size
  obtain ⟨cur, c1, c2, c3, c4, c5⟩ := hSX.row
  have hne := hSX.ne
  have hgB := hSX.gB
  have hbB := hSX.hbB
  -- the world behind the store
  have hZb := bset (show X.drew.heap[g]? = some (.cells cur 91 (0, 0)) from c1) 0 (.slice (some ⟨r.b, r.o + 3, none⟩) (t.length + 1) (r.c - 1))
  obtain ⟨V, hV⟩ : ∃ V, X.drew = V := ⟨_, rfl⟩
  have v0 : V.cell? ⟨g, 0, none⟩ = some (.slice (some ⟨r.b, r.o, none⟩) (t.length + 2) r.c) := by rw [← hV]; exact r0
  have vf : V.frozen? ⟨g, 0, none⟩ = false := by rw [← hV]; exact bfree (show X.drew.heap[g]? = _ from c1) 0
  have vb : V.cell? ⟨hb, 0, none⟩ = some (.slice (some ⟨g, 0, none⟩) L.length cap) := by rw [← hV]; exact hbx
  rw [hV] at hZb
  obtain ⟨Z, hZ⟩ : ∃ Z, V.setCell ⟨g, 0, none⟩ (.slice (some ⟨r.b, r.o + 3, none⟩) (t.length + 1) (r.c - 1)) = Z := ⟨_, rfl⟩
  have hZo : ∀ k, k ≠ g → Z.heap[k]? = X.heap[k]? := fun k hk => by rw [← hZ, Below.heap_setCell _ _ _ k hk, ← hV]; rfl
  have hZs : Z.heap.size = X.heap.size := by rw [← hZ, ← hV]; simp
  have hKZ : Kq hb g X Z := ⟨by rw [← hZ, ← hV]; rfl, by rw [← hZ, ← hV]; rfl, by rw [← hZ, ← hV]; rfl, by omega, fun k _ h1 _ => hZo k h1⟩
  rw [hZ] at hZb
  have hzl : g < X.heap.size := (Array.getElem?_eq_some_iff.1 c1).1
  have zb : Z.cell? ⟨hb, 0, none⟩ = some (.slice (some ⟨g, 0, none⟩) L.length cap) := by
    have := (hZo hb (Ne.symm hne)).trans hSX.box
    exact bcell this rfl
  have hfr := hS.fits r (List.mem_of_getElem? h0)
  have hSZ : SG W0 hb g cap (L.set 0 ⟨r.b, r.o + 3, r.c - 1, f :: t, r.p⟩) Z := by
    have hXs := hSX.bel.size
    refine ⟨⟨hKZ.os.trans hSX.bel.os, hKZ.tape.trans hSX.bel.tape, hKZ.output.trans hSX.bel.output, by omega, fun k hk => (hZo k (by omega)).trans (hSX.bel.block k hk)⟩, hbB, hgB, hne, by rw [List.length_set]; exact (hZo hb (Ne.symm hne)).trans hSX.box, ⟨_, hZb, by simpa using c2, by rw [List.length_set]; exact c3, c4, fun i q hq j v hv => ?_⟩, fun q hq => ?_⟩
    · have hj : j < 2 := by have := (List.getElem?_eq_some_iff.1 hv).1; rwa [cI_len] at this
      rw [List.getElem?_set] at hq
      rw [Array.getElem?_setIfInBounds]
      by_cases ei : 0 = i
      · subst ei
        rw [if_pos rfl, if_pos hpos] at hq
        cases hq
        have : j = 0 ∨ j = 1 := by omega
        rcases this with rfl | rfl
        · rw [if_pos (by omega), if_pos (by omega)]
          simpa [cI] using hv
        · rw [if_neg (by omega)]
          exact c5 0 r h0 1 v hv
      · rw [if_neg ei] at hq
        rw [if_neg (by omega)]
        exact c5 i q hq j v hv
    · rcases List.mem_or_eq_of_mem_set hq with h | rfl
      · exact hS.fits q h
      · exact ⟨hfr.lt, by simp, by have := hfr.len; rw [hlen] at this; simp; omega, hfr.pl, fun i y hy j v hv => by
          have := hfr.cells (i + 1) y (by rw [hr]; simpa using hy) j v hv
          have e2 : r.o + (i + 1) * 3 + j = (r.o + 3) + i * 3 + j := by omega
          rw [e2] at this
          exact this⟩
  have hfix := fun W (h : Z = W) => fix_run W0 hb g cap (L.set 0 ⟨r.b, r.o + 3, r.c - 1, f :: t, r.p⟩) Z hSZ (by simpa using hpos) (by simpa using hl) (by rw [List.length_set]; exact hp.down_set hH)
  have hfixZ := hfix Z rfl
  have hcc : t.length + 2 ≤ r.c := by omega
  have hL0 : L ≠ [] := by rintro rfl; simp at hpos
  clear hfix hS hSX h0 hH hat hbn hgl hSZ c1 c2 c3 c4 c5 hfr hZb hlen hr hc
  go_enter Try.func63, Try.ntmps63
  go_wp2
  clear hX
  refine dk.region_sets (ws hb g L.length cap r t.length) [16, 17, 18, 19, 20, 21, 22] (dk.Cl (D V Z) 7) (by kernel_rfl) (by kernel_rfl) rfl (by kernel_rfl) (by show D V Z false X.drew; exact hV) ?each ?fin
  case each =>
    refine ⟨dk.q (by decide) (.pointer (some ⟨hb, 0, none⟩)) (by rintro _ ⟨⟩; exact dk.sets_on _ (by simp) _ rfl) (fun b W h => by simp [execOp, go_sem, Act.eval, dk.sets_get, ws, List.lookup]), ?_⟩
    refine ⟨dk.q (by decide) (.pointer (some ⟨hb, 0, none⟩)) (by rintro _ ⟨⟩; exact dk.sets_on _ (by simp) _ rfl) (fun b W h => by simp [execOp, go_sem, Act.eval, dk.sets_get, ws, List.lookup]), ?_⟩
    refine ⟨dk.q (by decide) (.slice (some ⟨g, 0, none⟩) L.length cap) (by rintro _ ⟨⟩; exact dk.sets_on _ (by simp) _ rfl) (fun b W h => by have c := D.at h vb zb; simp [execOp, go_sem, Act.eval, dk.sets_get, ws, List.lookup, c]), ?_⟩
    refine ⟨dk.q (by decide) (.slice (some ⟨r.b, r.o, none⟩) (t.length + 2) r.c) (by rintro _ ⟨⟩; exact dk.sets_on _ (by simp) _ rfl) (fun b W h => by simp [execOp, go_sem, Act.eval, dk.sets_get, ws, List.lookup]), ?_⟩
    refine ⟨dk.q (by decide) (.slice (some ⟨r.b, r.o + 3, none⟩) (t.length + 1) (r.c - 1)) (by rintro _ ⟨⟩; exact dk.sets_on _ (by simp) _ rfl) (fun b W h => by simp [execOp, go_sem, Act.eval, dk.sets_get, ws, List.lookup]; rw [if_pos (by omega), if_neg (by omega)]), ?_⟩
    refine ⟨dk.q (by decide) (.pointer (some ⟨g, 0, none⟩)) (by rintro _ ⟨⟩; exact dk.sets_on _ (by simp) _ rfl) (fun b W h => by simp [execOp, go_sem, Act.eval, dk.sets_get, ws, List.lookup, hL0]), ?_⟩
    refine ⟨dk.q (by decide) (.pointer (some ⟨g, 0, none⟩)) (by rintro _ ⟨⟩; exact dk.sets_on _ (by simp) _ rfl) (fun b W h => by simp [execOp, go_sem, Act.eval, dk.sets_get, ws, List.lookup]), ?_⟩
    exact ⟨dk.last rfl (fun W h => ⟨Z, by have h : W = V := h; subst h; rw [← hZ]; simp [execOp, go_sem, Act.eval, dk.sets_get, ws, List.lookup, v0, vf], rfl⟩), trivial⟩
  case fin =>
    intro K W hK hC
    have hC' : W = Z := by
      have h : D V Z (K 7) W := hC
      rw [hK 7 (by decide)] at h
      exact h
    subst hC'
    clear hC hK
    simp only [dk.sets, ws]
    go_wp2_with (go_at_call 76; fail)
    refine hfixZ.mono ?_
    rintro x w1 ⟨rfl, M, p1, p2, p3, p4'⟩
    have p4 := hKZ.trans (Kq.of (hb := hb) p4')
    have hF1 := HF.out.below p3.bel
    have d0 : w1.cell? ⟨r.b, r.o, none⟩ = some (.string e.k) := by simpa using hF1.cells 0 e hrl 0 _ rfl
    have d1 : w1.cell? ⟨r.b, r.o + 1, none⟩ = some (.string e.v) := by simpa using hF1.cells 0 e hrl 1 _ rfl
    have d2 : w1.cell? ⟨r.b, r.o + 2, none⟩ = some (.bool e.g) := by simpa using hF1.cells 0 e hrl 2 _ rfl
    have hb1 : w1.heap[w.heap.size]? = some (.cells #[.string ⟨#[]⟩, .string ⟨#[]⟩, .bool false] 40 (0, 0)) := (p4.block w.heap.size hXl (by omega) (by omega)).trans HBN.out
    have b0 : w1.cell? ⟨w.heap.size, 0, none⟩ = some (.string ⟨#[]⟩) := bcell hb1 rfl
    have b1 : w1.cell? ⟨w.heap.size, 1, none⟩ = some (.string ⟨#[]⟩) := bcell hb1 rfl
    have b2 : w1.cell? ⟨w.heap.size, 2, none⟩ = some (.bool false) := bcell hb1 rfl
    have bf : ∀ k, w1.frozen? ⟨w.heap.size, k, none⟩ = false := fun k => bfree hb1 k
    have bf0 := bf 0
    have bf1 := bf 1
    have bf2 := bf 2
    have hYb := bset (bset (bset hb1 0 (.string e.k)) 1 (.string e.v)) 2 (.bool e.g)
    obtain ⟨Y, hY⟩ : ∃ Y, ((w1.setCell ⟨w.heap.size, 0, none⟩ (.string e.k)).setCell ⟨w.heap.size, 1, none⟩ (.string e.v)).setCell ⟨w.heap.size, 2, none⟩ (.bool e.g) = Y := ⟨_, rfl⟩
    have hw1s : w.heap.size < w1.heap.size := (Array.getElem?_eq_some_iff.1 hb1).1
    have hYo : ∀ k, k ≠ w.heap.size → Y.heap[k]? = w1.heap[k]? := fun k hk => by rw [← hY, Below.heap_setCell _ _ _ k hk, Below.heap_setCell _ _ _ k hk, Below.heap_setCell _ _ _ k hk]
    have hYs : Y.heap.size = w1.heap.size := by rw [← hY]; simp
    rw [hY] at hYb
    have y0 : Y.cell? ⟨w.heap.size, 0, none⟩ = some (.string e.k) := bcell hYb rfl
    have y1 : Y.cell? ⟨w.heap.size, 1, none⟩ = some (.string e.v) := bcell hYb rfl
    have y2 : Y.cell? ⟨w.heap.size, 2, none⟩ = some (.bool e.g) := bcell hYb rfl
    have hsz := p3.bel.size
    have hSY : SG W0 hb g cap M Y := by
      obtain ⟨cur, c1, c2⟩ := p3.row
      refine ⟨⟨by rw [← hY]; exact p3.bel.os, by rw [← hY]; exact p3.bel.tape, by rw [← hY]; exact p3.bel.output, by omega, fun k hk => (hYo k (by have := hS0; omega)).trans (p3.bel.block k hk)⟩, p3.hbB, p3.gB, p3.ne, (hYo hb (by omega)).trans p3.box, ⟨cur, (hYo g (by omega)).trans c1, c2⟩, p3.fits⟩
    have hKY : Kq hb g w Y := ⟨by rw [← hY]; exact p4.os.trans hal.os, by rw [← hY]; exact p4.tape.trans hal.tape, by rw [← hY]; exact p4.output.trans hal.output, by omega, fun k hk h1 h2 => ((hYo k (by omega)).trans (p4.block k (by omega) h1 h2)).trans (hal.block k hk)⟩
    have HM : Hid (∃ M : List It, M.Perm (L.set 0 ⟨r.b, r.o + 3, r.c - 1, f :: t, r.p⟩) ∧ hp.Heap less M M.length ∧ SG W0 hb g cap M Y ∧ Kq hb g w Y) := ⟨M, p1, p2, hSY, hKY⟩
    clear hfixZ p1 p2 p3 p4 p4' hF1 hbx r0 hSY hKY hYo hYs hYb hb1 bf HBN hKZ hZo hZs zb vb v0 vf
    go_wp2
    exact bodyPost_ret (v := .agg #[.string e.k, .string e.v, .bool e.g]) (by simp [results, Try.results63, go_sem, y0, y1, y2]) rfl ⟨rfl, HM.out⟩
end Go.Proofs.Ytokaoafbgebelaa.rfi
