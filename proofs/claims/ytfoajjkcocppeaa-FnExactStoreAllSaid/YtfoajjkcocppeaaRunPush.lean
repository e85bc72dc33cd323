/- heap.Push over the runs: one more run in the heap. -/
import Derived.Test.YtfoajjkcocppeaaRunDown
import Derived.Test.YtfoajjkcocppeaaPtrApp
namespace Go.Proofs.Ytfoajjkcocppeaa.rpu
open Go.ChangeShapes Go.WideShapes Go.ChangeAt Go.RowKit Go.Proofs.Ytfoajjkcocppeaa.fl Go.Proofs.Ytfoajjkcocppeaa.ri Go.Proofs.Ytfoajjkcocppeaa.rst
set_option linter.unusedVariables false

/-- a heap's box and its row, or no row yet -/
structure SN (W0 : World) (hb : Nat) (L : List It) (w : World) : Prop where
  bel : Below W0.heap.size W0 w
  hbB : W0.heap.size ≤ hb
  box : ∃ v, w.heap[hb]? = some (.cells #[v] 99 (0, 0)) ∧ w.ownsRow W0.heap.size 103 2 v L.length (L.flatMap cI) ∧ v.ownBlock ≠ some hb
  fits : ∀ r ∈ L, Fits W0 W0.heap.size r
theorem take_eq {cur : Array Value} {L : List It} (h : ∀ (i : Nat) (r : It), L[i]? = some r → ∀ (j : Nat) (v : Value), (cI r)[j]? = some v → cur[i * 2 + j]? = some v) (hs : L.length * 2 ≤ cur.size) : cur.toList.take (L.length * 2) = L.flatMap cI := by
  apply List.ext_getElem?
  intro j
  by_cases hj : j < L.length * 2
  · rw [List.getElem?_take_of_lt hj]
    have hj2 : j < (L.flatMap cI).length := by rw [flat_len cI_len]; exact hj
    obtain ⟨u, hu⟩ : ∃ u, (L.flatMap cI)[j]? = some u := ⟨_, List.getElem?_eq_getElem hj2⟩
    obtain ⟨i, e, r, k1, k2, k3⟩ := flat_get cI_len L j _ hu
    rw [hu]
    subst k3
    have := h i e k1 r _ k2
    simpa using this
  · rw [List.getElem?_eq_none (by rw [List.length_take]; omega), List.getElem?_eq_none (by rw [flat_len cI_len]; omega)]
theorem SN.of {W0 : World} {hb g cap : Nat} {L : List It} {w : World} (h : SG W0 hb g cap L w) : SN W0 hb L w := by
  obtain ⟨cur, h1, h2, h3, h4, h5⟩ := h.row
  refine ⟨h.bel, h.hbB, ⟨_, h.box, ⟨flat_len cI_len L, .inr ⟨g, cap, cur, rfl, h.gB, h1, h3, h4, h2, take_eq h5 (by omega)⟩⟩, ?_⟩, h.fits⟩
  intro e
  exact h.ne (Option.some.inj e)
/-- its row, where there is one -/
theorem SN.sg {W0 : World} {hb : Nat} {L : List It} {w : World} (h : SN W0 hb L w) (h0 : L ≠ []) : ∃ g cap, SG W0 hb g cap L w := by
  obtain ⟨v, hv, ⟨_, ⟨rfl, hn⟩ | ⟨g, cap, cur, rfl, h1, h2, h3, h4, h5, h6⟩⟩, hne⟩ := h.box
  · exact absurd (List.eq_nil_of_length_eq_zero hn) h0
  · refine ⟨g, cap, h.bel, h.hbB, h1, fun e => hne (by rw [e]; rfl), hv, ⟨cur, h2, h5, h3, h4, fun i r hr j v hv => ?_⟩, h.fits⟩
    have hf := flat_at cI_len L i r hr j v hv
    rw [← h6] at hf
    have hlt := (List.getElem?_eq_some_iff.1 hf).1
    rw [List.length_take] at hlt
    rw [List.getElem?_take_of_lt (by omega)] at hf
    simpa using hf
theorem infoR : (Try.prog.info? 103).map (fun i => (i.zero, i.size, i.bytes)) = some (some (.agg #[.slice none 0 0, .int .i64 0]), 2, 32) := by kernel_rfl

def J0 : pap.J := ⟨3, 4, 5, 6, 8⟩
theorem J0_ok : J0.ok := by unfold pap.J.ok J0; decide
def ws (hb n : Nat) (v : Value) (r : It) (g : pap.G) : List (Nat × Value) :=
  [(12, .pointer (some ⟨hb, 0, none⟩)), (13, .pointer (some ⟨hb, 0, none⟩)), (14, .pointer (some ⟨hb, 0, none⟩)), (15, v), (16, .agg #[.slice (some ⟨r.b, r.o, none⟩) r.l.length r.c, .int .i64 r.p]), (17, .slice (some ⟨g.h, 0, none⟩) 1 1), (18, g.v1), (19, .pointer (some ⟨hb, 0, none⟩))]

set_option maxRecDepth 100000 in
set_option maxHeartbeats 1000000 in
theorem push_m (W0 : World) (hb : Nat) (L : List It) (r : It) (w : World) (hS : SN W0 hb L w) (hr : Fits W0 W0.heap.size r) (hl : L.length ≤ 50) :
    Calls Try.prog 116 #[.pointer (some ⟨hb, 0, none⟩), .iface 103 (.agg #[.slice (some ⟨r.b, r.o, none⟩) r.l.length r.c, .int .i64 r.p])] w fun e w' => e = .returned (.tuple #[]) ∧ SN W0 hb (L ++ [r]) w' := by
  obtain ⟨i0, hi, hz0, hz1, hz2⟩ := info_parts infoR
  obtain ⟨v, hv, hown, hne⟩ := hS.box
  have hlt := (Array.getElem?_eq_some_iff.1 hv).1
  have hsz := hS.bel.size
  have c0 : w.cell? ⟨hb, 0, none⟩ = some v := bcell hv rfl
  have HV : Hid (w.heap[hb]? = some (.cells #[v] 99 (0, 0))) := hv
  have HS : Hid (SN W0 hb L w) := hS
  have HRF : Hid (Fits W0 W0.heap.size r) := hr
  have hta : ∀ W : World, (Instr.typeAssert (.iface 103 (.agg #[.slice (some ⟨r.b, r.o, none⟩) r.l.length r.c, .int .i64 r.p])) 20 103 true).run Try.prog W = .ok (.tuple #[.agg #[.slice (some ⟨r.b, r.o, none⟩) r.l.length r.c, .int .i64 r.p], .bool true]) W := fun W => by kernel_rfl
  have hal : Below w.heap.size w (w.alloc (.cells #[.slice (some ⟨r.b, r.o, none⟩) r.l.length r.c, .int .i64 r.p] 103)) := (Below.refl _ _).alloc (Nat.le_refl _) _
  have hA := bnew w #[.slice (some ⟨r.b, r.o, none⟩) r.l.length r.c, .int .i64 r.p] 103
  obtain ⟨X, hX⟩ : ∃ X, w.alloc (.cells #[.slice (some ⟨r.b, r.o, none⟩) r.l.length r.c, .int .i64 r.p] 103) = X := ⟨_, rfl⟩
  rw [hX] at hal hA
  have hXl := (Array.getElem?_eq_some_iff.1 hA).1
  have HA : Hid (X.heap[w.heap.size]? = some (.cells #[.slice (some ⟨r.b, r.o, none⟩) r.l.length r.c, .int .i64 r.p] 103 (0, 0))) := hA
  have O : pap.Ok ⟨X, W0.heap.size, hb, 99, 103, 2, v, L.length, L.flatMap cI, cI r⟩ := ⟨Nat.le_trans hsz hal.size, hS.hbB, bstay hv hal hlt, hown.kept (row := none) ⟨hal.os, hal.tape, hal.output, hal.size, fun i hi _ => hal.block i hi⟩ (by
    cases hv : v.ownBlock with
    | none => exact .inl rfl
    | some g => right; simp), hne⟩
  have HO : Hid (pap.Ok ⟨X, W0.heap.size, hb, 99, 103, 2, v, L.length, L.flatMap cI, cI r⟩) := O
  clear hv hS hr hA O hown hne
  go_enter Try.func116, Try.ntmps116
  go_wp2
  clear hX
  refine dk.region_gsets (ws hb w.heap.size v r) [12, 13, 14, 15, 16, 17, 18, 19] (pap.C ⟨X, W0.heap.size, hb, 99, 103, 2, v, L.length, L.flatMap cI, cI r⟩ J0) ⟨0, .slice none 0 0⟩ (by kernel_rfl) (by kernel_rfl) (fun _ => rfl) (by kernel_rfl) (pap.start HO.out _ _) ?each ?fin
  case each =>
    refine ⟨pap.quiet (by decide) (by simp) (.pointer (some ⟨hb, 0, none⟩)) (by rintro s _ ⟨⟩; exact dk.sets_on _ (by simp) _ rfl) (fun s W => by simp [execOp, go_sem, Act.eval, dk.sets_get, ws, List.lookup]), ?_⟩
    refine ⟨pap.quiet (by decide) (by simp) (.pointer (some ⟨hb, 0, none⟩)) (by rintro s _ ⟨⟩; exact dk.sets_on _ (by simp) _ rfl) (fun s W => by simp [execOp, go_sem, Act.eval, dk.sets_get, ws, List.lookup]), ?_⟩
    refine ⟨pap.quiet (by decide) (by simp) (.pointer (some ⟨hb, 0, none⟩)) (by rintro s _ ⟨⟩; exact dk.sets_on _ (by simp) _ rfl) (fun s W => by simp [execOp, go_sem, Act.eval, dk.sets_get, ws, List.lookup]), ?_⟩
    refine ⟨pap.sl (x := J0) (d := 15) J0_ok (by simp) rfl (fun s => dk.sets_on _ (by simp) _ rfl) (fun s W h => by have c : W.cell? ⟨hb, 0, none⟩ = some v := bcell h rfl; simp [execOp, go_sem, Act.eval, dk.sets_get, ws, List.lookup, c]), ?_⟩
    refine ⟨pap.sm (x := J0) (d := 16) J0_ok (.agg #[.slice (some ⟨r.b, r.o, none⟩) r.l.length r.c, .int .i64 r.p]) (by simp) rfl (fun s => dk.sets_on _ (by simp) _ rfl) (fun s W h => by have hh := bstay HA.out h hXl; have d0 : W.cell? ⟨w.heap.size, 0, none⟩ = some (.slice (some ⟨r.b, r.o, none⟩) r.l.length r.c) := bcell hh rfl; have d1 : W.cell? ⟨w.heap.size, 1, none⟩ = some (.int .i64 r.p) := bcell hh rfl; simp [execOp, go_sem, Act.eval, dk.sets_get, ws, List.lookup, d0, d1]), ?_⟩
    refine ⟨pap.sb (x := J0) (d := 17) (idx := 5) HO.out J0_ok (by simp) rfl (by simp) (fun g => rfl) (fun g => rfl) (fun g e => rfl) (fun s W => by simp [execOp, go_sem, Act.eval, dk.sets_get, ws, List.lookup, cI]) ⟨⟨4, .data⟩, by simp, rfl, rfl⟩, ?_⟩
    refine ⟨pap.sa (x := J0) (d := 18) (s1 := 15) (s2 := 17) (idx := 6) HO.out J0_ok Try.underlying99 hi hz0 hz1 hz2 rfl (by show 0 < 2; decide) rfl rfl ⟨by simp, by simp, by simp⟩ (fun g => rfl) (fun g => rfl) (fun g => rfl) (fun g => rfl) (fun g v => rfl) rfl (by intro u hu; simp [cI] at hu; rcases hu with rfl | rfl <;> rfl) (by show L.length ≤ 1048576; omega) (by show (L.length + 1) * 32 ≤ 140737488355328; omega) ⟨⟨3, .data⟩, by simp, rfl, rfl⟩ ⟨⟨5, .data⟩, by simp, rfl, rfl⟩, ?_⟩
    refine ⟨pap.quiet (by decide) (by simp) (.pointer (some ⟨hb, 0, none⟩)) (by rintro s _ ⟨⟩; exact dk.sets_on _ (by simp) _ rfl) (fun s W => by simp [execOp, go_sem, Act.eval, dk.sets_get, ws, List.lookup]), ?_⟩
    exact ⟨pap.ss (x := J0) HO.out J0_ok rfl (by simp) (fun s W a m c' hv1 h => by have c : W.cell? ⟨hb, 0, none⟩ = some v := bcell h rfl; have f : W.frozen? ⟨hb, 0, none⟩ = false := bfree h 0; simp [execOp, go_sem, Act.eval, dk.sets_get, ws, List.lookup, c, f, hv1]) ⟨⟨6, .data⟩, by simp, rfl, rfl⟩, trivial⟩
  case fin =>
    intro s K W hK hC
    obtain ⟨d1, d2, d3, d4⟩ := pap.done hC (N := 9) (by decide) (by decide) hK
    have hsn : Hid (SN W0 hb (L ++ [r]) W) := by
      refine ⟨HS.out.bel.trans ((hal.mono hsz).trans d1), HS.out.hbB, ⟨s.v1, d2, ?_, d4⟩, fun q hq => ?_⟩
      · rw [List.length_append, List.flatMap_append]
        simpa using d3
      · rcases List.mem_append.1 hq with h | h
        · exact HS.out.fits q h
        · simp at h; subst h; exact HRF.out
    clear hC hK d1 d2 d3 d4
    simp only [dk.sets, ws]
    go_wp2
    go_end0
    exact ⟨rfl, hsn.out⟩
end Go.Proofs.Ytfoajjkcocppeaa.rpu
