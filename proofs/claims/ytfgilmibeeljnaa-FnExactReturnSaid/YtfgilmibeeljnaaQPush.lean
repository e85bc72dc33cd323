/- heap.Push over the messages: one more run in the heap. -/
import Derived.Test.YtfgilmibeeljnaaQDown
import Derived.Test.YtfgilmibeeljnaaQPtrApp
namespace Go.Proofs.Ytfgilmibeeljnaa.qpu
open Go.ChangeShapes Go.WideShapes Go.ChangeAt Go.RowKit Go.Proofs.Ytfgilmibeeljnaa.fl Go.Proofs.Ytfgilmibeeljnaa.qit Go.Proofs.Ytfgilmibeeljnaa.qst
set_option linter.unusedVariables false

/-- a heap's box and its row, or no row yet -/
structure SN (W0 : World) (hb : Nat) (Q : qit.Qx) (L : List flM.Ms) (w : World) : Prop where
  bel : Below W0.heap.size W0 w
  hbB : W0.heap.size ≤ hb
  box : ∃ v, w.heap[hb]? = some (.cells #[v, .string Q.nm, .int .i64 Q.nx, .slice Q.ha Q.hn Q.hc] 58 (0, 0)) ∧ w.ownsRow W0.heap.size 38 5 v L.length (L.flatMap flM.c) ∧ v.ownBlock ≠ some hb
  fits : ∀ r ∈ L, Fits W0 W0.heap.size r
theorem take_eq {cur : Array Value} {L : List flM.Ms} (h : ∀ (i : Nat) (r : flM.Ms), L[i]? = some r → ∀ (j : Nat) (v : Value), (flM.c r)[j]? = some v → cur[i * 5 + j]? = some v) (hs : L.length * 5 ≤ cur.size) : cur.toList.take (L.length * 5) = L.flatMap flM.c := by
  apply List.ext_getElem?
  intro j
  by_cases hj : j < L.length * 5
  · rw [List.getElem?_take_of_lt hj]
    have hj2 : j < (L.flatMap flM.c).length := by rw [flat_len flM.c_len]; exact hj
    obtain ⟨u, hu⟩ : ∃ u, (L.flatMap flM.c)[j]? = some u := ⟨_, List.getElem?_eq_getElem hj2⟩
    obtain ⟨i, e, r, k1, k2, k3⟩ := flat_get flM.c_len L j _ hu
    rw [hu]
    subst k3
    have := h i e k1 r _ k2
    simpa using this
  · rw [List.getElem?_eq_none (by rw [List.length_take]; omega), List.getElem?_eq_none (by rw [flat_len flM.c_len]; omega)]
theorem SN.of {W0 : World} {Q : qit.Qx} {hb g cap : Nat} {L : List flM.Ms} {w : World} (h : SG W0 hb Q g cap L w) : SN W0 hb Q L w := by
  obtain ⟨cur, h1, h2, h3, h4, h5⟩ := h.row
  refine ⟨h.bel, h.hbB, ⟨_, h.box, ⟨flat_len flM.c_len L, .inr ⟨g, cap, cur, rfl, h.gB, h1, h3, h4, h2, take_eq h5 (by omega)⟩⟩, ?_⟩, h.fits⟩
  intro e
  exact h.ne (Option.some.inj e)
/-- its row, where there is one -/
theorem SN.sg {W0 : World} {Q : qit.Qx} {hb : Nat} {L : List flM.Ms} {w : World} (h : SN W0 hb Q L w) (h0 : L ≠ []) : ∃ g cap, SG W0 hb Q g cap L w := by
  obtain ⟨v, hv, ⟨_, ⟨rfl, hn⟩ | ⟨g, cap, cur, rfl, h1, h2, h3, h4, h5, h6⟩⟩, hne⟩ := h.box
  · exact absurd (List.eq_nil_of_length_eq_zero hn) h0
  · refine ⟨g, cap, h.bel, h.hbB, h1, fun e => hne (by rw [e]; rfl), hv, ⟨cur, h2, h5, h3, h4, fun i r hr j v hv => ?_⟩, h.fits⟩
    have hf := flat_at flM.c_len L i r hr j v hv
    rw [← h6] at hf
    have hlt := (List.getElem?_eq_some_iff.1 hf).1
    rw [List.length_take] at hlt
    rw [List.getElem?_take_of_lt (by omega)] at hf
    simpa using hf
/-- blocks that are no rows of messages, and not the box, stay -/
def Kt (hb : Nat) (w w' : World) : Prop := w.heap.size ≤ w'.heap.size ∧ ∀ (k : Nat) (cur : Array Value) (U : TypeId), w.heap[k]? = some (.cells cur U (0, 0)) → U ≠ 38 → k ≠ hb → w'.heap[k]? = w.heap[k]?
theorem Kt.trans {hb : Nat} {a b c : World} (h1 : Kt hb a b) (h2 : Kt hb b c) : Kt hb a c := ⟨Nat.le_trans h1.1 h2.1, fun k cur U hk hU hne => by
  have e1 := h1.2 k cur U hk hU hne
  rw [h2.2 k cur U (e1.trans hk) hU hne, e1]⟩
theorem Kt.of {hb : Nat} {a b : World} (h : Below a.heap.size a b) : Kt hb a b := ⟨h.size, fun k cur U hk _ _ => h.block k (Array.getElem?_eq_some_iff.1 hk).1⟩
theorem Kt.kp {hb g cap : Nat} {L : List flM.Ms} {a b : World} (h : Kp g a b) (hr : HR a g cap L) : Kt hb a b := ⟨h.size, fun k cur U hk hU _ => h.block k (Array.getElem?_eq_some_iff.1 hk).1 (by
  rintro rfl
  obtain ⟨cur', h1, _⟩ := hr
  rw [hk] at h1
  simp at h1
  exact hU h1.2)⟩
theorem infoR : (Try.prog.info? 38).map (fun i => (i.zero, i.size, i.bytes)) = some (some (.agg #[.int .i64 0, .string ByteArray.empty, .string ByteArray.empty, .string ByteArray.empty, .bool false]), 5, 64) := by kernel_rfl

def J0 : qpap.J := ⟨3, 4, 5, 6, 8⟩
theorem J0_ok : J0.ok := by unfold qpap.J.ok J0; decide
def ws (hb n : Nat) (v : Value) (r : flM.Ms) (g : qpap.G) : List (Nat × Value) :=
  [(12, .pointer (some ⟨hb, 0, none⟩)), (13, .pointer (some ⟨hb, 0, none⟩)), (14, .pointer (some ⟨hb, 0, none⟩)), (15, v), (16, .agg #[.int .i64 r.q, .string r.x, .string r.k, .string r.b, .bool r.a]), (17, .slice (some ⟨g.h, 0, none⟩) 1 1), (18, g.v1), (19, .pointer (some ⟨hb, 0, none⟩))]

set_option maxRecDepth 100000 in
set_option maxHeartbeats 1000000 in
theorem push_m (W0 : World) (Q : qit.Qx) (hb : Nat) (L : List flM.Ms) (r : flM.Ms) (w : World) (hS : SN W0 hb Q L w) (hr : Fits W0 W0.heap.size r) (hl : L.length ≤ 900) :
    Calls Try.prog 118 #[.pointer (some ⟨hb, 0, none⟩), .iface 38 (.agg #[.int .i64 r.q, .string r.x, .string r.k, .string r.b, .bool r.a])] w fun e w' => e = .returned (.tuple #[]) ∧ SN W0 hb Q (L ++ [r]) w' ∧ Kt hb w w' := by
  obtain ⟨i0, hi, hz0, hz1, hz2⟩ := info_parts infoR
  obtain ⟨v, hv, hown, hne⟩ := hS.box
  have hlt := (Array.getElem?_eq_some_iff.1 hv).1
  have hsz := hS.bel.size
  have c0 : w.cell? ⟨hb, 0, none⟩ = some v := bcell hv rfl
  have HV : Hid (w.heap[hb]? = some (.cells #[v, .string Q.nm, .int .i64 Q.nx, .slice Q.ha Q.hn Q.hc] 58 (0, 0))) := hv
  have HS : Hid (SN W0 hb Q L w) := hS
  have HRF : Hid (Fits W0 W0.heap.size r) := hr
  have hta : ∀ W : World, (Instr.typeAssert (.iface 38 (.agg #[.int .i64 r.q, .string r.x, .string r.k, .string r.b, .bool r.a])) 20 38 true).run Try.prog W = .ok (.tuple #[.agg #[.int .i64 r.q, .string r.x, .string r.k, .string r.b, .bool r.a], .bool true]) W := fun W => by kernel_rfl
  have hal : Below w.heap.size w (w.alloc (.cells #[.int .i64 r.q, .string r.x, .string r.k, .string r.b, .bool r.a] 38)) := (Below.refl _ _).alloc (Nat.le_refl _) _
  have hA := bnew w #[.int .i64 r.q, .string r.x, .string r.k, .string r.b, .bool r.a] 38
  obtain ⟨X, hX⟩ : ∃ X, w.alloc (.cells #[.int .i64 r.q, .string r.x, .string r.k, .string r.b, .bool r.a] 38) = X := ⟨_, rfl⟩
  rw [hX] at hal hA
  have hXl := (Array.getElem?_eq_some_iff.1 hA).1
  have HA : Hid (X.heap[w.heap.size]? = some (.cells #[.int .i64 r.q, .string r.x, .string r.k, .string r.b, .bool r.a] 38 (0, 0))) := hA
  have O : qpap.Ok ⟨X, W0.heap.size, hb, 58, 38, 5, v, L.length, L.flatMap flM.c, flM.c r, .string Q.nm, .int .i64 Q.nx, .slice Q.ha Q.hn Q.hc⟩ := ⟨Nat.le_trans hsz hal.size, hS.hbB, bstay hv hal hlt, hown.kept (row := none) ⟨hal.os, hal.tape, hal.output, hal.size, fun i hi _ => hal.block i hi⟩ (by
    cases hv : v.ownBlock with
    | none => exact .inl rfl
    | some g => right; simp), hne⟩
  have HO : Hid (qpap.Ok ⟨X, W0.heap.size, hb, 58, 38, 5, v, L.length, L.flatMap flM.c, flM.c r, .string Q.nm, .int .i64 Q.nx, .slice Q.ha Q.hn Q.hc⟩) := O
  clear hv hS hr hA O hown hne
  go_enter Try.func118, Try.ntmps118
  go_wp2
  clear hX
  refine dk.region_gsets (ws hb w.heap.size v r) [12, 13, 14, 15, 16, 17, 18, 19] (qpap.C ⟨X, W0.heap.size, hb, 58, 38, 5, v, L.length, L.flatMap flM.c, flM.c r, .string Q.nm, .int .i64 Q.nx, .slice Q.ha Q.hn Q.hc⟩ J0) ⟨0, .slice none 0 0⟩ (by kernel_rfl) (by kernel_rfl) (fun _ => rfl) (by kernel_rfl) (qpap.start HO.out _ _) ?each ?fin
  case each =>
    refine ⟨qpap.quiet (by decide) (by simp) (.pointer (some ⟨hb, 0, none⟩)) (by rintro s _ ⟨⟩; exact dk.sets_on _ (by simp) _ rfl) (fun s W => by simp [execOp, go_sem, Act.eval, dk.sets_get, ws, List.lookup]), ?_⟩
    refine ⟨qpap.quiet (by decide) (by simp) (.pointer (some ⟨hb, 0, none⟩)) (by rintro s _ ⟨⟩; exact dk.sets_on _ (by simp) _ rfl) (fun s W => by simp [execOp, go_sem, Act.eval, dk.sets_get, ws, List.lookup]), ?_⟩
    refine ⟨qpap.quiet (by decide) (by simp) (.pointer (some ⟨hb, 0, none⟩)) (by rintro s _ ⟨⟩; exact dk.sets_on _ (by simp) _ rfl) (fun s W => by simp [execOp, go_sem, Act.eval, dk.sets_get, ws, List.lookup]), ?_⟩
    refine ⟨qpap.sl (x := J0) (d := 15) J0_ok (by simp) rfl (fun s => dk.sets_on _ (by simp) _ rfl) (fun s W h => by have c : W.cell? ⟨hb, 0, none⟩ = some v := bcell h rfl; simp [execOp, go_sem, Act.eval, dk.sets_get, ws, List.lookup, c]), ?_⟩
    refine ⟨qpap.sm (x := J0) (d := 16) J0_ok (.agg #[.int .i64 r.q, .string r.x, .string r.k, .string r.b, .bool r.a]) (by simp) rfl (fun s => dk.sets_on _ (by simp) _ rfl) (fun s W h => by have hh := bstay HA.out h hXl; have d0 : W.cell? ⟨w.heap.size, 0, none⟩ = some (.int .i64 r.q) := bcell hh rfl; have d1 : W.cell? ⟨w.heap.size, 1, none⟩ = some (.string r.x) := bcell hh rfl; have d2 : W.cell? ⟨w.heap.size, 2, none⟩ = some (.string r.k) := bcell hh rfl; have d3 : W.cell? ⟨w.heap.size, 3, none⟩ = some (.string r.b) := bcell hh rfl; have d4 : W.cell? ⟨w.heap.size, 4, none⟩ = some (.bool r.a) := bcell hh rfl; simp [execOp, go_sem, Act.eval, dk.sets_get, ws, List.lookup, d0, d1, d2, d3, d4]), ?_⟩
    refine ⟨qpap.sb (x := J0) (d := 17) (idx := 5) HO.out J0_ok (by simp) rfl (by simp) (fun g => rfl) (fun g => rfl) (fun g e => rfl) (fun s W => by simp [execOp, go_sem, Act.eval, dk.sets_get, ws, List.lookup, flM.c]) ⟨⟨4, .data⟩, by simp, rfl, rfl⟩, ?_⟩
    refine ⟨qpap.sa (x := J0) (d := 18) (s1 := 15) (s2 := 17) (idx := 6) HO.out J0_ok Try.underlying56 hi hz0 hz1 hz2 rfl (by show 0 < 5; decide) rfl rfl ⟨by simp, by simp, by simp⟩ (fun g => rfl) (fun g => rfl) (fun g => rfl) (fun g => rfl) (fun g v => rfl) rfl (by intro u hu; simp [flM.c] at hu; rcases hu with rfl | rfl | rfl | rfl | rfl <;> rfl) (by show L.length ≤ 1048576; omega) (by show (L.length + 1) * 64 ≤ 140737488355328; omega) ⟨⟨3, .data⟩, by simp, rfl, rfl⟩ ⟨⟨5, .data⟩, by simp, rfl, rfl⟩, ?_⟩
    refine ⟨qpap.quiet (by decide) (by simp) (.pointer (some ⟨hb, 0, none⟩)) (by rintro s _ ⟨⟩; exact dk.sets_on _ (by simp) _ rfl) (fun s W => by simp [execOp, go_sem, Act.eval, dk.sets_get, ws, List.lookup]), ?_⟩
    exact ⟨qpap.ss (x := J0) HO.out J0_ok rfl (by simp) (fun s W a m c' hv1 h => by have c : W.cell? ⟨hb, 0, none⟩ = some v := bcell h rfl; have f : W.frozen? ⟨hb, 0, none⟩ = false := bfree h 0; simp [execOp, go_sem, Act.eval, dk.sets_get, ws, List.lookup, c, f, hv1]) ⟨⟨6, .data⟩, by simp, rfl, rfl⟩, trivial⟩
  case fin =>
    intro s K W hK hC
    obtain ⟨d1, d2, d3, d4, d5⟩ := qpap.done hC (N := 9) (by decide) (by decide) hK
    have hsn : Hid (SN W0 hb Q (L ++ [r]) W) := by
      refine ⟨HS.out.bel.trans ((hal.mono hsz).trans d1), HS.out.hbB, ⟨s.v1, d2, ?_, d4⟩, fun q hq => ?_⟩
      · rw [List.length_append, List.flatMap_append]
        simpa using d3
      · rcases List.mem_append.1 hq with h | h
        · exact HS.out.fits q h
        · simp at h; subst h; exact HRF.out
    have hkt : Hid (Kt hb w W) := by
      refine ⟨Nat.le_trans hal.size (by have := d1.size; exact this), fun k cur U hk hU hne2 => ?_⟩
      have hkl := (Array.getElem?_eq_some_iff.1 hk).1
      have e1 := hal.block k hkl
      refine (d5 k (Nat.lt_of_lt_of_le hkl hal.size) hne2 ?_).trans e1
      intro e
      rcases HO.out.own.2 with ⟨h9, _⟩ | ⟨g9, cap9, cur9, h9, _, h8, _⟩
      · rw [show (v : Value) = .slice none 0 0 from h9] at e; simp [Value.ownBlock] at e
      · rw [show (v : Value) = .slice (some ⟨g9, 0, none⟩) L.length cap9 from h9] at e
        have e9 : g9 = k := by simpa [Value.ownBlock] using e
        rw [e9] at h8
        have h8 : X.heap[k]? = some (.cells cur9 38 (0, 0)) := h8
        rw [e1, hk] at h8
        simp at h8
        exact hU h8.2
    clear hC hK d1 d2 d3 d4 d5
    simp only [dk.sets, ws]
    go_wp2
    go_end0
    exact ⟨rfl, hsn.out, hkt.out⟩
end Go.Proofs.Ytfgilmibeeljnaa.qpu
