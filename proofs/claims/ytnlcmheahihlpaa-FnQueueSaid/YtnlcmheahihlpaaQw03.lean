/- strings.Clone hands back the same bytes and lays new memory alone: the library's contract for internal/stringslite.Clone, laid at this program. -/
import Derived.Test.YtnlcmheahihlpaaQw02
import Derived.Shelf.LaysM
import Derived.Shelf.Strconv.Clone
import Derived.Test.YtnlcmheahihlpaaRows
import Derived.WalkKit

/- heap.Push over the messages: one more run in the heap. -/
namespace Go.Proofs.Ytnlcmheahihlpaa.qpu
open Go.ChangeShapes Go.WideShapes Go.ChangeAt Go.RowKit Go.Proofs.Ytnlcmheahihlpaa.fl Go.Proofs.Ytnlcmheahihlpaa.qit Go.Proofs.Ytnlcmheahihlpaa.qst
set_option linter.unusedVariables false

/-- a heap's box and its row, or no row yet -/
structure SN (W0 : World) (hb : Nat) (Q : qit.Qx) (L : List flM.Ms) (w : World) : Prop where
  bel : Below W0.heap.size W0 w
  hbB : W0.heap.size ≤ hb
  box : ∃ v, w.heap[hb]? = some (.cells #[v, .string Q.nm, .int .i64 Q.nx, .slice Q.ha Q.hn Q.hc] 82 (0, 0)) ∧ w.ownsRow W0.heap.size 41 5 v L.length (L.flatMap flM.c) ∧ v.ownBlock ≠ some hb
  fits : ∀ r ∈ L, Fits W0 W0.heap.size r
theorem take_eq {cur : Array Value} {L : List flM.Ms} (h : ∀ (i : Nat) (r : flM.Ms), L[i]? = some r → ∀ (j : Nat) (v : Value), (flM.c r)[j]? = some v → cur[i * 5 + j]? = some v) (hs : L.length * 5 ≤ cur.size) : cur.toList.take (L.length * 5) = L.flatMap flM.c := by
  apply List.ext_getElem?
  intro j
  by_cases hj : j < L.length * 5
  · rw [List.getElem?_take_of_lt hj]
    have hj2 : j < (L.flatMap flM.c).length := by rw [flat_len flM.c_len]; exact hj
    obtain ⟨u, hu⟩ : ∃ u, (L.flatMap flM.c)[j]? = some u := ⟨_, List.getElem?_eq_getElem hj2⟩
    obtain ⟨i, e, r, k1, k2, k3⟩ := flat_get flM.c_len L j _ hu
    rw [hu]
    subst k3
    have := h i e k1 r _ k2
    simpa using this
  · rw [List.getElem?_eq_none (by rw [List.length_take]; omega), List.getElem?_eq_none (by rw [flat_len flM.c_len]; omega)]
theorem SN.of {W0 : World} {Q : qit.Qx} {hb g cap : Nat} {L : List flM.Ms} {w : World} (h : SG W0 hb Q g cap L w) : SN W0 hb Q L w := by
  obtain ⟨cur, h1, h2, h3, h4, h5⟩ := h.row
  refine ⟨h.bel, h.hbB, ⟨_, h.box, ⟨flat_len flM.c_len L, .inr ⟨g, cap, cur, rfl, h.gB, h1, h3, h4, h2, take_eq h5 (by omega)⟩⟩, ?_⟩, h.fits⟩
  intro e
  exact h.ne (Option.some.inj e)
/-- its row, where there is one -/
theorem SN.sg {W0 : World} {Q : qit.Qx} {hb : Nat} {L : List flM.Ms} {w : World} (h : SN W0 hb Q L w) (h0 : L ≠ []) : ∃ g cap, SG W0 hb Q g cap L w := by
  obtain ⟨v, hv, ⟨_, ⟨rfl, hn⟩ | ⟨g, cap, cur, rfl, h1, h2, h3, h4, h5, h6⟩⟩, hne⟩ := h.box
  · exact absurd (List.eq_nil_of_length_eq_zero hn) h0
  · refine ⟨g, cap, h.bel, h.hbB, h1, fun e => hne (by rw [e]; rfl), hv, ⟨cur, h2, h5, h3, h4, fun i r hr j v hv => ?_⟩, h.fits⟩
    have hf := flat_at flM.c_len L i r hr j v hv
    rw [← h6] at hf
    have hlt := (List.getElem?_eq_some_iff.1 hf).1
    rw [List.length_take] at hlt
    rw [List.getElem?_take_of_lt (by omega)] at hf
    simpa using hf
/-- blocks that are no rows of messages, and not the box, stay -/
def Kt (hb : Nat) (w w' : World) : Prop := w.heap.size ≤ w'.heap.size ∧ ∀ (k : Nat) (cur : Array Value) (U : TypeId), w.heap[k]? = some (.cells cur U (0, 0)) → U ≠ 41 → k ≠ hb → w'.heap[k]? = w.heap[k]?
theorem Kt.trans {hb : Nat} {a b c : World} (h1 : Kt hb a b) (h2 : Kt hb b c) : Kt hb a c := ⟨Nat.le_trans h1.1 h2.1, fun k cur U hk hU hne => by
  have e1 := h1.2 k cur U hk hU hne
  rw [h2.2 k cur U (e1.trans hk) hU hne, e1]⟩
theorem Kt.of {hb : Nat} {a b : World} (h : Below a.heap.size a b) : Kt hb a b := ⟨h.size, fun k cur U hk _ _ => h.block k (Array.getElem?_eq_some_iff.1 hk).1⟩
theorem Kt.kp {hb g cap : Nat} {L : List flM.Ms} {a b : World} (h : Kp g a b) (hr : HR a g cap L) : Kt hb a b := ⟨h.size, fun k cur U hk hU _ => h.block k (Array.getElem?_eq_some_iff.1 hk).1 (by
  rintro rfl
  obtain ⟨cur', h1, _⟩ := hr
  rw [hk] at h1
  simp at h1
  exact hU h1.2)⟩
theorem infoR : (Try.prog.info? 41).map (fun i => (i.zero, i.size, i.bytes)) = some (some (.agg #[.int .i64 0, .string ByteArray.empty, .string ByteArray.empty, .string ByteArray.empty, .bool false]), 5, 64) := by kernel_rfl

def J0 : qpap.J := ⟨3, 4, 5, 6, 8⟩
theorem J0_ok : J0.ok := by unfold qpap.J.ok J0; decide
def ws (hb n : Nat) (v : Value) (r : flM.Ms) (g : qpap.G) : List (Nat × Value) :=
  [(12, .pointer (some ⟨hb, 0, none⟩)), (13, .pointer (some ⟨hb, 0, none⟩)), (14, .pointer (some ⟨hb, 0, none⟩)), (15, v), (16, .agg #[.int .i64 r.q, .string r.x, .string r.k, .string r.b, .bool r.a]), (17, .slice (some ⟨g.h, 0, none⟩) 1 1), (18, g.v1), (19, .pointer (some ⟨hb, 0, none⟩))]

set_option maxRecDepth 100000 in
set_option maxHeartbeats 1000000 in
theorem push_m (W0 : World) (Q : qit.Qx) (hb : Nat) (L : List flM.Ms) (r : flM.Ms) (w : World) (hS : SN W0 hb Q L w) (hr : Fits W0 W0.heap.size r) (hl : L.length ≤ 900) :
    Calls Try.prog 112 #[.pointer (some ⟨hb, 0, none⟩), .iface 41 (.agg #[.int .i64 r.q, .string r.x, .string r.k, .string r.b, .bool r.a])] w fun e w' => e = .returned (.tuple #[]) ∧ SN W0 hb Q (L ++ [r]) w' ∧ Kt hb w w' := by
  obtain ⟨i0, hi, hz0, hz1, hz2⟩ := info_parts infoR
  obtain ⟨v, hv, hown, hne⟩ := hS.box
  have hlt := (Array.getElem?_eq_some_iff.1 hv).1
  have hsz := hS.bel.size
  have c0 : w.cell? ⟨hb, 0, none⟩ = some v := bcell hv rfl
  have HV : Hid (w.heap[hb]? = some (.cells #[v, .string Q.nm, .int .i64 Q.nx, .slice Q.ha Q.hn Q.hc] 82 (0, 0))) := hv
  have HS : Hid (SN W0 hb Q L w) := hS
  have HRF : Hid (Fits W0 W0.heap.size r) := hr
  have hta : ∀ W : World, (Instr.typeAssert (.iface 41 (.agg #[.int .i64 r.q, .string r.x, .string r.k, .string r.b, .bool r.a])) 20 41 true).run Try.prog W = .ok (.tuple #[.agg #[.int .i64 r.q, .string r.x, .string r.k, .string r.b, .bool r.a], .bool true]) W := fun W => by kernel_rfl
  have hal : Below w.heap.size w (w.alloc (.cells #[.int .i64 r.q, .string r.x, .string r.k, .string r.b, .bool r.a] 41)) := (Below.refl _ _).alloc (Nat.le_refl _) _
  have hA := bnew w #[.int .i64 r.q, .string r.x, .string r.k, .string r.b, .bool r.a] 41
  obtain ⟨X, hX⟩ : ∃ X, w.alloc (.cells #[.int .i64 r.q, .string r.x, .string r.k, .string r.b, .bool r.a] 41) = X := ⟨_, rfl⟩
  rw [hX] at hal hA
  have hXl := (Array.getElem?_eq_some_iff.1 hA).1
  have HA : Hid (X.heap[w.heap.size]? = some (.cells #[.int .i64 r.q, .string r.x, .string r.k, .string r.b, .bool r.a] 41 (0, 0))) := hA
  have O : qpap.Ok ⟨X, W0.heap.size, hb, 82, 41, 5, v, L.length, L.flatMap flM.c, flM.c r, .string Q.nm, .int .i64 Q.nx, .slice Q.ha Q.hn Q.hc⟩ := ⟨Nat.le_trans hsz hal.size, hS.hbB, bstay hv hal hlt, hown.kept (row := none) ⟨hal.os, hal.tape, hal.output, hal.size, fun i hi _ => hal.block i hi⟩ (by
    cases hv : v.ownBlock with
    | none => exact .inl rfl
    | some g => right; simp), hne⟩
  have HO : Hid (qpap.Ok ⟨X, W0.heap.size, hb, 82, 41, 5, v, L.length, L.flatMap flM.c, flM.c r, .string Q.nm, .int .i64 Q.nx, .slice Q.ha Q.hn Q.hc⟩) := O
  clear hv hS hr hA O hown hne
  go_enter Try.func112, Try.ntmps112
  go_wp2
  clear hX
  refine dk.region_gsets (ws hb w.heap.size v r) [12, 13, 14, 15, 16, 17, 18, 19] (qpap.C ⟨X, W0.heap.size, hb, 82, 41, 5, v, L.length, L.flatMap flM.c, flM.c r, .string Q.nm, .int .i64 Q.nx, .slice Q.ha Q.hn Q.hc⟩ J0) ⟨0, .slice none 0 0⟩ (by kernel_rfl) (by kernel_rfl) (fun _ => rfl) (by kernel_rfl) (qpap.start HO.out _ _) ?each ?fin
  case each =>
    refine ⟨qpap.quiet (by decide) (by simp) (.pointer (some ⟨hb, 0, none⟩)) (by rintro s _ ⟨⟩; exact dk.sets_on _ (by simp) _ rfl) (fun s W => by simp [execOp, go_sem, Act.eval, dk.sets_get, ws, List.lookup]), ?_⟩
    refine ⟨qpap.quiet (by decide) (by simp) (.pointer (some ⟨hb, 0, none⟩)) (by rintro s _ ⟨⟩; exact dk.sets_on _ (by simp) _ rfl) (fun s W => by simp [execOp, go_sem, Act.eval, dk.sets_get, ws, List.lookup]), ?_⟩
    refine ⟨qpap.quiet (by decide) (by simp) (.pointer (some ⟨hb, 0, none⟩)) (by rintro s _ ⟨⟩; exact dk.sets_on _ (by simp) _ rfl) (fun s W => by simp [execOp, go_sem, Act.eval, dk.sets_get, ws, List.lookup]), ?_⟩
    refine ⟨qpap.sl (x := J0) (d := 15) J0_ok (by simp) rfl (fun s => dk.sets_on _ (by simp) _ rfl) (fun s W h => by have c : W.cell? ⟨hb, 0, none⟩ = some v := bcell h rfl; simp [execOp, go_sem, Act.eval, dk.sets_get, ws, List.lookup, c]), ?_⟩
    refine ⟨qpap.sm (x := J0) (d := 16) J0_ok (.agg #[.int .i64 r.q, .string r.x, .string r.k, .string r.b, .bool r.a]) (by simp) rfl (fun s => dk.sets_on _ (by simp) _ rfl) (fun s W h => by have hh := bstay HA.out h hXl; have d0 : W.cell? ⟨w.heap.size, 0, none⟩ = some (.int .i64 r.q) := bcell hh rfl; have d1 : W.cell? ⟨w.heap.size, 1, none⟩ = some (.string r.x) := bcell hh rfl; have d2 : W.cell? ⟨w.heap.size, 2, none⟩ = some (.string r.k) := bcell hh rfl; have d3 : W.cell? ⟨w.heap.size, 3, none⟩ = some (.string r.b) := bcell hh rfl; have d4 : W.cell? ⟨w.heap.size, 4, none⟩ = some (.bool r.a) := bcell hh rfl; simp [execOp, go_sem, Act.eval, dk.sets_get, ws, List.lookup, d0, d1, d2, d3, d4]), ?_⟩
    refine ⟨qpap.sb (x := J0) (d := 17) (idx := 5) HO.out J0_ok (by simp) rfl (by simp) (fun g => rfl) (fun g => rfl) (fun g e => rfl) (fun s W => by simp [execOp, go_sem, Act.eval, dk.sets_get, ws, List.lookup, flM.c]) ⟨⟨4, .data⟩, by simp, rfl, rfl⟩, ?_⟩
    refine ⟨qpap.sa (x := J0) (d := 18) (s1 := 15) (s2 := 17) (idx := 6) HO.out J0_ok Try.underlying80 hi hz0 hz1 hz2 rfl (by show 0 < 5; decide) rfl rfl ⟨by simp, by simp, by simp⟩ (fun g => rfl) (fun g => rfl) (fun g => rfl) (fun g => rfl) (fun g v => rfl) rfl (by intro u hu; simp [flM.c] at hu; rcases hu with rfl | rfl | rfl | rfl | rfl <;> rfl) (by show L.length ≤ 1048576; omega) (by show (L.length + 1) * 64 ≤ 140737488355328; omega) ⟨⟨3, .data⟩, by simp, rfl, rfl⟩ ⟨⟨5, .data⟩, by simp, rfl, rfl⟩, ?_⟩
    refine ⟨qpap.quiet (by decide) (by simp) (.pointer (some ⟨hb, 0, none⟩)) (by rintro s _ ⟨⟩; exact dk.sets_on _ (by simp) _ rfl) (fun s W => by simp [execOp, go_sem, Act.eval, dk.sets_get, ws, List.lookup]), ?_⟩
    exact ⟨qpap.ss (x := J0) HO.out J0_ok rfl (by simp) (fun s W a m c' hv1 h => by have c : W.cell? ⟨hb, 0, none⟩ = some v := bcell h rfl; have f : W.frozen? ⟨hb, 0, none⟩ = false := bfree h 0; simp [execOp, go_sem, Act.eval, dk.sets_get, ws, List.lookup, c, f, hv1]) ⟨⟨6, .data⟩, by simp, rfl, rfl⟩, trivial⟩
  case fin =>
    intro s K W hK hC
    obtain ⟨d1, d2, d3, d4, d5⟩ := qpap.done hC (N := 9) (by decide) (by decide) hK
    have hsn : Hid (SN W0 hb Q (L ++ [r]) W) := by
      refine ⟨HS.out.bel.trans ((hal.mono hsz).trans d1), HS.out.hbB, ⟨s.v1, d2, ?_, d4⟩, fun q hq => ?_⟩
      · rw [List.length_append, List.flatMap_append]
        simpa using d3
      · rcases List.mem_append.1 hq with h | h
        · exact HS.out.fits q h
        · simp at h; subst h; exact HRF.out
    have hkt : Hid (Kt hb w W) := by
      refine ⟨Nat.le_trans hal.size (by have := d1.size; exact this), fun k cur U hk hU hne2 => ?_⟩
      have hkl := (Array.getElem?_eq_some_iff.1 hk).1
      have e1 := hal.block k hkl
      refine (d5 k (Nat.lt_of_lt_of_le hkl hal.size) hne2 ?_).trans e1
      intro e
      rcases HO.out.own.2 with ⟨h9, _⟩ | ⟨g9, cap9, cur9, h9, _, h8, _⟩
      · rw [show (v : Value) = .slice none 0 0 from h9] at e; simp [Value.ownBlock] at e
      · rw [show (v : Value) = .slice (some ⟨g9, 0, none⟩) L.length cap9 from h9] at e
        have e9 : g9 = k := by simpa [Value.ownBlock] using e
        rw [e9] at h8
        have h8 : X.heap[k]? = some (.cells cur9 41 (0, 0)) := h8
        rw [e1, hk] at h8
        simp at h8
        exact hU h8.2
    clear hC hK d1 d2 d3 d4 d5
    simp only [dk.sets, ws]
    go_wp2
    go_end0
    exact ⟨rfl, hsn.out, hkt.out⟩
end Go.Proofs.Ytnlcmheahihlpaa.qpu

/- heap.Push, heap.Pop and heap.Fix over the messages. -/
namespace Go.Proofs.Ytnlcmheahihlpaa.qpo
open Go.ChangeShapes Go.WideShapes Go.ChangeAt Go.RowKit Go.Proofs.Ytnlcmheahihlpaa.fl Go.Proofs.Ytnlcmheahihlpaa.qit Go.Proofs.Ytnlcmheahihlpaa.qst Go.Proofs.Ytnlcmheahihlpaa.qpu
set_option linter.unusedVariables false

theorem len_run (a : Option Addr) (n cap : Nat) (w : World) : Calls Try.prog 57 #[.slice a n cap] w fun e w' => e = .returned (.int .i64 n) ∧ w = w' := by
  go_enter Try.func57, Try.ntmps57
  go_wp2
  go_ret
  exact ⟨rfl, rfl⟩

set_option maxRecDepth 100000 in
set_option maxHeartbeats 1000000 in
theorem push_run (W0 : World) (Q : qit.Qx) (hb : Nat) (L : List flM.Ms) (r : flM.Ms) (w : World) (hS : SN W0 hb Q L w) (hH : hp.Heap less L L.length) (hr : Fits W0 W0.heap.size r) (hl : L.length ≤ 900) :
    Calls Try.prog 68 #[.iface 47 (.pointer (some ⟨hb, 0, none⟩)), .iface 41 (.agg #[.int .i64 r.q, .string r.x, .string r.k, .string r.b, .bool r.a])] w fun e w' => e = .returned (.tuple #[]) ∧ ∃ M : List flM.Ms, M.Perm (L ++ [r]) ∧ hp.Heap less M M.length ∧ SN W0 hb Q M w' ∧ Kt hb w w' := by
  have hpm := push_m W0 Q hb L r w hS hr hl
  have hmp := meth_push hb w
  have HH : Hid (hp.Heap less L L.length) := hH
  clear hS hH hr
  go_enter Try.func68, Try.ntmps68
  go_wp2_with (go_at_call 112; fail)
  refine hpm.mono ?_
  rintro e w1 ⟨rfl, hs1, hk1⟩
  obtain ⟨g, cap, hsg⟩ := hs1.sg (by simp)
  have hlen : (L ++ [r]).length = L.length + 1 := by simp
  have hbx : w1.cell? ⟨hb, 0, none⟩ = some (.slice (some ⟨g, 0, none⟩) (L.length + 1) cap) := by rw [← hlen]; exact bcell hsg.box rfl
  have hml := meth_len hb _ w1 hbx
  have hup := qup.up_run W0 Q hb g cap L.length (L ++ [r]) w1 hsg (by omega) (by omega) (by rw [hlen]; exact hp.up_new HH.out)
  have HK1 : Hid (Kt hb w w1) := hk1
  have HROW : Hid (HR w1 g cap (L ++ [r])) := hsg.row
  clear hpm hmp hs1 hsg hlen hk1
  go_wp2_with (first | (go_at_call 57; refine (len_run _ _ _ _).mono ?_; rintro e w0 ⟨rfl, hw0⟩; rw [← hw0]; clear hw0 w0) | (go_at_call 84; fail))
  refine hup.mono ?_
  rintro e w2 ⟨rfl, M, hM, hHM, hSM, hKM⟩
  have HM : Hid (M.Perm (L ++ [r]) ∧ hp.Heap less M M.length ∧ SN W0 hb Q M w2 ∧ Kt hb w w2) := ⟨hM, hHM, .of hSM, HK1.out.trans (Kt.kp hKM HROW.out)⟩
  clear hup hml hbx hM hHM hSM hKM
  go_wp2
  go_end0
  exact ⟨rfl, M, HM.out⟩

/-- nothing but the box and the row is turned; new memory besides -/
structure Kq (hb g : Nat) (w w' : World) : Prop where
  os : w'.os = w.os
  tape : w'.tape = w.tape
  output : w'.output = w.output
  size : w.heap.size ≤ w'.heap.size
  block : ∀ k, k < w.heap.size → k ≠ g → k ≠ hb → w'.heap[k]? = w.heap[k]?
theorem Kq.refl (hb g : Nat) (w : World) : Kq hb g w w := ⟨rfl, rfl, rfl, Nat.le_refl _, fun _ _ _ _ => rfl⟩
theorem Kq.trans {hb g : Nat} {a b c : World} (h1 : Kq hb g a b) (h2 : Kq hb g b c) : Kq hb g a c :=
  ⟨h2.os.trans h1.os, h2.tape.trans h1.tape, h2.output.trans h1.output, Nat.le_trans h1.size h2.size, fun k hk h3 h4 => (h2.block k (Nat.lt_of_lt_of_le hk h1.size) h3 h4).trans (h1.block k hk h3 h4)⟩
theorem Kq.of {hb g : Nat} {a b : World} (h : Kp g a b) : Kq hb g a b := ⟨h.os, h.tape, h.output, h.size, fun k hk h1 _ => h.block k hk h1⟩

set_option maxRecDepth 100000 in
set_option maxHeartbeats 1000000 in
theorem pop_m (W0 : World) (Q : qit.Qx) (hb g cap : Nat) (L : List flM.Ms) (r : flM.Ms) (w : World) (hS : SG W0 hb Q g cap (L ++ [r]) w) (hl : L.length ≤ 1000) :
    Calls Try.prog 111 #[.pointer (some ⟨hb, 0, none⟩)] w fun e w' => e = .returned (.iface 41 (.agg #[.int .i64 r.q, .string r.x, .string r.k, .string r.b, .bool r.a])) ∧ SG W0 hb Q g cap L w' ∧ Kq hb g w w' := by
  have hbx : w.cell? ⟨hb, 0, none⟩ = some (.slice (some ⟨g, 0, none⟩) (L.length + 1) cap) := by have := bcell (j := 0) hS.box rfl; simpa using this
  have hat := hS.row.at (i := L.length) (r := r) (by simp)
  have r0 := hat.c0
  have r1 := hat.c1
  have r2 := hat.c2
  have r3 := hat.c3
  have r4 := hat.c4
  have HS : Hid (SG W0 hb Q g cap (L ++ [r]) w) := hS
  have hblt := (Array.getElem?_eq_some_iff.1 hS.box).1
  have hxb := bold hS.box (.cells #[.int .i64 r.q, .string r.x, .string r.k, .string r.b, .bool r.a] 41)
  have hA := bnew w #[.int .i64 r.q, .string r.x, .string r.k, .string r.b, .bool r.a] 41
  have hal : Below w.heap.size w (w.alloc (.cells #[.int .i64 r.q, .string r.x, .string r.k, .string r.b, .bool r.a] 41)) := (Below.refl _ _).alloc (Nat.le_refl _) _
  obtain ⟨X, hX⟩ : ∃ X, w.alloc (.cells #[.int .i64 r.q, .string r.x, .string r.k, .string r.b, .bool r.a] 41) = X := ⟨_, rfl⟩
  rw [hX] at hxb hA hal
  have x0 : X.cell? ⟨hb, 0, none⟩ = some (.slice (some ⟨g, 0, none⟩) (L.length + 1) cap) := by have := bcell (j := 0) hxb rfl; simpa using this
  have xf : X.frozen? ⟨hb, 0, none⟩ = false := bfree hxb 0
  have hyA := boff hA hb 0 (.slice (some ⟨g, 0, none⟩) L.length cap) (by omega)
  have hyb := bset hxb 0 (.slice (some ⟨g, 0, none⟩) L.length cap)
  obtain ⟨Y, hY⟩ : ∃ Y, X.setCell ⟨hb, 0, none⟩ (.slice (some ⟨g, 0, none⟩) L.length cap) = Y := ⟨_, rfl⟩
  rw [hY] at hyA hyb
  have y0 : Y.cell? ⟨w.heap.size, 0, none⟩ = some (.int .i64 r.q) := bcell hyA rfl
  have y1 : Y.cell? ⟨w.heap.size, 1, none⟩ = some (.string r.x) := bcell hyA rfl
  have y2 : Y.cell? ⟨w.heap.size, 2, none⟩ = some (.string r.k) := bcell hyA rfl
  have y3 : Y.cell? ⟨w.heap.size, 3, none⟩ = some (.string r.b) := bcell hyA rfl
  have y4 : Y.cell? ⟨w.heap.size, 4, none⟩ = some (.bool r.a) := bcell hyA rfl
  have hkq : Kq hb g w Y := by
    refine ⟨by rw [← hY, ← hX]; rfl, by rw [← hY, ← hX]; rfl, by rw [← hY, ← hX]; rfl, by rw [← hY, ← hX]; simp, fun k hk h1 h2 => ?_⟩
    rw [← hY, Below.heap_setCell _ _ _ k h2]
    exact hal.block k hk
  have hgB := HS.out.gB
  have hgne := HS.out.ne
  have hbB := HS.out.hbB
  have hsz := HS.out.bel.size
  have hsg : SG W0 hb Q g cap L Y := by
    obtain ⟨cur, h1, h2, h3, h4, h5⟩ := HS.out.row
    have hgl := (Array.getElem?_eq_some_iff.1 h1).1
    refine ⟨⟨hkq.os.trans HS.out.bel.os, hkq.tape.trans HS.out.bel.tape, hkq.output.trans HS.out.bel.output, Nat.le_trans hsz hkq.size, fun k hk => (hkq.block k (by omega) (by omega) (by omega)).trans (HS.out.bel.block k hk)⟩, hbB, hgB, hgne, by simpa using hyb, ⟨cur, ?_, h2, by simp at h3; omega, h4, fun i q hq => h5 i q (by rw [List.getElem?_append_left (List.getElem?_eq_some_iff.1 hq).1]; exact hq)⟩, fun q hq => HS.out.fits q (by simp [hq])⟩
    rw [← hY, Below.heap_setCell _ _ _ g hgne]
    exact (hal.block g hgl).trans h1
  have HF : Hid (SG W0 hb Q g cap L Y ∧ Kq hb g w Y) := ⟨hsg, hkq⟩
  have i1 : (L.length : Int) ≤ (cap : Int) := by have := HS.out.row; obtain ⟨_, _, _, h3, _⟩ := this; simp at h3; omega
  clear hS hat hsg hkq hyA hyb hxb hA hal
  go_enter Try.func111, Try.ntmps111
  go_wp2
  go_ret
  exact ⟨rfl, HF.out⟩

set_option maxRecDepth 100000 in
set_option maxHeartbeats 1000000 in
theorem pop_run (W0 : World) (Q : qit.Qx) (hb g cap : Nat) (L : List flM.Ms) (r : flM.Ms) (w : World) (hS : SG W0 hb Q g cap L w) (h0 : L[0]? = some r) (hl : L.length ≤ 1000) (hH : hp.Heap less L L.length) :
    Calls Try.prog 69 #[.iface 47 (.pointer (some ⟨hb, 0, none⟩))] w fun e w' => e = .returned (.iface 41 (.agg #[.int .i64 r.q, .string r.x, .string r.k, .string r.b, .bool r.a])) ∧ ∃ M : List flM.Ms, (r :: M).Perm L ∧ hp.Heap less M M.length ∧ SG W0 hb Q g cap M w' ∧ Kq hb g w w' := by
  have hpos := (List.getElem?_eq_some_iff.1 h0).1
  obtain ⟨n, hn⟩ : ∃ n, L.length = n + 1 := ⟨L.length - 1, by omega⟩
  obtain ⟨q, hq⟩ : ∃ q, L[n]? = some q := ⟨_, List.getElem?_eq_getElem (by omega)⟩
  have hbx : w.cell? ⟨hb, 0, none⟩ = some (.slice (some ⟨g, 0, none⟩) L.length cap) := bcell hS.box rfl
  have hml := meth_len hb _ w hbx
  have hms := meth_swap hb _ w hbx
  obtain ⟨cur, c1, c2, c3, _⟩ := hS.row
  have hsw := qsw.swap_run g L.length cap 0 n cur r q w hpos (by omega) (by omega) c1 (hS.row.at h0) (hS.row.at hq)
  obtain ⟨hs1, hk1⟩ := hS.swap h0 hq
  have hD := hp.down_sw (m := n) h0 hq (by rw [← hn]; exact hH)
  have hsl : (hp.sw L 0 n).length = n + 1 := by rw [hp.sw_len, hn]
  have hlast : (hp.sw L 0 n)[n]? = some r := hp.sw_last h0 hq
  have hperm := hp.sw_perm h0 hq
  obtain ⟨X, hX⟩ : ∃ X, qsw.S2 w.drew g 0 n r q = X := ⟨_, rfl⟩
  rw [hX] at hsw hs1 hk1
  have hdn := qdn.down_run W0 Q hb g cap 0 n (hp.sw L 0 n) X hs1 (.inr rfl) (by omega) (by omega) hD
  have hmp := fun W => meth_pop hb W
  have HPM : Hid (∀ (M : List flM.Ms) (W : World), M.Perm (hp.sw L 0 n) → hp.Heap less M n → (∀ k, n ≤ k → M[k]? = (hp.sw L 0 n)[k]?) → SG W0 hb Q g cap M W → Kp g X W →
      Calls Try.prog 111 #[.pointer (some ⟨hb, 0, none⟩)] W fun e w' => e = .returned (.iface 41 (.agg #[.int .i64 r.q, .string r.x, .string r.k, .string r.b, .bool r.a])) ∧ ∃ M : List flM.Ms, (r :: M).Perm L ∧ hp.Heap less M M.length ∧ SG W0 hb Q g cap M w' ∧ Kq hb g w w') := fun M W p1 p2 p3 p4 p5 => by
    have hlM : M.length = n + 1 := by rw [p1.length_eq, hsl]
    have hMr : M[n]? = some r := by rw [p3 n (Nat.le_refl _), hlast]
    have hsplit : M = M.take n ++ [r] := by
      have h1 := List.take_append_getElem (l := M) (i := n) (by omega)
      have h2 : M[n]'(by omega) = r := (List.getElem?_eq_some_iff.1 hMr).2
      rw [h2, ← hlM, List.take_length] at h1
      exact h1.symm
    have htl : (M.take n).length = n := by rw [List.length_take]; omega
    rw [hsplit] at p4
    refine (pop_m W0 Q hb g cap (M.take n) r W p4 (by omega)).mono fun e w' ⟨hv, hs, hk⟩ => ⟨hv, M.take n, ?_, ?_, hs, ((Kq.of hk1).trans (Kq.of p5)).trans hk⟩
    · have h3 : (M.take n ++ [r]).Perm L := by rw [← hsplit]; exact p1.trans hperm
      exact (List.perm_append_singleton r (M.take n)).symm.trans h3
    · rw [htl]
      exact p2.take (Nat.le_refl _)
  rw [hn] at hml hms hsw hbx
  clear hS hH c1 c2 c3 hs1 hk1 hD hX hlast hperm hq h0
  go_enter Try.func69, Try.ntmps69
  go_wp2_with (first | (go_at_call 57; refine (len_run _ _ _ _).mono ?_; rintro e w0 ⟨rfl, hw0⟩; rw [← hw0]; clear hw0 w0) | (go_at_call 113; refine hsw.mono ?_; rintro e w1 ⟨rfl, rfl⟩) | (go_at_call 85; fail))
  refine hdn.mono ?_
  rintro e w2 ⟨⟨bb, rfl⟩, M, p1, p2, p3, p4, p5⟩
  have hpm := HPM.out M w2 p1 p2 p3 p4 p5
  clear hdn HPM p1 p2 p3 p4 p5 hsw hml hms
  go_wp2_with (go_at_call 111; fail)
  refine hpm.mono ?_
  rintro e w3 ⟨rfl, hM⟩
  have HM : Hid (∃ M : List flM.Ms, (r :: M).Perm L ∧ hp.Heap less M M.length ∧ SG W0 hb Q g cap M w3 ∧ Kq hb g w w3) := hM
  clear hpm hM
  go_wp2
  go_ret
  exact ⟨rfl, HM.out⟩
end Go.Proofs.Ytnlcmheahihlpaa.qpo

/- strings.Clone hands back the same bytes and lays new memory alone: the library's contract for internal/stringslite.Clone, laid at this program. -/
namespace Go.Proofs.Ytnlcmheahihlpaa.cl
open Go.Shelf Go.RowKit
def ren : Go.Shelf.Ren := ⟨fun | 316 => 72 | n => n, fun | 9 => 9 | 3 => 3 | 4 => 4 | 37 => 22 | 0 => 0 | 127 => 124 | 5 => 5 | n => n, fun | n => n⟩
theorem laid : Go.Proofs.LaysM.n316 Try.prog ren := {
  mixed := by kernel_rfl
  f316 := Try.func72.trans (congrArg some (by kernel_rfl))
  t0 := Try.underlying0
  a0 := Try.isAgg0
  z0 := Try.sizeOf0
  v0 := Try.zeroValue0
  t3 := Try.underlying3
  a3 := Try.isAgg3
  z3 := Try.sizeOf3
  v3 := Try.zeroValue3
  t4 := Try.underlying4
  a4 := Try.isAgg4
  z4 := Try.sizeOf4
  v4 := Try.zeroValue4
  t9 := Try.underlying9
  a9 := Try.isAgg9
  z9 := Try.sizeOf9
  v9 := Try.zeroValue9
  t37 := Try.underlying22
  a37 := Try.isAgg22
  z37 := Try.sizeOf22
  v37 := Try.zeroValue22
  t127 := Try.underlying124
  a127 := Try.isAgg124
  z127 := Try.sizeOf124
  v127 := Try.zeroValue124
  t5 := Try.underlying5
  a5 := Try.isAgg5
  z5 := Try.sizeOf5
  v5 := Try.zeroValue5
  i0 := by kernel_rfl
  i3 := by kernel_rfl
  i4 := by kernel_rfl
  i5 := by kernel_rfl
  i9 := by kernel_rfl
  i37 := by kernel_rfl
  i127 := by kernel_rfl }
theorem lite (s : ByteArray) (w : World) (hlim : s.size ≤ 281474976710656) :
    Calls Try.prog 72 #[.string s] w fun e w' => e = .returned (.string s) ∧ Below w.heap.size w w' := Any.stringslite_Clone laid s w hlim

theorem clone (s : ByteArray) (w : World) (hlim : s.size ≤ 281474976710656) :
    Calls Try.prog 56 #[.string s] w fun e w' => e = .returned (.string s) ∧ Below w.heap.size w w' := by
  go_enter Try.func56, Try.ntmps56
  go_wp2_with (go_at_call 72; refine (lite s w hlim).mono ?_; rintro e w1 ⟨rfl, hb1⟩)
  go_ret
  exact ⟨rfl, hb1⟩
end Go.Proofs.Ytnlcmheahihlpaa.cl
