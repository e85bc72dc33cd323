/- A heap of messages in memory: its box, its row, its methods, two of its messages changing places. -/
import Derived.Test.YtfgilmibeeljnaaQSwap
namespace Go.Proofs.Ytfgilmibeeljnaa.qst
open Go.ChangeShapes Go.WideShapes Go.ChangeAt Go.RowKit Go.Proofs.Ytfgilmibeeljnaa.fl Go.Proofs.Ytfgilmibeeljnaa.qit
set_option linter.unusedVariables false

/-- the row g holds the messages L, with room for cap -/
def HR (w : World) (g cap : Nat) (L : List flM.Ms) : Prop :=
  ∃ cur, w.heap[g]? = some (.cells cur 38 (0, 0)) ∧ cur.size = cap * 5 ∧ L.length ≤ cap ∧ cap ≤ maxLen ∧ ∀ (i : Nat) (r : flM.Ms), L[i]? = some r → ∀ (j : Nat) (v : Value), (flM.c r)[j]? = some v → cur[i * 5 + j]? = some v
/-- a heap's box hb and its row g, beside the world W0 in which its messages lie -/
structure SG (W0 : World) (hb : Nat) (Q : qit.Qx) (g cap : Nat) (L : List flM.Ms) (w : World) : Prop where
  bel : Below W0.heap.size W0 w
  hbB : W0.heap.size ≤ hb
  gB : W0.heap.size ≤ g
  ne : g ≠ hb
  box : w.heap[hb]? = some (.cells #[.slice (some ⟨g, 0, none⟩) L.length cap, .string Q.nm, .int .i64 Q.nx, .slice Q.ha Q.hn Q.hc] 58 (0, 0))
  row : HR w g cap L
  fits : ∀ r ∈ L, Fits W0 W0.heap.size r
/-- nothing but the block g is turned; new memory besides -/
structure Kp (g : Nat) (w w' : World) : Prop where
  os : w'.os = w.os
  tape : w'.tape = w.tape
  output : w'.output = w.output
  size : w.heap.size ≤ w'.heap.size
  block : ∀ k, k < w.heap.size → k ≠ g → w'.heap[k]? = w.heap[k]?
theorem Kp.refl (g : Nat) (w : World) : Kp g w w := ⟨rfl, rfl, rfl, Nat.le_refl _, fun _ _ _ => rfl⟩
theorem Kp.trans {g : Nat} {a b c : World} (h1 : Kp g a b) (h2 : Kp g b c) : Kp g a c :=
  ⟨h2.os.trans h1.os, h2.tape.trans h1.tape, h2.output.trans h1.output, Nat.le_trans h1.size h2.size, fun k hk hne => (h2.block k (Nat.lt_of_lt_of_le hk h1.size) hne).trans (h1.block k hk hne)⟩
theorem Kp.of {g : Nat} {a b : World} (h : Below a.heap.size a b) : Kp g a b := ⟨h.os, h.tape, h.output, h.size, fun k hk _ => h.block k hk⟩

theorem load_list (a : Addr) (v : Value) (w : World) (h : w.cell? a = some v) : (loadVar 56 a).run Try.prog w = .ok v w := by
  simp [loadVar, isAgg, underlying, Try.underlying56, h, Result.andThen]
theorem meth_val (n : Nat) (nm : String) (f : FuncId) (hb : Nat) (v : Value) (w : World) (hf : (Try.prog.info? 52).map (fun i => (i.methods.find? (·.name == nm)).map (fun m => (m.path.toList, m.func))) = some (some ([⟨58, 0, true⟩], some (f, false)))) (h : w.cell? ⟨hb, 0, none⟩ = some v) :
    (method (n + 1) 52 (.pointer (some ⟨hb, 0, none⟩)) nm).run Try.prog w = .ok (f, v) w := by
  obtain ⟨I, hI, h1⟩ := Option.map_eq_some_iff.1 hf
  obtain ⟨m, hm, h2⟩ := Option.map_eq_some_iff.1 h1
  simp only [Prod.mk.injEq] at h2
  obtain ⟨p1, p2⟩ := h2
  obtain ⟨i0, hi0, hz0⟩ := Option.map_eq_some_iff.1 (show (Try.prog.info? 56).map (·.size) = some 1 by kernel_rfl)
  simp [method, typeInfo, hI, hm, p1, p2, follow, underlying, Try.underlying58, Try.underlying56, Place.get, asAddr, fieldPlace, receiverAt, sizeOf, Result.andThen, go_sem, Addr.add, hi0, hz0, h]
theorem meth_less (hb : Nat) (v : Value) (w : World) (h : w.cell? ⟨hb, 0, none⟩ = some v) : (method 252 52 (.pointer (some ⟨hb, 0, none⟩)) "Less").run Try.prog w = .ok (116, v) w := meth_val 251 "Less" _ hb v w (by kernel_rfl) h
theorem meth_swap (hb : Nat) (v : Value) (w : World) (h : w.cell? ⟨hb, 0, none⟩ = some v) : (method 252 52 (.pointer (some ⟨hb, 0, none⟩)) "Swap").run Try.prog w = .ok (119, v) w := meth_val 251 "Swap" _ hb v w (by kernel_rfl) h
theorem meth_len (hb : Nat) (v : Value) (w : World) (h : w.cell? ⟨hb, 0, none⟩ = some v) : (method 252 52 (.pointer (some ⟨hb, 0, none⟩)) "Len").run Try.prog w = .ok (65, v) w := meth_val 251 "Len" _ hb v w (by kernel_rfl) h
theorem meth_pop (hb : Nat) (w : World) : (method 252 52 (.pointer (some ⟨hb, 0, none⟩)) "Pop").run Try.prog w = .ok (117, .pointer (some ⟨hb, 0, none⟩)) w := by kernel_rfl
theorem meth_push (hb : Nat) (w : World) : (method 252 52 (.pointer (some ⟨hb, 0, none⟩)) "Push").run Try.prog w = .ok (118, .pointer (some ⟨hb, 0, none⟩)) w := by kernel_rfl
theorem HR.at {w : World} {g cap i : Nat} {L : List flM.Ms} {r : flM.Ms} (h : HR w g cap L) (hi : L[i]? = some r) : qit.At w g i r := by
  obtain ⟨cur, h1, _, _, _, h5⟩ := h
  exact ⟨(Array.getElem?_eq_some_iff.1 h1).1, by have := bcell (j := i * 5) h1 (h5 i r hi 0 _ rfl); exact this, bcell (j := i * 5 + 1) h1 (h5 i r hi 1 _ rfl), bcell (j := i * 5 + 2) h1 (h5 i r hi 2 _ rfl), bcell (j := i * 5 + 3) h1 (h5 i r hi 3 _ rfl), bcell (j := i * 5 + 4) h1 (h5 i r hi 4 _ rfl)⟩
theorem HR.below {w w' : World} {g cap : Nat} {L : List flM.Ms} (h : HR w g cap L) (hb : w'.heap[g]? = w.heap[g]?) : HR w' g cap L := by
  obtain ⟨cur, h1, h2⟩ := h
  exact ⟨cur, hb.trans h1, h2⟩
theorem SG.on {W0 : World} {Q : qit.Qx} {hb g cap : Nat} {L : List flM.Ms} {w w' : World} (h : SG W0 hb Q g cap L w) (hb' : Below w.heap.size w w') : SG W0 hb Q g cap L w' := by
  obtain ⟨cur, h1, h2⟩ := h.row
  exact ⟨h.bel.trans (hb'.mono h.bel.size), h.hbB, h.gB, h.ne, (hb'.block hb (Array.getElem?_eq_some_iff.1 h.box).1).trans h.box, ⟨cur, (hb'.block g (Array.getElem?_eq_some_iff.1 h1).1).trans h1, h2⟩, h.fits⟩
theorem SG.fit {W0 : World} {Q : qit.Qx} {hb g cap : Nat} {L : List flM.Ms} {w : World} (h : SG W0 hb Q g cap L w) {i : Nat} {r : flM.Ms} (hi : L[i]? = some r) : Fits w w.heap.size r := trivial
theorem lay_row (w : World) (g i : Nat) (r : flM.Ms) : qsw.lay w g i r = fl.setRow w g (i * 5) (flM.c r) := rfl
theorem swap_heap {X : World} {g i j : Nat} {A B : flM.Ms} {cur : Array Value} (hb : X.heap[g]? = some (.cells cur 38 (0, 0))) : (qsw.S2 X g i j A B).heap[g]? = some (.cells (fl.setArr (fl.setArr cur (i * 5) (flM.c B)) (j * 5) (flM.c A)) 38 (0, 0)) := by
  unfold qsw.S2 qsw.S1
  rw [lay_row, lay_row]
  exact fl.setRow_heap _ _ _ _ (fl.setRow_heap _ _ _ _ hb)
theorem off_heap {X : World} {g i j k : Nat} {A B : flM.Ms} (h : k ≠ g) : (qsw.S2 X g i j A B).heap[k]? = X.heap[k]? := by
  unfold qsw.S2 qsw.S1 qsw.lay
  rw [Below.heap_setCell _ _ _ k h, Below.heap_setCell _ _ _ k h, Below.heap_setCell _ _ _ k h, Below.heap_setCell _ _ _ k h, Below.heap_setCell _ _ _ k h, Below.heap_setCell _ _ _ k h, Below.heap_setCell _ _ _ k h, Below.heap_setCell _ _ _ k h, Below.heap_setCell _ _ _ k h, Below.heap_setCell _ _ _ k h]
theorem setArr_out (vs : List Value) : ∀ (cur : Array Value) (o p : Nat), (p < o ∨ o + vs.length ≤ p) → (fl.setArr cur o vs)[p]? = cur[p]? := by
  induction vs with
  | nil => intro cur o p _; rfl
  | cons u r ih =>
    intro cur o p h
    simp at h
    rw [fl.setArr, ih _ _ _ (by omega), Array.getElem?_setIfInBounds_ne (by omega)]
theorem SG.swap {W0 : World} {Q : qit.Qx} {hb g cap i j : Nat} {L : List flM.Ms} {w : World} {A B : flM.Ms} (h : SG W0 hb Q g cap L w) (hi : L[i]? = some A) (hj : L[j]? = some B) : SG W0 hb Q g cap (hp.sw L i j) (qsw.S2 w.drew g i j A B) ∧ Kp g w (qsw.S2 w.drew g i j A B) := by
  obtain ⟨cur, h1, h2, h3, h4, h5⟩ := h.row
  have hil := (List.getElem?_eq_some_iff.1 hi).1
  have hjl := (List.getElem?_eq_some_iff.1 hj).1
  have h1d : w.drew.heap[g]? = some (.cells cur 38 (0, 0)) := h1
  have hk : Kp g w (qsw.S2 w.drew g i j A B) := by
    have h0 : Below 0 w.drew (qsw.S2 w.drew g i j A B) := by
      unfold qsw.S2 qsw.S1
      rw [lay_row, lay_row]
      exact (fl.setRow_below _ _ _ (Nat.zero_le _)).trans (fl.setRow_below _ _ _ (Nat.zero_le _))
    refine ⟨h0.os, h0.tape, h0.output, h0.size, fun k hk hne => ?_⟩
    exact off_heap hne
  have hgB := h.gB
  have hsz := h.bel.size
  have hbl := (Array.getElem?_eq_some_iff.1 h.box).1
  refine ⟨⟨⟨hk.os.trans h.bel.os, hk.tape.trans h.bel.tape, hk.output.trans h.bel.output, Nat.le_trans hsz hk.size, fun k hkk => (hk.block k (by omega) (by omega)).trans (h.bel.block k hkk)⟩, h.hbB, h.gB, h.ne, ?_, ⟨_, swap_heap h1d, by rw [fl.setArr_size, fl.setArr_size]; exact h2, by rw [hp.sw_len]; exact h3, h4, ?_⟩, fun r hr => h.fits r ((hp.sw_perm hi hj).mem_iff.1 hr)⟩, hk⟩
  · rw [hp.sw_len]
    exact (hk.block hb hbl (Ne.symm h.ne)).trans h.box
  · intro k r hk' q v hv
    rw [hp.sw_at hi hj] at hk'
    have hq : q < 5 := by have := (List.getElem?_eq_some_iff.1 hv).1; rwa [flM.c_len] at this
    have hlc : ∀ e, (flM.c e).length = 5 := flM.c_len
    by_cases e1 : k = j
    · subst e1
      rw [if_pos rfl] at hk'
      cases hk'
      exact fl.setArr_on _ _ _ _ _ hv (by rw [fl.setArr_size, hlc]; omega)
    · rw [if_neg e1] at hk'
      rw [setArr_out _ _ _ _ (by rw [hlc]; omega)]
      by_cases e2 : k = i
      · subst e2
        rw [if_pos rfl] at hk'
        cases hk'
        exact fl.setArr_on _ _ _ _ _ hv (by rw [hlc]; omega)
      · rw [if_neg e2] at hk'
        rw [setArr_out _ _ _ _ (by rw [hlc]; omega)]
        exact h5 k r hk' q v hv
end Go.Proofs.Ytfgilmibeeljnaa.qst
