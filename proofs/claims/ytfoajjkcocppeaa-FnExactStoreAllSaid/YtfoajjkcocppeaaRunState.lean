/- A heap of runs in memory: its box, its row, its methods, two of its runs changing places. -/
import Derived.Test.YtfoajjkcocppeaaRunSwap
namespace Go.Proofs.Ytfoajjkcocppeaa.rst
open Go.ChangeShapes Go.WideShapes Go.ChangeAt Go.RowKit Go.Proofs.Ytfoajjkcocppeaa.fl Go.Proofs.Ytfoajjkcocppeaa.ri
set_option linter.unusedVariables false

/-- the row g holds the runs L, with room for cap -/
def HR (w : World) (g cap : Nat) (L : List It) : Prop :=
  ∃ cur, w.heap[g]? = some (.cells cur 103 (0, 0)) ∧ cur.size = cap * 2 ∧ L.length ≤ cap ∧ cap ≤ maxLen ∧ ∀ (i : Nat) (r : It), L[i]? = some r → ∀ (j : Nat) (v : Value), (cI r)[j]? = some v → cur[i * 2 + j]? = some v
/-- a heap's box hb and its row g, beside the world W0 in which its runs lie -/
structure SG (W0 : World) (hb g cap : Nat) (L : List It) (w : World) : Prop where
  bel : Below W0.heap.size W0 w
  hbB : W0.heap.size ≤ hb
  gB : W0.heap.size ≤ g
  ne : g ≠ hb
  box : w.heap[hb]? = some (.cells #[.slice (some ⟨g, 0, none⟩) L.length cap] 99 (0, 0))
  row : HR w g cap L
  fits : ∀ r ∈ L, Fits W0 W0.heap.size r
/-- nothing but the block g is turned; new memory besides -/
structure Kp (g : Nat) (w w' : World) : Prop where
  os : w'.os = w.os
  tape : w'.tape = w.tape
  output : w'.output = w.output
  size : w.heap.size ≤ w'.heap.size
  block : ∀ k, k < w.heap.size → k ≠ g → w'.heap[k]? = w.heap[k]?
theorem Kp.refl (g : Nat) (w : World) : Kp g w w := ⟨rfl, rfl, rfl, Nat.le_refl _, fun _ _ _ => rfl⟩
theorem Kp.trans {g : Nat} {a b c : World} (h1 : Kp g a b) (h2 : Kp g b c) : Kp g a c :=
  ⟨h2.os.trans h1.os, h2.tape.trans h1.tape, h2.output.trans h1.output, Nat.le_trans h1.size h2.size, fun k hk hne => (h2.block k (Nat.lt_of_lt_of_le hk h1.size) hne).trans (h1.block k hk hne)⟩
theorem Kp.of {g : Nat} {a b : World} (h : Below a.heap.size a b) : Kp g a b := ⟨h.os, h.tape, h.output, h.size, fun k hk _ => h.block k hk⟩

theorem load_heap (a : Addr) (v : Value) (w : World) (h : w.cell? a = some v) : (loadVar 99 a).run Try.prog w = .ok v w := by
  simp [loadVar, isAgg, underlying, Try.underlying99, h, Result.andThen]
theorem chk (nm : String) (a : Addr) (w : World) : (Builtin.ssaWrapNilChk_ #[101] 101 #[.pointer (some a), strVal "", strVal nm]).run Try.prog w = .ok (.pointer (some a)) w := rfl
theorem recv (nm : String) (a : Addr) (v : Value) (w : World) (h : w.cell? a = some v) : (receiverAt 101 (.val (.pointer (some a))) false (some nm)).run Try.prog w = .ok v w := by
  have h1 := load_heap a v w h
  have h2 := chk nm a w
  simp [receiverAt, underlying, Try.underlying101, Place.get, asAddr, Result.andThen, h1, h2]
theorem meth_of (n : Nat) (nm : String) (f : FuncId) (a : Addr) (v : Value) (w : World) (hf : (Try.prog.info? 101).map (fun i => (i.methods.find? (·.name == nm)).map (fun m => (m.path.toList, m.func, m.path.isEmpty))) = some (some ([], some (f, false), true))) (h : w.cell? a = some v) :
    (method (n + 1) 101 (.pointer (some a)) nm).run Try.prog w = .ok (f, v) w := by
  obtain ⟨I, hI, h1⟩ := Option.map_eq_some_iff.1 hf
  obtain ⟨m, hm, h2⟩ := Option.map_eq_some_iff.1 h1
  simp only [Prod.mk.injEq] at h2
  obtain ⟨p1, p2, p3⟩ := h2
  have p4 : m.path = #[] := by simpa using p3
  simp [method, typeInfo, hI, hm, p1, p2, follow, Result.andThen]
  rw [if_pos p4, recv _ a v w h]
theorem meth_less (a : Addr) (v : Value) (w : World) (h : w.cell? a = some v) : (method 246 101 (.pointer (some a)) "Less").run Try.prog w = .ok (110, v) w := meth_of 245 "Less" _ a v w (by kernel_rfl) h
theorem meth_swap (a : Addr) (v : Value) (w : World) (h : w.cell? a = some v) : (method 246 101 (.pointer (some a)) "Swap").run Try.prog w = .ok (111, v) w := meth_of 245 "Swap" _ a v w (by kernel_rfl) h
theorem meth_len (a : Addr) (v : Value) (w : World) (h : w.cell? a = some v) : (method 246 101 (.pointer (some a)) "Len").run Try.prog w = .ok (76, v) w := meth_of 245 "Len" _ a v w (by kernel_rfl) h
theorem meth_pop (a : Addr) (w : World) : (method 246 101 (.pointer (some a)) "Pop").run Try.prog w = .ok (115, .pointer (some a)) w := by kernel_rfl
theorem meth_push (a : Addr) (w : World) : (method 246 101 (.pointer (some a)) "Push").run Try.prog w = .ok (116, .pointer (some a)) w := by kernel_rfl

theorem HR.at {w : World} {g cap i : Nat} {L : List It} {r : It} (h : HR w g cap L) (hi : L[i]? = some r) : cor.At w g i r := by
  obtain ⟨cur, h1, _, _, _, h5⟩ := h
  exact ⟨(Array.getElem?_eq_some_iff.1 h1).1, by have := bcell (j := i * 2) h1 (h5 i r hi 0 _ rfl); exact this, bcell (j := i * 2 + 1) h1 (h5 i r hi 1 _ rfl)⟩
theorem HR.below {w w' : World} {g cap : Nat} {L : List It} (h : HR w g cap L) (hb : w'.heap[g]? = w.heap[g]?) : HR w' g cap L := by
  obtain ⟨cur, h1, h2⟩ := h
  exact ⟨cur, hb.trans h1, h2⟩
theorem SG.on {W0 : World} {hb g cap : Nat} {L : List It} {w w' : World} (h : SG W0 hb g cap L w) (hb' : Below w.heap.size w w') : SG W0 hb g cap L w' := by
  obtain ⟨cur, h1, h2⟩ := h.row
  exact ⟨h.bel.trans (hb'.mono h.bel.size), h.hbB, h.gB, h.ne, (hb'.block hb (Array.getElem?_eq_some_iff.1 h.box).1).trans h.box, ⟨cur, (hb'.block g (Array.getElem?_eq_some_iff.1 h1).1).trans h1, h2⟩, h.fits⟩
theorem SG.fit {W0 : World} {hb g cap : Nat} {L : List It} {w : World} (h : SG W0 hb g cap L w) {i : Nat} {r : It} (hi : L[i]? = some r) : Fits w w.heap.size r := by
  have f := (h.fits r (List.mem_of_getElem? hi)).below h.bel
  exact ⟨Nat.lt_of_lt_of_le f.lt h.bel.size, f.ne, f.len, f.pl, f.cells⟩
/-- the world behind a swap -/
theorem swap_heap {X : World} {g i j : Nat} {A B : It} {cur : Array Value} (hb : X.heap[g]? = some (.cells cur 103 (0, 0))) : (rsw.S2 X g i j A B).heap[g]? = some (.cells ((((cur.setIfInBounds (i * 2) (.slice (some ⟨B.b, B.o, none⟩) B.l.length B.c)).setIfInBounds (i * 2 + 1) (.int .i64 B.p)).setIfInBounds (j * 2) (.slice (some ⟨A.b, A.o, none⟩) A.l.length A.c)).setIfInBounds (j * 2 + 1) (.int .i64 A.p)) 103 (0, 0)) :=
  bset (bset (bset (bset hb _ _) _ _) _ _) _ _
theorem SG.swap {W0 : World} {hb g cap i j : Nat} {L : List It} {w : World} {A B : It} (h : SG W0 hb g cap L w) (hi : L[i]? = some A) (hj : L[j]? = some B) : SG W0 hb g cap (hp.sw L i j) (rsw.S2 w.drew g i j A B) ∧ Kp g w (rsw.S2 w.drew g i j A B) := by
  obtain ⟨cur, h1, h2, h3, h4, h5⟩ := h.row
  have hil := (List.getElem?_eq_some_iff.1 hi).1
  have hjl := (List.getElem?_eq_some_iff.1 hj).1
  have h1d : w.drew.heap[g]? = some (.cells cur 103 (0, 0)) := h1
  have hk : Kp g w (rsw.S2 w.drew g i j A B) := by
    refine ⟨rfl, rfl, rfl, by simp [rsw.S2, rsw.S1, rsw.lay], fun k hk hne => ?_⟩
    unfold rsw.S2 rsw.S1 rsw.lay
    rw [Below.heap_setCell _ _ _ k hne, Below.heap_setCell _ _ _ k hne, Below.heap_setCell _ _ _ k hne, Below.heap_setCell _ _ _ k hne]
    rfl
  have hgB := h.gB
  have hsz := h.bel.size
  have hbl := (Array.getElem?_eq_some_iff.1 h.box).1
  refine ⟨⟨⟨hk.os.trans h.bel.os, hk.tape.trans h.bel.tape, hk.output.trans h.bel.output, Nat.le_trans hsz hk.size, fun k hkk => (hk.block k (by omega) (by omega)).trans (h.bel.block k hkk)⟩, h.hbB, h.gB, h.ne, ?_, ⟨_, swap_heap h1d, by simpa using h2, by rw [hp.sw_len]; exact h3, h4, ?_⟩, fun r hr => h.fits r ((hp.sw_perm hi hj).mem_iff.1 hr)⟩, hk⟩
  · rw [hp.sw_len]
    exact (hk.block hb hbl (Ne.symm h.ne)).trans h.box
  · intro k r hk' q v hv
    rw [hp.sw_at hi hj] at hk'
    have hq : q < 2 := by have := (List.getElem?_eq_some_iff.1 hv).1; rwa [cI_len] at this
    have hkl : k < L.length := by
      rcases Nat.lt_or_ge k L.length with h' | h'
      · exact h'
      · rw [if_neg (by omega), if_neg (by omega), List.getElem?_eq_none h'] at hk'
        cases hk'
    simp only [Array.getElem?_setIfInBounds, Array.size_setIfInBounds]
    by_cases e1 : k = j
    · subst e1
      rw [if_pos rfl] at hk'
      cases hk'
      have : q = 0 ∨ q = 1 := by omega
      rcases this with rfl | rfl
      · simp [cI] at hv
        rw [if_neg (by omega), if_pos (by omega), if_pos (by omega), hv]
      · simp [cI] at hv
        rw [if_pos (by omega), if_pos (by omega), hv]
    · rw [if_neg e1] at hk'
      rw [if_neg (by omega), if_neg (by omega)]
      by_cases e2 : k = i
      · subst e2
        rw [if_pos rfl] at hk'
        cases hk'
        have : q = 0 ∨ q = 1 := by omega
        rcases this with rfl | rfl
        · simp [cI] at hv
          rw [if_neg (by omega), if_pos (by omega), if_pos (by omega), hv]
        · simp [cI] at hv
          rw [if_pos (by omega), if_pos (by omega), hv]
      · rw [if_neg e2] at hk'
        rw [if_neg (by omega), if_neg (by omega)]
        exact h5 k r hk' q v hv

end Go.Proofs.Ytfoajjkcocppeaa.rst
