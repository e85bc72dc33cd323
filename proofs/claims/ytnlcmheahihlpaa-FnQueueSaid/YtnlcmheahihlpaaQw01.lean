/- A heap of messages in memory: its box, its row, its methods, two of its messages changing places. -/
import Derived.Test.YtnlcmheahihlpaaFlMessage
import Derived.Test.YtnlcmheahihlpaaDoneKit
import Derived.Test.YtnlcmheahihlpaaHeapPure
import Derived.Test.YtnlcmheahihlpaaFlatOwn
import Derived.Deep.QuietTactic
import Derived.BigQuiet

/- Messages as a heap holds them. -/
namespace Go.Proofs.Ytnlcmheahihlpaa.qit
open Go.ChangeShapes Go.WideShapes Go.ChangeAt Go.RowKit Go.Proofs.Ytnlcmheahihlpaa.fl
set_option linter.unusedVariables false

/-- what else lies in the box of an open queue -/
structure Qx where
  nm : ByteArray
  nx : Int
  ha : Option Addr
  hn : Nat
  hc : Nat
def Fits (_ : World) (_ : Nat) (_ : flM.Ms) : Prop := True
theorem Fits.below {w w' : World} {B : Nat} {r : flM.Ms} (h : Fits w B r) (hb : Below B w w') : Fits w' B r := trivial
def less (a b : flM.Ms) : Bool := decide (a.q < b.q)
theorem ord : hp.Ord less := by
  refine ⟨fun a => by simp [less], fun {a b c} h1 h2 => ?_, fun {a b} h => ?_⟩
  · simp only [less, decide_eq_false_iff_not] at *; omega
  · simp only [less, decide_eq_false_iff_not, decide_eq_true_eq] at *; omega
/-- a message at place i of the row g -/
structure At (w : World) (g i : Nat) (r : flM.Ms) : Prop where
  lt : g < w.heap.size
  c0 : w.cell? ⟨g, i * 5, none⟩ = some (.int .i64 r.q)
  c1 : w.cell? ⟨g, i * 5 + 1, none⟩ = some (.string r.x)
  c2 : w.cell? ⟨g, i * 5 + 2, none⟩ = some (.string r.k)
  c3 : w.cell? ⟨g, i * 5 + 3, none⟩ = some (.string r.b)
  c4 : w.cell? ⟨g, i * 5 + 4, none⟩ = some (.bool r.a)
theorem bdrewN {B : Nat} {a w : World} (h : Below B a w) (n : Nat) : Below B a (w.drewN n) := ⟨h.os, h.tape, h.output, h.size, h.block⟩
set_option maxRecDepth 100000 in
theorem less_run (g n cap i j : Nat) (A B : flM.Ms) (w : World) (hi : i < n) (hj : j < n) (hA : At w g i A) (hB : At w g j B) (fA : Fits w w.heap.size A) (fB : Fits w w.heap.size B) :
    Calls Try.prog 110 #[.slice (some ⟨g, 0, none⟩) n cap, .int .i64 i, .int .i64 j] w fun r w' => r = .returned (.bool (less A B)) ∧ Below w.heap.size w w' := by
  have a0 := hA.c0
  have b0 := hB.c0
  have an : (i : Int) < (n : Int) := by omega
  have bn : (j : Int) < (n : Int) := by omega
  unfold less
  clear hA hB fA fB
  go_enter Try.func110, Try.ntmps110
  go_wp2
  go_quiet (fail)
  go_wp2
  go_ret
  exact ⟨rfl, by first | exact Below.refl _ _ | exact bdrewN (Below.refl _ _) _⟩
end Go.Proofs.Ytnlcmheahihlpaa.qit

/- Two of a heap's messages change their places. -/
namespace Go.Proofs.Ytnlcmheahihlpaa.qsw
open Go.ChangeShapes Go.WideShapes Go.ChangeAt Go.RowKit Go.Proofs.Ytnlcmheahihlpaa.fl Go.Proofs.Ytnlcmheahihlpaa.qit
set_option linter.unusedVariables false

/-- one message laid at place i of the row g -/
def lay (w : World) (g i : Nat) (r : flM.Ms) : World := ((((w.setCell ⟨g, i * 5, none⟩ (.int .i64 r.q)).setCell ⟨g, i * 5 + 1, none⟩ (.string r.x)).setCell ⟨g, i * 5 + 2, none⟩ (.string r.k)).setCell ⟨g, i * 5 + 3, none⟩ (.string r.b)).setCell ⟨g, i * 5 + 4, none⟩ (.bool r.a)
def S1 (X : World) (g i : Nat) (B : flM.Ms) : World := lay X g i B
def S2 (X : World) (g i j : Nat) (A B : flM.Ms) : World := lay (S1 X g i B) g j A
def ST (w : World) (g i j : Nat) (A B : flM.Ms) (x y : Bool) : World := if y = true then S2 w g i j A B else if x = true then S1 w g i B else w
def C (w : World) (g i j : Nat) (A B : flM.Ms) (L : Nat → Bool) (W : World) : Prop := (L 13 = true → L 7 = true ∧ L 11 = true) ∧ (L 15 = true → L 13 = true) ∧ W = ST w g i j A B (L 13) (L 15)
theorem more_on (L : Nat → Bool) (i : Nat) : dn.more L i i = true := by unfold dn.more; rw [if_pos rfl]
theorem more_off (L : Nat → Bool) {i j : Nat} (h : j ≠ i) : dn.more L i j = L j := by unfold dn.more; rw [if_neg h]
section
variable {w : World} {g i j : Nat} {A B : flM.Ms} {fin : Act} {o : Oper}
theorem qt {k : Nat} (hk : k ≠ 7 ∧ k ≠ 11 ∧ k ≠ 13 ∧ k ≠ 15) (v : Value) (hd : ∀ d, o.dst = some d → fin.tmps[d]? = some v) (hrun : ∀ (W : World), True → (execOp fin.eval o).run Try.prog W = .ok (.value v) W) : dn.Step Try.prog fin (C w g i j A B) k o := by
  intro L W hdp h0 hC
  refine ⟨v, hd, ?_⟩
  rw [hrun W trivial]
  obtain ⟨k7, k11, k13, k15⟩ := hk
  refine ⟨rfl, ?_⟩
  unfold C
  rw [more_off L k13.symm, more_off L k15.symm, more_off L k7.symm, more_off L k11.symm]
  exact hC
theorem ld7 (v : Value) (hd : ∀ d, o.dst = some d → fin.tmps[d]? = some v) (hrun : (execOp fin.eval o).run Try.prog w = .ok (.value v) w) : dn.Step Try.prog fin (C w g i j A B) 7 o := by
  intro L W hdp h0 hC
  refine ⟨v, hd, ?_⟩
  obtain ⟨c1, c2, c3⟩ := hC
  have n13 : L 13 = false := by
    cases h : L 13 with
    | false => rfl
    | true => have := (c1 h).1; rw [h0] at this; cases this
  have n15 : L 15 = false := by
    cases h : L 15 with
    | false => rfl
    | true => have := c2 h; rw [n13] at this; cases this
  rw [n13, n15] at c3
  have c3 : W = w := c3
  subst c3
  rw [hrun]
  refine ⟨rfl, ?_⟩
  unfold C
  rw [more_off L (show 13 ≠ 7 by decide), more_off L (show 15 ≠ 7 by decide), n13, n15]
  exact ⟨fun h => (by cases h), fun h => (by cases h), rfl⟩
theorem ld11 (v : Value) (hd : ∀ d, o.dst = some d → fin.tmps[d]? = some v) (hrun : (execOp fin.eval o).run Try.prog w = .ok (.value v) w) : dn.Step Try.prog fin (C w g i j A B) 11 o := by
  intro L W hdp h0 hC
  refine ⟨v, hd, ?_⟩
  obtain ⟨c1, c2, c3⟩ := hC
  have n13 : L 13 = false := by
    cases h : L 13 with
    | false => rfl
    | true => have := (c1 h).2; rw [h0] at this; cases this
  have n15 : L 15 = false := by
    cases h : L 15 with
    | false => rfl
    | true => have := c2 h; rw [n13] at this; cases this
  rw [n13, n15] at c3
  have c3 : W = w := c3
  subst c3
  rw [hrun]
  refine ⟨rfl, ?_⟩
  unfold C
  rw [more_off L (show 13 ≠ 11 by decide), more_off L (show 15 ≠ 11 by decide), n13, n15]
  exact ⟨fun h => (by cases h), fun h => (by cases h), rfl⟩
theorem st13 (hdst : o.dst = none) (h7 : ∃ e ∈ o.after, Region.binds .any e = true ∧ e.on = 7) (h11 : ∃ e ∈ o.after, Region.binds .any e = true ∧ e.on = 11) (hrun : (execOp fin.eval o).run Try.prog w = .ok .skip (S1 w g i B)) : dn.Step Try.prog fin (C w g i j A B) 13 o := by
  intro L W hdp h0 hC
  refine ⟨undef, (fun d hd => by rw [hdst] at hd; cases hd), ?_⟩
  obtain ⟨e7, m7, b7, o7⟩ := h7
  obtain ⟨e11, m11, b11, o11⟩ := h11
  have l7 := hdp e7 m7 b7
  have l11 := hdp e11 m11 b11
  rw [o7] at l7
  rw [o11] at l11
  obtain ⟨c1, c2, c3⟩ := hC
  have n15 : L 15 = false := by
    cases h : L 15 with
    | false => rfl
    | true => have := c2 h; rw [h0] at this; cases this
  rw [h0, n15] at c3
  have c3 : W = w := c3
  subst c3
  rw [hrun]
  refine ⟨rfl, ?_⟩
  unfold C
  rw [more_on, more_off L (show 15 ≠ 13 by decide), more_off L (show 7 ≠ 13 by decide), more_off L (show 11 ≠ 13 by decide), n15]
  exact ⟨fun _ => ⟨l7, l11⟩, fun h => (by cases h), rfl⟩
theorem st15 (hdst : o.dst = none) (h13 : ∃ e ∈ o.after, Region.binds .any e = true ∧ e.on = 13) (hrun : (execOp fin.eval o).run Try.prog (S1 w g i B) = .ok .skip (S2 w g i j A B)) : dn.Step Try.prog fin (C w g i j A B) 15 o := by
  intro L W hdp h0 hC
  refine ⟨undef, (fun d hd => by rw [hdst] at hd; cases hd), ?_⟩
  obtain ⟨e13, m13, b13, o13⟩ := h13
  have l13 := hdp e13 m13 b13
  rw [o13] at l13
  obtain ⟨c1, c2, c3⟩ := hC
  rw [h0, l13] at c3
  have c3 : W = S1 w g i B := c3
  subst c3
  rw [hrun]
  refine ⟨rfl, ?_⟩
  unfold C
  rw [more_on, more_off L (show 13 ≠ 15 by decide), more_off L (show 7 ≠ 15 by decide), more_off L (show 11 ≠ 15 by decide), l13]
  exact ⟨fun _ => c1 l13, fun _ => rfl, rfl⟩
end
def ws (g n cap i j : Nat) (A B : flM.Ms) : List (Nat × Value) :=
  [(6, .slice (some ⟨g, 0, none⟩) n cap), (7, .int .i64 i), (8, .slice (some ⟨g, 0, none⟩) n cap), (9, .int .i64 j), (10, .slice (some ⟨g, 0, none⟩) n cap), (11, .int .i64 j), (12, .pointer (some ⟨g, j * 5, none⟩)), (13, .agg #[.int .i64 B.q, .string B.x, .string B.k, .string B.b, .bool B.a]),
   (14, .slice (some ⟨g, 0, none⟩) n cap), (15, .int .i64 i), (16, .pointer (some ⟨g, i * 5, none⟩)), (17, .agg #[.int .i64 A.q, .string A.x, .string A.k, .string A.b, .bool A.a]), (18, .pointer (some ⟨g, i * 5, none⟩)), (19, .pointer (some ⟨g, j * 5, none⟩))]

set_option maxRecDepth 100000 in
set_option maxHeartbeats 4000000 in
theorem swap_run (g n cap i j : Nat) (cur : Array Value) (A B : flM.Ms) (w : World) (hi : i < n) (hj : j < n) (hn : n * 5 ≤ cur.size) (hb : w.heap[g]? = some (.cells cur 41 (0, 0))) (hA : qit.At w g i A) (hB : qit.At w g j B) :
    Calls Try.prog 113 #[.slice (some ⟨g, 0, none⟩) n cap, .int .i64 i, .int .i64 j] w fun r w' => r = .returned (.tuple #[]) ∧ w' = S2 w.drew g i j A B := by
  obtain ⟨X, hX⟩ : ∃ X, w.drew = X := ⟨_, rfl⟩
  have a0 : X.cell? ⟨g, i * 5, none⟩ = some (.int .i64 A.q) := by rw [← hX]; exact hA.c0
  have a1 : X.cell? ⟨g, i * 5 + 1, none⟩ = some (.string A.x) := by rw [← hX]; exact hA.c1
  have a2 : X.cell? ⟨g, i * 5 + 2, none⟩ = some (.string A.k) := by rw [← hX]; exact hA.c2
  have a3 : X.cell? ⟨g, i * 5 + 3, none⟩ = some (.string A.b) := by rw [← hX]; exact hA.c3
  have a4 : X.cell? ⟨g, i * 5 + 4, none⟩ = some (.bool A.a) := by rw [← hX]; exact hA.c4
  have b0 : X.cell? ⟨g, j * 5, none⟩ = some (.int .i64 B.q) := by rw [← hX]; exact hB.c0
  have b1 : X.cell? ⟨g, j * 5 + 1, none⟩ = some (.string B.x) := by rw [← hX]; exact hB.c1
  have b2 : X.cell? ⟨g, j * 5 + 2, none⟩ = some (.string B.k) := by rw [← hX]; exact hB.c2
  have b3 : X.cell? ⟨g, j * 5 + 3, none⟩ = some (.string B.b) := by rw [← hX]; exact hB.c3
  have b4 : X.cell? ⟨g, j * 5 + 4, none⟩ = some (.bool B.a) := by rw [← hX]; exact hB.c4
  have hbd : X.heap[g]? = some (.cells cur 41 (0, 0)) := by rw [← hX]; exact hb
  have af : ∀ k, X.frozen? ⟨g, k, none⟩ = false := fun k => bfree hbd k
  obtain ⟨Y, hY⟩ : ∃ Y, S1 X g i B = Y := ⟨_, rfl⟩
  have hb1 : (S1 X g i B).heap[g]? = some (.cells _ 41 (0, 0)) := bset (bset (bset (bset (bset hbd _ _) _ _) _ _) _ _) _ _
  obtain ⟨u0, d0⟩ : ∃ u, (S1 X g i B).cell? ⟨g, j * 5, none⟩ = some u := ⟨_, bcell hb1 (Array.getElem?_eq_getElem (by simp; omega))⟩
  obtain ⟨u1, d1⟩ : ∃ u, (S1 X g i B).cell? ⟨g, j * 5 + 1, none⟩ = some u := ⟨_, bcell hb1 (Array.getElem?_eq_getElem (by simp; omega))⟩
  obtain ⟨u2, d2⟩ : ∃ u, (S1 X g i B).cell? ⟨g, j * 5 + 2, none⟩ = some u := ⟨_, bcell hb1 (Array.getElem?_eq_getElem (by simp; omega))⟩
  obtain ⟨u3, d3⟩ : ∃ u, (S1 X g i B).cell? ⟨g, j * 5 + 3, none⟩ = some u := ⟨_, bcell hb1 (Array.getElem?_eq_getElem (by simp; omega))⟩
  obtain ⟨u4, d4⟩ : ∃ u, (S1 X g i B).cell? ⟨g, j * 5 + 4, none⟩ = some u := ⟨_, bcell hb1 (Array.getElem?_eq_getElem (by simp; omega))⟩
  have df : ∀ k, (S1 X g i B).frozen? ⟨g, k, none⟩ = false := fun k => bfree hb1 k
  rw [hY] at d0 d1 d2 d3 d4 df
  have hS2 : S2 X g i j A B = lay Y g j A := by rw [← hY]; rfl
  have an : (i : Int) < (n : Int) := by omega
  have bn : (j : Int) < (n : Int) := by omega
  clear hA hB hb hbd hb1 hn
  rw [hX]
  go_enter Try.func113, Try.ntmps113
  refine dk.region_sets (ws g n cap i j A B) [6, 7, 8, 9, 10, 11, 12, 13, 14, 15, 16, 17, 18, 19] (C X g i j A B) (by kernel_rfl) (by kernel_rfl) rfl (by kernel_rfl) ⟨fun h => (by cases h), fun h => (by cases h), hX⟩ ?each ?fin
  case each =>
    refine ⟨qt (by decide) (.slice (some ⟨g, 0, none⟩) n cap) (by rintro _ ⟨⟩; exact dk.sets_on _ (by simp) _ rfl) (fun W h => by simp [execOp, go_sem, Act.eval, dk.sets_get, ws, List.lookup]), ?_⟩
    refine ⟨qt (by decide) (.int .i64 i) (by rintro _ ⟨⟩; exact dk.sets_on _ (by simp) _ rfl) (fun W h => by simp [execOp, go_sem, Act.eval, dk.sets_get, ws, List.lookup]), ?_⟩
    refine ⟨qt (by decide) (.slice (some ⟨g, 0, none⟩) n cap) (by rintro _ ⟨⟩; exact dk.sets_on _ (by simp) _ rfl) (fun W h => by simp [execOp, go_sem, Act.eval, dk.sets_get, ws, List.lookup]), ?_⟩
    refine ⟨qt (by decide) (.int .i64 j) (by rintro _ ⟨⟩; exact dk.sets_on _ (by simp) _ rfl) (fun W h => by simp [execOp, go_sem, Act.eval, dk.sets_get, ws, List.lookup]), ?_⟩
    refine ⟨qt (by decide) (.slice (some ⟨g, 0, none⟩) n cap) (by rintro _ ⟨⟩; exact dk.sets_on _ (by simp) _ rfl) (fun W h => by simp [execOp, go_sem, Act.eval, dk.sets_get, ws, List.lookup]), ?_⟩
    refine ⟨qt (by decide) (.int .i64 j) (by rintro _ ⟨⟩; exact dk.sets_on _ (by simp) _ rfl) (fun W h => by simp [execOp, go_sem, Act.eval, dk.sets_get, ws, List.lookup]), ?_⟩
    refine ⟨qt (by decide) (.pointer (some ⟨g, j * 5, none⟩)) (by rintro _ ⟨⟩; exact dk.sets_on _ (by simp) _ rfl) (fun W h => by simp [execOp, go_sem, Act.eval, dk.sets_get, ws, List.lookup, bn]), ?_⟩
    refine ⟨ld7 (.agg #[.int .i64 B.q, .string B.x, .string B.k, .string B.b, .bool B.a]) (by rintro _ ⟨⟩; exact dk.sets_on _ (by simp) _ rfl) (by simp [execOp, go_sem, Act.eval, dk.sets_get, ws, List.lookup, b0, b1, b2, b3, b4]), ?_⟩
    refine ⟨qt (by decide) (.slice (some ⟨g, 0, none⟩) n cap) (by rintro _ ⟨⟩; exact dk.sets_on _ (by simp) _ rfl) (fun W h => by simp [execOp, go_sem, Act.eval, dk.sets_get, ws, List.lookup]), ?_⟩
    refine ⟨qt (by decide) (.int .i64 i) (by rintro _ ⟨⟩; exact dk.sets_on _ (by simp) _ rfl) (fun W h => by simp [execOp, go_sem, Act.eval, dk.sets_get, ws, List.lookup]), ?_⟩
    refine ⟨qt (by decide) (.pointer (some ⟨g, i * 5, none⟩)) (by rintro _ ⟨⟩; exact dk.sets_on _ (by simp) _ rfl) (fun W h => by simp [execOp, go_sem, Act.eval, dk.sets_get, ws, List.lookup, an]), ?_⟩
    refine ⟨ld11 (.agg #[.int .i64 A.q, .string A.x, .string A.k, .string A.b, .bool A.a]) (by rintro _ ⟨⟩; exact dk.sets_on _ (by simp) _ rfl) (by simp [execOp, go_sem, Act.eval, dk.sets_get, ws, List.lookup, a0, a1, a2, a3, a4]), ?_⟩
    refine ⟨qt (by decide) (.pointer (some ⟨g, i * 5, none⟩)) (by rintro _ ⟨⟩; exact dk.sets_on _ (by simp) _ rfl) (fun W h => by simp [execOp, go_sem, Act.eval, dk.sets_get, ws, List.lookup, an]), ?_⟩
    refine ⟨st13 rfl ⟨⟨7, .data⟩, by simp, rfl, rfl⟩ ⟨⟨11, .phase⟩, by simp, rfl, rfl⟩ (by simp [execOp, go_sem, Act.eval, dk.sets_get, ws, List.lookup, a0, a1, a2, a3, a4, af, S1, lay]), ?_⟩
    refine ⟨qt (by decide) (.pointer (some ⟨g, j * 5, none⟩)) (by rintro _ ⟨⟩; exact dk.sets_on _ (by simp) _ rfl) (fun W h => by simp [execOp, go_sem, Act.eval, dk.sets_get, ws, List.lookup, bn]), ?_⟩
    exact ⟨st15 rfl ⟨⟨13, .chain⟩, by simp, rfl, rfl⟩ (by rw [hS2, hY]; simp [execOp, go_sem, Act.eval, dk.sets_get, ws, List.lookup, d0, d1, d2, d3, d4, df, lay]), trivial⟩
  case fin =>
    intro L W hL hC
    obtain ⟨_, _, c3⟩ := hC
    rw [hL 13 (by decide), hL 15 (by decide)] at c3
    have c3 : W = S2 X g i j A B := c3
    subst c3
    clear hL
    go_end0
    exact ⟨rfl, rfl⟩
end Go.Proofs.Ytnlcmheahihlpaa.qsw

/- A heap of messages in memory: its box, its row, its methods, two of its messages changing places. -/
namespace Go.Proofs.Ytnlcmheahihlpaa.qst
open Go.ChangeShapes Go.WideShapes Go.ChangeAt Go.RowKit Go.Proofs.Ytnlcmheahihlpaa.fl Go.Proofs.Ytnlcmheahihlpaa.qit
set_option linter.unusedVariables false

/-- the row g holds the messages L, with room for cap -/
def HR (w : World) (g cap : Nat) (L : List flM.Ms) : Prop :=
  ∃ cur, w.heap[g]? = some (.cells cur 41 (0, 0)) ∧ cur.size = cap * 5 ∧ L.length ≤ cap ∧ cap ≤ maxLen ∧ ∀ (i : Nat) (r : flM.Ms), L[i]? = some r → ∀ (j : Nat) (v : Value), (flM.c r)[j]? = some v → cur[i * 5 + j]? = some v
/-- a heap's box hb and its row g, beside the world W0 in which its messages lie -/
structure SG (W0 : World) (hb : Nat) (Q : qit.Qx) (g cap : Nat) (L : List flM.Ms) (w : World) : Prop where
  bel : Below W0.heap.size W0 w
  hbB : W0.heap.size ≤ hb
  gB : W0.heap.size ≤ g
  ne : g ≠ hb
  box : w.heap[hb]? = some (.cells #[.slice (some ⟨g, 0, none⟩) L.length cap, .string Q.nm, .int .i64 Q.nx, .slice Q.ha Q.hn Q.hc] 82 (0, 0))
  row : HR w g cap L
  fits : ∀ r ∈ L, Fits W0 W0.heap.size r
/-- nothing but the block g is turned; new memory besides -/
structure Kp (g : Nat) (w w' : World) : Prop where
  os : w'.os = w.os
  tape : w'.tape = w.tape
  output : w'.output = w.output
  size : w.heap.size ≤ w'.heap.size
  block : ∀ k, k < w.heap.size → k ≠ g → w'.heap[k]? = w.heap[k]?
theorem Kp.refl (g : Nat) (w : World) : Kp g w w := ⟨rfl, rfl, rfl, Nat.le_refl _, fun _ _ _ => rfl⟩
theorem Kp.trans {g : Nat} {a b c : World} (h1 : Kp g a b) (h2 : Kp g b c) : Kp g a c :=
  ⟨h2.os.trans h1.os, h2.tape.trans h1.tape, h2.output.trans h1.output, Nat.le_trans h1.size h2.size, fun k hk hne => (h2.block k (Nat.lt_of_lt_of_le hk h1.size) hne).trans (h1.block k hk hne)⟩
theorem Kp.of {g : Nat} {a b : World} (h : Below a.heap.size a b) : Kp g a b := ⟨h.os, h.tape, h.output, h.size, fun k hk _ => h.block k hk⟩

theorem meth_val (n : Nat) (nm : String) (f : FuncId) (hb : Nat) (v : Value) (w : World) (hf : (Try.prog.info? 47).map (fun i => (i.methods.find? (·.name == nm)).map (fun m => (m.path.toList, m.func))) = some (some ([⟨82, 0, true⟩], some (f, false)))) (h : w.cell? ⟨hb, 0, none⟩ = some v) :
    (method (n + 1) 47 (.pointer (some ⟨hb, 0, none⟩)) nm).run Try.prog w = .ok (f, v) w := by
  obtain ⟨I, hI, h1⟩ := Option.map_eq_some_iff.1 hf
  obtain ⟨m, hm, h2⟩ := Option.map_eq_some_iff.1 h1
  simp only [Prod.mk.injEq] at h2
  obtain ⟨p1, p2⟩ := h2
  obtain ⟨i0, hi0, hz0⟩ := Option.map_eq_some_iff.1 (show (Try.prog.info? 80).map (·.size) = some 1 by kernel_rfl)
  simp [method, typeInfo, hI, hm, p1, p2, follow, underlying, Try.underlying82, Try.underlying80, Place.get, asAddr, fieldPlace, receiverAt, sizeOf, Result.andThen, go_sem, Addr.add, hi0, hz0, h]
theorem meth_less (hb : Nat) (v : Value) (w : World) (h : w.cell? ⟨hb, 0, none⟩ = some v) : (method 248 47 (.pointer (some ⟨hb, 0, none⟩)) "Less").run Try.prog w = .ok (110, v) w := meth_val 247 "Less" _ hb v w (by kernel_rfl) h
theorem meth_swap (hb : Nat) (v : Value) (w : World) (h : w.cell? ⟨hb, 0, none⟩ = some v) : (method 248 47 (.pointer (some ⟨hb, 0, none⟩)) "Swap").run Try.prog w = .ok (113, v) w := meth_val 247 "Swap" _ hb v w (by kernel_rfl) h
theorem meth_len (hb : Nat) (v : Value) (w : World) (h : w.cell? ⟨hb, 0, none⟩ = some v) : (method 248 47 (.pointer (some ⟨hb, 0, none⟩)) "Len").run Try.prog w = .ok (57, v) w := meth_val 247 "Len" _ hb v w (by kernel_rfl) h
theorem meth_pop (hb : Nat) (w : World) : (method 248 47 (.pointer (some ⟨hb, 0, none⟩)) "Pop").run Try.prog w = .ok (111, .pointer (some ⟨hb, 0, none⟩)) w := by kernel_rfl
theorem meth_push (hb : Nat) (w : World) : (method 248 47 (.pointer (some ⟨hb, 0, none⟩)) "Push").run Try.prog w = .ok (112, .pointer (some ⟨hb, 0, none⟩)) w := by kernel_rfl
theorem HR.at {w : World} {g cap i : Nat} {L : List flM.Ms} {r : flM.Ms} (h : HR w g cap L) (hi : L[i]? = some r) : qit.At w g i r := by
  obtain ⟨cur, h1, _, _, _, h5⟩ := h
  exact ⟨(Array.getElem?_eq_some_iff.1 h1).1, by have := bcell (j := i * 5) h1 (h5 i r hi 0 _ rfl); exact this, bcell (j := i * 5 + 1) h1 (h5 i r hi 1 _ rfl), bcell (j := i * 5 + 2) h1 (h5 i r hi 2 _ rfl), bcell (j := i * 5 + 3) h1 (h5 i r hi 3 _ rfl), bcell (j := i * 5 + 4) h1 (h5 i r hi 4 _ rfl)⟩
theorem HR.below {w w' : World} {g cap : Nat} {L : List flM.Ms} (h : HR w g cap L) (hb : w'.heap[g]? = w.heap[g]?) : HR w' g cap L := by
  obtain ⟨cur, h1, h2⟩ := h
  exact ⟨cur, hb.trans h1, h2⟩
theorem SG.on {W0 : World} {Q : qit.Qx} {hb g cap : Nat} {L : List flM.Ms} {w w' : World} (h : SG W0 hb Q g cap L w) (hb' : Below w.heap.size w w') : SG W0 hb Q g cap L w' := by
  obtain ⟨cur, h1, h2⟩ := h.row
  exact ⟨h.bel.trans (hb'.mono h.bel.size), h.hbB, h.gB, h.ne, (hb'.block hb (Array.getElem?_eq_some_iff.1 h.box).1).trans h.box, ⟨cur, (hb'.block g (Array.getElem?_eq_some_iff.1 h1).1).trans h1, h2⟩, h.fits⟩
theorem SG.fit {W0 : World} {Q : qit.Qx} {hb g cap : Nat} {L : List flM.Ms} {w : World} (h : SG W0 hb Q g cap L w) {i : Nat} {r : flM.Ms} (hi : L[i]? = some r) : Fits w w.heap.size r := trivial
theorem lay_row (w : World) (g i : Nat) (r : flM.Ms) : qsw.lay w g i r = fl.setRow w g (i * 5) (flM.c r) := rfl
theorem swap_heap {X : World} {g i j : Nat} {A B : flM.Ms} {cur : Array Value} (hb : X.heap[g]? = some (.cells cur 41 (0, 0))) : (qsw.S2 X g i j A B).heap[g]? = some (.cells (fl.setArr (fl.setArr cur (i * 5) (flM.c B)) (j * 5) (flM.c A)) 41 (0, 0)) := by
  unfold qsw.S2 qsw.S1
  rw [lay_row, lay_row]
  exact fl.setRow_heap _ _ _ _ (fl.setRow_heap _ _ _ _ hb)
theorem off_heap {X : World} {g i j k : Nat} {A B : flM.Ms} (h : k ≠ g) : (qsw.S2 X g i j A B).heap[k]? = X.heap[k]? := by
  unfold qsw.S2 qsw.S1 qsw.lay
  rw [Below.heap_setCell _ _ _ k h, Below.heap_setCell _ _ _ k h, Below.heap_setCell _ _ _ k h, Below.heap_setCell _ _ _ k h, Below.heap_setCell _ _ _ k h, Below.heap_setCell _ _ _ k h, Below.heap_setCell _ _ _ k h, Below.heap_setCell _ _ _ k h, Below.heap_setCell _ _ _ k h, Below.heap_setCell _ _ _ k h]
theorem setArr_out (vs : List Value) : ∀ (cur : Array Value) (o p : Nat), (p < o ∨ o + vs.length ≤ p) → (fl.setArr cur o vs)[p]? = cur[p]? := by
  induction vs with
  | nil => intro cur o p _; rfl
  | cons u r ih =>
    intro cur o p h
    simp at h
    rw [fl.setArr, ih _ _ _ (by omega), Array.getElem?_setIfInBounds_ne (by omega)]
theorem SG.swap {W0 : World} {Q : qit.Qx} {hb g cap i j : Nat} {L : List flM.Ms} {w : World} {A B : flM.Ms} (h : SG W0 hb Q g cap L w) (hi : L[i]? = some A) (hj : L[j]? = some B) : SG W0 hb Q g cap (hp.sw L i j) (qsw.S2 w.drew g i j A B) ∧ Kp g w (qsw.S2 w.drew g i j A B) := by
  obtain ⟨cur, h1, h2, h3, h4, h5⟩ := h.row
  have hil := (List.getElem?_eq_some_iff.1 hi).1
  have hjl := (List.getElem?_eq_some_iff.1 hj).1
  have h1d : w.drew.heap[g]? = some (.cells cur 41 (0, 0)) := h1
  have hk : Kp g w (qsw.S2 w.drew g i j A B) := by
    have h0 : Below 0 w.drew (qsw.S2 w.drew g i j A B) := by
      unfold qsw.S2 qsw.S1
      rw [lay_row, lay_row]
      exact (fl.setRow_below _ _ _ (Nat.zero_le _)).trans (fl.setRow_below _ _ _ (Nat.zero_le _))
    refine ⟨h0.os, h0.tape, h0.output, h0.size, fun k hk hne => ?_⟩
    exact off_heap hne
  have hgB := h.gB
  have hsz := h.bel.size
  have hbl := (Array.getElem?_eq_some_iff.1 h.box).1
  refine ⟨⟨⟨hk.os.trans h.bel.os, hk.tape.trans h.bel.tape, hk.output.trans h.bel.output, Nat.le_trans hsz hk.size, fun k hkk => (hk.block k (by omega) (by omega)).trans (h.bel.block k hkk)⟩, h.hbB, h.gB, h.ne, ?_, ⟨_, swap_heap h1d, by rw [fl.setArr_size, fl.setArr_size]; exact h2, by rw [hp.sw_len]; exact h3, h4, ?_⟩, fun r hr => h.fits r ((hp.sw_perm hi hj).mem_iff.1 hr)⟩, hk⟩
  · rw [hp.sw_len]
    exact (hk.block hb hbl (Ne.symm h.ne)).trans h.box
  · intro k r hk' q v hv
    rw [hp.sw_at hi hj] at hk'
    have hq : q < 5 := by have := (List.getElem?_eq_some_iff.1 hv).1; rwa [flM.c_len] at this
    have hlc : ∀ e, (flM.c e).length = 5 := flM.c_len
    by_cases e1 : k = j
    · subst e1
      rw [if_pos rfl] at hk'
      cases hk'
      exact fl.setArr_on _ _ _ _ _ hv (by rw [fl.setArr_size, hlc]; omega)
    · rw [if_neg e1] at hk'
      rw [setArr_out _ _ _ _ (by rw [hlc]; omega)]
      by_cases e2 : k = i
      · subst e2
        rw [if_pos rfl] at hk'
        cases hk'
        exact fl.setArr_on _ _ _ _ _ hv (by rw [hlc]; omega)
      · rw [if_neg e2] at hk'
        rw [setArr_out _ _ _ _ (by rw [hlc]; omega)]
        exact h5 k r hk' q v hv
end Go.Proofs.Ytnlcmheahihlpaa.qst
