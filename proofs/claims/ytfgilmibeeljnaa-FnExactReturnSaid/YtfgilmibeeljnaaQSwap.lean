/- Two of a heap's messages change their places. -/
import Derived.Test.YtfgilmibeeljnaaQItems
namespace Go.Proofs.Ytfgilmibeeljnaa.qsw
open Go.ChangeShapes Go.WideShapes Go.ChangeAt Go.RowKit Go.Proofs.Ytfgilmibeeljnaa.fl Go.Proofs.Ytfgilmibeeljnaa.qit
set_option linter.unusedVariables false

/-- one message laid at place i of the row g -/
def lay (w : World) (g i : Nat) (r : flM.Ms) : World := ((((w.setCell ⟨g, i * 5, none⟩ (.int .i64 r.q)).setCell ⟨g, i * 5 + 1, none⟩ (.string r.x)).setCell ⟨g, i * 5 + 2, none⟩ (.string r.k)).setCell ⟨g, i * 5 + 3, none⟩ (.string r.b)).setCell ⟨g, i * 5 + 4, none⟩ (.bool r.a)
def S1 (X : World) (g i : Nat) (B : flM.Ms) : World := lay X g i B
def S2 (X : World) (g i j : Nat) (A B : flM.Ms) : World := lay (S1 X g i B) g j A
def ST (w : World) (g i j : Nat) (A B : flM.Ms) (x y : Bool) : World := if y = true then S2 w g i j A B else if x = true then S1 w g i B else w
def C (w : World) (g i j : Nat) (A B : flM.Ms) (L : Nat → Bool) (W : World) : Prop := (L 13 = true → L 7 = true ∧ L 11 = true) ∧ (L 15 = true → L 13 = true) ∧ W = ST w g i j A B (L 13) (L 15)
theorem more_on (L : Nat → Bool) (i : Nat) : dn.more L i i = true := by unfold dn.more; rw [if_pos rfl]
theorem more_off (L : Nat → Bool) {i j : Nat} (h : j ≠ i) : dn.more L i j = L j := by unfold dn.more; rw [if_neg h]
section
variable {w : World} {g i j : Nat} {A B : flM.Ms} {fin : Act} {o : Oper}
theorem qt {k : Nat} (hk : k ≠ 7 ∧ k ≠ 11 ∧ k ≠ 13 ∧ k ≠ 15) (v : Value) (hd : ∀ d, o.dst = some d → fin.tmps[d]? = some v) (hrun : ∀ (W : World), True → (execOp fin.eval o).run Try.prog W = .ok (.value v) W) : dn.Step Try.prog fin (C w g i j A B) k o := by
  intro L W hdp h0 hC
  refine ⟨v, hd, ?_⟩
  rw [hrun W trivial]
  obtain ⟨k7, k11, k13, k15⟩ := hk
  refine ⟨rfl, ?_⟩
  unfold C
  rw [more_off L k13.symm, more_off L k15.symm, more_off L k7.symm, more_off L k11.symm]
  exact hC
theorem ld7 (v : Value) (hd : ∀ d, o.dst = some d → fin.tmps[d]? = some v) (hrun : (execOp fin.eval o).run Try.prog w = .ok (.value v) w) : dn.Step Try.prog fin (C w g i j A B) 7 o := by
  intro L W hdp h0 hC
  refine ⟨v, hd, ?_⟩
  obtain ⟨c1, c2, c3⟩ := hC
  have n13 : L 13 = false := by
    cases h : L 13 with
    | false => rfl
    | true => have := (c1 h).1; rw [h0] at this; cases this
  have n15 : L 15 = false := by
    cases h : L 15 with
    | false => rfl
    | true => have := c2 h; rw [n13] at this; cases this
  rw [n13, n15] at c3
  have c3 : W = w := c3
  subst c3
  rw [hrun]
  refine ⟨rfl, ?_⟩
  unfold C
  rw [more_off L (show 13 ≠ 7 by decide), more_off L (show 15 ≠ 7 by decide), n13, n15]
  exact ⟨fun h => (by cases h), fun h => (by cases h), rfl⟩
theorem ld11 (v : Value) (hd : ∀ d, o.dst = some d → fin.tmps[d]? = some v) (hrun : (execOp fin.eval o).run Try.prog w = .ok (.value v) w) : dn.Step Try.prog fin (C w g i j A B) 11 o := by
  intro L W hdp h0 hC
  refine ⟨v, hd, ?_⟩
  obtain ⟨c1, c2, c3⟩ := hC
  have n13 : L 13 = false := by
    cases h : L 13 with
    | false => rfl
    | true => have := (c1 h).2; rw [h0] at this; cases this
  have n15 : L 15 = false := by
    cases h : L 15 with
    | false => rfl
    | true => have := c2 h; rw [n13] at this; cases this
  rw [n13, n15] at c3
  have c3 : W = w := c3
  subst c3
  rw [hrun]
  refine ⟨rfl, ?_⟩
  unfold C
  rw [more_off L (show 13 ≠ 11 by decide), more_off L (show 15 ≠ 11 by decide), n13, n15]
  exact ⟨fun h => (by cases h), fun h => (by cases h), rfl⟩
theorem st13 (hdst : o.dst = none) (h7 : ∃ e ∈ o.after, Region.binds .any e = true ∧ e.on = 7) (h11 : ∃ e ∈ o.after, Region.binds .any e = true ∧ e.on = 11) (hrun : (execOp fin.eval o).run Try.prog w = .ok .skip (S1 w g i B)) : dn.Step Try.prog fin (C w g i j A B) 13 o := by
  intro L W hdp h0 hC
  refine ⟨undef, (fun d hd => by rw [hdst] at hd; cases hd), ?_⟩
  obtain ⟨e7, m7, b7, o7⟩ := h7
  obtain ⟨e11, m11, b11, o11⟩ := h11
  have l7 := hdp e7 m7 b7
  have l11 := hdp e11 m11 b11
  rw [o7] at l7
  rw [o11] at l11
  obtain ⟨c1, c2, c3⟩ := hC
  have n15 : L 15 = false := by
    cases h : L 15 with
    | false => rfl
    | true => have := c2 h; rw [h0] at this; cases this
  rw [h0, n15] at c3
  have c3 : W = w := c3
  subst c3
  rw [hrun]
  refine ⟨rfl, ?_⟩
  unfold C
  rw [more_on, more_off L (show 15 ≠ 13 by decide), more_off L (show 7 ≠ 13 by decide), more_off L (show 11 ≠ 13 by decide), n15]
  exact ⟨fun _ => ⟨l7, l11⟩, fun h => (by cases h), rfl⟩
theorem st15 (hdst : o.dst = none) (h13 : ∃ e ∈ o.after, Region.binds .any e = true ∧ e.on = 13) (hrun : (execOp fin.eval o).run Try.prog (S1 w g i B) = .ok .skip (S2 w g i j A B)) : dn.Step Try.prog fin (C w g i j A B) 15 o := by
  intro L W hdp h0 hC
  refine ⟨undef, (fun d hd => by rw [hdst] at hd; cases hd), ?_⟩
  obtain ⟨e13, m13, b13, o13⟩ := h13
  have l13 := hdp e13 m13 b13
  rw [o13] at l13
  obtain ⟨c1, c2, c3⟩ := hC
  rw [h0, l13] at c3
  have c3 : W = S1 w g i B := c3
  subst c3
  rw [hrun]
  refine ⟨rfl, ?_⟩
  unfold C
  rw [more_on, more_off L (show 13 ≠ 15 by decide), more_off L (show 7 ≠ 15 by decide), more_off L (show 11 ≠ 15 by decide), l13]
  exact ⟨fun _ => c1 l13, fun _ => rfl, rfl⟩
end
def ws (g n cap i j : Nat) (A B : flM.Ms) : List (Nat × Value) :=
  [(6, .slice (some ⟨g, 0, none⟩) n cap), (7, .int .i64 i), (8, .slice (some ⟨g, 0, none⟩) n cap), (9, .int .i64 j), (10, .slice (some ⟨g, 0, none⟩) n cap), (11, .int .i64 j), (12, .pointer (some ⟨g, j * 5, none⟩)), (13, .agg #[.int .i64 B.q, .string B.x, .string B.k, .string B.b, .bool B.a]),
   (14, .slice (some ⟨g, 0, none⟩) n cap), (15, .int .i64 i), (16, .pointer (some ⟨g, i * 5, none⟩)), (17, .agg #[.int .i64 A.q, .string A.x, .string A.k, .string A.b, .bool A.a]), (18, .pointer (some ⟨g, i * 5, none⟩)), (19, .pointer (some ⟨g, j * 5, none⟩))]

set_option maxRecDepth 100000 in
set_option maxHeartbeats 4000000 in
theorem swap_run (g n cap i j : Nat) (cur : Array Value) (A B : flM.Ms) (w : World) (hi : i < n) (hj : j < n) (hn : n * 5 ≤ cur.size) (hb : w.heap[g]? = some (.cells cur 38 (0, 0))) (hA : qit.At w g i A) (hB : qit.At w g j B) :
    Calls Try.prog 119 #[.slice (some ⟨g, 0, none⟩) n cap, .int .i64 i, .int .i64 j] w fun r w' => r = .returned (.tuple #[]) ∧ w' = S2 w.drew g i j A B := by
  obtain ⟨X, hX⟩ : ∃ X, w.drew = X := ⟨_, rfl⟩
  have a0 : X.cell? ⟨g, i * 5, none⟩ = some (.int .i64 A.q) := by rw [← hX]; exact hA.c0
  have a1 : X.cell? ⟨g, i * 5 + 1, none⟩ = some (.string A.x) := by rw [← hX]; exact hA.c1
  have a2 : X.cell? ⟨g, i * 5 + 2, none⟩ = some (.string A.k) := by rw [← hX]; exact hA.c2
  have a3 : X.cell? ⟨g, i * 5 + 3, none⟩ = some (.string A.b) := by rw [← hX]; exact hA.c3
  have a4 : X.cell? ⟨g, i * 5 + 4, none⟩ = some (.bool A.a) := by rw [← hX]; exact hA.c4
  have b0 : X.cell? ⟨g, j * 5, none⟩ = some (.int .i64 B.q) := by rw [← hX]; exact hB.c0
  have b1 : X.cell? ⟨g, j * 5 + 1, none⟩ = some (.string B.x) := by rw [← hX]; exact hB.c1
  have b2 : X.cell? ⟨g, j * 5 + 2, none⟩ = some (.string B.k) := by rw [← hX]; exact hB.c2
  have b3 : X.cell? ⟨g, j * 5 + 3, none⟩ = some (.string B.b) := by rw [← hX]; exact hB.c3
  have b4 : X.cell? ⟨g, j * 5 + 4, none⟩ = some (.bool B.a) := by rw [← hX]; exact hB.c4
  have hbd : X.heap[g]? = some (.cells cur 38 (0, 0)) := by rw [← hX]; exact hb
  have af : ∀ k, X.frozen? ⟨g, k, none⟩ = false := fun k => bfree hbd k
  obtain ⟨Y, hY⟩ : ∃ Y, S1 X g i B = Y := ⟨_, rfl⟩
  have hb1 : (S1 X g i B).heap[g]? = some (.cells _ 38 (0, 0)) := bset (bset (bset (bset (bset hbd _ _) _ _) _ _) _ _) _ _
  obtain ⟨u0, d0⟩ : ∃ u, (S1 X g i B).cell? ⟨g, j * 5, none⟩ = some u := ⟨_, bcell hb1 (Array.getElem?_eq_getElem (by simp; omega))⟩
  obtain ⟨u1, d1⟩ : ∃ u, (S1 X g i B).cell? ⟨g, j * 5 + 1, none⟩ = some u := ⟨_, bcell hb1 (Array.getElem?_eq_getElem (by simp; omega))⟩
  obtain ⟨u2, d2⟩ : ∃ u, (S1 X g i B).cell? ⟨g, j * 5 + 2, none⟩ = some u := ⟨_, bcell hb1 (Array.getElem?_eq_getElem (by simp; omega))⟩
  obtain ⟨u3, d3⟩ : ∃ u, (S1 X g i B).cell? ⟨g, j * 5 + 3, none⟩ = some u := ⟨_, bcell hb1 (Array.getElem?_eq_getElem (by simp; omega))⟩
  obtain ⟨u4, d4⟩ : ∃ u, (S1 X g i B).cell? ⟨g, j * 5 + 4, none⟩ = some u := ⟨_, bcell hb1 (Array.getElem?_eq_getElem (by simp; omega))⟩
  have df : ∀ k, (S1 X g i B).frozen? ⟨g, k, none⟩ = false := fun k => bfree hb1 k
  rw [hY] at d0 d1 d2 d3 d4 df
  have hS2 : S2 X g i j A B = lay Y g j A := by rw [← hY]; rfl
  have an : (i : Int) < (n : Int) := by omega
  have bn : (j : Int) < (n : Int) := by omega
  clear hA hB hb hbd hb1 hn
  rw [hX]
  go_enter Try.func119, Try.ntmps119
  refine dk.region_sets (ws g n cap i j A B) [6, 7, 8, 9, 10, 11, 12, 13, 14, 15, 16, 17, 18, 19] (C X g i j A B) (by kernel_rfl) (by kernel_rfl) rfl (by kernel_rfl) ⟨fun h => (by cases h), fun h => (by cases h), hX⟩ ?each ?fin
  case each =>
    refine ⟨qt (by decide) (.slice (some ⟨g, 0, none⟩) n cap) (by rintro _ ⟨⟩; exact dk.sets_on _ (by simp) _ rfl) (fun W h => by simp [execOp, go_sem, Act.eval, dk.sets_get, ws, List.lookup]), ?_⟩
    refine ⟨qt (by decide) (.int .i64 i) (by rintro _ ⟨⟩; exact dk.sets_on _ (by simp) _ rfl) (fun W h => by simp [execOp, go_sem, Act.eval, dk.sets_get, ws, List.lookup]), ?_⟩
    refine ⟨qt (by decide) (.slice (some ⟨g, 0, none⟩) n cap) (by rintro _ ⟨⟩; exact dk.sets_on _ (by simp) _ rfl) (fun W h => by simp [execOp, go_sem, Act.eval, dk.sets_get, ws, List.lookup]), ?_⟩
    refine ⟨qt (by decide) (.int .i64 j) (by rintro _ ⟨⟩; exact dk.sets_on _ (by simp) _ rfl) (fun W h => by simp [execOp, go_sem, Act.eval, dk.sets_get, ws, List.lookup]), ?_⟩
    refine ⟨qt (by decide) (.slice (some ⟨g, 0, none⟩) n cap) (by rintro _ ⟨⟩; exact dk.sets_on _ (by simp) _ rfl) (fun W h => by simp [execOp, go_sem, Act.eval, dk.sets_get, ws, List.lookup]), ?_⟩
    refine ⟨qt (by decide) (.int .i64 j) (by rintro _ ⟨⟩; exact dk.sets_on _ (by simp) _ rfl) (fun W h => by simp [execOp, go_sem, Act.eval, dk.sets_get, ws, List.lookup]), ?_⟩
    refine ⟨qt (by decide) (.pointer (some ⟨g, j * 5, none⟩)) (by rintro _ ⟨⟩; exact dk.sets_on _ (by simp) _ rfl) (fun W h => by simp [execOp, go_sem, Act.eval, dk.sets_get, ws, List.lookup, bn]), ?_⟩
    refine ⟨ld7 (.agg #[.int .i64 B.q, .string B.x, .string B.k, .string B.b, .bool B.a]) (by rintro _ ⟨⟩; exact dk.sets_on _ (by simp) _ rfl) (by simp [execOp, go_sem, Act.eval, dk.sets_get, ws, List.lookup, b0, b1, b2, b3, b4]), ?_⟩
    refine ⟨qt (by decide) (.slice (some ⟨g, 0, none⟩) n cap) (by rintro _ ⟨⟩; exact dk.sets_on _ (by simp) _ rfl) (fun W h => by simp [execOp, go_sem, Act.eval, dk.sets_get, ws, List.lookup]), ?_⟩
    refine ⟨qt (by decide) (.int .i64 i) (by rintro _ ⟨⟩; exact dk.sets_on _ (by simp) _ rfl) (fun W h => by simp [execOp, go_sem, Act.eval, dk.sets_get, ws, List.lookup]), ?_⟩
    refine ⟨qt (by decide) (.pointer (some ⟨g, i * 5, none⟩)) (by rintro _ ⟨⟩; exact dk.sets_on _ (by simp) _ rfl) (fun W h => by simp [execOp, go_sem, Act.eval, dk.sets_get, ws, List.lookup, an]), ?_⟩
    refine ⟨ld11 (.agg #[.int .i64 A.q, .string A.x, .string A.k, .string A.b, .bool A.a]) (by rintro _ ⟨⟩; exact dk.sets_on _ (by simp) _ rfl) (by simp [execOp, go_sem, Act.eval, dk.sets_get, ws, List.lookup, a0, a1, a2, a3, a4]), ?_⟩
    refine ⟨qt (by decide) (.pointer (some ⟨g, i * 5, none⟩)) (by rintro _ ⟨⟩; exact dk.sets_on _ (by simp) _ rfl) (fun W h => by simp [execOp, go_sem, Act.eval, dk.sets_get, ws, List.lookup, an]), ?_⟩
    refine ⟨st13 rfl ⟨⟨7, .data⟩, by simp, rfl, rfl⟩ ⟨⟨11, .phase⟩, by simp, rfl, rfl⟩ (by simp [execOp, go_sem, Act.eval, dk.sets_get, ws, List.lookup, a0, a1, a2, a3, a4, af, S1, lay]), ?_⟩
    refine ⟨qt (by decide) (.pointer (some ⟨g, j * 5, none⟩)) (by rintro _ ⟨⟩; exact dk.sets_on _ (by simp) _ rfl) (fun W h => by simp [execOp, go_sem, Act.eval, dk.sets_get, ws, List.lookup, bn]), ?_⟩
    exact ⟨st15 rfl ⟨⟨13, .chain⟩, by simp, rfl, rfl⟩ (by rw [hS2, hY]; simp [execOp, go_sem, Act.eval, dk.sets_get, ws, List.lookup, d0, d1, d2, d3, d4, df, lay]), trivial⟩
  case fin =>
    intro L W hL hC
    obtain ⟨_, _, c3⟩ := hC
    rw [hL 13 (by decide), hL 15 (by decide)] at c3
    have c3 : W = S2 X g i j A B := c3
    subst c3
    clear hL
    go_end0
    exact ⟨rfl, rfl⟩
end Go.Proofs.Ytfgilmibeeljnaa.qsw
