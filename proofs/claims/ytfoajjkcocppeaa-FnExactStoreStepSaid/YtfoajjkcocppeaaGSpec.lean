/- The specification's TableMerge where the runs' row may be nothing. -/
import Derived.Test.YtfoajjkcocppeaaSpecCopyT
import Derived.Test.YtfoajjkcocppeaaGScan
import Derived.Test.YtfoajjkcocppeaaTabAns
import Derived.Test.YtfoajjkcocppeaaFlushSpec

/- The specification's TableMerge: the region of its loop that copies one run. -/
namespace Go.Proofs.Ytfoajjkcocppeaa.smr
open Go.ChangeShapes Go.WideShapes Go.ChangeAt Go.RowKit Go.Proofs.Ytfoajjkcocppeaa.fl Go.Proofs.Ytfoajjkcocppeaa.fo Go.Proofs.Ytfoajjkcocppeaa.rn Go.Proofs.Ytfoajjkcocppeaa.sct
set_option linter.unusedVariables false

def ws (p : Pm) (s0 b m rc a c j : Nat) (g : G) : List (Nat × Value) := [(64, .pointer (some ⟨p.n3, 1, none⟩)), (65, p.rv), (66, .slice (some ⟨g.e0, 0, none⟩) 0 0), (67, .pointer (some ⟨s0, 1, none⟩)), (68, .slice (some ⟨b, 0, none⟩) m rc), (69, .int .i64 j), (70, .pointer (some ⟨b, j, none⟩)), (71, .slice (some ⟨a, 0, none⟩) p.n c), (72, v1 p g), (73, .slice (some ⟨g.h, 0, none⟩) 1 1), (74, g.v2), (75, .pointer (some ⟨p.n3, 1, none⟩))]
section
variable {p : Pm} {s0 b m rc a c j : Nat} {act : Act} {Q : Exit → Act → World → Prop} {o : Oper}
theorem quiet {i : Nat} (hi : i = 0 ∨ i = 3 ∨ i = 4 ∨ i = 5 ∨ i = 6 ∨ i = 7 ∨ i = 11) (hsel : ∀ cs b, o.op ≠ .select cs b) (u : Value) (hd : ∀ s d, o.dst = some d → (dk.sets act (ws p s0 b m rc a c j s)).tmps[d]? = some u)
    (hrun : ∀ s W, (∀ (b : Nat) (o : Obj), p.W0.heap[b]? = some o → b ≠ p.n3 → p.rv.ownBlock ≠ some b → W.heap[b]? = some o) → (execOp (dk.sets act (ws p s0 b m rc a c j s)).eval o).run Try.prog W = .ok (.value u) W) : gh.Step Try.prog (fun s => dk.sets act (ws p s0 b m rc a c j s)) (C p) Q i o := by
  refine gh.step_val hsel fun s L W hdp h0 hC => ⟨s, u, gh.Agree.refl _ _, hd s, ?_⟩
  rw [hrun s W (fun b o hb hne hr => hC.d.old hb hne hr)]
  refine ⟨rfl, ?_⟩
  unfold C
  rw [more_off L (show 1 ≠ i by omega), more_off L (show 2 ≠ i by omega), more_off L (show 8 ≠ i by omega), more_off L (show 9 ≠ i by omega), more_off L (show 10 ≠ i by omega), more_off L (show 12 ≠ i by omega)]
  exact hC
theorem st1 (hsel : ∀ cs b, o.op ≠ .select cs b) (hd : ∀ s d, o.dst = some d → (dk.sets act (ws p s0 b m rc a c j s)).tmps[d]? = some p.rv)
    (hrun : ∀ s W, W.heap[p.n3]? = some (.cells #[p.f0, p.rv] 32 (0, 0)) → (execOp (dk.sets act (ws p s0 b m rc a c j s)).eval o).run Try.prog W = .ok (.value p.rv) W) : gh.Step Try.prog (fun s => dk.sets act (ws p s0 b m rc a c j s)) (C p) Q 1 o := by
  refine gh.step_val hsel fun s L W hdp h0 hC => ⟨s, p.rv, gh.Agree.refl _ _, hd s, ?_⟩
  have hd := hC.d
  rw [h0] at hd
  have e12 : L 12 = false := by
    have e10 := no101 hd
    rw [e10] at hd
    exact no12 hd
  have ho := hd.out
  rw [e12] at ho
  rw [hrun s W ho]
  refine ⟨rfl, ?_⟩
  unfold C
  rw [more_on, more_off L (show 2 ≠ 1 by omega), more_off L (show 8 ≠ 1 by omega), more_off L (show 9 ≠ 1 by omega), more_off L (show 10 ≠ 1 by omega), more_off L (show 12 ≠ 1 by omega)]
  exact hd.s1
theorem st2 (hA : Ah p) (hsz : 75 < act.tmps.size) (hop : o.op = .buildSlice 29 0 #[]) (hdst : o.dst = some 66) : gh.Step Try.prog (fun s => dk.sets act (ws p s0 b m rc a c j s)) (C p) Q 2 o := by
  refine gh.step_val (by rw [hop]; simp) fun s L W hdp h0 hC => ⟨{ s with e0 := W.heap.size }, .slice (some ⟨W.heap.size, 0, none⟩) 0 0, dk.agree_sets 2 66 _ hdst rfl rfl, (fun d hd => by rw [hdst] at hd; cases hd; exact dk.sets_on _ (by omega) _ rfl), ?_⟩
  have hrun : (execOp (dk.sets act (ws p s0 b m rc a c j s)).eval o).run Try.prog W = .ok (.value (.slice (some ⟨W.heap.size, 0, none⟩) 0 0)) (W.alloc (.cells #[] 63)) := by
    simp [execOp, hop, go_sem]
  rw [hrun]
  refine ⟨rfl, ?_⟩
  have hd := hC.d
  rw [h0] at hd
  unfold C
  rw [more_on, more_off L (show 1 ≠ 2 by omega), more_off L (show 8 ≠ 2 by omega), more_off L (show 9 ≠ 2 by omega), more_off L (show 10 ≠ 2 by omega), more_off L (show 12 ≠ 2 by omega)]
  exact hd.s2 hA
variable {i0 i1 : TypeInfo} {z z1 : Value}
theorem st8 (hA : Ah p) (hi : Try.prog.info? 63 = some i0) (hz : i0.zero = some z) (hn : i0.size = 3) (hb : i0.bytes = 40) (hzs : z.cells.size = 3) (hsz : 75 < act.tmps.size)
    (hop : o.op = .call { callee := .builtin .append, args := #[.tmp 66, .tmp 71], argTypes := #[29, 29] }) (hdst : o.dst = some 72)
    (hlen : p.xs.length = p.n * 3) (hnews : ∀ W, Below p.W0.heap.size p.W0 W → ∀ j u, p.xs[j]? = some u → W.cell? ((⟨a, 0, none⟩ : Addr).add j) = some u) (h1c : ∀ u ∈ p.xs, u.oneCell' = true) (hk : p.n ≤ 1048576)
    (hdep : ∃ e ∈ o.after, Region.binds .any e = true ∧ e.on = 2) : gh.Step Try.prog (fun s => dk.sets act (ws p s0 b m rc a c j s)) (C p) Q 8 o := by
  refine gh.step_val (by rw [hop]; simp) fun s L W hdp h0 hC => ?_
  obtain ⟨xp, mp, yp, zp⟩ := hdep
  have lp := hdp xp mp yp
  rw [zp] at lp
  have hd := hC.d
  rw [h0] at hd
  have hbel : Below p.W0.heap.size p.W0 W := by
    have e9 := no9 hd
    rw [e9] at hd
    have e10 := no10 hd
    rw [e10] at hd
    have e12 := no12 hd
    rw [e12] at hd
    exact hd.below
  have hold := hd.at2 lp rfl
  obtain ⟨v', w', hr, ho, hg, _, hat⟩ := run_append_own_at (P := Try.prog) W p.W0.heap.size 29 o.type 63 i0 z 3 40 Try.underlying29 hi hz hn hb hzs (by omega) _ 0 [] hold ⟨a, 0, none⟩ p.n c p.xs hlen (hnews W hbel) h1c (by unfold maxLen; omega) (by omega) hd.tn.size
  rw [Nat.zero_add, List.nil_append] at ho
  obtain ⟨b', q', rfl⟩ : ∃ b' q', v' = .slice (some ⟨b', 0, none⟩) p.n q' := by
    rcases hat with ha | ha
    · exact ⟨_, form ho ha⟩
    · exact ⟨_, form ho ha⟩
  refine ⟨{ s with b1 := b', q1 := q' }, .slice (some ⟨b', 0, none⟩) p.n q', dk.agree_sets 8 72 _ hdst rfl rfl, (fun d' hd => by rw [hdst] at hd; cases hd; exact dk.sets_on _ (by omega) _ rfl), ?_⟩
  rw [app_run hop (dk.eval_on _ _ (by omega) rfl) (dk.eval_on _ _ (by omega) rfl) hr]
  refine ⟨rfl, ?_⟩
  unfold C
  rw [more_on, more_off L (show 1 ≠ 8 by omega), more_off L (show 2 ≠ 8 by omega), more_off L (show 9 ≠ 8 by omega), more_off L (show 10 ≠ 8 by omega), more_off L (show 12 ≠ 8 by omega)]
  exact hd.s8 hA lp hg ho
theorem st9 (hA : Ah p) (hsz : 75 < act.tmps.size) (hop : o.op = .buildSlice 30 1 #[(0, .tmp 72)]) (hdst : o.dst = some 73) (hdep : ∃ e ∈ o.after, Region.binds .any e = true ∧ e.on = 8) : gh.Step Try.prog (fun s => dk.sets act (ws p s0 b m rc a c j s)) (C p) Q 9 o := by
  refine gh.step_val (by rw [hop]; simp) fun s L W hdp h0 hC => ⟨{ s with h := W.heap.size }, .slice (some ⟨W.heap.size, 0, none⟩) 1 1, dk.agree_sets 9 73 _ hdst rfl rfl, (fun d hd => by rw [hdst] at hd; cases hd; exact dk.sets_on _ (by omega) _ rfl), ?_⟩
  obtain ⟨xp, mp, yp, zp⟩ := hdep
  have lp := hdp xp mp yp
  rw [zp] at lp
  have e25 : (dk.sets act (ws p s0 b m rc a c j s)).tmps[72]? = some (.slice (some ⟨s.b1, 0, none⟩) p.n s.q1) := dk.sets_on _ (by omega) _ rfl
  have hrun : (execOp (dk.sets act (ws p s0 b m rc a c j s)).eval o).run Try.prog W = .ok (.value (.slice (some ⟨W.heap.size, 0, none⟩) 1 1)) (W.alloc (.cells #[v1 p s] 29)) := by
    simp [execOp, hop, go_sem, e25, v1]
  rw [hrun]
  refine ⟨rfl, ?_⟩
  have hd := hC.d
  rw [h0] at hd
  unfold C
  rw [more_on, more_off L (show 1 ≠ 9 by omega), more_off L (show 2 ≠ 9 by omega), more_off L (show 8 ≠ 9 by omega), more_off L (show 10 ≠ 9 by omega), more_off L (show 12 ≠ 9 by omega)]
  exact hd.s9 hA lp
theorem st10 (hA : Ah p) (hi : Try.prog.info? 29 = some i1) (hz : i1.zero = some z1) (hn : i1.size = 1) (hb : i1.bytes = 24) (hzs : z1.cells.size = 1) (hsz : 75 < act.tmps.size)
    (hop : o.op = .call { callee := .builtin .append, args := #[.tmp 65, .tmp 73], argTypes := #[30, 30] }) (hdst : o.dst = some 74) (hk : p.k ≤ 1048576)
    (hdep : ∃ e ∈ o.after, Region.binds .any e = true ∧ e.on = 9) (hdep1 : ∃ e ∈ o.after, Region.binds .any e = true ∧ e.on = 1) : gh.Step Try.prog (fun s => dk.sets act (ws p s0 b m rc a c j s)) (C p) Q 10 o := by
  refine gh.step_val (by rw [hop]; simp) fun s L W hdp h0 hC => ?_
  obtain ⟨xp, mp, yp, zp⟩ := hdep
  have lp := hdp xp mp yp
  rw [zp] at lp
  obtain ⟨xq, mq, yq, zq⟩ := hdep1
  have lq := hdp xq mq yq
  rw [zq] at lq
  have hd := hC.d
  rw [h0] at hd
  have hbel : Below p.W0.heap.size p.W0 W := by
    have e12 := no12 hd
    rw [e12] at hd
    exact hd.below
  have hcell := (hd.at9 lp).2 rfl
  have hold : W.ownsRow p.B 29 1 p.rv p.k p.ys := hA.runs.kept (row := none) ⟨hbel.os, hbel.tape, hbel.output, hbel.size, fun k hk _ => hbel.block k hk⟩ (by cases p.rv.ownBlock <;> simp)
  have hnews : ∀ j u, [v1 p s][j]? = some u → W.cell? ((⟨s.h, 0, none⟩ : Addr).add j) = some u := fun j u hu => by
    rw [add0]
    exact bcell hcell (by simpa using hu)
  obtain ⟨v', w', hr, ho, hg, _, hat⟩ := run_append_own_at (P := Try.prog) W p.B 30 o.type 29 i1 z1 1 24 Try.underlying30 hi hz hn hb hzs (by omega) _ p.k p.ys hold ⟨s.h, 0, none⟩ 1 1 [v1 p s] rfl hnews (by intro u hu; simp at hu; subst hu; rfl) (by unfold maxLen; omega) (by omega) (Nat.le_trans hA.sz hd.tn.size)
  refine ⟨{ s with v2 := v' }, v', dk.agree_sets 10 74 _ hdst rfl rfl, (fun d' hd => by rw [hdst] at hd; cases hd; exact dk.sets_on _ (by omega) _ rfl), ?_⟩
  rw [app_run hop (dk.eval_on _ _ (by omega) rfl) (dk.eval_on _ _ (by omega) rfl) hr]
  refine ⟨rfl, ?_⟩
  unfold C
  rw [more_on, more_off L (show 1 ≠ 10 by omega), more_off L (show 2 ≠ 10 by omega), more_off L (show 8 ≠ 10 by omega), more_off L (show 9 ≠ 10 by omega), more_off L (show 12 ≠ 10 by omega)]
  exact hd.s10 hA lp lq hg ho
theorem st12 (hA : Ah p) (hsz : 75 < act.tmps.size) (hsel : ∀ cs b, o.op ≠ .select cs b) (hdst : o.dst = none)
    (hrun : ∀ s W, W.heap[p.n3]? = some (.cells #[p.f0, p.rv] 32 (0, 0)) → (∃ a n c, s.v2 = .slice a n c) → (execOp (dk.sets act (ws p s0 b m rc a c j s)).eval o).run Try.prog W = .ok .skip (W.setCell ⟨p.n3, 1, none⟩ s.v2))
    (hdep : ∃ e ∈ o.after, Region.binds .any e = true ∧ e.on = 10) : gh.Step Try.prog (fun s => dk.sets act (ws p s0 b m rc a c j s)) (C p) Q 12 o := by
  refine gh.step_val hsel fun s L W hdp h0 hC => ⟨s, undef, gh.Agree.refl _ _, (fun d hd => by rw [hdst] at hd; cases hd), ?_⟩
  obtain ⟨xp, mp, yp, zp⟩ := hdep
  have lp := hdp xp mp yp
  rw [zp] at lp
  have hd := hC.d
  rw [h0] at hd
  have hv : ∃ a n c, s.v2 = .slice a n c := by
    obtain ⟨_, ⟨e, _⟩ | ⟨g, cap, cur, e, _⟩⟩ := (hd.at10 lp).2.2
    · exact ⟨_, _, _, e⟩
    · exact ⟨_, _, _, e⟩
  rw [hrun s W hd.out hv]
  refine ⟨rfl, ?_⟩
  unfold C
  rw [more_on, more_off L (show 1 ≠ 12 by omega), more_off L (show 2 ≠ 12 by omega), more_off L (show 8 ≠ 12 by omega), more_off L (show 9 ≠ 12 by omega), more_off L (show 10 ≠ 12 by omega)]
  exact hd.s12 hA lp
end
end Go.Proofs.Ytfoajjkcocppeaa.smr

/- The specification's TableMerge: the region of its loop that puts two runs together. -/
namespace Go.Proofs.Ytfoajjkcocppeaa.smc
open Go.ChangeShapes Go.WideShapes Go.ChangeAt Go.RowKit Go.Proofs.Ytfoajjkcocppeaa.fl Go.Proofs.Ytfoajjkcocppeaa.fo Go.Proofs.Ytfoajjkcocppeaa.rn Go.Proofs.Ytfoajjkcocppeaa.sct
set_option linter.unusedVariables false

/-- what is drawn: the new run, the one run's place, the runs' row behind the append -/
structure G where
  v1 : Value
  h : Nat
  v2 : Value
structure D (p : Pm) (g : G) (c1 c19 c20 c21 c23 : Bool) (W : World) : Prop where
  tn : Tn p.W0 W (fun b => (c21 = true ∧ p.rv.ownBlock = some b) ∨ (c23 = true ∧ b = p.n3))
  out : W.heap[p.n3]? = some (.cells #[p.f0, if c23 then g.v2 else p.rv] 32 (0, 0))
  at19 : c19 = true → W.ownsRow p.W0.heap.size 63 3 g.v1 p.n p.xs
  at20 : c20 = true → c19 = true ∧ (c21 = false → W.heap[g.h]? = some (.cells #[g.v1] 29 (0, 0)))
  at21 : c21 = true → c20 = true ∧ c1 = true ∧ W.ownsRow p.B 29 1 g.v2 (p.k + 1) (p.ys ++ [g.v1])
  at23 : c23 = true → c21 = true
section
variable {p : Pm} {g : G} {c1 c19 c20 c21 c23 : Bool} {W W' : World} {v : Value}
theorem no20 (h : D p g c1 false c20 c21 c23 W) : c20 = false := by
  cases c20 with
  | false => rfl
  | true => have := (h.at20 rfl).1; cases this
theorem no21 (h : D p g c1 c19 false c21 c23 W) : c21 = false := by
  cases c21 with
  | false => rfl
  | true => have := (h.at21 rfl).1; cases this
theorem no211 (h : D p g false c19 c20 c21 c23 W) : c21 = false := by
  cases c21 with
  | false => rfl
  | true => have := (h.at21 rfl).2.1; cases this
theorem no23 (h : D p g c1 c19 c20 false c23 W) : c23 = false := by
  cases c23 with
  | false => rfl
  | true => have := h.at23 rfl; cases this
theorem D.below (h : D p g c1 c19 c20 false false W) : Below p.W0.heap.size p.W0 W := h.tn.below (Nat.le_refl _) (fun k hk => by simp at hk)
theorem D.old (h : D p g c1 c19 c20 c21 c23 W) {b : Nat} {o : Obj} (hb : p.W0.heap[b]? = some o) (hne : b ≠ p.n3) (hr : p.rv.ownBlock ≠ some b) : W.heap[b]? = some o := by
  rw [h.tn.block b (Array.getElem?_eq_some_iff.1 hb).1 (fun e => by rcases e with ⟨_, e⟩ | ⟨_, e⟩ <;> contradiction)]
  exact hb
theorem D.s1 (h : D p g false c19 c20 c21 c23 W) : D p g true c19 c20 c21 c23 W := by
  obtain rfl := no211 h
  exact ⟨h.tn, h.out, h.at19, h.at20, fun e => (by cases e), h.at23⟩
theorem D.s19 (h : D p g c1 false c20 c21 c23 W) (hA : Ah p) (hb : Below W.heap.size W W') (ho : W'.ownsRow p.W0.heap.size 63 3 v p.n p.xs) : D p { g with v1 := v } c1 true c20 c21 c23 W' := by
  obtain rfl := no20 h
  obtain rfl := no21 h
  obtain rfl := no23 h
  have hl := hA.lt
  have hs := h.tn.size
  exact ⟨⟨hb.os.trans h.tn.os, hb.tape.trans h.tn.tape, hb.output.trans h.tn.output, Nat.le_trans hs hb.size, fun k hk hS => (hb.block k (by omega)).trans (h.tn.block k hk hS)⟩, (hb.block _ (by omega)).trans h.out, fun _ => ho, fun e => (by cases e), fun e => (by cases e), fun e => (by cases e)⟩
theorem D.s20 (h : D p g c1 c19 false c21 c23 W) (hA : Ah p) (h19 : c19 = true) : D p { g with h := W.heap.size } c1 c19 true c21 c23 (W.alloc (.cells #[g.v1] 29)) := by
  obtain rfl := no21 h
  obtain rfl := no23 h
  exact ⟨tn_grow h.tn (World.grownBy_alloc W _ none) (fun b e => by cases e), bold h.out _, fun a => (h.at19 a).alloc _, fun _ => ⟨h19, fun _ => bnew W _ _⟩, fun e => (by cases e), fun e => (by cases e)⟩
theorem D.s21 (h : D p g c1 c19 c20 false c23 W) (hA : Ah p) (h20 : c20 = true) (h1 : c1 = true) (hg : W.grownBy W' p.rv.ownBlock) (ho : W'.ownsRow p.B 29 1 v (p.k + 1) (p.ys ++ [g.v1])) : D p { g with v2 := v } c1 c19 c20 true c23 W' := by
  obtain rfl := no23 h
  have h19 := (h.at20 h20).1
  have o19 := h.at19 h19
  have hl := hA.lt
  refine ⟨tn_grow (h.tn.wide (fun k hk => by simp at hk)) hg (fun b e hb => .inl ⟨rfl, e⟩), (hg.block _ (by have := h.tn.size; omega) (fun e => hA.ne e.symm)).trans h.out, fun _ => o19.kept hg ?_, fun _ => ⟨h19, fun e => (by cases e)⟩, fun _ => ⟨h20, h1, ho⟩, fun e => (by cases e)⟩
  cases hv : g.v1.ownBlock with
  | none => exact .inl rfl
  | some b =>
    right
    intro e
    have a1 := (o19.lt b hv).1
    have a2 := hA.small (b := b) (by first | exact e | exact e.symm)
    omega
theorem D.s23 (h : D p g c1 c19 c20 c21 false W) (hA : Ah p) (h21 : c21 = true) : D p g c1 c19 c20 c21 true (W.setCell ⟨p.n3, 1, none⟩ g.v2) := by
  obtain ⟨h20, h1, ho⟩ := h.at21 h21
  have h19 := (h.at20 h20).1
  have o19 := h.at19 h19
  have hl := hA.lt
  have hg : W.grownBy (W.setCell ⟨p.n3, 1, none⟩ g.v2) (some p.n3) := ⟨rfl, rfl, rfl, by simp, fun k hk hne => Below.heap_setCell _ _ _ _ (fun e => hne (by rw [e]))⟩
  refine ⟨tn_grow (h.tn.wide (fun k hk => ?_)) hg (fun b e hb => .inr ⟨rfl, (Option.some.inj e).symm⟩), bset h.out 1 g.v2, fun _ => o19.kept hg ?_, fun _ => ⟨h19, fun e => (by rw [h21] at e; cases e)⟩, fun _ => ⟨h20, h1, ho.kept hg ?_⟩, fun _ => h21⟩
  · rcases hk with hk | ⟨hk, _⟩
    · exact .inl hk
    · cases hk
  · right
    intro e
    have a1 := (o19.lt p.n3 e).1
    omega
  · right
    intro e
    obtain ⟨cur, hc⟩ := typed ho e
    rw [h.out] at hc
    simp at hc
end
def C (p : Pm) (g : G) (L : Nat → Bool) (W : World) : Prop := D p g (L 1) (L 19) (L 20) (L 21) (L 23) W
theorem C.d {p : Pm} {g : G} {L : Nat → Bool} {W : World} (h : C p g L W) : D p g (L 1) (L 19) (L 20) (L 21) (L 23) W := h
def ws (p : Pm) (s0 b m rc j : Nat) (a1 a2 : Option Addr) (l1 l2 c1 c2 : Nat) (last : Bool) (g : G) : List (Nat × Value) := [(37, .pointer (some ⟨p.n3, 1, none⟩)), (38, p.rv), (39, .pointer (some ⟨s0, 1, none⟩)), (40, .slice (some ⟨b, 0, none⟩) m rc), (41, .int .i64 j), (42, .pointer (some ⟨b, j, none⟩)), (43, .slice a1 l1 c1), (44, .pointer (some ⟨s0, 1, none⟩)), (45, .slice (some ⟨b, 0, none⟩) m rc), (46, .int .i64 j), (47, .int .i64 ((j : Int) + 1)), (48, .pointer (some ⟨b, j + 1, none⟩)), (49, .slice a2 l2 c2), (50, .int .i64 j), (51, .int .i64 ((j : Int) + 2)), (52, .pointer (some ⟨s0, 1, none⟩)), (53, .slice (some ⟨b, 0, none⟩) m rc), (54, .int .i64 m), (55, .bool last), (56, g.v1), (57, .slice (some ⟨g.h, 0, none⟩) 1 1), (58, g.v2), (59, .pointer (some ⟨p.n3, 1, none⟩))]
section
variable {p : Pm} {s0 b m rc j l1 l2 c1 c2 : Nat} {a1 a2 : Option Addr} {last : Bool} {act : Act} {Q : Exit → Act → World → Prop} {o : Oper}
theorem quiet {i : Nat} (hi : i = 0 ∨ (2 ≤ i ∧ i ≤ 18) ∨ i = 22) (hsel : ∀ cs b, o.op ≠ .select cs b) (u : Value) (hd : ∀ s d, o.dst = some d → (dk.sets act (ws p s0 b m rc j a1 a2 l1 l2 c1 c2 last s)).tmps[d]? = some u)
    (hrun : ∀ s W, (∀ (b : Nat) (o : Obj), p.W0.heap[b]? = some o → b ≠ p.n3 → p.rv.ownBlock ≠ some b → W.heap[b]? = some o) → (execOp (dk.sets act (ws p s0 b m rc j a1 a2 l1 l2 c1 c2 last s)).eval o).run Try.prog W = .ok (.value u) W) : gh.Step Try.prog (fun s => dk.sets act (ws p s0 b m rc j a1 a2 l1 l2 c1 c2 last s)) (C p) Q i o := by
  refine gh.step_val hsel fun s L W hdp h0 hC => ⟨s, u, gh.Agree.refl _ _, hd s, ?_⟩
  rw [hrun s W (fun b o hb hne hr => hC.d.old hb hne hr)]
  refine ⟨rfl, ?_⟩
  unfold C
  rw [more_off L (show 1 ≠ i by omega), more_off L (show 19 ≠ i by omega), more_off L (show 20 ≠ i by omega), more_off L (show 21 ≠ i by omega), more_off L (show 23 ≠ i by omega)]
  exact hC
theorem st1 (hsel : ∀ cs b, o.op ≠ .select cs b) (hd : ∀ s d, o.dst = some d → (dk.sets act (ws p s0 b m rc j a1 a2 l1 l2 c1 c2 last s)).tmps[d]? = some p.rv)
    (hrun : ∀ s W, W.heap[p.n3]? = some (.cells #[p.f0, p.rv] 32 (0, 0)) → (execOp (dk.sets act (ws p s0 b m rc j a1 a2 l1 l2 c1 c2 last s)).eval o).run Try.prog W = .ok (.value p.rv) W) : gh.Step Try.prog (fun s => dk.sets act (ws p s0 b m rc j a1 a2 l1 l2 c1 c2 last s)) (C p) Q 1 o := by
  refine gh.step_val hsel fun s L W hdp h0 hC => ⟨s, p.rv, gh.Agree.refl _ _, hd s, ?_⟩
  have hd := hC.d
  rw [h0] at hd
  have e23 : L 23 = false := by
    have e21 := no211 hd
    rw [e21] at hd
    exact no23 hd
  have ho := hd.out
  rw [e23] at ho
  rw [hrun s W ho]
  refine ⟨rfl, ?_⟩
  unfold C
  rw [more_on, more_off L (show 19 ≠ 1 by omega), more_off L (show 20 ≠ 1 by omega), more_off L (show 21 ≠ 1 by omega), more_off L (show 23 ≠ 1 by omega)]
  exact hd.s1
/-- an operation that enters a function: what comes back is known only behind it -/
theorem step_call {σ : Type} {P : Program} {fin : σ → Act} {C : σ → (Nat → Bool) → World → Prop} {Q : Exit → Act → World → Prop} {i : Nat} {o : Oper} (hsel : ∀ cs b, o.op ≠ .select cs b) (f : FuncId) (args : Array Value)
    (h : ∀ (s : σ) (L : Nat → Bool) (w : World), (∀ e ∈ o.after, Region.binds .any e = true → L e.on = true) → L i = false → C s L w →
      (execOp (fin s).eval o).run P w = .ok (.enter f args) w ∧ Calls P f args w fun e w' => ∃ s' v, e = .returned v ∧ gh.Agree o (fin s) (fin s') ∧ (∀ d, o.dst = some d → (fin s').tmps[d]? = some v) ∧ C s' (dn.more L i) w') : gh.Step P fin C Q i o := by
  intro s L w a ha hd h0 hC K hK
  obtain ⟨hr, hc⟩ := h s L w hd h0 hC
  unfold Oper.wp
  rw [execOp_congr o hsel ha, hr]
  simp only [Oper.upon]
  exact hc.mono fun e w'' ⟨s', v, he, hag, hv, hD⟩ => by subst he; exact hK s' _ _ hag hv hD
theorem st19 (hA : Ah p) (hsz : 59 < act.tmps.size) (hsel : ∀ cs b, o.op ≠ .select cs b) (hdst : o.dst = some 56) (args : Array Value) (fn : FuncId) (hrun : ∀ s W, (execOp (dk.sets act (ws p s0 b m rc j a1 a2 l1 l2 c1 c2 last s)).eval o).run Try.prog W = .ok (.enter fn args) W)
    (hcall : ∀ W, Below p.W0.heap.size p.W0 W → Calls Try.prog fn args W fun r w' => ∃ v, r = .returned v ∧ w'.ownsRow W.heap.size 63 3 v p.n p.xs ∧ Below W.heap.size W w') : gh.Step Try.prog (fun s => dk.sets act (ws p s0 b m rc j a1 a2 l1 l2 c1 c2 last s)) (C p) Q 19 o := by
  refine step_call hsel fn args fun s L W hdp h0 hC => ⟨hrun s W, ?_⟩
  have hd := hC.d
  rw [h0] at hd
  have hbel : Below p.W0.heap.size p.W0 W := by
    have e20 := no20 hd
    rw [e20] at hd
    have e21 := no21 hd
    rw [e21] at hd
    have e23 := no23 hd
    rw [e23] at hd
    exact hd.below
  refine (hcall W hbel).mono ?_
  rintro r w' ⟨v, rfl, ho, hb⟩
  refine ⟨{ s with v1 := v }, v, rfl, dk.agree_sets 19 56 _ hdst rfl rfl, (fun d' hd => by rw [hdst] at hd; cases hd; exact dk.sets_on _ (by omega) _ rfl), ?_⟩
  unfold C
  rw [more_on, more_off L (show 1 ≠ 19 by omega), more_off L (show 20 ≠ 19 by omega), more_off L (show 21 ≠ 19 by omega), more_off L (show 23 ≠ 19 by omega)]
  exact hd.s19 hA hb (own_low ho hbel.size)
theorem slice_of {w : World} {B n s : Nat} {U : TypeId} {v : Value} {xs : List Value} (h : w.ownsRow B U s v n xs) : ∃ a c, v = .slice a n c := by
  obtain ⟨_, ⟨rfl, h0⟩ | ⟨g', cap, cur, rfl, hB, hg, _⟩⟩ := h
  · exact ⟨none, 0, by rw [h0]⟩
  · exact ⟨_, _, rfl⟩
theorem st20 (hA : Ah p) (hsz : 59 < act.tmps.size) (hop : o.op = .buildSlice 30 1 #[(0, .tmp 56)]) (hdst : o.dst = some 57) (hdep : ∃ e ∈ o.after, Region.binds .any e = true ∧ e.on = 19) : gh.Step Try.prog (fun s => dk.sets act (ws p s0 b m rc j a1 a2 l1 l2 c1 c2 last s)) (C p) Q 20 o := by
  refine gh.step_val (by rw [hop]; simp) fun s L W hdp h0 hC => ⟨{ s with h := W.heap.size }, .slice (some ⟨W.heap.size, 0, none⟩) 1 1, dk.agree_sets 20 57 _ hdst rfl rfl, (fun d hd => by rw [hdst] at hd; cases hd; exact dk.sets_on _ (by omega) _ rfl), ?_⟩
  obtain ⟨xp, mp, yp, zp⟩ := hdep
  have lp := hdp xp mp yp
  rw [zp] at lp
  have hd := hC.d
  rw [h0] at hd
  obtain ⟨va, vc, hv⟩ := slice_of (hd.at19 lp)
  have e25 : (dk.sets act (ws p s0 b m rc j a1 a2 l1 l2 c1 c2 last s)).tmps[56]? = some s.v1 := dk.sets_on _ (by omega) _ rfl
  rw [hv] at e25
  have hrun : (execOp (dk.sets act (ws p s0 b m rc j a1 a2 l1 l2 c1 c2 last s)).eval o).run Try.prog W = .ok (.value (.slice (some ⟨W.heap.size, 0, none⟩) 1 1)) (W.alloc (.cells #[s.v1] 29)) := by
    rw [hv]
    simp [execOp, hop, go_sem, e25]
  rw [hrun]
  refine ⟨rfl, ?_⟩
  unfold C
  rw [more_on, more_off L (show 1 ≠ 20 by omega), more_off L (show 19 ≠ 20 by omega), more_off L (show 21 ≠ 20 by omega), more_off L (show 23 ≠ 20 by omega)]
  exact hd.s20 hA lp
variable {i1 : TypeInfo} {z1 : Value}
theorem st21 (hA : Ah p) (hi : Try.prog.info? 29 = some i1) (hz : i1.zero = some z1) (hn : i1.size = 1) (hb : i1.bytes = 24) (hzs : z1.cells.size = 1) (hsz : 59 < act.tmps.size)
    (hop : o.op = .call { callee := .builtin .append, args := #[.tmp 38, .tmp 57], argTypes := #[30, 30] }) (hdst : o.dst = some 58) (hk : p.k ≤ 1048576)
    (hdep : ∃ e ∈ o.after, Region.binds .any e = true ∧ e.on = 20) (hdep1 : ∃ e ∈ o.after, Region.binds .any e = true ∧ e.on = 1) : gh.Step Try.prog (fun s => dk.sets act (ws p s0 b m rc j a1 a2 l1 l2 c1 c2 last s)) (C p) Q 21 o := by
  refine gh.step_val (by rw [hop]; simp) fun s L W hdp h0 hC => ?_
  obtain ⟨xp, mp, yp, zp⟩ := hdep
  have lp := hdp xp mp yp
  rw [zp] at lp
  obtain ⟨xq, mq, yq, zq⟩ := hdep1
  have lq := hdp xq mq yq
  rw [zq] at lq
  have hd := hC.d
  rw [h0] at hd
  have hbel : Below p.W0.heap.size p.W0 W := by
    have e23 := no23 hd
    rw [e23] at hd
    exact hd.below
  obtain ⟨h19, hc⟩ := hd.at20 lp
  have hcell := hc rfl
  obtain ⟨va, vc, hv⟩ := slice_of (hd.at19 h19)
  have hold : W.ownsRow p.B 29 1 p.rv p.k p.ys := hA.runs.kept (row := none) ⟨hbel.os, hbel.tape, hbel.output, hbel.size, fun k hk _ => hbel.block k hk⟩ (by cases p.rv.ownBlock <;> simp)
  have hnews : ∀ j u, [s.v1][j]? = some u → W.cell? ((⟨s.h, 0, none⟩ : Addr).add j) = some u := fun j u hu => by
    rw [add0]
    exact bcell hcell (by simpa using hu)
  obtain ⟨v', w', hr, ho, hg, _, hat⟩ := run_append_own_at (P := Try.prog) W p.B 30 o.type 29 i1 z1 1 24 Try.underlying30 hi hz hn hb hzs (by omega) _ p.k p.ys hold ⟨s.h, 0, none⟩ 1 1 [s.v1] rfl hnews (by intro u hu; simp at hu; subst hu; rw [hv]; rfl) (by unfold maxLen; omega) (by omega) (Nat.le_trans hA.sz hd.tn.size)
  refine ⟨{ s with v2 := v' }, v', dk.agree_sets 21 58 _ hdst rfl rfl, (fun d' hd => by rw [hdst] at hd; cases hd; exact dk.sets_on _ (by omega) _ rfl), ?_⟩
  rw [app_run hop (dk.eval_on _ _ (by omega) rfl) (dk.eval_on _ _ (by omega) rfl) hr]
  refine ⟨rfl, ?_⟩
  unfold C
  rw [more_on, more_off L (show 1 ≠ 21 by omega), more_off L (show 19 ≠ 21 by omega), more_off L (show 20 ≠ 21 by omega), more_off L (show 23 ≠ 21 by omega)]
  exact hd.s21 hA lp lq hg ho
theorem st23 (hA : Ah p) (hsz : 59 < act.tmps.size) (hsel : ∀ cs b, o.op ≠ .select cs b) (hdst : o.dst = none)
    (hrun : ∀ s W, W.heap[p.n3]? = some (.cells #[p.f0, p.rv] 32 (0, 0)) → (∃ a n c, s.v2 = .slice a n c) → (execOp (dk.sets act (ws p s0 b m rc j a1 a2 l1 l2 c1 c2 last s)).eval o).run Try.prog W = .ok .skip (W.setCell ⟨p.n3, 1, none⟩ s.v2))
    (hdep : ∃ e ∈ o.after, Region.binds .any e = true ∧ e.on = 21) : gh.Step Try.prog (fun s => dk.sets act (ws p s0 b m rc j a1 a2 l1 l2 c1 c2 last s)) (C p) Q 23 o := by
  refine gh.step_val hsel fun s L W hdp h0 hC => ⟨s, undef, gh.Agree.refl _ _, (fun d hd => by rw [hdst] at hd; cases hd), ?_⟩
  obtain ⟨xp, mp, yp, zp⟩ := hdep
  have lp := hdp xp mp yp
  rw [zp] at lp
  have hd := hC.d
  rw [h0] at hd
  obtain ⟨va, vc, hv⟩ := slice_of (hd.at21 lp).2.2
  rw [hrun s W hd.out ⟨_, _, _, hv⟩]
  refine ⟨rfl, ?_⟩
  unfold C
  rw [more_on, more_off L (show 1 ≠ 23 by omega), more_off L (show 19 ≠ 23 by omega), more_off L (show 20 ≠ 23 by omega), more_off L (show 21 ≠ 23 by omega)]
  exact hd.s23 hA lp
/-- nothing is done yet -/
theorem start (p : Pm) (g : G) (hA : Ah p) : C p g (fun _ => false) p.W0.drew :=
  ⟨Tn.of _ (Below.refl _ _).drew, hA.out, fun e => (by cases e), fun e => (by cases e), fun e => (by cases e), fun e => (by cases e)⟩
/-- when all is done -/
theorem done {p : Pm} {g : G} {L : Nat → Bool} {W : World} (hC : C p g L W) (hL : ∀ i, i < 24 → L i = true) :
    Tn p.W0 W (fun b => p.rv.ownBlock = some b ∨ b = p.n3) ∧ W.heap[p.n3]? = some (.cells #[p.f0, g.v2] 32 (0, 0)) ∧ W.ownsRow p.W0.heap.size 63 3 g.v1 p.n p.xs ∧ W.ownsRow p.B 29 1 g.v2 (p.k + 1) (p.ys ++ [g.v1]) := by
  have hd := hC.d
  rw [hL 19 (by omega), hL 21 (by omega), hL 23 (by omega)] at hd
  refine ⟨hd.tn.wide (fun k hk => ?_), hd.out, hd.at19 rfl, (hd.at21 rfl).2.2⟩
  rcases hk with ⟨_, h⟩ | ⟨_, h⟩
  · exact .inl h
  · exact .inr h
end
end Go.Proofs.Ytfoajjkcocppeaa.smc

/- TableMerge: what it answers, on lists; and a table's memory where a run may be nothing. -/
namespace Go.Proofs.Ytfoajjkcocppeaa.mga
open Go.ChangeShapes Go.WideShapes Go.ChangeAt Go.RowKit Go.Proofs.Ytfoajjkcocppeaa.fl Go.Proofs.Ytfoajjkcocppeaa.fo Go.Proofs.Ytfoajjkcocppeaa.rn Go.Proofs.Ytfoajjkcocppeaa.mrR Go.Proofs.Ytfoajjkcocppeaa.mrT Go.Proofs.Ytfoajjkcocppeaa.tan Go.Proofs.Ytfoajjkcocppeaa.tk Go.Proofs.Ytfoajjkcocppeaa.tko Go.Proofs.Ytfoajjkcocppeaa.mgd Go.Proofs.Ytfoajjkcocppeaa.sci
set_option linter.unusedVariables false

theorem is_ex {a b : List flP.Pr} (ha : mgp.Asc a) (hb : mgp.Asc b) : ∀ k, k ≤ a.length → ∃ out, mgp.Is [a.take k, b] out ∧ out.length ≤ b.length + k
  | 0, _ => ⟨b, by rw [List.take_zero]; exact is_start hb, by omega⟩
  | k + 1, h => by
    obtain ⟨out, h1, h2⟩ := is_ex ha hb k (by omega)
    exact ⟨ptp.setP out a[k], mgs.is_over h1 ha (List.getElem?_eq_getElem (by omega)), by have := ptp.setP_le out a[k]; omega⟩
theorem is_nw {a b : List flP.Pr} (ha : mgp.Asc a) (hb : mgp.Asc b) : mgp.Is [a, b] (nwL [a, b]) ∧ (nwL [a, b]).length ≤ a.length + b.length := by
  obtain ⟨out, h1, h2⟩ := is_ex ha hb a.length (Nat.le_refl _)
  rw [List.take_length] at h1
  rw [nwL_eq h1]
  exact ⟨h1, by omega⟩
theorem merged_le {a b : List flP.Pr} (ha : mgp.Asc a) (hb : mgp.Asc b) (last : Bool) : (merged a b last).length ≤ a.length + b.length := Nat.le_trans (List.length_filter_le _ _) (is_nw ha hb).2
theorem merged_no (a b : List flP.Pr) : merged a b false = nwL [a, b] := by
  unfold merged
  rw [List.filter_eq_self]
  intro e _
  simp [kp]
theorem merged_yes (a b : List flP.Pr) : merged a b true = (nwL [a, b]).filter (fun e => !e.g) := by
  unfold merged
  congr 1
  funext e
  simp [kp]
theorem merged_mem {a b : List flP.Pr} (ha : mgp.Asc a) (hb : mgp.Asc b) {last : Bool} {e : flP.Pr} (h : e ∈ merged a b last) : e ∈ a ∨ e ∈ b := by
  have h1 := (List.mem_filter.1 h).1
  obtain ⟨i, l, h2, h3, _⟩ := ((is_nw ha hb).1.2 e).1 h1
  match i, h2 with
  | 0, h2 => simp at h2; subst h2; exact .inl h3
  | 1, h2 => simp at h2; subst h2; exact .inr h3
  | i + 2, h2 => simp at h2
/-- the runs number i and i + 1 as one -/
noncomputable def mrg (R : List (List flP.Pr)) (i : Nat) : List (List flP.Pr) := R.take i ++ merged (R.getD i []) (R.getD (i + 1) []) (decide (i + 2 = R.length)) :: R.drop (i + 2)
noncomputable def inB (R : List (List flP.Pr)) (x : Int) : Bool := decide (0 ≤ x ∧ x + 2 ≤ R.length)
noncomputable def can (ys : List flP.Pr) (R : List (List flP.Pr)) (x : Int) : Bool := okB ys R && (inB R x && okB ys (mrg R x.toNat))
noncomputable def ansY (ys : List flP.Pr) (R : List (List flP.Pr)) (x : Int) : List flP.Pr := ys
noncomputable def ansR (ys : List flP.Pr) (R : List (List flP.Pr)) (x : Int) : List (List flP.Pr) := if can ys R x then mrg R x.toNat else R
theorem tot_app : ∀ (A B : List (List flP.Pr)), tot (A ++ B) = tot A + tot B
  | [], B => by simp [tot, bulk]
  | a :: A, B => by
    have := tot_app A B
    simp only [tot, List.cons_append, bulk] at this ⊢
    omega
theorem tot_cons (a : List flP.Pr) (A : List (List flP.Pr)) : tot (a :: A) = a.length + tot A := rfl
theorem parts {α : Type} {R : List α} {i : Nat} (h : i + 2 ≤ R.length) : R = R.take i ++ R[i]'(by omega) :: R[i + 1]'(by omega) :: R.drop (i + 2) := by
  conv => lhs; rw [← List.take_append_drop i R]
  rw [List.drop_eq_getElem_cons (show i < R.length by omega), List.drop_eq_getElem_cons (show i + 1 < R.length by omega)]
theorem mrg_at {R : List (List flP.Pr)} {i : Nat} (h : i + 2 ≤ R.length) : mrg R i = R.take i ++ merged (R[i]'(by omega)) (R[i + 1]'(by omega)) (decide (i + 2 = R.length)) :: R.drop (i + 2) := by
  unfold mrg
  rw [List.getD_eq_getElem?_getD, List.getD_eq_getElem?_getD, List.getElem?_eq_getElem (show i < R.length by omega), List.getElem?_eq_getElem (show i + 1 < R.length by omega)]
  rfl
theorem mrg_len {R : List (List flP.Pr)} {i : Nat} (h : i + 2 ≤ R.length) : (mrg R i).length = R.length - 1 := by
  rw [mrg_at h]
  simp
  omega
theorem asc_at {ys : List flP.Pr} {R : List (List flP.Pr)} (h : OkT ys R) {i : Nat} {l : List flP.Pr} (hl : R[i]? = some l) : mgp.Asc l := mgp.asc_of (h.ro i l hl).up
theorem mrg_tot {ys : List flP.Pr} {R : List (List flP.Pr)} {i : Nat} (hok : OkT ys R) (h : i + 2 ≤ R.length) : tot (mrg R i) ≤ tot R := by
  have h1 := merged_le (asc_at hok (List.getElem?_eq_getElem (show i < R.length by omega))) (asc_at hok (List.getElem?_eq_getElem (show i + 1 < R.length by omega))) (decide (i + 2 = R.length))
  have h2 := congrArg tot (parts h)
  rw [tot_app, tot_cons, tot_cons] at h2
  rw [mrg_at h, tot_app, tot_cons]
  omega
theorem mrg_fit {ys : List flP.Pr} {R : List (List flP.Pr)} {i : Nat} (hok : OkT ys R) (h : i + 2 ≤ R.length) (hold : ∀ l ∈ R, l.length ≤ 1048576 ∧ ∀ e ∈ l, e.k.size ≤ 1048576 ∧ e.v.size ≤ 1048576) : ∀ l ∈ mrg R i, l.length ≤ 1048576 ∧ ∀ e ∈ l, e.k.size ≤ 1048576 ∧ e.v.size ≤ 1048576 := fun l hl => by
  have g1 := List.getElem?_eq_getElem (show i < R.length by omega)
  have g2 := List.getElem?_eq_getElem (show i + 1 < R.length by omega)
  have ha1 := asc_at hok g1
  have ha2 := asc_at hok g2
  rw [mrg_at h] at hl
  rcases List.mem_append.1 hl with hl | hl
  · exact hold l (List.mem_of_mem_take hl)
  · rcases List.mem_cons.1 hl with rfl | hl
    · refine ⟨?_, fun e he => ?_⟩
      · have := merged_le ha1 ha2 (decide (i + 2 = R.length))
        have := (hok.ro _ _ g1).ll
        have := (hok.ro _ _ g2).ll
        omega
      · rcases merged_mem ha1 ha2 he with h | h
        · exact (hold _ (List.getElem_mem _)).2 e h
        · exact (hold _ (List.getElem_mem _)).2 e h
    · exact hold l (List.mem_of_mem_drop hl)
theorem in_true {R : List (List flP.Pr)} {x : Int} (h : inB R x = true) : 0 ≤ x ∧ x.toNat + 2 ≤ R.length := by
  unfold inB at h
  simp at h
  omega
theorem ans_le (ys : List flP.Pr) (R : List (List flP.Pr)) (x : Int) : tot (ansR ys R x) ≤ ys.length + tot R ∧ (ansY ys R x).length ≤ ys.length + 1 ∧ (ansR ys R x).length ≤ R.length + 1 := by
  unfold ansR ansY
  cases hc : can ys R x with
  | false => simp
  | true =>
    unfold can at hc
    simp only [Bool.and_eq_true] at hc
    obtain ⟨h1, h2, h3⟩ := hc
    have h4 := in_true h2
    have h5 := mrg_tot (okB_true.1 h1) h4.2
    have h6 := mrg_len h4.2
    simp only [if_true]
    omega
theorem ans_no {ys : List flP.Pr} {R : List (List flP.Pr)} {x : Int} (h : can ys R x = false) : ansR ys R x = R := by
  unfold ansR
  rw [h]
  rfl
theorem ans_yes {ys : List flP.Pr} {R : List (List flP.Pr)} {x : Int} (h : can ys R x = true) : ansR ys R x = mrg R x.toNat := by
  unfold ansR
  rw [h]
  rfl
/-- a run in memory: nothing, or a row of its own at or above B -/
def RV (w : World) (B : Nat) (r : Rn) : Prop := r.l = [] ∨ ∃ h, r.a = some ⟨h, 0, none⟩ ∧ B ≤ h ∧ OwnO flP.c 3 63 w h 0 r.l r.l.length
/-- a table is its own where its runs are, and no two of them lie in one place -/
theorem of_runs {w : World} {B : Nat} {fa : Option Addr} {l : List flP.Pr} {rs : List Rn} {g2 : Nat} {cur : Array Value} (hf : MP w B fa l) (hg2 : B ≤ g2) (hty : w.heap[g2]? = some (.cells cur 29 (0, 0))) (hrow : Row cR 1 w w.heap.size (some ⟨g2, 0, none⟩) rs) (hown : ∀ (i : Nat) (r : Rn), rs[i]? = some r → RV w B r) (hnd : ∀ (i j : Nat) (r s : Rn), i < j → rs[i]? = some r → rs[j]? = some s → r.l ≠ [] → s.l ≠ [] → r.a ≠ s.a) (hne : ∀ (i : Nat) (r : Rn), rs[i]? = some r → r.l ≠ [] → ∀ k, blk fa l k → r.a ≠ some ⟨k, 0, none⟩) : TA w B fa (some ⟨g2, 0, none⟩) l rs := by
  have clash : ∀ (h : Nat) (m : Nat × List flP.Pr), OwnO flP.c 3 63 w h m.1 m.2 m.2.length → h ≠ g2 := fun h m ho e => by
    subst e
    obtain ⟨c, hc, _⟩ := ho
    rw [hty] at hc
    simp at hc
  refine ⟨⟨hf, hrow, fun r hr => ?_, fun i j r s hr hs hij k hk1 hk2 => ?_, fun g' o e hn => ?_, fun k hk hb => ?_⟩, fun g' o e => by cases e; exact hg2⟩
  · obtain ⟨i, hi⟩ := List.getElem?_of_mem hr
    rcases hown i r hi with h0 | ⟨h', e, hB', ho'⟩
    · exact .inl h0
    · exact .inr ⟨h', 0, e, hB', ho'⟩
  · obtain ⟨n1, g1, o1, a1, rfl⟩ := hk1
    obtain ⟨n2, g2, o2, a2, b2⟩ := hk2
    obtain ⟨h1, e1, _⟩ := (hown i r hr).resolve_left n1
    obtain ⟨h2, e2, _⟩ := (hown j s hs).resolve_left n2
    rw [e1] at a1
    rw [e2] at a2
    have p1 := congrArg Addr.block (Option.some.inj a1)
    have p2 := congrArg Addr.block (Option.some.inj a2)
    simp only at p1 p2
    have hh : h1 = h2 := by omega
    subst hh
    rcases Nat.lt_or_gt_of_ne hij with hij | hij
    · exact hnd i j r s hij hr hs n1 n2 (by rw [e1, e2])
    · exact hnd j i s r hij hs hr n2 n1 (by rw [e1, e2])
  · cases e
    refine ⟨fun hb => ?_, fun hb => ?_⟩
    · obtain ⟨r, hr, n1, g1, o1, a1, b1⟩ := hb
      obtain ⟨i, hi⟩ := List.getElem?_of_mem hr
      obtain ⟨h', e, hB', ho'⟩ := (hown i r hi).resolve_left n1
      rw [e] at a1
      have p1 := congrArg Addr.block (Option.some.inj a1)
      simp only at p1
      exact clash h' (0, r.l) ho' (by omega)
    · obtain ⟨hl, g1, o1, a1, b1⟩ := hb
      rcases hf with hf | ⟨g3, o3, e3, _, ho3⟩
      · exact hl hf
      · rw [e3] at a1
        have p1 := congrArg Addr.block (Option.some.inj a1)
        simp only at p1
        exact clash g3 (o3, l) ho3 (by omega)
  · obtain ⟨r, hr, n2, g2, o2, a2, b2⟩ := hb
    obtain ⟨i, hi⟩ := List.getElem?_of_mem hr
    obtain ⟨h', e, hB', ho'⟩ := (hown i r hi).resolve_left n2
    rw [e] at a2
    have p2 := congrArg Addr.block (Option.some.inj a2)
    simp only at p2
    exact hne i r hi n2 k hk (by rw [e]; congr 2; omega)
/-- two neighbours of a row of runs -/
theorem two_runs {w : World} {h : Nat} {ks : List Rn} {i : Nat} (hi : i + 2 ≤ ks.length) (hv : VR w w.heap.size (some ⟨h, 0, none⟩) ks) : VR w w.heap.size (some ⟨h, i, none⟩) [ks[i]'(by omega), ks[i + 1]'(by omega)] := by
  refine ⟨?_, fun r hr => ?_⟩
  · rcases hv.1 with h0 | ⟨b, off, hb, hlt, hc⟩
    · rw [h0] at hi; simp at hi
    · cases hb
      refine .inr ⟨h, i, rfl, hlt, fun j e he q v hq => ?_⟩
      have : ks[i + j]? = some e := by
        match j, he with
        | 0, he => simp at he; subst he; exact List.getElem?_eq_getElem (by omega)
        | 1, he => simp at he; subst he; exact List.getElem?_eq_getElem (by omega)
        | j + 2, he => simp at he
      have h2 := hc (i + j) e this q v hq
      rw [show i + j * 1 + q = 0 + (i + j) * 1 + q by omega]
      exact h2
  · simp at hr
    rcases hr with rfl | rfl
    · exact hv.2 _ (List.getElem_mem _)
    · exact hv.2 _ (List.getElem_mem _)
theorem own_owns {α : Type} {c : α → List Value} {n B g : Nat} {U : TypeId} {l : List α} {w : World} (hn : ∀ e, (c e).length = n) (ho : Own c n U w g l l.length) (hB : B ≤ g) (hl : l.length ≤ maxLen) : w.ownsRow B U n (.slice (some ⟨g, 0, none⟩) l.length l.length) l.length (l.flatMap c) := by
  obtain ⟨cur, h1, h2, h3⟩ := ho
  refine ⟨flat_len hn l, .inr ⟨g, l.length, cur, rfl, hB, h1, Nat.le_refl _, hl, h2, ?_⟩⟩
  apply List.ext_getElem?
  intro j
  by_cases hj : j < l.length * n
  · rw [List.getElem?_take_of_lt hj]
    have hj2 : j < (l.flatMap c).length := by rw [flat_len hn]; exact hj
    obtain ⟨u, hu⟩ : ∃ u, (l.flatMap c)[j]? = some u := ⟨_, List.getElem?_eq_getElem hj2⟩
    obtain ⟨i, e, r, k1, k2, k3⟩ := flat_get hn l j _ hu
    rw [hu]
    subst k3
    have := h3 i e (List.getElem?_eq_some_iff.1 k1).1 k1 r _ k2
    simpa using this
  · rw [List.getElem?_eq_none (by rw [List.length_take]; omega), List.getElem?_eq_none (by rw [flat_len hn]; omega)]
theorem owns_ownO {α : Type} {c : α → List Value} {n B g cap : Nat} {U : TypeId} {l : List α} {w : World} (hn : ∀ e, (c e).length = n) (ho : w.ownsRow B U n (.slice (some ⟨g, 0, none⟩) l.length cap) l.length (l.flatMap c)) : OwnO c n U w g 0 l l.length := by
  obtain ⟨_, ⟨h1, _⟩ | ⟨g', cap', cur, h1, h2, h3, h4, h5, h6, h7⟩⟩ := ho
  · cases h1
  cases h1
  refine ⟨cur, h3, by rw [h6, Nat.zero_add]; exact Nat.mul_le_mul_right n h4, fun i e hi he j v hv => ?_⟩
  have hf := flat_at hn l i e he j v hv
  rw [← h7] at hf
  have hlt := (List.getElem?_eq_some_iff.1 hf).1
  rw [List.length_take] at hlt
  rw [List.getElem?_take_of_lt (by omega)] at hf
  rw [Nat.zero_add]
  simpa using hf
/-- a copy given back as it is -/
theorem ta_set {w' : World} {B r n g h : Nat} {ys : List flP.Pr} {ks : List Rn} (hn : n = ks.length) (hr : r < B) (ho : Own flP.c 3 63 w' g ys ys.length) (hor : OR w' B h n ks) (hg : B ≤ g) (hh : B ≤ h) (hne : ∀ (i : Nat) (r : Rn), ks[i]? = some r → r.a ≠ some ⟨g, 0, none⟩) (u v : Value) : TA ((w'.setCell ⟨r, 0, none⟩ u).setCell ⟨r, 1, none⟩ v) B (some ⟨g, 0, none⟩) (some ⟨h, 0, none⟩) ys ks := by
  subst hn
  exact of_own_runs (B' := B) ((ho.kept (Below.heap_setCell _ _ _ _ (show g ≠ r by omega))).kept (Below.heap_setCell _ _ _ _ (show g ≠ r by omega))) ((hor.set hr (by omega) _ _).set hr (by omega) _ _) hg hh (Nat.le_refl _) hne
end Go.Proofs.Ytfoajjkcocppeaa.mga

/- The specification's TableMerge: what stands in its loop. -/
namespace Go.Proofs.Ytfoajjkcocppeaa.mgk
open Go.ChangeShapes Go.WideShapes Go.ChangeAt Go.RowKit Go.Proofs.Ytfoajjkcocppeaa.fl Go.Proofs.Ytfoajjkcocppeaa.fo Go.Proofs.Ytfoajjkcocppeaa.rn Go.Proofs.Ytfoajjkcocppeaa.tk Go.Proofs.Ytfoajjkcocppeaa.tko Go.Proofs.Ytfoajjkcocppeaa.tan Go.Proofs.Ytfoajjkcocppeaa.mga Go.Proofs.Ytfoajjkcocppeaa.mgd Go.Proofs.Ytfoajjkcocppeaa.sci Go.Proofs.Ytfoajjkcocppeaa.sct
set_option linter.unusedVariables false

/-- what is still to be laid at run j -/
noncomputable def todo (R : List (List flP.Pr)) (i j : Nat) : List (List flP.Pr) := if j ≤ i then (R.take i).drop j ++ merged (R.getD i []) (R.getD (i + 1) []) (decide (i + 2 = R.length)) :: R.drop (i + 2) else R.drop (max j (i + 2))
theorem todo_0 (R : List (List flP.Pr)) (i : Nat) : todo R i 0 = mrg R i := by
  unfold todo mrg
  rw [if_pos (Nat.zero_le _), List.drop_zero]
theorem todo_copy {R : List (List flP.Pr)} {i j : Nat} {l : List flP.Pr} (hl : R[j]? = some l) (h0 : j ≠ i) (h1 : j ≠ i + 1) : todo R i j = l :: todo R i (j + 1) := by
  obtain ⟨hj, rfl⟩ := List.getElem?_eq_some_iff.1 hl
  unfold todo
  by_cases h : j < i
  · rw [if_pos (by omega), if_pos (by omega), List.drop_eq_getElem_cons (show j < (R.take i).length by rw [List.length_take]; omega)]
    simp
  · rw [if_neg (by omega), if_neg (by omega), show max j (i + 2) = j by omega, show max (j + 1) (i + 2) = j + 1 by omega, List.drop_eq_getElem_cons hj]
theorem todo_merge {R : List (List flP.Pr)} {i : Nat} {l1 l2 : List flP.Pr} (h1 : R[i]? = some l1) (h2 : R[i + 1]? = some l2) : todo R i i = merged l1 l2 (decide (i + 2 = R.length)) :: todo R i (i + 1) := by
  unfold todo
  rw [if_pos (Nat.le_refl _), if_neg (by omega), List.drop_eq_nil_of_le (by rw [List.length_take]; omega), List.nil_append, show max (i + 1) (i + 2) = i + 2 by omega, List.getD_eq_getElem?_getD, List.getD_eq_getElem?_getD, h1, h2]
  rfl
theorem todo_skip (R : List (List flP.Pr)) (i : Nat) : todo R i (i + 1) = todo R i (i + 1 + 1) := by
  unfold todo
  rw [if_neg (by omega), if_neg (by omega)]
  congr 1
  omega
theorem todo_end {R : List (List flP.Pr)} {i : Nat} (h : i + 2 ≤ R.length) : todo R i R.length = [] := by
  unfold todo
  rw [if_neg (by omega), List.drop_eq_nil_of_le (by omega)]
/-- what stands in the loop: the box, the answer's place, the new table's place, its pairs, its runs so far, and what is still to come -/
structure StM (w : World) (ys : List flP.Pr) (rs : List Rn) (a0 yc b rc n3 g1 c1 : Nat) (k : Nat) (va : Option Addr) (vc : Nat) (ks : List Rn) (td M : List (List flP.Pr)) (W : World) : Prop where
  bel : Below w.heap.size w W
  box : W.heap[w.heap.size]? = some (.cells #[.slice (some ⟨a0, 0, none⟩) ys.length yc, .slice (some ⟨b, 0, none⟩) rs.length rc] 32 (0, 0))
  res : W.heap[w.heap.size + 1]? = some (.cells #[.slice none 0 0, .slice none 0 0] 32 (0, 0))
  lo : w.heap.size + 2 ≤ n3
  out : W.heap[n3]? = some (.cells #[.slice (some ⟨g1, 0, none⟩) ys.length c1, .slice va k vc] 32 (0, 0))
  fresh : W.ownsRow (w.heap.size + 2) 63 3 (.slice (some ⟨g1, 0, none⟩) ys.length c1) ys.length (ys.flatMap flP.c)
  runs : W.ownsRow (w.heap.size + 2) 29 1 (.slice va k vc) k (ks.flatMap cR)
  same : ks.map (·.l) ++ td = M
  rows : ∀ r ∈ ks, OwnR W (w.heap.size + 2) r
section
variable {w W W' : World} {ys : List flP.Pr} {rs : List Rn} {a0 yc b rc n3 g1 c1 k : Nat} {va : Option Addr} {vc : Nat} {ks : List Rn} {td M : List (List flP.Pr)}
theorem StM.big (h : StM w ys rs a0 yc b rc n3 g1 c1 k va vc ks td M W) : w.heap.size + 2 ≤ W.heap.size := (Array.getElem?_eq_some_iff.1 h.res).1
theorem StM.ah (h : StM w ys rs a0 yc b rc n3 g1 c1 k va vc ks td M W) (n : Nat) (xs : List Value) : Ah ⟨W, w.heap.size + 2, n3, .slice (some ⟨g1, 0, none⟩) ys.length c1, .slice va k vc, k, ks.flatMap cR, n, xs⟩ := ⟨(Array.getElem?_eq_some_iff.1 h.out).1, h.out, h.runs, h.big⟩
theorem StM.on (h : StM w ys rs a0 yc b rc n3 g1 c1 k va vc ks td M W) (hb : Below W.heap.size W W') : StM w ys rs a0 yc b rc n3 g1 c1 k va vc ks td M W' := by
  have hg : W.grownBy W' none := ⟨hb.os, hb.tape, hb.output, hb.size, fun k hk _ => hb.block k hk⟩
  exact ⟨h.bel.trans (hb.mono h.bel.size), bstay h.box hb (Array.getElem?_eq_some_iff.1 h.box).1, bstay h.res hb (Array.getElem?_eq_some_iff.1 h.res).1, h.lo, bstay h.out hb (Array.getElem?_eq_some_iff.1 h.out).1, h.fresh.kept hg (by simp [Value.ownBlock]), h.runs.kept hg (by cases (Value.slice va k vc).ownBlock <;> simp), h.same, fun r hr => (h.rows r hr).kept hg (by cases (Value.slice r.a r.l.length r.c).ownBlock <;> simp)⟩
theorem StM.step (h : StM w ys rs a0 yc b rc n3 g1 c1 k va vc ks td M W) {r : Rn} {td' : List (List flP.Pr)} (hr : td = r.l :: td') {v2 : Value} (ht : Tn W W' (fun x => (Value.slice va k vc).ownBlock = some x ∨ x = n3)) (ho : W'.heap[n3]? = some (.cells #[.slice (some ⟨g1, 0, none⟩) ys.length c1, v2] 32 (0, 0)))
    (o1 : W'.ownsRow W.heap.size 63 3 (.slice r.a r.l.length r.c) r.l.length (r.l.flatMap flP.c)) (o2 : W'.ownsRow (w.heap.size + 2) 29 1 v2 (k + 1) (ks.flatMap cR ++ [.slice r.a r.l.length r.c])) : ∃ va' vc' ks', v2 = .slice va' (k + 1) vc' ∧ StM w ys rs a0 yc b rc n3 g1 c1 (k + 1) va' vc' ks' td' M W' := by
  obtain ⟨va', vc', rfl⟩ : ∃ va' vc', v2 = .slice va' (k + 1) vc' := by
    obtain ⟨_, ⟨e, h0⟩ | ⟨g, cap, cur, e, _⟩⟩ := o2
    · cases h0
    · exact ⟨_, _, e⟩
  have hbig := h.big
  have hlo := h.lo
  have hrb : ∀ x, (Value.slice va k vc).ownBlock = some x → w.heap.size + 2 ≤ x := fun x e => (h.runs.lt x e).1
  have keep : ∀ x, x < w.heap.size + 2 → ¬ ((Value.slice va k vc).ownBlock = some x ∨ x = n3) := fun x hx e => by
    rcases e with e | e
    · have := hrb x e; omega
    · omega
  have kept : ∀ v n xs, W.ownsRow (w.heap.size + 2) 63 3 v n xs → W'.ownsRow (w.heap.size + 2) 63 3 v n xs := fun v n xs hv => own_tn hv ht (fun g e hS => by
    rcases hS with hS | hS
    · exact clash hv h.runs e hS
    · subst hS; exact clash3 hv h.out e)
  refine ⟨va', vc', ks ++ [r], rfl, ⟨⟨ht.os.trans h.bel.os, ht.tape.trans h.bel.tape, ht.output.trans h.bel.output, Nat.le_trans h.bel.size ht.size, fun x hx => (ht.block x (by omega) (keep x (by omega))).trans (h.bel.block x hx)⟩, (ht.block _ (by omega) (keep _ (by omega))).trans h.box, (ht.block _ (by omega) (keep _ (by omega))).trans h.res, h.lo, ho, kept _ _ _ h.fresh, ?_, ?_, ?_⟩⟩
  · rw [List.flatMap_append]
    exact o2
  · rw [← h.same, hr]
    simp
  · intro s hs
    rcases List.mem_append.1 hs with hs | hs
    · exact kept _ _ _ (h.rows s hs)
    · simp at hs
      subst hs
      exact own_low o1 hbig
end
end Go.Proofs.Ytfoajjkcocppeaa.mgk

/- The specification's l07Copy where the runs' row may be nothing; and where the copied runs lie. -/
namespace Go.Proofs.Ytfoajjkcocppeaa.sco
open Go.ChangeShapes Go.WideShapes Go.ChangeAt Go.RowKit Go.Proofs.Ytfoajjkcocppeaa.fl Go.Proofs.Ytfoajjkcocppeaa.fo Go.Proofs.Ytfoajjkcocppeaa.rn Go.Proofs.Ytfoajjkcocppeaa.sct
set_option linter.unusedVariables false

/-- what stands when k runs are copied: the box, the answer's place, the copy's place, its pairs, its runs -/
structure St (w : World) (ys : List flP.Pr) (rs : List Rn) (a0 yc : Nat) (ra : Option Addr) (rc n3 g1 c1 : Nat) (k : Nat) (va : Option Addr) (vc : Nat) (ks : List Rn) (W : World) : Prop where
  bel : Below w.heap.size w W
  box : W.heap[w.heap.size]? = some (.cells #[.slice (some ⟨a0, 0, none⟩) ys.length yc, .slice ra rs.length rc] 32 (0, 0))
  res : W.heap[w.heap.size + 1]? = some (.cells #[.slice none 0 0, .slice none 0 0] 32 (0, 0))
  lo : w.heap.size + 2 ≤ n3
  out : W.heap[n3]? = some (.cells #[.slice (some ⟨g1, 0, none⟩) ys.length c1, .slice va k vc] 32 (0, 0))
  fresh : W.ownsRow (w.heap.size + 2) 63 3 (.slice (some ⟨g1, 0, none⟩) ys.length c1) ys.length (ys.flatMap flP.c)
  runs : W.ownsRow (w.heap.size + 2) 29 1 (.slice va k vc) k (ks.flatMap cR)
  same : ks.map (·.l) = (rs.take k).map (·.l)
  rows : ∀ r ∈ ks, OwnR W (w.heap.size + 2) r
  adr : ∀ r ∈ ks, ∃ q, r.a = some ⟨q, 0, none⟩
section
variable {w W W' : World} {ys : List flP.Pr} {rs : List Rn} {a0 yc : Nat} {ra : Option Addr} {rc n3 g1 c1 k : Nat} {va : Option Addr} {vc : Nat} {ks : List Rn}
theorem St.big (h : St w ys rs a0 yc ra rc n3 g1 c1 k va vc ks W) : w.heap.size + 2 ≤ W.heap.size := (Array.getElem?_eq_some_iff.1 h.res).1
theorem St.ah (h : St w ys rs a0 yc ra rc n3 g1 c1 k va vc ks W) (n : Nat) (xs : List Value) : Ah ⟨W, w.heap.size + 2, n3, .slice (some ⟨g1, 0, none⟩) ys.length c1, .slice va k vc, k, ks.flatMap cR, n, xs⟩ := ⟨(Array.getElem?_eq_some_iff.1 h.out).1, h.out, h.runs, h.big⟩
theorem St.step (h : St w ys rs a0 yc ra rc n3 g1 c1 k va vc ks W) {r : Rn} (hr : rs[k]? = some r) {b1 q1 : Nat} {v2 : Value} (ht : Tn W W' (fun x => (Value.slice va k vc).ownBlock = some x ∨ x = n3)) (ho : W'.heap[n3]? = some (.cells #[.slice (some ⟨g1, 0, none⟩) ys.length c1, v2] 32 (0, 0)))
    (o1 : W'.ownsRow W.heap.size 63 3 (.slice (some ⟨b1, 0, none⟩) r.l.length q1) r.l.length (r.l.flatMap flP.c)) (o2 : W'.ownsRow (w.heap.size + 2) 29 1 v2 (k + 1) (ks.flatMap cR ++ [.slice (some ⟨b1, 0, none⟩) r.l.length q1])) : ∃ va' vc' ks', v2 = .slice va' (k + 1) vc' ∧ St w ys rs a0 yc ra rc n3 g1 c1 (k + 1) va' vc' ks' W' := by
  obtain ⟨va', vc', rfl⟩ : ∃ va' vc', v2 = .slice va' (k + 1) vc' := by
    obtain ⟨_, ⟨e, h0⟩ | ⟨g, cap, cur, e, _⟩⟩ := o2
    · cases h0
    · exact ⟨_, _, e⟩
  have hbig := h.big
  have hlo := h.lo
  have hrb : ∀ x, (Value.slice va k vc).ownBlock = some x → w.heap.size + 2 ≤ x := fun x e => (h.runs.lt x e).1
  have keep : ∀ x, x < w.heap.size + 2 → ¬ ((Value.slice va k vc).ownBlock = some x ∨ x = n3) := fun x hx e => by
    rcases e with e | e
    · have := hrb x e; omega
    · omega
  have kept : ∀ v n xs, W.ownsRow (w.heap.size + 2) 63 3 v n xs → W'.ownsRow (w.heap.size + 2) 63 3 v n xs := fun v n xs hv => own_tn hv ht (fun g e hS => by
    rcases hS with hS | hS
    · exact clash hv h.runs e hS
    · subst hS; exact clash3 hv h.out e)
  refine ⟨va', vc', ks ++ [⟨some ⟨b1, 0, none⟩, q1, r.l⟩], rfl, ⟨⟨ht.os.trans h.bel.os, ht.tape.trans h.bel.tape, ht.output.trans h.bel.output, Nat.le_trans h.bel.size ht.size, fun x hx => (ht.block x (by omega) (keep x (by omega))).trans (h.bel.block x hx)⟩, (ht.block _ (by omega) (keep _ (by omega))).trans h.box, (ht.block _ (by omega) (keep _ (by omega))).trans h.res, h.lo, ho, kept _ _ _ h.fresh, ?_, ?_, ?_, ?_⟩⟩
  · rw [List.flatMap_append]
    exact o2
  · have hlt := (List.getElem?_eq_some_iff.1 hr).1
    have he := (List.getElem?_eq_some_iff.1 hr).2
    rw [List.take_succ_eq_append_getElem hlt, List.map_append, List.map_append, h.same, he]
    rfl
  · intro s hs
    rcases List.mem_append.1 hs with hs | hs
    · exact kept _ _ _ (h.rows s hs)
    · simp at hs
      subst hs
      exact own_low o1 hbig
  · intro s hs
    rcases List.mem_append.1 hs with hs | hs
    · exact h.adr s hs
    · simp at hs
      subst hs
      exact ⟨b1, rfl⟩
end

set_option maxRecDepth 100000 in
set_option maxHeartbeats 4000000 in
theorem spec_copy (ys : List flP.Pr) (rs : List Rn) (a0 yc : Nat) (ra : Option Addr) (rc : Nat) (w : World) (F : tb.Fit ys rs) (hY : Row flP.c 3 w w.heap.size (some ⟨a0, 0, none⟩) ys) (hR : Row cR 1 w w.heap.size ra rs) (hra : rs ≠ [] → ∃ b, ra = some ⟨b, 0, none⟩) (hrs : ∀ r ∈ rs, (∃ h, r.a = some ⟨h, 0, none⟩) ∧ Row flP.c 3 w w.heap.size r.a r.l) :
    Calls Try.prog 42 #[.agg #[.slice (some ⟨a0, 0, none⟩) ys.length yc, .slice ra rs.length rc]] w fun e w' => ∃ (g1 c1 : Nat) (va : Option Addr) (vc : Nat) (ks : List Rn), e = .returned (.agg #[.slice (some ⟨g1, 0, none⟩) ys.length c1, .slice va rs.length vc]) ∧ w'.ownsRow (w.heap.size + 2) 63 3 (.slice (some ⟨g1, 0, none⟩) ys.length c1) ys.length (ys.flatMap flP.c) ∧ w'.ownsRow (w.heap.size + 2) 29 1 (.slice va rs.length vc) rs.length (ks.flatMap cR) ∧ ks.map (·.l) = rs.map (·.l) ∧ (∀ r ∈ ks, OwnR w' (w.heap.size + 2) r) ∧ (∀ r ∈ ks, ∃ q, r.a = some ⟨q, 0, none⟩) ∧ Below w.heap.size w w' := by
  obtain ⟨i0, hi, hz0, hz1, hz2⟩ := infoP
  obtain ⟨i1, ki, kz0, kz1, kz2⟩ := ly.infoR
  have hyl := F.yl
  have hrl := F.rl
  have hb : Below w.heap.size w (((w.alloc (.cells #[.slice (some ⟨a0, 0, none⟩) ys.length yc, .slice ra rs.length rc] 32)).alloc (.cells #[.slice none 0 0, .slice none 0 0] 32)).alloc (.cells #[] 63)) := (((Below.refl _ _).alloc (Nat.le_refl _) _).alloc (by simp) _).alloc (by simp; omega) _
  have hA := bold (bold (bnew w #[.slice (some ⟨a0, 0, none⟩) ys.length yc, .slice ra rs.length rc] 32) (.cells #[.slice none 0 0, .slice none 0 0] 32)) (.cells #[] 63)
  have hRs := bold (bnew (w.alloc (.cells #[.slice (some ⟨a0, 0, none⟩) ys.length yc, .slice ra rs.length rc] 32)) #[.slice none 0 0, .slice none 0 0] 32) (.cells #[] 63)
  rw [World.size_alloc] at hRs
  have ho : (((w.alloc (.cells #[.slice (some ⟨a0, 0, none⟩) ys.length yc, .slice ra rs.length rc] 32)).alloc (.cells #[.slice none 0 0, .slice none 0 0] 32)).alloc (.cells #[] 63)).ownsRow (w.heap.size + 2) 63 3 (.slice (some ⟨((w.alloc (.cells #[.slice (some ⟨a0, 0, none⟩) ys.length yc, .slice ra rs.length rc] 32)).alloc (.cells #[.slice none 0 0, .slice none 0 0] 32)).heap.size, 0, none⟩) 0 0) 0 [] := World.ownsRow_made ((w.alloc (.cells #[.slice (some ⟨a0, 0, none⟩) ys.length yc, .slice ra rs.length rc] 32)).alloc (.cells #[.slice none 0 0, .slice none 0 0] 32)) #[] 0 (by simp) (by unfold maxLen; omega) (by simp)
  have hS : (((w.alloc (.cells #[.slice (some ⟨a0, 0, none⟩) ys.length yc, .slice ra rs.length rc] 32)).alloc (.cells #[.slice none 0 0, .slice none 0 0] 32)).alloc (.cells #[] 63)).heap.size = w.heap.size + 3 := by simp
  have hS2 : ((w.alloc (.cells #[.slice (some ⟨a0, 0, none⟩) ys.length yc, .slice ra rs.length rc] 32)).alloc (.cells #[.slice none 0 0, .slice none 0 0] 32)).heap.size = w.heap.size + 2 := by simp
  rw [hS2] at ho
  obtain ⟨W, hW⟩ : ∃ W, (((w.alloc (.cells #[.slice (some ⟨a0, 0, none⟩) ys.length yc, .slice ra rs.length rc] 32)).alloc (.cells #[.slice none 0 0, .slice none 0 0] 32)).alloc (.cells #[] 63)) = W := ⟨_, rfl⟩
  rw [hW] at hb hA hRs ho hS
  have HYW : Hid (Row flP.c 3 W W.heap.size (some ⟨a0, 0, none⟩) ys) := hY.inn hb
  have HR : Hid (Row cR 1 w w.heap.size ra rs) := hR
  have HRS : Hid (∀ r ∈ rs, (∃ h, r.a = some ⟨h, 0, none⟩) ∧ Row flP.c 3 w w.heap.size r.a r.l) := hrs
  have HF : Hid (tb.Fit ys rs) := F
  have x0 : W.cell? ⟨w.heap.size, 0, none⟩ = some (.slice (some ⟨a0, 0, none⟩) ys.length yc) := bcell hA rfl
  have HA : Hid (W.heap[w.heap.size]? = some (.cells #[.slice (some ⟨a0, 0, none⟩) ys.length yc, .slice ra rs.length rc] 32 (0, 0))) := hA
  have HRES : Hid (W.heap[w.heap.size + 1]? = some (.cells #[.slice none 0 0, .slice none 0 0] 32 (0, 0))) := hRs
  have HO : Hid (W.ownsRow (w.heap.size + 2) 63 3 (.slice (some ⟨w.heap.size + 2, 0, none⟩) 0 0) 0 []) := ho
  have HRA : Hid (rs ≠ [] → ∃ b, ra = some ⟨b, 0, none⟩) := hra
  clear hra hY hR hrs hA hRs ho F
  go_enter Try.func42, Try.ntmps42
  go_wp2_with (at_builtin; refine wpList_append_own _ rfl _ _ 29 rfl (w.heap.size + 2) 63 i0 (.agg #[.string ByteArray.empty, .string ByteArray.empty, .bool false]) 3 40 Try.underlying29 hi hz0 hz1 hz2 rfl (by decide) _ 0 [] rfl (by exact HO.out) ⟨a0, 0, none⟩ ys.length yc (ys.flatMap flP.c) rfl (flat_len flP.c_len ys) (by exact newsP HYW.out) (oneP ys) (by unfold maxLen; omega) (by omega) (by omega) ?_)
  intro v1 w1 hown1 hgrow1 hnil1
  obtain ⟨g1, c1, rfl⟩ : ∃ g1 c1, v1 = .slice (some ⟨g1, 0, none⟩) ys.length c1 := by
    obtain ⟨_, ⟨rfl, h0⟩ | ⟨g, cap, cur, e, _⟩⟩ := hown1
    · exfalso
      first | exact hnil1 rfl | (have := hnil1.1 rfl; cases this.1)
    · exact ⟨_, _, by simpa using e⟩
  have hgr1 : W.grownBy w1 (some (w.heap.size + 2)) := hgrow1
  have hs1 := hgr1.size
  have hb1 : Below w.heap.size w w1 := hb.grown hgr1 (by omega) (fun b hb => by cases hb; omega)
  have hX : St w ys rs a0 yc ra rc w1.heap.size g1 c1 0 none 0 [] (w1.alloc (.cells #[.slice (some ⟨g1, 0, none⟩) ys.length c1, .slice none 0 0] 32)) := by
    refine ⟨hb1.alloc hb1.size _, bold ((hgr1.block _ (by omega) (by simp)).trans HA.out) _, bold ((hgr1.block _ (by omega) (by simp)).trans HRES.out) _, by omega, bnew w1 _ _, ?_, ⟨by simp, .inl ⟨rfl, rfl⟩⟩, rfl, fun r hr => by simp at hr, fun r hr => by simp at hr⟩
    refine World.ownsRow.alloc ?_ _
    simpa using hown1
  have hsw := hX.big
  have HX : Hid (St w ys rs a0 yc ra rc w1.heap.size g1 c1 0 none 0 [] (w1.alloc (.cells #[.slice (some ⟨g1, 0, none⟩) ys.length c1, .slice none 0 0] 32))) := hX
  clear hX hown1 hgrow1 hnil1 hgr1 HA HRES HO HYW x0 hW
  go_wp2
  obtain ⟨X, hXe⟩ : ∃ X, w1.alloc (.cells #[.slice (some ⟨g1, 0, none⟩) ys.length c1, .slice none 0 0] 32) = X := ⟨_, rfl⟩
  rw [hXe] at HX hsw ⊢
  obtain ⟨n3, hn3⟩ : ∃ n3, w1.heap.size = n3 := ⟨_, rfl⟩
  rw [hn3] at HX ⊢
  clear hXe hn3 hb1 hs1
  go_loopw [4] (fun x wr => ∃ (k : Nat) (va : Option Addr) (vc : Nat) (ks : List Rn), k ≤ rs.length ∧ x = .int .i64 k ∧ Hid (St w ys rs a0 yc ra rc n3 g1 c1 k va vc ks wr)) (fun x _ => rs.length - (intOf x).toNat)
  case atStart => exact ⟨0, none, 0, [], Nat.zero_le _, rfl, HX⟩
  case round =>
    obtain ⟨k, va, vc, ks, hk, rfl, hinv⟩ := hrel
    clear HX hsw
    by_cases hkl : k < rs.length
    · obtain ⟨b, rfl⟩ := HRA.out (by rintro rfl; simp at hkl)
      have y1 : wr.cell? ⟨w.heap.size, 1, none⟩ = some (.slice (some ⟨b, 0, none⟩) rs.length rc) := bcell hinv.out.box rfl
      have hRw := HR.out.inn hinv.out.bel
      have hlen : ks.length = k := by
        have h1 := congrArg List.length hinv.out.same
        simp at h1
        omega
      have HG : Hid (rs[k]? = some rs[k]) := List.getElem?_eq_getElem hkl
      obtain ⟨⟨rh, hra⟩, hrow⟩ := HRS.out rs[k] (List.getElem_mem hkl)
      have hfr := HF.out.ro rs[k] (List.getElem_mem hkl)
      obtain ⟨⟨qa, qc, ql⟩, he⟩ : ∃ e, rs[k] = e := ⟨_, rfl⟩
      rw [he] at HG hrow hfr hra
      simp only at hra hrow hfr
      subst hra
      have HQ : Hid (Row flP.c 3 wr wr.heap.size (some ⟨rh, 0, none⟩) ql) := hrow.inn hinv.out.bel
      have hql := hfr.1
      obtain ⟨hbl, hbc⟩ : b < w.heap.size ∧ wr.cell? ⟨b, k, none⟩ = some (.slice (some ⟨rh, 0, none⟩) ql.length qc) := by
        have hRw := HR.out
        rcases hRw with h0 | ⟨b', off', hh, hlt, hc⟩
        · rw [h0] at hkl; simp at hkl
        · cases hh
          refine ⟨hlt, ?_⟩
          have := hc k _ HG.out 0 _ rfl
          rw [World.cell?_of_block (hinv.out.bel.block b hlt)]
          simpa using this
      have hAh := hinv.out.ah ql.length (ql.flatMap flP.c)
      have hlo := hinv.out.lo
      have hrb : ∀ x, (Value.slice va k vc).ownBlock = some x → w.heap.size + 2 ≤ x := fun x e => (hinv.out.runs.lt x e).1
      have n1 : w.heap.size ≠ n3 := by omega
      have n2 : (Value.slice va k vc).ownBlock ≠ some w.heap.size := fun e => by have := hrb _ e; omega
      have n3' : b ≠ n3 := by omega
      have n4 : (Value.slice va k vc).ownBlock ≠ some b := fun e => by have := hrb _ e; omega
      have i2 : (k : Int) < (rs.length : Int) := by omega
      have HAh : Hid (Ah ⟨wr, w.heap.size + 2, n3, .slice (some ⟨g1, 0, none⟩) ys.length c1, .slice va k vc, k, ks.flatMap cR, ql.length, ql.flatMap flP.c⟩) := hAh
      clear hAh he hrow hfr
      go_wp2
      refine dk.region_gsets (ws ⟨wr, w.heap.size + 2, n3, .slice (some ⟨g1, 0, none⟩) ys.length c1, .slice va k vc, k, ks.flatMap cR, ql.length, ql.flatMap flP.c⟩ w.heap.size b rs.length rc rh qc) [17, 18, 19, 20, 21, 22, 23, 24, 25, 26, 27, 28] (C ⟨wr, w.heap.size + 2, n3, .slice (some ⟨g1, 0, none⟩) ys.length c1, .slice va k vc, k, ks.flatMap cR, ql.length, ql.flatMap flP.c⟩) ⟨0, 0, 0, 0, .slice none 0 0⟩ (by kernel_rfl) (by kernel_rfl) (fun _ => rfl) (by kernel_rfl) (sct.start _ _ HAh.out) ?each ?fin
      case each =>
        refine ⟨quiet (by decide) (by simp) (.pointer (some ⟨n3, 1, none⟩)) (by rintro s _ ⟨⟩; exact dk.sets_on _ (by simp) _ rfl) (fun s W h => by simp [execOp, go_sem, Act.eval, dk.sets_get, ws, List.lookup]), ?_⟩
        refine ⟨st1 (by simp) (by rintro s _ ⟨⟩; exact dk.sets_on _ (by simp) _ rfl) (fun s W h => by have c : W.cell? ⟨n3, 1, none⟩ = some (.slice va k vc) := bcell h rfl; simp [execOp, go_sem, Act.eval, dk.sets_get, ws, List.lookup, c]), ?_⟩
        refine ⟨st2 HAh.out (by simp) rfl rfl, ?_⟩
        refine ⟨quiet (by decide) (by simp) (.pointer (some ⟨w.heap.size, 1, none⟩)) (by rintro s _ ⟨⟩; exact dk.sets_on _ (by simp) _ rfl) (fun s W h => by simp [execOp, go_sem, Act.eval, dk.sets_get, ws, List.lookup]), ?_⟩
        refine ⟨quiet (by decide) (by simp) (.slice (some ⟨b, 0, none⟩) rs.length rc) (by rintro s _ ⟨⟩; exact dk.sets_on _ (by simp) _ rfl) (fun s W h => by have c : W.cell? ⟨w.heap.size, 1, none⟩ = some (.slice (some ⟨b, 0, none⟩) rs.length rc) := old_cell h n1 n2 y1; simp [execOp, go_sem, Act.eval, dk.sets_get, ws, List.lookup, c]), ?_⟩
        refine ⟨quiet (by decide) (by simp) (.int .i64 k) (by rintro s _ ⟨⟩; exact dk.sets_on _ (by simp) _ rfl) (fun s W h => by simp [execOp, go_sem, Act.eval, dk.sets_get, ws, List.lookup]), ?_⟩
        refine ⟨quiet (by decide) (by simp) (.pointer (some ⟨b, k, none⟩)) (by rintro s _ ⟨⟩; exact dk.sets_on _ (by simp) _ rfl) (fun s W h => by simp [execOp, go_sem, Act.eval, dk.sets_get, ws, List.lookup, i2]), ?_⟩
        refine ⟨quiet (by decide) (by simp) (.slice (some ⟨rh, 0, none⟩) ql.length qc) (by rintro s _ ⟨⟩; exact dk.sets_on _ (by simp) _ rfl) (fun s W h => by have c : W.cell? ⟨b, k, none⟩ = some (.slice (some ⟨rh, 0, none⟩) ql.length qc) := old_cell h n3' n4 hbc; simp [execOp, go_sem, Act.eval, dk.sets_get, ws, List.lookup, c]), ?_⟩
        refine ⟨st8 HAh.out hi hz0 hz1 hz2 rfl (by simp) rfl rfl (flat_len flP.c_len ql) (fun W hb => newsP (HQ.out.inn hb)) (oneP ql) hql ⟨⟨2, .data⟩, by simp, rfl, rfl⟩, ?_⟩
        refine ⟨st9 HAh.out (by simp) rfl rfl ⟨⟨8, .data⟩, by simp, rfl, rfl⟩, ?_⟩
        refine ⟨st10 HAh.out ki kz0 kz1 kz2 rfl (by simp) rfl rfl (by show k ≤ 1048576; omega) ⟨⟨9, .data⟩, by simp, rfl, rfl⟩ ⟨⟨1, .data⟩, by simp, rfl, rfl⟩, ?_⟩
        refine ⟨quiet (by decide) (by simp) (.pointer (some ⟨n3, 1, none⟩)) (by rintro s _ ⟨⟩; exact dk.sets_on _ (by simp) _ rfl) (fun s W h => by simp [execOp, go_sem, Act.eval, dk.sets_get, ws, List.lookup]), ?_⟩
        exact ⟨st12 HAh.out (by simp) (by simp) rfl (fun s W h hv => by obtain ⟨av, nv, cv, hv⟩ := hv; have c : W.cell? ⟨n3, 1, none⟩ = some (.slice va k vc) := bcell h rfl; have f := bfree h 1; rw [hv]; simp [execOp, go_sem, Act.eval, dk.sets_get, ws, List.lookup, c, f, hv]) ⟨⟨10, .data⟩, by simp, rfl, rfl⟩, trivial⟩
      case fin =>
        intro g L W2 hL hC
        obtain ⟨d1, d2, d3, d4⟩ := sct.done hC hL
        obtain ⟨va', vc', ks', hv2, hst⟩ := hinv.out.step HG.out d1 d2 d3 d4
        have HN : Hid (St w ys rs a0 yc (some ⟨b, 0, none⟩) rc n3 g1 c1 (k + 1) va' vc' ks' W2) := hst
        simp only [dk.sets, ws, hv2]
        clear hC hL d1 d2 d3 d4 hst
        go_wp2
        go_roundw
        all_goals first | exact ⟨k + 1, va', vc', ks', by omega, by go_num, HN⟩ | (simp [intOf]; omega)
    · obtain rfl : k = rs.length := by omega
      have y1 : wr.cell? ⟨w.heap.size, 1, none⟩ = some (.slice ra rs.length rc) := bcell hinv.out.box rfl
      have u0 : wr.cell? ⟨n3, 0, none⟩ = some (.slice (some ⟨g1, 0, none⟩) ys.length c1) := bcell hinv.out.out rfl
      have u1 : wr.cell? ⟨n3, 1, none⟩ = some (.slice va rs.length vc) := bcell hinv.out.out rfl
      have r0 : wr.cell? ⟨w.heap.size + 1, 0, none⟩ = some (.slice none 0 0) := bcell hinv.out.res rfl
      have r1 : wr.cell? ⟨w.heap.size + 1, 1, none⟩ = some (.slice none 0 0) := bcell hinv.out.res rfl
      have f0 := bfree hinv.out.res 0
      have f1 := bfree hinv.out.res 1
      clear hkl hk
      go_wp2
      have kept : ∀ (B : Nat) (T : TypeId) (s : Nat) v n xs, w.heap.size + 2 ≤ B → wr.ownsRow B T s v n xs → ((wr.setCell ⟨w.heap.size + 1, 0, none⟩ (.slice (some ⟨g1, 0, none⟩) ys.length c1)).setCell ⟨w.heap.size + 1, 1, none⟩ (.slice va rs.length vc)).ownsRow B T s v n xs := fun B T s v n xs hB h => own_set (own_set h (by omega)) (by omega)
      refine bodyPost_ret (v := .agg #[.slice (some ⟨g1, 0, none⟩) ys.length c1, .slice va rs.length vc]) (by simp [results, Try.results42, go_sem, r0, r1]) rfl ⟨g1, c1, va, vc, ks, rfl, kept _ _ _ _ _ _ (Nat.le_refl _) hinv.out.fresh, kept _ _ _ _ _ _ (Nat.le_refl _) hinv.out.runs, by rw [hinv.out.same, List.take_length], fun r hr => kept _ _ _ _ _ _ (Nat.le_refl _) (hinv.out.rows r hr), hinv.out.adr, ?_⟩
      exact (hinv.out.bel.setCell (Nat.le_succ _) _).setCell (Nat.le_succ _) _
/-- an answered table of the specification's: its rows, all of them new -/
structure SR (W : World) (B : Nat) (sa : Option Addr) (sc : Nat) (ta : Option Addr) (tc : Nat) (l : List flP.Pr) (ks : List Rn) : Prop where
  fresh : W.ownsRow B 63 3 (.slice sa l.length sc) l.length (l.flatMap flP.c)
  runs : W.ownsRow B 29 1 (.slice ta ks.length tc) ks.length (ks.flatMap cR)
  rows : ∀ r ∈ ks, OwnR W B r
theorem SR.set {W : World} {B sc tc : Nat} {sa ta : Option Addr} {l : List flP.Pr} {ks : List Rn} (c : SR W B sa sc ta tc l ks) {b : Nat} (hb : b < B) (o : Nat) (v : Value) : SR (W.setCell ⟨b, o, none⟩ v) B sa sc ta tc l ks := ⟨own_set c.fresh hb, own_set c.runs hb, fun r hr => own_set (c.rows r hr) hb⟩
theorem SR.low {W : World} {B B' sc tc : Nat} {sa ta : Option Addr} {l : List flP.Pr} {ks : List Rn} (c : SR W B sa sc ta tc l ks) (hb : B' ≤ B) : SR W B' sa sc ta tc l ks := ⟨own_low c.fresh hb, own_low c.runs hb, fun r hr => own_low (c.rows r hr) hb⟩
theorem SR.on {W W' : World} {B sc tc : Nat} {sa ta : Option Addr} {l : List flP.Pr} {ks : List Rn} (c : SR W B sa sc ta tc l ks) (hb : Below W.heap.size W W') : SR W' B sa sc ta tc l ks := by
  have hg : W.grownBy W' none := ⟨hb.os, hb.tape, hb.output, hb.size, fun k hk _ => hb.block k hk⟩
  exact ⟨c.fresh.kept hg (by cases (Value.slice sa l.length sc).ownBlock <;> simp), c.runs.kept hg (by cases (Value.slice ta ks.length tc).ownBlock <;> simp), fun r hr => (c.rows r hr).kept hg (by cases (Value.slice r.a r.l.length r.c).ownBlock <;> simp)⟩
end Go.Proofs.Ytfoajjkcocppeaa.sco

/- The specification's TableFlush where the runs' row may be nothing. -/
namespace Go.Proofs.Ytfoajjkcocppeaa.flo
open Go.ChangeShapes Go.WideShapes Go.ChangeAt Go.RowKit Go.Proofs.Ytfoajjkcocppeaa.fl Go.Proofs.Ytfoajjkcocppeaa.fo Go.Proofs.Ytfoajjkcocppeaa.rn Go.Proofs.Ytfoajjkcocppeaa.tko Go.Proofs.Ytfoajjkcocppeaa.fls
set_option linter.unusedVariables false

set_option maxRecDepth 100000 in
set_option maxHeartbeats 4000000 in
theorem spec_flush (ys : List flP.Pr) (rs : List Rn) (a0 yc : Nat) (ra : Option Addr) (rc : Nat) (w : World) (F : tb.Fit ys rs) (hY : Row flP.c 3 w w.heap.size (some ⟨a0, 0, none⟩) ys) (hR : VR w w.heap.size ra rs) (hra : rs ≠ [] → ∃ b, ra = some ⟨b, 0, none⟩) (hrs : ∀ r ∈ rs, ∃ h, r.a = some ⟨h, 0, none⟩) :
    Calls Try.prog 30 #[.agg #[.slice (some ⟨a0, 0, none⟩) ys.length yc, .slice ra rs.length rc]] w fun e w' => ∃ sa sc ta tc ks, e = .returned (.tuple #[.agg #[.slice sa (ansY ys (rs.map (·.l))).length sc, .slice ta (ansR ys (rs.map (·.l))).length tc], .bool (can ys (rs.map (·.l)))]) ∧ ks.map (·.l) = ansR ys (rs.map (·.l)) ∧ sco.SR w' (w.heap.size + 2) sa sc ta tc (ansY ys (rs.map (·.l))) ks ∧ Below w.heap.size w w' := by
  obtain ⟨i1, ki, kz0, kz1, kz2⟩ := ly.infoR
  have hb : Below w.heap.size w ((w.alloc (.cells #[.slice (some ⟨a0, 0, none⟩) ys.length yc, .slice ra rs.length rc] 32)).alloc (.cells #[.slice none 0 0, .slice none 0 0] 32)) := ((Below.refl _ _).alloc (Nat.le_refl _) _).alloc (by simp) _
  have hA := bold (bnew w #[.slice (some ⟨a0, 0, none⟩) ys.length yc, .slice ra rs.length rc] 32) (.cells #[.slice none 0 0, .slice none 0 0] 32)
  have hRs := bnew (w.alloc (.cells #[.slice (some ⟨a0, 0, none⟩) ys.length yc, .slice ra rs.length rc] 32)) #[.slice none 0 0, .slice none 0 0] 32
  rw [World.size_alloc] at hRs
  obtain ⟨W, hW⟩ : ∃ W, ((w.alloc (.cells #[.slice (some ⟨a0, 0, none⟩) ys.length yc, .slice ra rs.length rc] 32)).alloc (.cells #[.slice none 0 0, .slice none 0 0] 32)) = W := ⟨_, rfl⟩
  rw [hW] at hb hA hRs
  have hcp := sco.spec_copy ys rs a0 yc ra rc W F (hY.inn hb) (hR.1.inn hb) hra (fun r hr => ⟨hrs r hr, (hR.2 r hr).inn hb⟩)
  have HF : Hid (tb.Fit ys rs) := F
  have hrl := F.rl
  have HY : Hid (Row flP.c 3 w w.heap.size (some ⟨a0, 0, none⟩) ys) := hY
  have HR : Hid (VR w w.heap.size ra rs) := hR
  have HA : Hid (W.heap[w.heap.size]? = some (.cells #[.slice (some ⟨a0, 0, none⟩) ys.length yc, .slice ra rs.length rc] 32 (0, 0))) := hA
  have HRS : Hid (W.heap[w.heap.size + 1]? = some (.cells #[.slice none 0 0, .slice none 0 0] 32 (0, 0))) := hRs
  have hWs := (Array.getElem?_eq_some_iff.1 hRs).1
  have p0 : W.cell? ⟨w.heap.size, 0, none⟩ = some (.slice (some ⟨a0, 0, none⟩) ys.length yc) := bcell hA rfl
  have p1 : W.cell? ⟨w.heap.size, 1, none⟩ = some (.slice ra rs.length rc) := bcell hA rfl
  clear hY hR hA hRs F hrs
  go_enter Try.func30, Try.ntmps30
  go_wp2_with (go_at_call 42; fail)
  clear hW p0 p1
  refine hcp.mono ?_
  rintro e w2 ⟨g1, c1, va, vc, ks, rfl, of2, or2, m2, rows2, _, hb2⟩
  have l2 : rs.length = ks.length := by have := congrArg List.length m2; simpa using this.symm
  have hal : Below w2.heap.size w2 (w2.alloc (.cells #[.slice (some ⟨g1, 0, none⟩) ys.length c1, .slice va rs.length vc] 32)) := (Below.refl _ _).alloc (Nat.le_refl _) _
  have hO := bnew w2 #[.slice (some ⟨g1, 0, none⟩) ys.length c1, .slice va rs.length vc] 32
  have of3 := of2.alloc (.cells #[.slice (some ⟨g1, 0, none⟩) ys.length c1, .slice va rs.length vc] 32)
  have or3 := or2.alloc (.cells #[.slice (some ⟨g1, 0, none⟩) ys.length c1, .slice va rs.length vc] 32)
  have rows3 : ∀ r ∈ ks, sct.OwnR (w2.alloc (.cells #[.slice (some ⟨g1, 0, none⟩) ys.length c1, .slice va rs.length vc] 32)) (W.heap.size + 2) r := fun r hr => (rows2 r hr).alloc _
  have hs2 := hb2.size
  obtain ⟨W3, hW3⟩ : ∃ W3, w2.alloc (.cells #[.slice (some ⟨g1, 0, none⟩) ys.length c1, .slice va rs.length vc] 32) = W3 := ⟨_, rfl⟩
  rw [hW3] at hal hO of3 or3 rows3
  have hB3 : Below W.heap.size W W3 := hb2.trans (hal.mono hs2)
  have hBw3 : Below w.heap.size w W3 := hb.trans (hB3.mono hb.size)
  have hok := spec_okb ys rs (some ⟨a0, 0, none⟩) ra yc rc W3 HF.out (HY.out.inn hBw3) (HR.out.inn hBw3)
  have b3 := bstay HA.out hB3 (by omega)
  have c0 : W3.cell? ⟨w.heap.size, 0, none⟩ = some (.slice (some ⟨a0, 0, none⟩) ys.length yc) := bcell b3 rfl
  have c1' : W3.cell? ⟨w.heap.size, 1, none⟩ = some (.slice ra rs.length rc) := bcell b3 rfl
  have HO : Hid (W3.heap[w2.heap.size]? = some (.cells #[.slice (some ⟨g1, 0, none⟩) ys.length c1, .slice va rs.length vc] 32 (0, 0))) := hO
  have HOF : Hid (W3.ownsRow (W.heap.size + 2) 63 3 (.slice (some ⟨g1, 0, none⟩) ys.length c1) ys.length (ys.flatMap flP.c)) := of3
  have HOR : Hid (W3.ownsRow (W.heap.size + 2) 29 1 (.slice va rs.length vc) rs.length (ks.flatMap cR)) := or3
  have HRW : Hid (∀ r ∈ ks, sct.OwnR W3 (W.heap.size + 2) r) := rows3
  have HM : Hid (ks.map (·.l) = rs.map (·.l)) := m2
  have HL : Hid (rs.length = ks.length) := l2
  have hlt3 := (Array.getElem?_eq_some_iff.1 hO).1
  clear hcp of2 or2 rows2 hO of3 or3 rows3 m2 l2 hal b3
  go_wp2_with (go_at_call 49; fail)
  clear hW3
  refine hok.mono ?_
  rintro e w4 ⟨rfl, hb4⟩
  have b4 := bstay (bstay HA.out hB3 (by omega)) hb4 (by omega)
  have r4 := bstay (bstay HRS.out hB3 (by omega)) hb4 (by omega)
  have o4 := bstay HO.out hb4 hlt3
  have x0 : w4.cell? ⟨w.heap.size, 0, none⟩ = some (.slice (some ⟨a0, 0, none⟩) ys.length yc) := bcell b4 rfl
  have x1 : w4.cell? ⟨w.heap.size, 1, none⟩ = some (.slice ra rs.length rc) := bcell b4 rfl
  have r0 : w4.cell? ⟨w.heap.size + 1, 0, none⟩ = some (.slice none 0 0) := bcell r4 rfl
  have r1 : w4.cell? ⟨w.heap.size + 1, 1, none⟩ = some (.slice none 0 0) := bcell r4 rfl
  have f0 := bfree r4 0
  have f1 := bfree r4 1
  have u0 : w4.cell? ⟨w2.heap.size, 0, none⟩ = some (.slice (some ⟨g1, 0, none⟩) ys.length c1) := bcell o4 rfl
  have u1 : w4.cell? ⟨w2.heap.size, 1, none⟩ = some (.slice va rs.length vc) := bcell o4 rfl
  have hg4 : W3.grownBy w4 none := ⟨hb4.os, hb4.tape, hb4.output, hb4.size, fun k hk _ => hb4.block k hk⟩
  have HOF4 : Hid (w4.ownsRow (W.heap.size + 2) 63 3 (.slice (some ⟨g1, 0, none⟩) ys.length c1) ys.length (ys.flatMap flP.c)) := HOF.out.kept hg4 (by simp [Value.ownBlock])
  have HOR4 : Hid (w4.ownsRow (W.heap.size + 2) 29 1 (.slice va rs.length vc) rs.length (ks.flatMap cR)) := HOR.out.kept hg4 (by cases (Value.slice va rs.length vc).ownBlock <;> simp)
  have HRW4 : Hid (∀ r ∈ ks, sct.OwnR w4 (W.heap.size + 2) r) := fun r hr => (HRW.out r hr).kept hg4 (by cases (Value.slice r.a r.l.length r.c).ownBlock <;> simp)
  have hBw4 : Below w.heap.size w w4 := hBw3.trans (hb4.mono hBw3.size)
  have hR4 : w4.heap[w.heap.size + 1]? = some (.cells #[.slice none 0 0, .slice none 0 0] 32 (0, 0)) := r4
  have HR4 : Hid (w4.heap[w.heap.size + 1]? = some (.cells #[.slice none 0 0, .slice none 0 0] 32 (0, 0))) := r4
  obtain ⟨ob, hob⟩ : ∃ ob, okB ys (rs.map (·.l)) = ob := ⟨_, rfl⟩
  have HOB : Hid (okB ys (rs.map (·.l)) = ob) := hob
  rw [hob]
  have hWs4 : W.heap.size ≤ w4.heap.size := Nat.le_trans hB3.size hb4.size
  have hs34 : w2.heap.size < w4.heap.size := Nat.lt_of_lt_of_le hlt3 hb4.size
  clear hok c0 c1' b4 r4 o4 hR4 hob HOF HOR HRW HO HA HRS hb4 hg4
  by_cases hc : ob = true ∧ ys.length ≠ 0 ∧ rs.length < 8
  · obtain ⟨rfl, hy0, hr8⟩ := hc
    have HC : Hid (can ys (rs.map (·.l)) = true) := can_true HOB.out hy0 (by simpa using hr8)
    have hy1 : ¬ (ys.length : Int) = 0 := by omega
    have hr9 : decide ((8 : Int) ≤ (rs.length : Int)) = false := by simp; omega
    have hr10 : ((rs.length : Int)) < 8 := by omega
    have hox : (w4.alloc (.cells #[.slice (some ⟨g1, 0, none⟩) ys.length c1] 29)).ownsRow w4.heap.size 29 1 (.slice (some ⟨w4.heap.size, 0, none⟩) 1 1) 1 [.slice (some ⟨g1, 0, none⟩) ys.length c1] := ⟨by simp, .inr ⟨w4.heap.size, 1, _, rfl, Nat.le_refl _, bnew w4 _ _, Nat.le_refl _, by unfold maxLen; omega, by simp, by simp⟩⟩
    obtain ⟨v5, w5, hrun, hown5, hgr5⟩ := app_runs (i1 := i1) ki kz0 kz1 kz2 hox (HOR4.out.alloc _) (oneR ks) hrl (by simp) 30
    obtain ⟨g5, c5, hv5⟩ : ∃ g5 c5, v5 = .slice (some ⟨g5, 0, none⟩) (1 + rs.length) c5 := by
      obtain ⟨_, ⟨_, h0⟩ | ⟨g, cap, cur, e, _⟩⟩ := hown5
      · omega
      · exact ⟨g, cap, e⟩
    subst hv5
    have hs5 : w4.heap.size + 1 ≤ w5.heap.size := by have := hgr5.size; simpa using this
    have hk5 : ∀ k, k < w4.heap.size → w5.heap[k]? = w4.heap[k]? := fun k hk => (hgr5.block k (by simp; omega) (fun e => by have := Option.some.inj e; omega)).trans (Below.heap_alloc w4 _ k hk)
    have hB5 : Below w4.heap.size w4 w5 := ⟨hgr5.os, hgr5.tape, hgr5.output, by omega, hk5⟩
    have r5 := bstay HR4.out hB5 (by omega)
    have q0 : w5.cell? ⟨w.heap.size + 1, 0, none⟩ = some (.slice none 0 0) := bcell r5 rfl
    have q1 : w5.cell? ⟨w.heap.size + 1, 1, none⟩ = some (.slice none 0 0) := bcell r5 rfl
    have e0 := bfree r5 0
    have e1 := bfree r5 1
    have u1' : (w4.alloc (.cells #[.slice (some ⟨g1, 0, none⟩) ys.length c1] 29)).cell? ⟨w2.heap.size, 1, none⟩ = some (.slice va rs.length vc) := by
      rw [World.cell?_of_block (a := ⟨w2.heap.size, 1, none⟩) (Below.heap_alloc w4 _ w2.heap.size (by omega))]
      exact u1
    have HRUN : Hid ((Builtin.append_ #[30, 30] 30 #[.slice (some ⟨w4.heap.size, 0, none⟩) 1 1, .slice va rs.length vc]).run Try.prog (w4.alloc (.cells #[.slice (some ⟨g1, 0, none⟩) ys.length c1] 29)) = .ok (.slice (some ⟨g5, 0, none⟩) (1 + rs.length) c5) w5) := hrun
    have HOWN : Hid (w5.ownsRow w4.heap.size 29 1 (.slice (some ⟨g5, 0, none⟩) (1 + rs.length) c5) (1 + rs.length) ([.slice (some ⟨g1, 0, none⟩) ys.length c1] ++ ks.flatMap cR)) := hown5
    have HB5 : Hid (Below w4.heap.size w4 w5) := hB5
    clear hrun hown5 hgr5 hk5 hB5 r5 hox
    go_wp2_with (at_builtin; refine cpr.wpList_append_run rfl _ _ 30 30 rfl _ _ _ rfl rfl HRUN.out ?_)
    clear u0 u1 u1' x0 x1 r0 r1 f0 f1
    go_wp2
    have hg5 : w4.grownBy w5 none := ⟨HB5.out.os, HB5.out.tape, HB5.out.output, HB5.out.size, fun k hk _ => HB5.out.block k hk⟩
    have hk : ∀ (B : Nat) (T : TypeId) (s : Nat) v n xs, w.heap.size + 1 < B → w5.ownsRow B T s v n xs → ((w5.setCell ⟨w.heap.size + 1, 0, none⟩ (.slice none 0 0)).setCell ⟨w.heap.size + 1, 1, none⟩ (.slice (some ⟨g5, 0, none⟩) (1 + rs.length) c5)).ownsRow B T s v n xs := fun B T s v n xs hB h => sct.own_set (sct.own_set h hB) hB
    refine bodyPost_ret (v := .tuple #[.agg #[.slice none 0 0, .slice (some ⟨g5, 0, none⟩) (1 + rs.length) c5], .bool true]) (by simp [results, Try.results30, go_sem, q0, q1]) rfl ⟨none, 0, some ⟨g5, 0, none⟩, c5, ⟨some ⟨g1, 0, none⟩, c1, ys⟩ :: ks, ?_, ?_, ⟨?_, ?_, ?_⟩, ?_⟩
    · rw [(ans_yes HC.out).1, (ans_yes HC.out).2, HC.out]
      simp [Nat.add_comm]
    · rw [(ans_yes HC.out).2, ← HM.out]
      rfl
    · rw [(ans_yes HC.out).1]
      exact ⟨rfl, .inl ⟨rfl, rfl⟩⟩
    · rw [show ((⟨some ⟨g1, 0, none⟩, c1, ys⟩ : Rn) :: ks).length = 1 + rs.length by simp [HL.out, Nat.add_comm]]
      exact sct.own_low (hk _ _ _ _ _ _ (by omega) HOWN.out) (by omega)
    · intro r hr
      rcases List.mem_cons.1 hr with rfl | hr
      · exact sct.own_low (hk _ _ _ _ _ _ (by omega) (HOF4.out.kept hg5 (by simp [Value.ownBlock]))) (by omega)
      · exact sct.own_low (hk _ _ _ _ _ _ (by omega) ((HRW4.out r hr).kept hg5 (by cases (Value.slice r.a r.l.length r.c).ownBlock <;> simp))) (by omega)
    · exact ((hBw4.trans (HB5.out.mono hBw4.size)).setCell (Nat.le_succ _) _).setCell (Nat.le_succ _) _
  · have HC : Hid (can ys (rs.map (·.l)) = false) := can_false HOB.out (by simpa using hc)
    have fin : ∀ w', w' = (w4.setCell ⟨w.heap.size + 1, 0, none⟩ (.slice (some ⟨g1, 0, none⟩) ys.length c1)).setCell ⟨w.heap.size + 1, 1, none⟩ (.slice va rs.length vc) → ks.map (·.l) = ansR ys (rs.map (·.l)) ∧ sco.SR w' (w.heap.size + 2) (some ⟨g1, 0, none⟩) c1 va vc (ansY ys (rs.map (·.l))) ks ∧ Below w.heap.size w w' := fun w' hw' => by
      subst hw'
      have hk : ∀ (T : TypeId) (s : Nat) v n xs, w4.ownsRow (W.heap.size + 2) T s v n xs → ((w4.setCell ⟨w.heap.size + 1, 0, none⟩ (.slice (some ⟨g1, 0, none⟩) ys.length c1)).setCell ⟨w.heap.size + 1, 1, none⟩ (.slice va rs.length vc)).ownsRow (W.heap.size + 2) T s v n xs := fun T s v n xs h => sct.own_set (sct.own_set h (by omega)) (by omega)
      have hor := hk _ _ _ _ _ HOR4.out
      have hrw : sco.SR ((w4.setCell ⟨w.heap.size + 1, 0, none⟩ (.slice (some ⟨g1, 0, none⟩) ys.length c1)).setCell ⟨w.heap.size + 1, 1, none⟩ (.slice va rs.length vc)) (w.heap.size + 2) (some ⟨g1, 0, none⟩) c1 va vc ys ks := ⟨sct.own_low (hk _ _ _ _ _ HOF4.out) (by omega), by rw [← HL.out]; exact sct.own_low hor (by omega), fun r hr => sct.own_low (hk _ _ _ _ _ (HRW4.out r hr)) (by omega)⟩
      refine ⟨by rw [HM.out, (ans_no HC.out).2], by rw [(ans_no HC.out).1]; exact hrw, (hBw4.setCell (Nat.le_succ _) _).setCell (Nat.le_succ _) _⟩
    have HFN : Hid (∀ w', w' = (w4.setCell ⟨w.heap.size + 1, 0, none⟩ (.slice (some ⟨g1, 0, none⟩) ys.length c1)).setCell ⟨w.heap.size + 1, 1, none⟩ (.slice va rs.length vc) → ks.map (·.l) = ansR ys (rs.map (·.l)) ∧ sco.SR w' (w.heap.size + 2) (some ⟨g1, 0, none⟩) c1 va vc (ansY ys (rs.map (·.l))) ks ∧ Below w.heap.size w w') := fin
    have HQ : Hid ((ansY ys (rs.map (·.l))).length = ys.length ∧ (ansR ys (rs.map (·.l))).length = rs.length) := by
      rw [(ans_no HC.out).1, (ans_no HC.out).2]
      exact ⟨rfl, by simp⟩
    clear fin
    have done : ∀ Qx : Prop, Qx → Qx := fun _ h => h
    cases ob
    · go_wp2
      refine bodyPost_ret (v := .tuple #[.agg #[.slice (some ⟨g1, 0, none⟩) ys.length c1, .slice va rs.length vc], .bool false]) (by simp [results, Try.results30, go_sem, r0, r1]) rfl ⟨some ⟨g1, 0, none⟩, c1, va, vc, ks, ?_, HFN.out _ rfl⟩
      rw [HQ.out.1, HQ.out.2, HC.out]
    · by_cases hy0 : ys.length = 0
      · obtain rfl : ys = [] := List.eq_nil_of_length_eq_zero hy0
        clear hy0 hc
        go_wp2
        refine bodyPost_ret (v := .tuple #[.agg #[.slice (some ⟨g1, 0, none⟩) 0 c1, .slice va rs.length vc], .bool false]) (by simp [results, Try.results30, go_sem, r0, r1]) rfl ⟨some ⟨g1, 0, none⟩, c1, va, vc, ks, ?_, HFN.out _ rfl⟩
        rw [HQ.out.1, HQ.out.2, HC.out]
        rfl
      · have hy1 : ¬ (ys.length : Int) = 0 := by omega
        have hr9 : (8 : Int) ≤ (rs.length : Int) := by simp at hc; have := hc (by intro e; rw [e] at hy0; simp at hy0); omega
        clear hc
        go_wp2
        refine bodyPost_ret (v := .tuple #[.agg #[.slice (some ⟨g1, 0, none⟩) ys.length c1, .slice va rs.length vc], .bool false]) (by simp [results, Try.results30, go_sem, r0, r1]) rfl ⟨some ⟨g1, 0, none⟩, c1, va, vc, ks, ?_, HFN.out _ rfl⟩
        rw [HQ.out.1, HQ.out.2, HC.out]
end Go.Proofs.Ytfoajjkcocppeaa.flo

/- The specification's TableMerge: what stands in its loop, where the runs' row may be nothing. -/
namespace Go.Proofs.Ytfoajjkcocppeaa.mgko
open Go.ChangeShapes Go.WideShapes Go.ChangeAt Go.RowKit Go.Proofs.Ytfoajjkcocppeaa.fl Go.Proofs.Ytfoajjkcocppeaa.fo Go.Proofs.Ytfoajjkcocppeaa.rn Go.Proofs.Ytfoajjkcocppeaa.tk Go.Proofs.Ytfoajjkcocppeaa.tko Go.Proofs.Ytfoajjkcocppeaa.tan Go.Proofs.Ytfoajjkcocppeaa.mga Go.Proofs.Ytfoajjkcocppeaa.mgd Go.Proofs.Ytfoajjkcocppeaa.sci Go.Proofs.Ytfoajjkcocppeaa.sct Go.Proofs.Ytfoajjkcocppeaa.mgk
set_option linter.unusedVariables false

/-- what stands in the loop: the box, the answer's place, the new table's place, its pairs, its runs so far, and what is still to come -/
structure StMO (w : World) (ys : List flP.Pr) (rs : List Rn) (a0 yc : Nat) (ra : Option Addr) (rc n3 g1 c1 : Nat) (k : Nat) (va : Option Addr) (vc : Nat) (ks : List Rn) (td M : List (List flP.Pr)) (W : World) : Prop where
  bel : Below w.heap.size w W
  box : W.heap[w.heap.size]? = some (.cells #[.slice (some ⟨a0, 0, none⟩) ys.length yc, .slice ra rs.length rc] 32 (0, 0))
  res : W.heap[w.heap.size + 1]? = some (.cells #[.slice none 0 0, .slice none 0 0] 32 (0, 0))
  lo : w.heap.size + 2 ≤ n3
  out : W.heap[n3]? = some (.cells #[.slice (some ⟨g1, 0, none⟩) ys.length c1, .slice va k vc] 32 (0, 0))
  fresh : W.ownsRow (w.heap.size + 2) 63 3 (.slice (some ⟨g1, 0, none⟩) ys.length c1) ys.length (ys.flatMap flP.c)
  runs : W.ownsRow (w.heap.size + 2) 29 1 (.slice va k vc) k (ks.flatMap cR)
  same : ks.map (·.l) ++ td = M
  rows : ∀ r ∈ ks, OwnR W (w.heap.size + 2) r
section
variable {w W W' : World} {ys : List flP.Pr} {rs : List Rn} {a0 yc : Nat} {ra : Option Addr} {rc n3 g1 c1 k : Nat} {va : Option Addr} {vc : Nat} {ks : List Rn} {td M : List (List flP.Pr)}
theorem StMO.big (h : StMO w ys rs a0 yc ra rc n3 g1 c1 k va vc ks td M W) : w.heap.size + 2 ≤ W.heap.size := (Array.getElem?_eq_some_iff.1 h.res).1
theorem StMO.ah (h : StMO w ys rs a0 yc ra rc n3 g1 c1 k va vc ks td M W) (n : Nat) (xs : List Value) : Ah ⟨W, w.heap.size + 2, n3, .slice (some ⟨g1, 0, none⟩) ys.length c1, .slice va k vc, k, ks.flatMap cR, n, xs⟩ := ⟨(Array.getElem?_eq_some_iff.1 h.out).1, h.out, h.runs, h.big⟩
theorem StMO.on (h : StMO w ys rs a0 yc ra rc n3 g1 c1 k va vc ks td M W) (hb : Below W.heap.size W W') : StMO w ys rs a0 yc ra rc n3 g1 c1 k va vc ks td M W' := by
  have hg : W.grownBy W' none := ⟨hb.os, hb.tape, hb.output, hb.size, fun k hk _ => hb.block k hk⟩
  exact ⟨h.bel.trans (hb.mono h.bel.size), bstay h.box hb (Array.getElem?_eq_some_iff.1 h.box).1, bstay h.res hb (Array.getElem?_eq_some_iff.1 h.res).1, h.lo, bstay h.out hb (Array.getElem?_eq_some_iff.1 h.out).1, h.fresh.kept hg (by simp [Value.ownBlock]), h.runs.kept hg (by cases (Value.slice va k vc).ownBlock <;> simp), h.same, fun r hr => (h.rows r hr).kept hg (by cases (Value.slice r.a r.l.length r.c).ownBlock <;> simp)⟩
theorem StMO.step (h : StMO w ys rs a0 yc ra rc n3 g1 c1 k va vc ks td M W) {r : Rn} {td' : List (List flP.Pr)} (hr : td = r.l :: td') {v2 : Value} (ht : Tn W W' (fun x => (Value.slice va k vc).ownBlock = some x ∨ x = n3)) (ho : W'.heap[n3]? = some (.cells #[.slice (some ⟨g1, 0, none⟩) ys.length c1, v2] 32 (0, 0)))
    (o1 : W'.ownsRow W.heap.size 63 3 (.slice r.a r.l.length r.c) r.l.length (r.l.flatMap flP.c)) (o2 : W'.ownsRow (w.heap.size + 2) 29 1 v2 (k + 1) (ks.flatMap cR ++ [.slice r.a r.l.length r.c])) : ∃ va' vc' ks', v2 = .slice va' (k + 1) vc' ∧ StMO w ys rs a0 yc ra rc n3 g1 c1 (k + 1) va' vc' ks' td' M W' := by
  obtain ⟨va', vc', rfl⟩ : ∃ va' vc', v2 = .slice va' (k + 1) vc' := by
    obtain ⟨_, ⟨e, h0⟩ | ⟨g, cap, cur, e, _⟩⟩ := o2
    · cases h0
    · exact ⟨_, _, e⟩
  have hbig := h.big
  have hlo := h.lo
  have hrb : ∀ x, (Value.slice va k vc).ownBlock = some x → w.heap.size + 2 ≤ x := fun x e => (h.runs.lt x e).1
  have keep : ∀ x, x < w.heap.size + 2 → ¬ ((Value.slice va k vc).ownBlock = some x ∨ x = n3) := fun x hx e => by
    rcases e with e | e
    · have := hrb x e; omega
    · omega
  have kept : ∀ v n xs, W.ownsRow (w.heap.size + 2) 63 3 v n xs → W'.ownsRow (w.heap.size + 2) 63 3 v n xs := fun v n xs hv => own_tn hv ht (fun g e hS => by
    rcases hS with hS | hS
    · exact clash hv h.runs e hS
    · subst hS; exact clash3 hv h.out e)
  refine ⟨va', vc', ks ++ [r], rfl, ⟨⟨ht.os.trans h.bel.os, ht.tape.trans h.bel.tape, ht.output.trans h.bel.output, Nat.le_trans h.bel.size ht.size, fun x hx => (ht.block x (by omega) (keep x (by omega))).trans (h.bel.block x hx)⟩, (ht.block _ (by omega) (keep _ (by omega))).trans h.box, (ht.block _ (by omega) (keep _ (by omega))).trans h.res, h.lo, ho, kept _ _ _ h.fresh, ?_, ?_, ?_⟩⟩
  · rw [List.flatMap_append]
    exact o2
  · rw [← h.same, hr]
    simp
  · intro s hs
    rcases List.mem_append.1 hs with hs | hs
    · exact kept _ _ _ (h.rows s hs)
    · simp at hs
      subst hs
      exact own_low o1 hbig
end
end Go.Proofs.Ytfoajjkcocppeaa.mgko

/- The specification's TableMerge where the runs' row may be nothing. -/
namespace Go.Proofs.Ytfoajjkcocppeaa.mgco
open Go.ChangeShapes Go.WideShapes Go.ChangeAt Go.RowKit Go.Proofs.Ytfoajjkcocppeaa.fl Go.Proofs.Ytfoajjkcocppeaa.fo Go.Proofs.Ytfoajjkcocppeaa.rn Go.Proofs.Ytfoajjkcocppeaa.tk Go.Proofs.Ytfoajjkcocppeaa.tko Go.Proofs.Ytfoajjkcocppeaa.tan Go.Proofs.Ytfoajjkcocppeaa.mga Go.Proofs.Ytfoajjkcocppeaa.mgd Go.Proofs.Ytfoajjkcocppeaa.sci Go.Proofs.Ytfoajjkcocppeaa.sct Go.Proofs.Ytfoajjkcocppeaa.mgk Go.Proofs.Ytfoajjkcocppeaa.mgko
set_option linter.unusedVariables false

set_option maxRecDepth 100000 in
set_option maxHeartbeats 8000000 in
theorem spec_merge (ys : List flP.Pr) (rs : List Rn) (a0 yc : Nat) (ra : Option Addr) (rc : Nat) (x : Int) (w : World) (F : tb.Fit ys rs) (hx1 : -9223372036854775808 ≤ x) (hx2 : x ≤ 9223372036854775807) (hY : Row flP.c 3 w w.heap.size (some ⟨a0, 0, none⟩) ys) (hR : VR w w.heap.size ra rs) (hra : rs ≠ [] → ∃ b, ra = some ⟨b, 0, none⟩) (hrs : ∀ r ∈ rs, ∃ h, r.a = some ⟨h, 0, none⟩) :
    Calls Try.prog 31 #[.agg #[.slice (some ⟨a0, 0, none⟩) ys.length yc, .slice ra rs.length rc], .int .i64 x] w fun e w' => ∃ sa sc ta tc ks, e = .returned (.tuple #[.agg #[.slice sa ys.length sc, .slice ta (ansR ys (rs.map (·.l)) x).length tc], .bool (can ys (rs.map (·.l)) x)]) ∧ ks.map (·.l) = ansR ys (rs.map (·.l)) x ∧ sco.SR w' (w.heap.size + 2) sa sc ta tc ys ks ∧ Below w.heap.size w w' := by
  obtain ⟨i0, hi, hz0, hz1, hz2⟩ := infoP
  obtain ⟨i1, ki, kz0, kz1, kz2⟩ := ly.infoR
  have hb : Below w.heap.size w ((w.alloc (.cells #[.slice (some ⟨a0, 0, none⟩) ys.length yc, .slice ra rs.length rc] 32)).alloc (.cells #[.slice none 0 0, .slice none 0 0] 32)) := ((Below.refl _ _).alloc (Nat.le_refl _) _).alloc (by simp) _
  have hA := bold (bnew w #[.slice (some ⟨a0, 0, none⟩) ys.length yc, .slice ra rs.length rc] 32) (.cells #[.slice none 0 0, .slice none 0 0] 32)
  have hRs := bnew (w.alloc (.cells #[.slice (some ⟨a0, 0, none⟩) ys.length yc, .slice ra rs.length rc] 32)) #[.slice none 0 0, .slice none 0 0] 32
  rw [World.size_alloc] at hRs
  obtain ⟨W, hW⟩ : ∃ W, ((w.alloc (.cells #[.slice (some ⟨a0, 0, none⟩) ys.length yc, .slice ra rs.length rc] 32)).alloc (.cells #[.slice none 0 0, .slice none 0 0] 32)) = W := ⟨_, rfl⟩
  have hsW : W.heap.size = w.heap.size + 2 := by rw [← hW]; simp
  rw [hW] at hb hA hRs
  have hok := spec_okb ys rs (some ⟨a0, 0, none⟩) ra yc rc W F (hY.inn hb) (hR.inn hb)
  have HF : Hid (tb.Fit ys rs) := F
  have hrl := F.rl
  have hyl := F.yl
  have HY : Hid (Row flP.c 3 w w.heap.size (some ⟨a0, 0, none⟩) ys) := hY
  have HR : Hid (VR w w.heap.size ra rs) := hR
  have HRA : Hid (rs ≠ [] → ∃ b, ra = some ⟨b, 0, none⟩) := hra
  have HRS : Hid (∀ r ∈ rs, ∃ h, r.a = some ⟨h, 0, none⟩) := hrs
  have HA : Hid (W.heap[w.heap.size]? = some (.cells #[.slice (some ⟨a0, 0, none⟩) ys.length yc, .slice ra rs.length rc] 32 (0, 0))) := hA
  have HRES : Hid (W.heap[w.heap.size + 1]? = some (.cells #[.slice none 0 0, .slice none 0 0] 32 (0, 0))) := hRs
  have p0 : W.cell? ⟨w.heap.size, 0, none⟩ = some (.slice (some ⟨a0, 0, none⟩) ys.length yc) := bcell hA rfl
  have p1 : W.cell? ⟨w.heap.size, 1, none⟩ = some (.slice ra rs.length rc) := bcell hA rfl
  clear hY hR hA hRs F hrs hra
  go_enter Try.func31, Try.ntmps31
  go_wp2_with (go_at_call 49; fail)
  clear hW p0 p1
  refine hok.mono ?_
  rintro e w2 ⟨rfl, hb2⟩
  have b2 := bstay HA.out hb2 (by omega)
  have r2 := bstay HRES.out hb2 (by omega)
  have hBw2 : Below w.heap.size w w2 := hb.trans (hb2.mono hb.size)
  have hcp := sco.spec_copy ys rs a0 yc ra rc w2 HF.out (HY.out.inn hBw2) ((HR.out.inn hBw2).1) HRA.out (fun r hr => ⟨HRS.out r hr, (HR.out.inn hBw2).2 r hr⟩)
  have x0 : w2.cell? ⟨w.heap.size, 0, none⟩ = some (.slice (some ⟨a0, 0, none⟩) ys.length yc) := bcell b2 rfl
  have x1 : w2.cell? ⟨w.heap.size, 1, none⟩ = some (.slice ra rs.length rc) := bcell b2 rfl
  have HA2 : Hid (w2.heap[w.heap.size]? = some (.cells #[.slice (some ⟨a0, 0, none⟩) ys.length yc, .slice ra rs.length rc] 32 (0, 0))) := b2
  have HR2 : Hid (w2.heap[w.heap.size + 1]? = some (.cells #[.slice none 0 0, .slice none 0 0] 32 (0, 0))) := r2
  have hs2 : w.heap.size + 2 ≤ w2.heap.size := by have := hb2.size; omega
  clear hok b2 r2 HA HRES hb2
  have w1 : IntKind.i64.wrap ((rs.length : Int) - 2) = (rs.length : Int) - 2 := by rw [IntKind.wrap_i64]; omega
  have hwi := ky.within x 0 ((rs.length : Int) - 2) w2
  obtain ⟨ob, hob⟩ : ∃ ob, okB ys (rs.map (·.l)) = ob := ⟨_, rfl⟩
  have HOB : Hid (okB ys (rs.map (·.l)) = ob) := hob
  rw [hob]
  clear hob
  cases ob with
  | false =>
    have HC : Hid (can ys (rs.map (·.l)) x = false) := by unfold Hid can; rw [HOB.out]; rfl
    clear hwi
    go_wp2_with (go_at_call 42; fail)
    clear x0 x1
    refine hcp.mono ?_
    rintro e w3 ⟨g1, c1, va, vc, ks, rfl, of3, or3, m3, rows3, _, hb3⟩
    have l3 : rs.length = ks.length := by have := congrArg List.length m3; simpa using this.symm
    have r3 := bstay HR2.out hb3 (by omega)
    have r0 : w3.cell? ⟨w.heap.size + 1, 0, none⟩ = some (.slice none 0 0) := bcell r3 rfl
    have r1 : w3.cell? ⟨w.heap.size + 1, 1, none⟩ = some (.slice none 0 0) := bcell r3 rfl
    have f0 := bfree r3 0
    have f1 := bfree r3 1
    have HB3 : Hid (Below w.heap.size w w3) := hBw2.trans (hb3.mono hBw2.size)
    have HRW : Hid (sco.SR ((w3.setCell ⟨w.heap.size + 1, 0, none⟩ (.slice (some ⟨g1, 0, none⟩) ys.length c1)).setCell ⟨w.heap.size + 1, 1, none⟩ (.slice va rs.length vc)) (w.heap.size + 2) (some ⟨g1, 0, none⟩) c1 va vc ys ks) := ⟨own_low (own_set (own_set of3 (by omega)) (by omega)) (by omega), by rw [← l3]; exact own_low (own_set (own_set or3 (by omega)) (by omega)) (by omega), fun r hr => own_low (own_set (own_set (rows3 r hr) (by omega)) (by omega)) (by omega)⟩
    have HM : Hid (ks.map (·.l) = rs.map (·.l)) := m3
    clear hcp m3 of3 or3 rows3 l3 r3 hb3
    go_wp2
    exact bodyPost_ret (v := .tuple #[.agg #[.slice (some ⟨g1, 0, none⟩) ys.length c1, .slice va rs.length vc], .bool false]) (by simp [results, Try.results31, go_sem, r0, r1]) rfl ⟨some ⟨g1, 0, none⟩, c1, va, vc, ks, by rw [ans_no HC.out, HC.out, List.length_map], by rw [ans_no HC.out]; exact HM.out, HRW.out, (HB3.out.setCell (Nat.le_succ _) _).setCell (Nat.le_succ _) _⟩
  | true =>
    obtain ⟨ib, hib⟩ : ∃ ib, decide ((0 : Int) ≤ x ∧ x ≤ (rs.length : Int) - 2) = ib := ⟨_, rfl⟩
    have HIB : Hid (decide ((0 : Int) ≤ x ∧ x ≤ (rs.length : Int) - 2) = ib) := hib
    rw [hib] at hwi
    have hin : inB (rs.map (·.l)) x = ib := by
      unfold inB
      rw [← hib, List.length_map]
      congr 1
      apply propext
      omega
    have HIN : Hid (inB (rs.map (·.l)) x = ib) := hin
    clear hib hin
    go_wp2_with (go_at_call 50; fail)
    refine hwi.mono ?_
    rintro e w0 ⟨rfl, hw0⟩
    obtain rfl := hw0
    clear hwi
    cases ib with
    | false =>
      have HC : Hid (can ys (rs.map (·.l)) x = false) := by unfold Hid can; rw [HOB.out, HIN.out]; rfl
      go_wp2_with (go_at_call 42; fail)
      clear x0 x1
      refine hcp.mono ?_
      rintro e w3 ⟨g1, c1, va, vc, ks, rfl, of3, or3, m3, rows3, _, hb3⟩
      have l3 : rs.length = ks.length := by have := congrArg List.length m3; simpa using this.symm
      have r3 := bstay HR2.out hb3 (by omega)
      have r0 : w3.cell? ⟨w.heap.size + 1, 0, none⟩ = some (.slice none 0 0) := bcell r3 rfl
      have r1 : w3.cell? ⟨w.heap.size + 1, 1, none⟩ = some (.slice none 0 0) := bcell r3 rfl
      have f0 := bfree r3 0
      have f1 := bfree r3 1
      have HB3 : Hid (Below w.heap.size w w3) := hBw2.trans (hb3.mono hBw2.size)
      have HRW : Hid (sco.SR ((w3.setCell ⟨w.heap.size + 1, 0, none⟩ (.slice (some ⟨g1, 0, none⟩) ys.length c1)).setCell ⟨w.heap.size + 1, 1, none⟩ (.slice va rs.length vc)) (w.heap.size + 2) (some ⟨g1, 0, none⟩) c1 va vc ys ks) := ⟨own_low (own_set (own_set of3 (by omega)) (by omega)) (by omega), by rw [← l3]; exact own_low (own_set (own_set or3 (by omega)) (by omega)) (by omega), fun r hr => own_low (own_set (own_set (rows3 r hr) (by omega)) (by omega)) (by omega)⟩
      have HM : Hid (ks.map (·.l) = rs.map (·.l)) := m3
      clear hcp m3 of3 or3 rows3 l3 r3 hb3
      go_wp2
      exact bodyPost_ret (v := .tuple #[.agg #[.slice (some ⟨g1, 0, none⟩) ys.length c1, .slice va rs.length vc], .bool false]) (by simp [results, Try.results31, go_sem, r0, r1]) rfl ⟨some ⟨g1, 0, none⟩, c1, va, vc, ks, by rw [ans_no HC.out, HC.out, List.length_map], by rw [ans_no HC.out]; exact HM.out, HRW.out, (HB3.out.setCell (Nat.le_succ _) _).setCell (Nat.le_succ _) _⟩
    | true =>
      have hrange := HIB.out
      simp at hrange
      obtain ⟨i, rfl⟩ : ∃ i : Nat, x = (i : Int) := ⟨x.toNat, by omega⟩
      have hii : i + 2 ≤ rs.length := by omega
      have HOK : Hid (OkT ys (rs.map (·.l))) := okB_true.1 HOB.out
      have h8 : rs.length ≤ 8 := by have := HOK.out.rl; simpa using this
      have hmade : (w2.alloc (.cells #[] 63)).ownsRow w2.heap.size 63 3 (.slice (some ⟨w2.heap.size, 0, none⟩) 0 0) 0 [] := World.ownsRow_made w2 #[] 0 (Nat.le_refl _) (by unfold maxLen; omega) (by simp)
      have hal2 : Below w2.heap.size w2 (w2.alloc (.cells #[] 63)) := (Below.refl _ _).alloc (Nat.le_refl _) _
      have HYW : Hid (Row flP.c 3 (w2.alloc (.cells #[] 63)) (w2.alloc (.cells #[] 63)).heap.size (some ⟨a0, 0, none⟩) ys) := (HY.out.inn hBw2).inn hal2
      have z0 : (w2.alloc (.cells #[] 63)).cell? ⟨w.heap.size, 0, none⟩ = some (.slice (some ⟨a0, 0, none⟩) ys.length yc) := bcell (bold HA2.out _) rfl
      have HMADE : Hid ((w2.alloc (.cells #[] 63)).ownsRow w2.heap.size 63 3 (.slice (some ⟨w2.heap.size, 0, none⟩) 0 0) 0 []) := hmade
      clear hcp hrange hx1 hx2 hmade x0 x1 HIB
      have hsz : (w2.alloc (.cells #[] 63)).heap.size = w2.heap.size + 1 := by simp
      go_wp2_with (at_builtin; refine wpList_append_own _ rfl _ _ 29 rfl w2.heap.size 63 i0 (.agg #[.string ByteArray.empty, .string ByteArray.empty, .bool false]) 3 40 Try.underlying29 hi hz0 hz1 hz2 rfl (by decide) _ 0 [] rfl (by exact HMADE.out) ⟨a0, 0, none⟩ ys.length yc (ys.flatMap flP.c) rfl (flat_len flP.c_len ys) (by exact newsP HYW.out) (oneP ys) (by unfold maxLen; omega) (by omega) (by omega) ?_)
      intro v1 w1' hown1 hgrow1 hnil1
      obtain ⟨g1, c1, rfl⟩ : ∃ g1 c1, v1 = .slice (some ⟨g1, 0, none⟩) ys.length c1 := by
        obtain ⟨_, ⟨rfl, h0⟩ | ⟨g, cap, cur, e, _⟩⟩ := hown1
        · exfalso
          first | exact hnil1 rfl | (have := hnil1.1 rfl; cases this.1)
        · exact ⟨_, _, by simpa using e⟩
      have hgr1 : (w2.alloc (.cells #[] 63)).grownBy w1' (some w2.heap.size) := hgrow1
      have hs1 := hgr1.size
      have hb1 : Below w.heap.size w w1' := (hBw2.alloc hBw2.size _).grown hgr1 (by omega) (fun b hb => by cases hb; omega)
      have hX : StMO w ys rs a0 yc ra rc w1'.heap.size g1 c1 0 none 0 [] (todo (rs.map (·.l)) i 0) (mrg (rs.map (·.l)) i) (w1'.alloc (.cells #[.slice (some ⟨g1, 0, none⟩) ys.length c1, .slice none 0 0] 32)) := by
        refine ⟨hb1.alloc hb1.size _, bold ((hgr1.block _ (by omega) (by simp; omega)).trans (bold HA2.out _)) _, bold ((hgr1.block _ (by omega) (by simp; omega)).trans (bold HR2.out _)) _, by omega, bnew w1' _ _, ?_, ⟨by simp, .inl ⟨rfl, rfl⟩⟩, by rw [todo_0]; rfl, fun r hr => by simp at hr⟩
        refine own_low (World.ownsRow.alloc ?_ _) hs2
        simpa using hown1
      have hsw := hX.big
      have HX : Hid (StMO w ys rs a0 yc ra rc w1'.heap.size g1 c1 0 none 0 [] (todo (rs.map (·.l)) i 0) (mrg (rs.map (·.l)) i) (w1'.alloc (.cells #[.slice (some ⟨g1, 0, none⟩) ys.length c1, .slice none 0 0] 32))) := hX
      clear hX hown1 hgrow1 hnil1 hgr1 HA2 HR2 HMADE HYW z0 hal2 hsz
      go_wp2
      obtain ⟨X, hXe⟩ : ∃ X, w1'.alloc (.cells #[.slice (some ⟨g1, 0, none⟩) ys.length c1, .slice none 0 0] 32) = X := ⟨_, rfl⟩
      rw [hXe] at HX hsw ⊢
      obtain ⟨n3, hn3⟩ : ∃ n3, w1'.heap.size = n3 := ⟨_, rfl⟩
      rw [hn3] at HX ⊢
      clear hXe hn3 hb1 hs1
      go_loopw [7] (fun x wr => ∃ (j k : Nat) (va : Option Addr) (vc : Nat) (ks : List Rn), j ≤ rs.length ∧ x = .int .i64 j ∧ k ≤ j ∧ Hid (StMO w ys rs a0 yc ra rc n3 g1 c1 k va vc ks (todo (rs.map (·.l)) i j) (mrg (rs.map (·.l)) i) wr)) (fun x _ => rs.length - (intOf x).toNat)
      case atStart => exact ⟨0, 0, none, 0, [], Nat.zero_le _, rfl, Nat.le_refl _, HX⟩
      case round =>
        obtain ⟨j, k, va, vc, ks, hj, rfl, hkj, hinv⟩ := hrel
        clear HX hsw
        by_cases hjl : j < rs.length
        · obtain ⟨b, rfl⟩ := HRA.out (by rintro rfl; simp at hjl)
          have y1 : wr.cell? ⟨w.heap.size, 1, none⟩ = some (.slice (some ⟨b, 0, none⟩) rs.length rc) := bcell hinv.out.box rfl
          have i2 : (j : Int) < (rs.length : Int) := by omega
          have hlo := hinv.out.lo
          have hrb : ∀ x, (Value.slice va k vc).ownBlock = some x → w.heap.size + 2 ≤ x := fun x e => (hinv.out.runs.lt x e).1
          have n1 : w.heap.size ≠ n3 := by omega
          have n2 : (Value.slice va k vc).ownBlock ≠ some w.heap.size := fun e => by have := hrb _ e; omega
          have run : ∀ (q : Nat) (hq : q < rs.length), ∃ rh qc ql, rs[q]? = some ⟨some ⟨rh, 0, none⟩, qc, ql⟩ ∧ Row flP.c 3 wr wr.heap.size (some ⟨rh, 0, none⟩) ql ∧ ql.length ≤ 300 ∧ mgp.Asc ql ∧ b < w.heap.size ∧ wr.cell? ⟨b, q, none⟩ = some (.slice (some ⟨rh, 0, none⟩) ql.length qc) := fun q hq => by
            obtain ⟨rh, hra⟩ := HRS.out rs[q] (List.getElem_mem hq)
            have hrow := HR.out.2 rs[q] (List.getElem_mem hq)
            obtain ⟨⟨qa, qc, ql⟩, he⟩ : ∃ e, rs[q] = e := ⟨_, rfl⟩
            rw [he] at hrow hra
            simp only at hra hrow
            subst hra
            have hg : rs[q]? = some ⟨some ⟨rh, 0, none⟩, qc, ql⟩ := by rw [← he]; exact List.getElem?_eq_getElem hq
            have hok := HOK.out.ro q ql (map_at hg)
            refine ⟨rh, qc, ql, hg, hrow.inn hinv.out.bel, hok.ll, mgp.asc_of hok.up, ?_⟩
            rcases HR.out.1 with h0 | ⟨b', off', hh, hlt, hc⟩
            · rw [h0] at hq; simp at hq
            · cases hh
              refine ⟨hlt, ?_⟩
              have := hc q _ hg 0 _ rfl
              rw [World.cell?_of_block (hinv.out.bel.block b hlt)]
              simpa using this
          by_cases hji : j = i
          · subst hji
            obtain ⟨rh, qc, ql, hg, hrow, hql, hasc, hbl, hbc⟩ := run j (by omega)
            obtain ⟨rh2, qc2, ql2, hg2, hrow2, hql2, hasc2, _, hbc2⟩ := run (j + 1) (by omega)
            obtain ⟨last, hlast⟩ : ∃ last : Bool, decide (j + 2 = rs.length) = last := ⟨_, rfl⟩
            have d0 : ((j : Int) + 2 == (rs.length : Int)) = last := by
              rw [← hlast]
              by_cases h : j + 2 = rs.length
              · rw [decide_eq_true h]; simp; omega
              · rw [decide_eq_false h]; simp; omega
            have d1 : ((j : Int) == (j : Int)) = true := by simp
            have w3 : IntKind.i64.wrap ((j : Int) + 1) = (j : Int) + 1 := by rw [IntKind.wrap_i64]; omega
            have w4 : IntKind.i64.wrap ((j : Int) + 2) = (j : Int) + 2 := by rw [IntKind.wrap_i64]; omega
            have i3 : (j : Int) + 1 < (rs.length : Int) := by omega
            have i4 : (0 : Int) ≤ (j : Int) + 1 := by omega
            have i5 : ((j : Int) + 1).toNat = j + 1 := by omega
            have HTD : Hid (todo (rs.map (·.l)) j j = merged ql ql2 last :: todo (rs.map (·.l)) j (j + 1)) := by
              unfold Hid
              rw [todo_merge (map_at hg) (map_at hg2), List.length_map, hlast]
            have HCA : Hid (∀ W, Below wr.heap.size wr W → Calls Try.prog 51 #[.slice (some ⟨rh, 0, none⟩) ql.length qc, .slice (some ⟨rh2, 0, none⟩) ql2.length qc2, .bool last] W fun r w' => ∃ v, r = .returned v ∧ w'.ownsRow W.heap.size 63 3 v (merged ql ql2 last).length ((merged ql ql2 last).flatMap flP.c) ∧ Below W.heap.size W w') := fun W hb =>
              (spec_merged ql ql2 (some ⟨rh, 0, none⟩) ⟨rh2, 0, none⟩ qc qc2 last W (by omega) (by omega) hasc hasc2 (hrow.inn hb) (hrow2.inn hb)).mono fun r w' ⟨v, h1, _, _, h2, h3⟩ => ⟨v, h1, h2, h3⟩
            have hAh := hinv.out.ah (merged ql ql2 last).length ((merged ql ql2 last).flatMap flP.c)
            have n3' : b ≠ n3 := by omega
            have n4 : (Value.slice va k vc).ownBlock ≠ some b := fun e => by have := hrb _ e; omega
            have HAh : Hid (Ah ⟨wr, w.heap.size + 2, n3, .slice (some ⟨g1, 0, none⟩) ys.length c1, .slice va k vc, k, ks.flatMap cR, (merged ql ql2 last).length, (merged ql ql2 last).flatMap flP.c⟩) := hAh
            clear hAh run hrow hrow2 hasc hasc2 hg hg2 hlast
            go_wp2
            refine dk.region_gsets (smc.ws ⟨wr, w.heap.size + 2, n3, .slice (some ⟨g1, 0, none⟩) ys.length c1, .slice va k vc, k, ks.flatMap cR, (merged ql ql2 last).length, (merged ql ql2 last).flatMap flP.c⟩ w.heap.size b rs.length rc j (some ⟨rh, 0, none⟩) (some ⟨rh2, 0, none⟩) ql.length ql2.length qc qc2 last) [37, 38, 39, 40, 41, 42, 43, 44, 45, 46, 47, 48, 49, 50, 51, 52, 53, 54, 55, 56, 57, 58, 59] (smc.C ⟨wr, w.heap.size + 2, n3, .slice (some ⟨g1, 0, none⟩) ys.length c1, .slice va k vc, k, ks.flatMap cR, (merged ql ql2 last).length, (merged ql ql2 last).flatMap flP.c⟩) ⟨.slice none 0 0, 0, .slice none 0 0⟩ (by kernel_rfl) (by kernel_rfl) (fun _ => rfl) (by kernel_rfl) (smc.start _ _ HAh.out) ?each ?fin
            case each =>
              refine ⟨smc.quiet (by decide) (by simp) (.pointer (some ⟨n3, 1, none⟩)) (by rintro s _ ⟨⟩; exact dk.sets_on _ (by simp) _ rfl) (fun s W h => by simp [execOp, go_sem, Act.eval, dk.sets_get, smc.ws, List.lookup]), ?_⟩
              refine ⟨smc.st1 (by simp) (by rintro s _ ⟨⟩; exact dk.sets_on _ (by simp) _ rfl) (fun s W h => by have c : W.cell? ⟨n3, 1, none⟩ = some (.slice va k vc) := bcell h rfl; simp [execOp, go_sem, Act.eval, dk.sets_get, smc.ws, List.lookup, c]), ?_⟩
              refine ⟨smc.quiet (by decide) (by simp) (.pointer (some ⟨w.heap.size, 1, none⟩)) (by rintro s _ ⟨⟩; exact dk.sets_on _ (by simp) _ rfl) (fun s W h => by simp [execOp, go_sem, Act.eval, dk.sets_get, smc.ws, List.lookup]), ?_⟩
              refine ⟨smc.quiet (by decide) (by simp) (.slice (some ⟨b, 0, none⟩) rs.length rc) (by rintro s _ ⟨⟩; exact dk.sets_on _ (by simp) _ rfl) (fun s W h => by have c : W.cell? ⟨w.heap.size, 1, none⟩ = some (.slice (some ⟨b, 0, none⟩) rs.length rc) := old_cell h n1 n2 y1; simp [execOp, go_sem, Act.eval, dk.sets_get, smc.ws, List.lookup, c]), ?_⟩
              refine ⟨smc.quiet (by decide) (by simp) (.int .i64 j) (by rintro s _ ⟨⟩; exact dk.sets_on _ (by simp) _ rfl) (fun s W h => by simp [execOp, go_sem, Act.eval, dk.sets_get, smc.ws, List.lookup]), ?_⟩
              refine ⟨smc.quiet (by decide) (by simp) (.pointer (some ⟨b, j, none⟩)) (by rintro s _ ⟨⟩; exact dk.sets_on _ (by simp) _ rfl) (fun s W h => by simp [execOp, go_sem, Act.eval, dk.sets_get, smc.ws, List.lookup, i2]), ?_⟩
              refine ⟨smc.quiet (by decide) (by simp) (.slice (some ⟨rh, 0, none⟩) ql.length qc) (by rintro s _ ⟨⟩; exact dk.sets_on _ (by simp) _ rfl) (fun s W h => by have c : W.cell? ⟨b, j, none⟩ = some (.slice (some ⟨rh, 0, none⟩) ql.length qc) := old_cell h n3' n4 hbc; simp [execOp, go_sem, Act.eval, dk.sets_get, smc.ws, List.lookup, c]), ?_⟩
              refine ⟨smc.quiet (by decide) (by simp) (.pointer (some ⟨w.heap.size, 1, none⟩)) (by rintro s _ ⟨⟩; exact dk.sets_on _ (by simp) _ rfl) (fun s W h => by simp [execOp, go_sem, Act.eval, dk.sets_get, smc.ws, List.lookup]), ?_⟩
              refine ⟨smc.quiet (by decide) (by simp) (.slice (some ⟨b, 0, none⟩) rs.length rc) (by rintro s _ ⟨⟩; exact dk.sets_on _ (by simp) _ rfl) (fun s W h => by have c : W.cell? ⟨w.heap.size, 1, none⟩ = some (.slice (some ⟨b, 0, none⟩) rs.length rc) := old_cell h n1 n2 y1; simp [execOp, go_sem, Act.eval, dk.sets_get, smc.ws, List.lookup, c]), ?_⟩
              refine ⟨smc.quiet (by decide) (by simp) (.int .i64 j) (by rintro s _ ⟨⟩; exact dk.sets_on _ (by simp) _ rfl) (fun s W h => by simp [execOp, go_sem, Act.eval, dk.sets_get, smc.ws, List.lookup]), ?_⟩
              refine ⟨smc.quiet (by decide) (by simp) (.int .i64 ((j : Int) + 1)) (by rintro s _ ⟨⟩; exact dk.sets_on _ (by simp) _ rfl) (fun s W h => by simp [execOp, go_sem, Act.eval, dk.sets_get, smc.ws, List.lookup, w3]), ?_⟩
              refine ⟨smc.quiet (by decide) (by simp) (.pointer (some ⟨b, j + 1, none⟩)) (by rintro s _ ⟨⟩; exact dk.sets_on _ (by simp) _ rfl) (fun s W h => by simp [execOp, go_sem, Act.eval, dk.sets_get, smc.ws, List.lookup, i3, i4, i5]), ?_⟩
              refine ⟨smc.quiet (by decide) (by simp) (.slice (some ⟨rh2, 0, none⟩) ql2.length qc2) (by rintro s _ ⟨⟩; exact dk.sets_on _ (by simp) _ rfl) (fun s W h => by have c : W.cell? ⟨b, j + 1, none⟩ = some (.slice (some ⟨rh2, 0, none⟩) ql2.length qc2) := old_cell h n3' n4 hbc2; simp [execOp, go_sem, Act.eval, dk.sets_get, smc.ws, List.lookup, c]), ?_⟩
              refine ⟨smc.quiet (by decide) (by simp) (.int .i64 j) (by rintro s _ ⟨⟩; exact dk.sets_on _ (by simp) _ rfl) (fun s W h => by simp [execOp, go_sem, Act.eval, dk.sets_get, smc.ws, List.lookup]), ?_⟩
              refine ⟨smc.quiet (by decide) (by simp) (.int .i64 ((j : Int) + 2)) (by rintro s _ ⟨⟩; exact dk.sets_on _ (by simp) _ rfl) (fun s W h => by simp [execOp, go_sem, Act.eval, dk.sets_get, smc.ws, List.lookup, w4]), ?_⟩
              refine ⟨smc.quiet (by decide) (by simp) (.pointer (some ⟨w.heap.size, 1, none⟩)) (by rintro s _ ⟨⟩; exact dk.sets_on _ (by simp) _ rfl) (fun s W h => by simp [execOp, go_sem, Act.eval, dk.sets_get, smc.ws, List.lookup]), ?_⟩
              refine ⟨smc.quiet (by decide) (by simp) (.slice (some ⟨b, 0, none⟩) rs.length rc) (by rintro s _ ⟨⟩; exact dk.sets_on _ (by simp) _ rfl) (fun s W h => by have c : W.cell? ⟨w.heap.size, 1, none⟩ = some (.slice (some ⟨b, 0, none⟩) rs.length rc) := old_cell h n1 n2 y1; simp [execOp, go_sem, Act.eval, dk.sets_get, smc.ws, List.lookup, c]), ?_⟩
              refine ⟨smc.quiet (by decide) (by simp) (.int .i64 rs.length) (by rintro s _ ⟨⟩; exact dk.sets_on _ (by simp) _ rfl) (fun s W h => by simp [go_sem, Act.eval, dk.sets_get, smc.ws, List.lookup]), ?_⟩
              refine ⟨smc.quiet (by decide) (by simp) (.bool last) (by rintro s _ ⟨⟩; exact dk.sets_on _ (by simp) _ rfl) (fun s W h => by simp [execOp, go_sem, Act.eval, dk.sets_get, smc.ws, List.lookup, d0]), ?_⟩
              refine ⟨smc.st19 HAh.out (by simp) (by simp) rfl #[.slice (some ⟨rh, 0, none⟩) ql.length qc, .slice (some ⟨rh2, 0, none⟩) ql2.length qc2, .bool last] 51 (fun s W => by simp [go_sem, Act.eval, dk.sets_get, smc.ws, List.lookup]) HCA.out, ?_⟩
              refine ⟨smc.st20 HAh.out (by simp) rfl rfl ⟨⟨19, .data⟩, by simp, rfl, rfl⟩, ?_⟩
              refine ⟨smc.st21 HAh.out ki kz0 kz1 kz2 rfl (by simp) rfl rfl (by show k ≤ 1048576; omega) ⟨⟨20, .data⟩, by simp, rfl, rfl⟩ ⟨⟨1, .data⟩, by simp, rfl, rfl⟩, ?_⟩
              refine ⟨smc.quiet (by decide) (by simp) (.pointer (some ⟨n3, 1, none⟩)) (by rintro s _ ⟨⟩; exact dk.sets_on _ (by simp) _ rfl) (fun s W h => by simp [execOp, go_sem, Act.eval, dk.sets_get, smc.ws, List.lookup]), ?_⟩
              exact ⟨smc.st23 HAh.out (by simp) (by simp) rfl (fun s W h hv => by obtain ⟨av, nv, cv, hv⟩ := hv; have c : W.cell? ⟨n3, 1, none⟩ = some (.slice va k vc) := bcell h rfl; have f := bfree h 1; rw [hv]; simp [execOp, go_sem, Act.eval, dk.sets_get, smc.ws, List.lookup, c, f, hv]) ⟨⟨21, .data⟩, by simp, rfl, rfl⟩, trivial⟩
            case fin =>
              intro g L W2 hL hC
              obtain ⟨d1, d2, d3, d4⟩ := smc.done hC hL
              obtain ⟨qa, qq, hqv⟩ := smc.slice_of d3
              rw [hqv] at d3 d4
              obtain ⟨va', vc', ks', hv2, hst⟩ := hinv.out.step (r := ⟨qa, qq, merged ql ql2 last⟩) HTD.out d1 d2 d3 d4
              have HN : Hid (StMO w ys rs a0 yc (some ⟨b, 0, none⟩) rc n3 g1 c1 (k + 1) va' vc' ks' (todo (rs.map (·.l)) j (j + 1)) (mrg (rs.map (·.l)) j) W2) := hst
              simp only [dk.sets, smc.ws, hv2, hqv]
              clear hC hL d1 d2 d3 d4 hst
              go_wp2
              go_roundw
              all_goals first | exact ⟨j + 1, k + 1, va', vc', ks', by omega, by go_num, by omega, HN⟩ | (simp [intOf]; omega)
          · by_cases hji1 : j = i + 1
            · have d1 : ((j : Int) == (i : Int)) = false := by simp; omega
              have d2 : ((j : Int) != (i : Int) + 1) = false := by simp; omega
              have w3 : IntKind.i64.wrap ((i : Int) + 1) = (i : Int) + 1 := by rw [IntKind.wrap_i64]; omega
              have HN : Hid (StMO w ys rs a0 yc (some ⟨b, 0, none⟩) rc n3 g1 c1 k va vc ks (todo (rs.map (·.l)) i (j + 1)) (mrg (rs.map (·.l)) i) wr) := by
                unfold Hid
                have := hinv.out
                rw [hji1, todo_skip, ← hji1] at this
                exact this
              clear hinv run hji hji1
              go_wp2
              go_roundw
              all_goals first | exact ⟨j + 1, k, va, vc, ks, by omega, by go_num, by omega, HN⟩ | (simp [intOf]; omega)
            · obtain ⟨rh, qc, ql, hg, hrow, hql, hasc, hbl, hbc⟩ := run j (by omega)
              have d1 : ((j : Int) == (i : Int)) = false := by simp; omega
              have d2 : ((j : Int) != (i : Int) + 1) = true := by simp; omega
              have w3 : IntKind.i64.wrap ((i : Int) + 1) = (i : Int) + 1 := by rw [IntKind.wrap_i64]; omega
              have HTD : Hid (todo (rs.map (·.l)) i j = ql :: todo (rs.map (·.l)) i (j + 1)) := todo_copy (map_at hg) hji hji1
              have HQ : Hid (Row flP.c 3 wr wr.heap.size (some ⟨rh, 0, none⟩) ql) := hrow
              have hAh := hinv.out.ah ql.length (ql.flatMap flP.c)
              have n3' : b ≠ n3 := by omega
              have n4 : (Value.slice va k vc).ownBlock ≠ some b := fun e => by have := hrb _ e; omega
              have HAh : Hid (Ah ⟨wr, w.heap.size + 2, n3, .slice (some ⟨g1, 0, none⟩) ys.length c1, .slice va k vc, k, ks.flatMap cR, ql.length, ql.flatMap flP.c⟩) := hAh
              clear hAh run hji hji1 hrow hasc hg
              go_wp2
              refine dk.region_gsets (smr.ws ⟨wr, w.heap.size + 2, n3, .slice (some ⟨g1, 0, none⟩) ys.length c1, .slice va k vc, k, ks.flatMap cR, ql.length, ql.flatMap flP.c⟩ w.heap.size b rs.length rc rh qc j) [64, 65, 66, 67, 68, 69, 70, 71, 72, 73, 74, 75] (sct.C ⟨wr, w.heap.size + 2, n3, .slice (some ⟨g1, 0, none⟩) ys.length c1, .slice va k vc, k, ks.flatMap cR, ql.length, ql.flatMap flP.c⟩) ⟨0, 0, 0, 0, .slice none 0 0⟩ (by kernel_rfl) (by kernel_rfl) (fun _ => rfl) (by kernel_rfl) (sct.start _ _ HAh.out) ?each ?fin
              case each =>
                refine ⟨smr.quiet (by decide) (by simp) (.pointer (some ⟨n3, 1, none⟩)) (by rintro s _ ⟨⟩; exact dk.sets_on _ (by simp) _ rfl) (fun s W h => by simp [execOp, go_sem, Act.eval, dk.sets_get, smr.ws, List.lookup]), ?_⟩
                refine ⟨smr.st1 (by simp) (by rintro s _ ⟨⟩; exact dk.sets_on _ (by simp) _ rfl) (fun s W h => by have c : W.cell? ⟨n3, 1, none⟩ = some (.slice va k vc) := bcell h rfl; simp [execOp, go_sem, Act.eval, dk.sets_get, smr.ws, List.lookup, c]), ?_⟩
                refine ⟨smr.st2 HAh.out (by simp) rfl rfl, ?_⟩
                refine ⟨smr.quiet (by decide) (by simp) (.pointer (some ⟨w.heap.size, 1, none⟩)) (by rintro s _ ⟨⟩; exact dk.sets_on _ (by simp) _ rfl) (fun s W h => by simp [execOp, go_sem, Act.eval, dk.sets_get, smr.ws, List.lookup]), ?_⟩
                refine ⟨smr.quiet (by decide) (by simp) (.slice (some ⟨b, 0, none⟩) rs.length rc) (by rintro s _ ⟨⟩; exact dk.sets_on _ (by simp) _ rfl) (fun s W h => by have c : W.cell? ⟨w.heap.size, 1, none⟩ = some (.slice (some ⟨b, 0, none⟩) rs.length rc) := old_cell h n1 n2 y1; simp [execOp, go_sem, Act.eval, dk.sets_get, smr.ws, List.lookup, c]), ?_⟩
                refine ⟨smr.quiet (by decide) (by simp) (.int .i64 j) (by rintro s _ ⟨⟩; exact dk.sets_on _ (by simp) _ rfl) (fun s W h => by simp [execOp, go_sem, Act.eval, dk.sets_get, smr.ws, List.lookup]), ?_⟩
                refine ⟨smr.quiet (by decide) (by simp) (.pointer (some ⟨b, j, none⟩)) (by rintro s _ ⟨⟩; exact dk.sets_on _ (by simp) _ rfl) (fun s W h => by simp [execOp, go_sem, Act.eval, dk.sets_get, smr.ws, List.lookup, i2]), ?_⟩
                refine ⟨smr.quiet (by decide) (by simp) (.slice (some ⟨rh, 0, none⟩) ql.length qc) (by rintro s _ ⟨⟩; exact dk.sets_on _ (by simp) _ rfl) (fun s W h => by have c : W.cell? ⟨b, j, none⟩ = some (.slice (some ⟨rh, 0, none⟩) ql.length qc) := old_cell h n3' n4 hbc; simp [execOp, go_sem, Act.eval, dk.sets_get, smr.ws, List.lookup, c]), ?_⟩
                refine ⟨smr.st8 HAh.out hi hz0 hz1 hz2 rfl (by simp) rfl rfl (flat_len flP.c_len ql) (fun W hb => newsP (HQ.out.inn hb)) (oneP ql) (by show ql.length ≤ 1048576; omega) ⟨⟨2, .data⟩, by simp, rfl, rfl⟩, ?_⟩
                refine ⟨smr.st9 HAh.out (by simp) rfl rfl ⟨⟨8, .data⟩, by simp, rfl, rfl⟩, ?_⟩
                refine ⟨smr.st10 HAh.out ki kz0 kz1 kz2 rfl (by simp) rfl rfl (by show k ≤ 1048576; omega) ⟨⟨9, .data⟩, by simp, rfl, rfl⟩ ⟨⟨1, .data⟩, by simp, rfl, rfl⟩, ?_⟩
                refine ⟨smr.quiet (by decide) (by simp) (.pointer (some ⟨n3, 1, none⟩)) (by rintro s _ ⟨⟩; exact dk.sets_on _ (by simp) _ rfl) (fun s W h => by simp [execOp, go_sem, Act.eval, dk.sets_get, smr.ws, List.lookup]), ?_⟩
                exact ⟨smr.st12 HAh.out (by simp) (by simp) rfl (fun s W h hv => by obtain ⟨av, nv, cv, hv⟩ := hv; have c : W.cell? ⟨n3, 1, none⟩ = some (.slice va k vc) := bcell h rfl; have f := bfree h 1; rw [hv]; simp [execOp, go_sem, Act.eval, dk.sets_get, smr.ws, List.lookup, c, f, hv]) ⟨⟨10, .data⟩, by simp, rfl, rfl⟩, trivial⟩
              case fin =>
                intro g L W2 hL hC
                obtain ⟨d1, d2, d3, d4⟩ := sct.done hC hL
                obtain ⟨va', vc', ks', hv2, hst⟩ := hinv.out.step (r := ⟨some ⟨g.b1, 0, none⟩, g.q1, ql⟩) HTD.out d1 d2 d3 d4
                have HN : Hid (StMO w ys rs a0 yc (some ⟨b, 0, none⟩) rc n3 g1 c1 (k + 1) va' vc' ks' (todo (rs.map (·.l)) i (j + 1)) (mrg (rs.map (·.l)) i) W2) := hst
                simp only [dk.sets, smr.ws, hv2]
                clear hC hL d1 d2 d3 d4 hst
                go_wp2
                go_roundw
                all_goals first | exact ⟨j + 1, k + 1, va', vc', ks', by omega, by go_num, by omega, HN⟩ | (simp [intOf]; omega)
        · obtain rfl : j = rs.length := by omega
          have y1 : wr.cell? ⟨w.heap.size, 1, none⟩ = some (.slice ra rs.length rc) := bcell hinv.out.box rfl
          have u0 : wr.cell? ⟨n3, 0, none⟩ = some (.slice (some ⟨g1, 0, none⟩) ys.length c1) := bcell hinv.out.out rfl
          have u1 : wr.cell? ⟨n3, 1, none⟩ = some (.slice va k vc) := bcell hinv.out.out rfl
          have hmi : i + 2 ≤ (rs.map (·.l)).length := by rw [List.length_map]; exact hii
          have hkm : ks.map (·.l) = mrg (rs.map (·.l)) i := by
            have := hinv.out.same
            rw [show todo (rs.map (·.l)) i rs.length = [] by have := todo_end hmi; rwa [List.length_map] at this, List.append_nil] at this
            exact this
          have hkl : k = ks.length := by
            have h1 := hinv.out.runs.1
            rw [flat_len cR_len] at h1
            omega
          have hk1 : ks.length = rs.length - 1 := by rw [← List.length_map (f := fun r : Rn => r.l), hkm, mrg_len hmi, List.length_map]
          have hvr : Row flP.c 3 wr wr.heap.size (some ⟨g1, 0, none⟩) ys ∧ VR wr wr.heap.size va ks := fls.rows_of (n := 0) hkl hinv.out.fresh hinv.out.runs hinv.out.rows
          have hfit : tb.Fit ys ks := by
            refine ⟨hyl, by omega, HF.out.yo, fun r hr => ?_⟩
            have hold : ∀ l ∈ rs.map (·.l), l.length ≤ 1048576 ∧ ∀ e ∈ l, e.k.size ≤ 1048576 ∧ e.v.size ≤ 1048576 := fun l hl => by
              obtain ⟨q, hq, e⟩ := List.mem_map.1 hl
              rw [← e]
              exact HF.out.ro q hq
            have hm : r.l ∈ mrg (rs.map (·.l)) i := by rw [← hkm]; exact List.mem_map.2 ⟨r, hr, rfl⟩
            exact mrg_fit HOK.out hmi hold _ hm
          have hok2 := spec_okb ys ks (some ⟨g1, 0, none⟩) va c1 vc wr hfit hvr.1 hvr.2
          rw [← hkl, hkm] at hok2
          have HKM : Hid (ks.map (·.l) = mrg (rs.map (·.l)) i) := hkm
          have HKL : Hid (k = ks.length) := hkl
          clear hjl hj hkm hvr hfit hk1 hkl hkj
          go_wp2_with (go_at_call 49; fail)
          clear y1 u0 u1
          refine hok2.mono ?_
          rintro e w8 ⟨rfl, hb8⟩
          have HX8 : Hid (StMO w ys rs a0 yc ra rc n3 g1 c1 k va vc ks (todo (rs.map (·.l)) i rs.length) (mrg (rs.map (·.l)) i) w8) := hinv.out.on hb8
          clear hok2 hb8 hinv
          cases hob2 : okB ys (mrg (rs.map (·.l)) i) with
          | true =>
            have HC : Hid (can ys (rs.map (·.l)) (i : Int) = true) := by unfold Hid can; rw [HOB.out, HIN.out, Int.toNat_natCast, hob2]; rfl
            have HQ : Hid (ansR ys (rs.map (·.l)) (i : Int) = mrg (rs.map (·.l)) i) := by unfold Hid; rw [ans_yes HC.out, Int.toNat_natCast]
            have y0 : w8.cell? ⟨n3, 0, none⟩ = some (.slice (some ⟨g1, 0, none⟩) ys.length c1) := bcell HX8.out.out rfl
            have y1 : w8.cell? ⟨n3, 1, none⟩ = some (.slice va k vc) := bcell HX8.out.out rfl
            have r0 : w8.cell? ⟨w.heap.size + 1, 0, none⟩ = some (.slice none 0 0) := bcell HX8.out.res rfl
            have r1 : w8.cell? ⟨w.heap.size + 1, 1, none⟩ = some (.slice none 0 0) := bcell HX8.out.res rfl
            have f0 := bfree HX8.out.res 0
            have f1 := bfree HX8.out.res 1
            clear hob2
            go_wp2
            have hrw : sco.SR ((w8.setCell ⟨w.heap.size + 1, 0, none⟩ (.slice (some ⟨g1, 0, none⟩) ys.length c1)).setCell ⟨w.heap.size + 1, 1, none⟩ (.slice va k vc)) (w.heap.size + 2) (some ⟨g1, 0, none⟩) c1 va vc ys ks := ⟨(own_set (j := 1) (u := .slice va k vc) (own_set (j := 0) (u := .slice (some ⟨g1, 0, none⟩) ys.length c1) HX8.out.fresh (show w.heap.size + 1 < w.heap.size + 2 by omega)) (show w.heap.size + 1 < w.heap.size + 2 by omega)), by rw [← HKL.out]; exact (own_set (j := 1) (u := .slice va k vc) (own_set (j := 0) (u := .slice (some ⟨g1, 0, none⟩) ys.length c1) HX8.out.runs (show w.heap.size + 1 < w.heap.size + 2 by omega)) (show w.heap.size + 1 < w.heap.size + 2 by omega)), fun r hr => (own_set (j := 1) (u := .slice va k vc) (own_set (j := 0) (u := .slice (some ⟨g1, 0, none⟩) ys.length c1) (HX8.out.rows r hr) (show w.heap.size + 1 < w.heap.size + 2 by omega)) (show w.heap.size + 1 < w.heap.size + 2 by omega))⟩
            exact bodyPost_ret (v := .tuple #[.agg #[.slice (some ⟨g1, 0, none⟩) ys.length c1, .slice va k vc], .bool true]) (by simp [results, Try.results31, go_sem, r0, r1]) rfl ⟨some ⟨g1, 0, none⟩, c1, va, vc, ks, by rw [HQ.out, HC.out, ← HKM.out, List.length_map, ← HKL.out], by rw [HQ.out]; exact HKM.out, hrw, (HX8.out.bel.setCell (Nat.le_succ _) _).setCell (Nat.le_succ _) _⟩
          | false =>
            have HC : Hid (can ys (rs.map (·.l)) (i : Int) = false) := by unfold Hid can; rw [HOB.out, HIN.out, Int.toNat_natCast, hob2]; rfl
            have x0 : w8.cell? ⟨w.heap.size, 0, none⟩ = some (.slice (some ⟨a0, 0, none⟩) ys.length yc) := bcell HX8.out.box rfl
            have x1 : w8.cell? ⟨w.heap.size, 1, none⟩ = some (.slice ra rs.length rc) := bcell HX8.out.box rfl
            have hcp := sco.spec_copy ys rs a0 yc ra rc w8 HF.out (HY.out.inn HX8.out.bel) ((HR.out.inn HX8.out.bel).1) HRA.out (fun r hr => ⟨HRS.out r hr, (HR.out.inn HX8.out.bel).2 r hr⟩)
            have hs8 : w.heap.size + 1 < w8.heap.size := (Array.getElem?_eq_some_iff.1 HX8.out.res).1
            have hbel8 := HX8.out.bel
            clear hob2
            go_wp2_with (go_at_call 42; fail)
            clear x0 x1
            refine hcp.mono ?_
            rintro e w3 ⟨g9, c9, va9, vc9, ks, rfl, of3, or3, m3, rows3, _, hb3⟩
            have l3 : rs.length = ks.length := by have := congrArg List.length m3; simpa using this.symm
            have r3 := bstay HX8.out.res hb3 (by omega)
            have r0 : w3.cell? ⟨w.heap.size + 1, 0, none⟩ = some (.slice none 0 0) := bcell r3 rfl
            have r1 : w3.cell? ⟨w.heap.size + 1, 1, none⟩ = some (.slice none 0 0) := bcell r3 rfl
            have f0 := bfree r3 0
            have f1 := bfree r3 1
            have HB3 : Hid (Below w.heap.size w w3) := hbel8.trans (hb3.mono hbel8.size)
            have HRW : Hid (sco.SR ((w3.setCell ⟨w.heap.size + 1, 0, none⟩ (.slice (some ⟨g9, 0, none⟩) ys.length c9)).setCell ⟨w.heap.size + 1, 1, none⟩ (.slice va9 rs.length vc9)) (w.heap.size + 2) (some ⟨g9, 0, none⟩) c9 va9 vc9 ys ks) := ⟨own_low (own_set (own_set of3 (by omega)) (by omega)) (by omega), by rw [← l3]; exact own_low (own_set (own_set or3 (by omega)) (by omega)) (by omega), fun r hr => own_low (own_set (own_set (rows3 r hr) (by omega)) (by omega)) (by omega)⟩
            have HM : Hid (ks.map (·.l) = rs.map (·.l)) := m3
            clear hcp m3 of3 or3 rows3 l3 r3 hb3
            go_wp2
            exact bodyPost_ret (v := .tuple #[.agg #[.slice (some ⟨g9, 0, none⟩) ys.length c9, .slice va9 rs.length vc9], .bool false]) (by simp [results, Try.results31, go_sem, r0, r1]) rfl ⟨some ⟨g9, 0, none⟩, c9, va9, vc9, ks, by rw [ans_no HC.out, HC.out, List.length_map], by rw [ans_no HC.out]; exact HM.out, HRW.out, (HB3.out.setCell (Nat.le_succ _) _).setCell (Nat.le_succ _) _⟩
end Go.Proofs.Ytfoajjkcocppeaa.mgco
