/- The specification's TableMerge: what stands in its loop, where the runs' row may be nothing. -/
import Derived.Test.YtokaoafbgebelaaTd03
import Derived.Test.YtokaoafbgebelaaTd13
import Derived.Test.YtokaoafbgebelaaTd04
import Derived.Test.YtokaoafbgebelaaTd05

/- The specification's TableMerge: the region of its loop that puts two runs together. -/
namespace Go.Proofs.Ytokaoafbgebelaa.smc
open Go.ChangeShapes Go.WideShapes Go.ChangeAt Go.RowKit Go.Proofs.Ytokaoafbgebelaa.fl Go.Proofs.Ytokaoafbgebelaa.fo Go.Proofs.Ytokaoafbgebelaa.rn Go.Proofs.Ytokaoafbgebelaa.sct
set_option linter.unusedVariables false

/-- what is drawn: the new run, the one run's place, the runs' row behind the append -/
structure G where
  v1 : Value
  h : Nat
  v2 : Value
structure D (p : Pm) (g : G) (c1 c19 c20 c21 c23 : Bool) (W : World) : Prop where
  tn : Tn p.W0 W (fun b => (c21 = true ∧ p.rv.ownBlock = some b) ∨ (c23 = true ∧ b = p.n3))
  out : W.heap[p.n3]? = some (.cells #[p.f0, if c23 then g.v2 else p.rv] 27 (0, 0))
  at19 : c19 = true → W.ownsRow p.W0.heap.size 40 3 g.v1 p.n p.xs
  at20 : c20 = true → c19 = true ∧ (c21 = false → W.heap[g.h]? = some (.cells #[g.v1] 24 (0, 0)))
  at21 : c21 = true → c20 = true ∧ c1 = true ∧ W.ownsRow p.B 24 1 g.v2 (p.k + 1) (p.ys ++ [g.v1])
  at23 : c23 = true → c21 = true
section
variable {p : Pm} {g : G} {c1 c19 c20 c21 c23 : Bool} {W W' : World} {v : Value}
theorem no20 (h : D p g c1 false c20 c21 c23 W) : c20 = false := by
  cases c20 with
  | false => rfl
  | true => have := (h.at20 rfl).1; cases this
theorem no21 (h : D p g c1 c19 false c21 c23 W) : c21 = false := by
  cases c21 with
  | false => rfl
  | true => have := (h.at21 rfl).1; cases this
theorem no211 (h : D p g false c19 c20 c21 c23 W) : c21 = false := by
  cases c21 with
  | false => rfl
  | true => have := (h.at21 rfl).2.1; cases this
theorem no23 (h : D p g c1 c19 c20 false c23 W) : c23 = false := by
  cases c23 with
  | false => rfl
  | true => have := h.at23 rfl; cases this
theorem D.below (h : D p g c1 c19 c20 false false W) : Below p.W0.heap.size p.W0 W := h.tn.below (Nat.le_refl _) (fun k hk => by simp at hk)
theorem D.old (h : D p g c1 c19 c20 c21 c23 W) {b : Nat} {o : Obj} (hb : p.W0.heap[b]? = some o) (hne : b ≠ p.n3) (hr : p.rv.ownBlock ≠ some b) : W.heap[b]? = some o := by
  rw [h.tn.block b (Array.getElem?_eq_some_iff.1 hb).1 (fun e => by rcases e with ⟨_, e⟩ | ⟨_, e⟩ <;> contradiction)]
  exact hb
theorem D.s1 (h : D p g false c19 c20 c21 c23 W) : D p g true c19 c20 c21 c23 W := by
  obtain rfl := no211 h
  exact ⟨h.tn, h.out, h.at19, h.at20, fun e => (by cases e), h.at23⟩
theorem D.s19 (h : D p g c1 false c20 c21 c23 W) (hA : Ah p) (hb : Below W.heap.size W W') (ho : W'.ownsRow p.W0.heap.size 40 3 v p.n p.xs) : D p { g with v1 := v } c1 true c20 c21 c23 W' := by
  obtain rfl := no20 h
  obtain rfl := no21 h
  obtain rfl := no23 h
  have hl := hA.lt
  have hs := h.tn.size
  exact ⟨⟨hb.os.trans h.tn.os, hb.tape.trans h.tn.tape, hb.output.trans h.tn.output, Nat.le_trans hs hb.size, fun k hk hS => (hb.block k (by omega)).trans (h.tn.block k hk hS)⟩, (hb.block _ (by omega)).trans h.out, fun _ => ho, fun e => (by cases e), fun e => (by cases e), fun e => (by cases e)⟩
theorem D.s20 (h : D p g c1 c19 false c21 c23 W) (hA : Ah p) (h19 : c19 = true) : D p { g with h := W.heap.size } c1 c19 true c21 c23 (W.alloc (.cells #[g.v1] 24)) := by
  obtain rfl := no21 h
  obtain rfl := no23 h
  exact ⟨tn_grow h.tn (World.grownBy_alloc W _ none) (fun b e => by cases e), bold h.out _, fun a => (h.at19 a).alloc _, fun _ => ⟨h19, fun _ => bnew W _ _⟩, fun e => (by cases e), fun e => (by cases e)⟩
theorem D.s21 (h : D p g c1 c19 c20 false c23 W) (hA : Ah p) (h20 : c20 = true) (h1 : c1 = true) (hg : W.grownBy W' p.rv.ownBlock) (ho : W'.ownsRow p.B 24 1 v (p.k + 1) (p.ys ++ [g.v1])) : D p { g with v2 := v } c1 c19 c20 true c23 W' := by
  obtain rfl := no23 h
  have h19 := (h.at20 h20).1
  have o19 := h.at19 h19
  have hl := hA.lt
  refine ⟨tn_grow (h.tn.wide (fun k hk => by simp at hk)) hg (fun b e hb => .inl ⟨rfl, e⟩), (hg.block _ (by have := h.tn.size; omega) (fun e => hA.ne e.symm)).trans h.out, fun _ => o19.kept hg ?_, fun _ => ⟨h19, fun e => (by cases e)⟩, fun _ => ⟨h20, h1, ho⟩, fun e => (by cases e)⟩
  cases hv : g.v1.ownBlock with
  | none => exact .inl rfl
  | some b =>
    right
    intro e
    have a1 := (o19.lt b hv).1
    have a2 := hA.small (b := b) (by first | exact e | exact e.symm)
    omega
theorem D.s23 (h : D p g c1 c19 c20 c21 false W) (hA : Ah p) (h21 : c21 = true) : D p g c1 c19 c20 c21 true (W.setCell ⟨p.n3, 1, none⟩ g.v2) := by
  obtain ⟨h20, h1, ho⟩ := h.at21 h21
  have h19 := (h.at20 h20).1
  have o19 := h.at19 h19
  have hl := hA.lt
  have hg : W.grownBy (W.setCell ⟨p.n3, 1, none⟩ g.v2) (some p.n3) := ⟨rfl, rfl, rfl, by simp, fun k hk hne => Below.heap_setCell _ _ _ _ (fun e => hne (by rw [e]))⟩
  refine ⟨tn_grow (h.tn.wide (fun k hk => ?_)) hg (fun b e hb => .inr ⟨rfl, (Option.some.inj e).symm⟩), bset h.out 1 g.v2, fun _ => o19.kept hg ?_, fun _ => ⟨h19, fun e => (by rw [h21] at e; cases e)⟩, fun _ => ⟨h20, h1, ho.kept hg ?_⟩, fun _ => h21⟩
  · rcases hk with hk | ⟨hk, _⟩
    · exact .inl hk
    · cases hk
  · right
    intro e
    have a1 := (o19.lt p.n3 e).1
    omega
  · right
    intro e
    obtain ⟨cur, hc⟩ := typed ho e
    rw [h.out] at hc
    simp at hc
end
def C (p : Pm) (g : G) (L : Nat → Bool) (W : World) : Prop := D p g (L 1) (L 19) (L 20) (L 21) (L 23) W
theorem C.d {p : Pm} {g : G} {L : Nat → Bool} {W : World} (h : C p g L W) : D p g (L 1) (L 19) (L 20) (L 21) (L 23) W := h
def ws (p : Pm) (s0 b m rc j : Nat) (a1 a2 : Option Addr) (l1 l2 c1 c2 : Nat) (last : Bool) (g : G) : List (Nat × Value) := [(37, .pointer (some ⟨p.n3, 1, none⟩)), (38, p.rv), (39, .pointer (some ⟨s0, 1, none⟩)), (40, .slice (some ⟨b, 0, none⟩) m rc), (41, .int .i64 j), (42, .pointer (some ⟨b, j, none⟩)), (43, .slice a1 l1 c1), (44, .pointer (some ⟨s0, 1, none⟩)), (45, .slice (some ⟨b, 0, none⟩) m rc), (46, .int .i64 j), (47, .int .i64 ((j : Int) + 1)), (48, .pointer (some ⟨b, j + 1, none⟩)), (49, .slice a2 l2 c2), (50, .int .i64 j), (51, .int .i64 ((j : Int) + 2)), (52, .pointer (some ⟨s0, 1, none⟩)), (53, .slice (some ⟨b, 0, none⟩) m rc), (54, .int .i64 m), (55, .bool last), (56, g.v1), (57, .slice (some ⟨g.h, 0, none⟩) 1 1), (58, g.v2), (59, .pointer (some ⟨p.n3, 1, none⟩))]
section
variable {p : Pm} {s0 b m rc j l1 l2 c1 c2 : Nat} {a1 a2 : Option Addr} {last : Bool} {act : Act} {Q : Exit → Act → World → Prop} {o : Oper}
theorem quiet {i : Nat} (hi : i = 0 ∨ (2 ≤ i ∧ i ≤ 18) ∨ i = 22) (hsel : ∀ cs b, o.op ≠ .select cs b) (u : Value) (hd : ∀ s d, o.dst = some d → (dk.sets act (ws p s0 b m rc j a1 a2 l1 l2 c1 c2 last s)).tmps[d]? = some u)
    (hrun : ∀ s W, (∀ (b : Nat) (o : Obj), p.W0.heap[b]? = some o → b ≠ p.n3 → p.rv.ownBlock ≠ some b → W.heap[b]? = some o) → (execOp (dk.sets act (ws p s0 b m rc j a1 a2 l1 l2 c1 c2 last s)).eval o).run Try.prog W = .ok (.value u) W) : gh.Step Try.prog (fun s => dk.sets act (ws p s0 b m rc j a1 a2 l1 l2 c1 c2 last s)) (C p) Q i o := by
  refine gh.step_val hsel fun s L W hdp h0 hC => ⟨s, u, gh.Agree.refl _ _, hd s, ?_⟩
  rw [hrun s W (fun b o hb hne hr => hC.d.old hb hne hr)]
  refine ⟨rfl, ?_⟩
  unfold C
  rw [more_off L (show 1 ≠ i by omega), more_off L (show 19 ≠ i by omega), more_off L (show 20 ≠ i by omega), more_off L (show 21 ≠ i by omega), more_off L (show 23 ≠ i by omega)]
  exact hC
theorem st1 (hsel : ∀ cs b, o.op ≠ .select cs b) (hd : ∀ s d, o.dst = some d → (dk.sets act (ws p s0 b m rc j a1 a2 l1 l2 c1 c2 last s)).tmps[d]? = some p.rv)
    (hrun : ∀ s W, W.heap[p.n3]? = some (.cells #[p.f0, p.rv] 27 (0, 0)) → (execOp (dk.sets act (ws p s0 b m rc j a1 a2 l1 l2 c1 c2 last s)).eval o).run Try.prog W = .ok (.value p.rv) W) : gh.Step Try.prog (fun s => dk.sets act (ws p s0 b m rc j a1 a2 l1 l2 c1 c2 last s)) (C p) Q 1 o := by
  refine gh.step_val hsel fun s L W hdp h0 hC => ⟨s, p.rv, gh.Agree.refl _ _, hd s, ?_⟩
  have hd := hC.d
  rw [h0] at hd
  have e23 : L 23 = false := by
    have e21 := no211 hd
    rw [e21] at hd
    exact no23 hd
  have ho := hd.out
  rw [e23] at ho
  rw [hrun s W ho]
  refine ⟨rfl, ?_⟩
  unfold C
  rw [more_on, more_off L (show 19 ≠ 1 by omega), more_off L (show 20 ≠ 1 by omega), more_off L (show 21 ≠ 1 by omega), more_off L (show 23 ≠ 1 by omega)]
  exact hd.s1
/-- an operation that enters a function: what comes back is known only behind it -/
theorem step_call {σ : Type} {P : Program} {fin : σ → Act} {C : σ → (Nat → Bool) → World → Prop} {Q : Exit → Act → World → Prop} {i : Nat} {o : Oper} (hsel : ∀ cs b, o.op ≠ .select cs b) (f : FuncId) (args : Array Value)
    (h : ∀ (s : σ) (L : Nat → Bool) (w : World), (∀ e ∈ o.after, Region.binds .any e = true → L e.on = true) → L i = false → C s L w →
      (execOp (fin s).eval o).run P w = .ok (.enter f args) w ∧ Calls P f args w fun e w' => ∃ s' v, e = .returned v ∧ gh.Agree o (fin s) (fin s') ∧ (∀ d, o.dst = some d → (fin s').tmps[d]? = some v) ∧ C s' (dn.more L i) w') : gh.Step P fin C Q i o := by
  intro s L w a ha hd h0 hC K hK
  obtain ⟨hr, hc⟩ := h s L w hd h0 hC
  unfold Oper.wp
  rw [execOp_congr o hsel ha, hr]
  simp only [Oper.upon]
  exact hc.mono fun e w'' ⟨s', v, he, hag, hv, hD⟩ => by subst he; exact hK s' _ _ hag hv hD
theorem st19 (hA : Ah p) (hsz : 59 < act.tmps.size) (hsel : ∀ cs b, o.op ≠ .select cs b) (hdst : o.dst = some 56) (args : Array Value) (fn : FuncId) (hrun : ∀ s W, (execOp (dk.sets act (ws p s0 b m rc j a1 a2 l1 l2 c1 c2 last s)).eval o).run Try.prog W = .ok (.enter fn args) W)
    (hcall : ∀ W, Below p.W0.heap.size p.W0 W → Calls Try.prog fn args W fun r w' => ∃ v, r = .returned v ∧ w'.ownsRow W.heap.size 40 3 v p.n p.xs ∧ Below W.heap.size W w') : gh.Step Try.prog (fun s => dk.sets act (ws p s0 b m rc j a1 a2 l1 l2 c1 c2 last s)) (C p) Q 19 o := by
  refine step_call hsel fn args fun s L W hdp h0 hC => ⟨hrun s W, ?_⟩
  have hd := hC.d
  rw [h0] at hd
  have hbel : Below p.W0.heap.size p.W0 W := by
    have e20 := no20 hd
    rw [e20] at hd
    have e21 := no21 hd
    rw [e21] at hd
    have e23 := no23 hd
    rw [e23] at hd
    exact hd.below
  refine (hcall W hbel).mono ?_
  rintro r w' ⟨v, rfl, ho, hb⟩
  refine ⟨{ s with v1 := v }, v, rfl, dk.agree_sets 19 56 _ hdst rfl rfl, (fun d' hd => by rw [hdst] at hd; cases hd; exact dk.sets_on _ (by omega) _ rfl), ?_⟩
  unfold C
  rw [more_on, more_off L (show 1 ≠ 19 by omega), more_off L (show 20 ≠ 19 by omega), more_off L (show 21 ≠ 19 by omega), more_off L (show 23 ≠ 19 by omega)]
  exact hd.s19 hA hb (own_low ho hbel.size)
theorem slice_of {w : World} {B n s : Nat} {U : TypeId} {v : Value} {xs : List Value} (h : w.ownsRow B U s v n xs) : ∃ a c, v = .slice a n c := by
  obtain ⟨_, ⟨rfl, h0⟩ | ⟨g', cap, cur, rfl, hB, hg, _⟩⟩ := h
  · exact ⟨none, 0, by rw [h0]⟩
  · exact ⟨_, _, rfl⟩
theorem st20 (hA : Ah p) (hsz : 59 < act.tmps.size) (hop : o.op = .buildSlice 25 1 #[(0, .tmp 56)]) (hdst : o.dst = some 57) (hdep : ∃ e ∈ o.after, Region.binds .any e = true ∧ e.on = 19) : gh.Step Try.prog (fun s => dk.sets act (ws p s0 b m rc j a1 a2 l1 l2 c1 c2 last s)) (C p) Q 20 o := by
  refine gh.step_val (by rw [hop]; simp) fun s L W hdp h0 hC => ⟨{ s with h := W.heap.size }, .slice (some ⟨W.heap.size, 0, none⟩) 1 1, dk.agree_sets 20 57 _ hdst rfl rfl, (fun d hd => by rw [hdst] at hd; cases hd; exact dk.sets_on _ (by omega) _ rfl), ?_⟩
  obtain ⟨xp, mp, yp, zp⟩ := hdep
  have lp := hdp xp mp yp
  rw [zp] at lp
  have hd := hC.d
  rw [h0] at hd
  obtain ⟨va, vc, hv⟩ := slice_of (hd.at19 lp)
  have e25 : (dk.sets act (ws p s0 b m rc j a1 a2 l1 l2 c1 c2 last s)).tmps[56]? = some s.v1 := dk.sets_on _ (by omega) _ rfl
  rw [hv] at e25
  have hrun : (execOp (dk.sets act (ws p s0 b m rc j a1 a2 l1 l2 c1 c2 last s)).eval o).run Try.prog W = .ok (.value (.slice (some ⟨W.heap.size, 0, none⟩) 1 1)) (W.alloc (.cells #[s.v1] 24)) := by
    rw [hv]
    simp [execOp, hop, go_sem, e25]
  rw [hrun]
  refine ⟨rfl, ?_⟩
  unfold C
  rw [more_on, more_off L (show 1 ≠ 20 by omega), more_off L (show 19 ≠ 20 by omega), more_off L (show 21 ≠ 20 by omega), more_off L (show 23 ≠ 20 by omega)]
  exact hd.s20 hA lp
variable {i1 : TypeInfo} {z1 : Value}
theorem st21 (hA : Ah p) (hi : Try.prog.info? 24 = some i1) (hz : i1.zero = some z1) (hn : i1.size = 1) (hb : i1.bytes = 24) (hzs : z1.cells.size = 1) (hsz : 59 < act.tmps.size)
    (hop : o.op = .call { callee := .builtin .append, args := #[.tmp 38, .tmp 57], argTypes := #[25, 25] }) (hdst : o.dst = some 58) (hk : p.k ≤ 1048576)
    (hdep : ∃ e ∈ o.after, Region.binds .any e = true ∧ e.on = 20) (hdep1 : ∃ e ∈ o.after, Region.binds .any e = true ∧ e.on = 1) : gh.Step Try.prog (fun s => dk.sets act (ws p s0 b m rc j a1 a2 l1 l2 c1 c2 last s)) (C p) Q 21 o := by
  refine gh.step_val (by rw [hop]; simp) fun s L W hdp h0 hC => ?_
  obtain ⟨xp, mp, yp, zp⟩ := hdep
  have lp := hdp xp mp yp
  rw [zp] at lp
  obtain ⟨xq, mq, yq, zq⟩ := hdep1
  have lq := hdp xq mq yq
  rw [zq] at lq
  have hd := hC.d
  rw [h0] at hd
  have hbel : Below p.W0.heap.size p.W0 W := by
    have e23 := no23 hd
    rw [e23] at hd
    exact hd.below
  obtain ⟨h19, hc⟩ := hd.at20 lp
  have hcell := hc rfl
  obtain ⟨va, vc, hv⟩ := slice_of (hd.at19 h19)
  have hold : W.ownsRow p.B 24 1 p.rv p.k p.ys := hA.runs.kept (row := none) ⟨hbel.os, hbel.tape, hbel.output, hbel.size, fun k hk _ => hbel.block k hk⟩ (by cases p.rv.ownBlock <;> simp)
  have hnews : ∀ j u, [s.v1][j]? = some u → W.cell? ((⟨s.h, 0, none⟩ : Addr).add j) = some u := fun j u hu => by
    rw [add0]
    exact bcell hcell (by simpa using hu)
  obtain ⟨v', w', hr, ho, hg, _, hat⟩ := run_append_own_at (P := Try.prog) W p.B 25 o.type 24 i1 z1 1 24 Try.underlying25 hi hz hn hb hzs (by omega) _ p.k p.ys hold ⟨s.h, 0, none⟩ 1 1 [s.v1] rfl hnews (by intro u hu; simp at hu; subst hu; rw [hv]; rfl) (by unfold maxLen; omega) (by omega) (Nat.le_trans hA.sz hd.tn.size)
  refine ⟨{ s with v2 := v' }, v', dk.agree_sets 21 58 _ hdst rfl rfl, (fun d' hd => by rw [hdst] at hd; cases hd; exact dk.sets_on _ (by omega) _ rfl), ?_⟩
  rw [app_run hop (dk.eval_on _ _ (by omega) rfl) (dk.eval_on _ _ (by omega) rfl) hr]
  refine ⟨rfl, ?_⟩
  unfold C
  rw [more_on, more_off L (show 1 ≠ 21 by omega), more_off L (show 19 ≠ 21 by omega), more_off L (show 20 ≠ 21 by omega), more_off L (show 23 ≠ 21 by omega)]
  exact hd.s21 hA lp lq hg ho
theorem st23 (hA : Ah p) (hsz : 59 < act.tmps.size) (hsel : ∀ cs b, o.op ≠ .select cs b) (hdst : o.dst = none)
    (hrun : ∀ s W, W.heap[p.n3]? = some (.cells #[p.f0, p.rv] 27 (0, 0)) → (∃ a n c, s.v2 = .slice a n c) → (execOp (dk.sets act (ws p s0 b m rc j a1 a2 l1 l2 c1 c2 last s)).eval o).run Try.prog W = .ok .skip (W.setCell ⟨p.n3, 1, none⟩ s.v2))
    (hdep : ∃ e ∈ o.after, Region.binds .any e = true ∧ e.on = 21) : gh.Step Try.prog (fun s => dk.sets act (ws p s0 b m rc j a1 a2 l1 l2 c1 c2 last s)) (C p) Q 23 o := by
  refine gh.step_val hsel fun s L W hdp h0 hC => ⟨s, undef, gh.Agree.refl _ _, (fun d hd => by rw [hdst] at hd; cases hd), ?_⟩
  obtain ⟨xp, mp, yp, zp⟩ := hdep
  have lp := hdp xp mp yp
  rw [zp] at lp
  have hd := hC.d
  rw [h0] at hd
  obtain ⟨va, vc, hv⟩ := slice_of (hd.at21 lp).2.2
  rw [hrun s W hd.out ⟨_, _, _, hv⟩]
  refine ⟨rfl, ?_⟩
  unfold C
  rw [more_on, more_off L (show 1 ≠ 23 by omega), more_off L (show 19 ≠ 23 by omega), more_off L (show 20 ≠ 23 by omega), more_off L (show 21 ≠ 23 by omega)]
  exact hd.s23 hA lp
/-- nothing is done yet -/
theorem start (p : Pm) (g : G) (hA : Ah p) : C p g (fun _ => false) p.W0.drew :=
  ⟨Tn.of _ (Below.refl _ _).drew, hA.out, fun e => (by cases e), fun e => (by cases e), fun e => (by cases e), fun e => (by cases e)⟩
/-- when all is done -/
theorem done {p : Pm} {g : G} {L : Nat → Bool} {W : World} (hC : C p g L W) (hL : ∀ i, i < 24 → L i = true) :
    Tn p.W0 W (fun b => p.rv.ownBlock = some b ∨ b = p.n3) ∧ W.heap[p.n3]? = some (.cells #[p.f0, g.v2] 27 (0, 0)) ∧ W.ownsRow p.W0.heap.size 40 3 g.v1 p.n p.xs ∧ W.ownsRow p.B 24 1 g.v2 (p.k + 1) (p.ys ++ [g.v1]) := by
  have hd := hC.d
  rw [hL 19 (by omega), hL 21 (by omega), hL 23 (by omega)] at hd
  refine ⟨hd.tn.wide (fun k hk => ?_), hd.out, hd.at19 rfl, (hd.at21 rfl).2.2⟩
  rcases hk with ⟨_, h⟩ | ⟨_, h⟩
  · exact .inl h
  · exact .inr h
end
end Go.Proofs.Ytokaoafbgebelaa.smc

/- The specification's TableMerge: what stands in its loop. -/
namespace Go.Proofs.Ytokaoafbgebelaa.mgk
open Go.ChangeShapes Go.WideShapes Go.ChangeAt Go.RowKit Go.Proofs.Ytokaoafbgebelaa.fl Go.Proofs.Ytokaoafbgebelaa.fo Go.Proofs.Ytokaoafbgebelaa.rn Go.Proofs.Ytokaoafbgebelaa.tk Go.Proofs.Ytokaoafbgebelaa.tko Go.Proofs.Ytokaoafbgebelaa.tan Go.Proofs.Ytokaoafbgebelaa.mga Go.Proofs.Ytokaoafbgebelaa.mgd Go.Proofs.Ytokaoafbgebelaa.sci Go.Proofs.Ytokaoafbgebelaa.sct
set_option linter.unusedVariables false

/-- what is still to be laid at run j -/
noncomputable def todo (R : List (List flP.Pr)) (i j : Nat) : List (List flP.Pr) := if j ≤ i then (R.take i).drop j ++ merged (R.getD i []) (R.getD (i + 1) []) (decide (i + 2 = R.length)) :: R.drop (i + 2) else R.drop (max j (i + 2))
theorem todo_0 (R : List (List flP.Pr)) (i : Nat) : todo R i 0 = mrg R i := by
  unfold todo mrg
  rw [if_pos (Nat.zero_le _), List.drop_zero]
theorem todo_copy {R : List (List flP.Pr)} {i j : Nat} {l : List flP.Pr} (hl : R[j]? = some l) (h0 : j ≠ i) (h1 : j ≠ i + 1) : todo R i j = l :: todo R i (j + 1) := by
  obtain ⟨hj, rfl⟩ := List.getElem?_eq_some_iff.1 hl
  unfold todo
  by_cases h : j < i
  · rw [if_pos (by omega), if_pos (by omega), List.drop_eq_getElem_cons (show j < (R.take i).length by rw [List.length_take]; omega)]
    simp
  · rw [if_neg (by omega), if_neg (by omega), show max j (i + 2) = j by omega, show max (j + 1) (i + 2) = j + 1 by omega, List.drop_eq_getElem_cons hj]
theorem todo_merge {R : List (List flP.Pr)} {i : Nat} {l1 l2 : List flP.Pr} (h1 : R[i]? = some l1) (h2 : R[i + 1]? = some l2) : todo R i i = merged l1 l2 (decide (i + 2 = R.length)) :: todo R i (i + 1) := by
  unfold todo
  rw [if_pos (Nat.le_refl _), if_neg (by omega), List.drop_eq_nil_of_le (by rw [List.length_take]; omega), List.nil_append, show max (i + 1) (i + 2) = i + 2 by omega, List.getD_eq_getElem?_getD, List.getD_eq_getElem?_getD, h1, h2]
  rfl
theorem todo_skip (R : List (List flP.Pr)) (i : Nat) : todo R i (i + 1) = todo R i (i + 1 + 1) := by
  unfold todo
  rw [if_neg (by omega), if_neg (by omega)]
  congr 1
  omega
theorem todo_end {R : List (List flP.Pr)} {i : Nat} (h : i + 2 ≤ R.length) : todo R i R.length = [] := by
  unfold todo
  rw [if_neg (by omega), List.drop_eq_nil_of_le (by omega)]
/-- what stands in the loop: the box, the answer's place, the new table's place, its pairs, its runs so far, and what is still to come -/
structure StM (w : World) (ys : List flP.Pr) (rs : List Rn) (a0 yc b rc n3 g1 c1 : Nat) (k : Nat) (va : Option Addr) (vc : Nat) (ks : List Rn) (td M : List (List flP.Pr)) (W : World) : Prop where
  bel : Below w.heap.size w W
  box : W.heap[w.heap.size]? = some (.cells #[.slice (some ⟨a0, 0, none⟩) ys.length yc, .slice (some ⟨b, 0, none⟩) rs.length rc] 27 (0, 0))
  res : W.heap[w.heap.size + 1]? = some (.cells #[.slice none 0 0, .slice none 0 0] 27 (0, 0))
  lo : w.heap.size + 2 ≤ n3
  out : W.heap[n3]? = some (.cells #[.slice (some ⟨g1, 0, none⟩) ys.length c1, .slice va k vc] 27 (0, 0))
  fresh : W.ownsRow (w.heap.size + 2) 40 3 (.slice (some ⟨g1, 0, none⟩) ys.length c1) ys.length (ys.flatMap flP.c)
  runs : W.ownsRow (w.heap.size + 2) 24 1 (.slice va k vc) k (ks.flatMap cR)
  same : ks.map (·.l) ++ td = M
  rows : ∀ r ∈ ks, OwnR W (w.heap.size + 2) r
section
variable {w W W' : World} {ys : List flP.Pr} {rs : List Rn} {a0 yc b rc n3 g1 c1 k : Nat} {va : Option Addr} {vc : Nat} {ks : List Rn} {td M : List (List flP.Pr)}
theorem StM.big (h : StM w ys rs a0 yc b rc n3 g1 c1 k va vc ks td M W) : w.heap.size + 2 ≤ W.heap.size := (Array.getElem?_eq_some_iff.1 h.res).1
theorem StM.ah (h : StM w ys rs a0 yc b rc n3 g1 c1 k va vc ks td M W) (n : Nat) (xs : List Value) : Ah ⟨W, w.heap.size + 2, n3, .slice (some ⟨g1, 0, none⟩) ys.length c1, .slice va k vc, k, ks.flatMap cR, n, xs⟩ := ⟨(Array.getElem?_eq_some_iff.1 h.out).1, h.out, h.runs, h.big⟩
theorem StM.on (h : StM w ys rs a0 yc b rc n3 g1 c1 k va vc ks td M W) (hb : Below W.heap.size W W') : StM w ys rs a0 yc b rc n3 g1 c1 k va vc ks td M W' := by
  have hg : W.grownBy W' none := ⟨hb.os, hb.tape, hb.output, hb.size, fun k hk _ => hb.block k hk⟩
  exact ⟨h.bel.trans (hb.mono h.bel.size), bstay h.box hb (Array.getElem?_eq_some_iff.1 h.box).1, bstay h.res hb (Array.getElem?_eq_some_iff.1 h.res).1, h.lo, bstay h.out hb (Array.getElem?_eq_some_iff.1 h.out).1, h.fresh.kept hg (by simp [Value.ownBlock]), h.runs.kept hg (by cases (Value.slice va k vc).ownBlock <;> simp), h.same, fun r hr => (h.rows r hr).kept hg (by cases (Value.slice r.a r.l.length r.c).ownBlock <;> simp)⟩
theorem StM.step (h : StM w ys rs a0 yc b rc n3 g1 c1 k va vc ks td M W) {r : Rn} {td' : List (List flP.Pr)} (hr : td = r.l :: td') {v2 : Value} (ht : Tn W W' (fun x => (Value.slice va k vc).ownBlock = some x ∨ x = n3)) (ho : W'.heap[n3]? = some (.cells #[.slice (some ⟨g1, 0, none⟩) ys.length c1, v2] 27 (0, 0)))
    (o1 : W'.ownsRow W.heap.size 40 3 (.slice r.a r.l.length r.c) r.l.length (r.l.flatMap flP.c)) (o2 : W'.ownsRow (w.heap.size + 2) 24 1 v2 (k + 1) (ks.flatMap cR ++ [.slice r.a r.l.length r.c])) : ∃ va' vc' ks', v2 = .slice va' (k + 1) vc' ∧ StM w ys rs a0 yc b rc n3 g1 c1 (k + 1) va' vc' ks' td' M W' := by
  obtain ⟨va', vc', rfl⟩ : ∃ va' vc', v2 = .slice va' (k + 1) vc' := by
    obtain ⟨_, ⟨e, h0⟩ | ⟨g, cap, cur, e, _⟩⟩ := o2
    · cases h0
    · exact ⟨_, _, e⟩
  have hbig := h.big
  have hlo := h.lo
  have hrb : ∀ x, (Value.slice va k vc).ownBlock = some x → w.heap.size + 2 ≤ x := fun x e => (h.runs.lt x e).1
  have keep : ∀ x, x < w.heap.size + 2 → ¬ ((Value.slice va k vc).ownBlock = some x ∨ x = n3) := fun x hx e => by
    rcases e with e | e
    · have := hrb x e; omega
    · omega
  have kept : ∀ v n xs, W.ownsRow (w.heap.size + 2) 40 3 v n xs → W'.ownsRow (w.heap.size + 2) 40 3 v n xs := fun v n xs hv => own_tn hv ht (fun g e hS => by
    rcases hS with hS | hS
    · exact clash hv h.runs e hS
    · subst hS; exact clash3 hv h.out e)
  refine ⟨va', vc', ks ++ [r], rfl, ⟨⟨ht.os.trans h.bel.os, ht.tape.trans h.bel.tape, ht.output.trans h.bel.output, Nat.le_trans h.bel.size ht.size, fun x hx => (ht.block x (by omega) (keep x (by omega))).trans (h.bel.block x hx)⟩, (ht.block _ (by omega) (keep _ (by omega))).trans h.box, (ht.block _ (by omega) (keep _ (by omega))).trans h.res, h.lo, ho, kept _ _ _ h.fresh, ?_, ?_, ?_⟩⟩
  · rw [List.flatMap_append]
    exact o2
  · rw [← h.same, hr]
    simp
  · intro s hs
    rcases List.mem_append.1 hs with hs | hs
    · exact kept _ _ _ (h.rows s hs)
    · simp at hs
      subst hs
      exact own_low o1 hbig
end
end Go.Proofs.Ytokaoafbgebelaa.mgk

/- The specification's TableMerge: what stands in its loop, where the runs' row may be nothing. -/
namespace Go.Proofs.Ytokaoafbgebelaa.mgko
open Go.ChangeShapes Go.WideShapes Go.ChangeAt Go.RowKit Go.Proofs.Ytokaoafbgebelaa.fl Go.Proofs.Ytokaoafbgebelaa.fo Go.Proofs.Ytokaoafbgebelaa.rn Go.Proofs.Ytokaoafbgebelaa.tk Go.Proofs.Ytokaoafbgebelaa.tko Go.Proofs.Ytokaoafbgebelaa.tan Go.Proofs.Ytokaoafbgebelaa.mga Go.Proofs.Ytokaoafbgebelaa.mgd Go.Proofs.Ytokaoafbgebelaa.sci Go.Proofs.Ytokaoafbgebelaa.sct Go.Proofs.Ytokaoafbgebelaa.mgk
set_option linter.unusedVariables false

/-- what stands in the loop: the box, the answer's place, the new table's place, its pairs, its runs so far, and what is still to come -/
structure StMO (w : World) (ys : List flP.Pr) (rs : List Rn) (ya : Option Addr) (yc : Nat) (ra : Option Addr) (rc n3 g1 c1 : Nat) (k : Nat) (va : Option Addr) (vc : Nat) (ks : List Rn) (td M : List (List flP.Pr)) (W : World) : Prop where
  bel : Below w.heap.size w W
  box : W.heap[w.heap.size]? = some (.cells #[.slice ya ys.length yc, .slice ra rs.length rc] 27 (0, 0))
  res : W.heap[w.heap.size + 1]? = some (.cells #[.slice none 0 0, .slice none 0 0] 27 (0, 0))
  lo : w.heap.size + 2 ≤ n3
  out : W.heap[n3]? = some (.cells #[.slice (some ⟨g1, 0, none⟩) ys.length c1, .slice va k vc] 27 (0, 0))
  fresh : W.ownsRow (w.heap.size + 2) 40 3 (.slice (some ⟨g1, 0, none⟩) ys.length c1) ys.length (ys.flatMap flP.c)
  runs : W.ownsRow (w.heap.size + 2) 24 1 (.slice va k vc) k (ks.flatMap cR)
  same : ks.map (·.l) ++ td = M
  rows : ∀ r ∈ ks, OwnR W (w.heap.size + 2) r
  ap : sco.Ap (some ⟨g1, 0, none⟩) ks
section
variable {w W W' : World} {ys : List flP.Pr} {rs : List Rn} {ya : Option Addr} {yc : Nat} {ra : Option Addr} {rc n3 g1 c1 k : Nat} {va : Option Addr} {vc : Nat} {ks : List Rn} {td M : List (List flP.Pr)}
theorem StMO.big (h : StMO w ys rs ya yc ra rc n3 g1 c1 k va vc ks td M W) : w.heap.size + 2 ≤ W.heap.size := (Array.getElem?_eq_some_iff.1 h.res).1
theorem StMO.ah (h : StMO w ys rs ya yc ra rc n3 g1 c1 k va vc ks td M W) (n : Nat) (xs : List Value) : Ah ⟨W, w.heap.size + 2, n3, .slice (some ⟨g1, 0, none⟩) ys.length c1, .slice va k vc, k, ks.flatMap cR, n, xs⟩ := ⟨(Array.getElem?_eq_some_iff.1 h.out).1, h.out, h.runs, h.big⟩
theorem StMO.on (h : StMO w ys rs ya yc ra rc n3 g1 c1 k va vc ks td M W) (hb : Below W.heap.size W W') : StMO w ys rs ya yc ra rc n3 g1 c1 k va vc ks td M W' := by
  have hg : W.grownBy W' none := ⟨hb.os, hb.tape, hb.output, hb.size, fun k hk _ => hb.block k hk⟩
  exact ⟨h.bel.trans (hb.mono h.bel.size), bstay h.box hb (Array.getElem?_eq_some_iff.1 h.box).1, bstay h.res hb (Array.getElem?_eq_some_iff.1 h.res).1, h.lo, bstay h.out hb (Array.getElem?_eq_some_iff.1 h.out).1, h.fresh.kept hg (by simp [Value.ownBlock]), h.runs.kept hg (by cases (Value.slice va k vc).ownBlock <;> simp), h.same, fun r hr => (h.rows r hr).kept hg (by cases (Value.slice r.a r.l.length r.c).ownBlock <;> simp), h.ap⟩
theorem StMO.step (h : StMO w ys rs ya yc ra rc n3 g1 c1 k va vc ks td M W) {r : Rn} {td' : List (List flP.Pr)} (hr : td = r.l :: td') {v2 : Value} (ht : Tn W W' (fun x => (Value.slice va k vc).ownBlock = some x ∨ x = n3)) (ho : W'.heap[n3]? = some (.cells #[.slice (some ⟨g1, 0, none⟩) ys.length c1, v2] 27 (0, 0)))
    (o1 : W'.ownsRow W.heap.size 40 3 (.slice r.a r.l.length r.c) r.l.length (r.l.flatMap flP.c)) (o2 : W'.ownsRow (w.heap.size + 2) 24 1 v2 (k + 1) (ks.flatMap cR ++ [.slice r.a r.l.length r.c])) : ∃ va' vc' ks', v2 = .slice va' (k + 1) vc' ∧ StMO w ys rs ya yc ra rc n3 g1 c1 (k + 1) va' vc' ks' td' M W' := by
  obtain ⟨va', vc', rfl⟩ : ∃ va' vc', v2 = .slice va' (k + 1) vc' := by
    obtain ⟨_, ⟨e, h0⟩ | ⟨g, cap, cur, e, _⟩⟩ := o2
    · cases h0
    · exact ⟨_, _, e⟩
  have hbig := h.big
  have hlo := h.lo
  have hrb : ∀ x, (Value.slice va k vc).ownBlock = some x → w.heap.size + 2 ≤ x := fun x e => (h.runs.lt x e).1
  have keep : ∀ x, x < w.heap.size + 2 → ¬ ((Value.slice va k vc).ownBlock = some x ∨ x = n3) := fun x hx e => by
    rcases e with e | e
    · have := hrb x e; omega
    · omega
  have kept : ∀ v n xs, W.ownsRow (w.heap.size + 2) 40 3 v n xs → W'.ownsRow (w.heap.size + 2) 40 3 v n xs := fun v n xs hv => own_tn hv ht (fun g e hS => by
    rcases hS with hS | hS
    · exact clash hv h.runs e hS
    · subst hS; exact clash3 hv h.out e)
  refine ⟨va', vc', ks ++ [r], rfl, ⟨⟨ht.os.trans h.bel.os, ht.tape.trans h.bel.tape, ht.output.trans h.bel.output, Nat.le_trans h.bel.size ht.size, fun x hx => (ht.block x (by omega) (keep x (by omega))).trans (h.bel.block x hx)⟩, (ht.block _ (by omega) (keep _ (by omega))).trans h.box, (ht.block _ (by omega) (keep _ (by omega))).trans h.res, h.lo, ho, kept _ _ _ h.fresh, ?_, ?_, ?_, ?_⟩⟩
  · rw [List.flatMap_append]
    exact o2
  · rw [← h.same, hr]
    simp
  · intro s hs
    rcases List.mem_append.1 hs with hs | hs
    · exact kept _ _ _ (h.rows s hs)
    · simp at hs
      subst hs
      exact own_low o1 hbig
  · intro s hs x y hx hy
    rcases List.mem_append.1 hs with hs | hs
    · exact h.ap s hs x y hx hy
    · simp at hs
      subst hs
      cases hx
      have q1 := (o1.lt y.block (by rw [hy]; rfl)).1
      have q2 := (h.fresh.lt g1 rfl).2
      show g1 ≠ y.block
      omega
end
end Go.Proofs.Ytokaoafbgebelaa.mgko
