/- The specification's l07Copy: the region of its loop that copies one run. -/
import Derived.Test.YtfoajjkcocppeaaDoneKit
import Derived.Test.YtfoajjkcocppeaaFlatOwn
import Derived.Test.YtfoajjkcocppeaaFlatOff
import Derived.Test.YtfoajjkcocppeaaTabLib
import Derived.Test.YtfoajjkcocppeaaLayers
import Derived.Maps.AppendAt
namespace Go.Proofs.Ytfoajjkcocppeaa.sct
open Go.ChangeShapes Go.WideShapes Go.ChangeAt Go.RowKit Go.Proofs.Ytfoajjkcocppeaa.fl Go.Proofs.Ytfoajjkcocppeaa.fo Go.Proofs.Ytfoajjkcocppeaa.rn
set_option linter.unusedVariables false

theorem form {w : World} {B n : Nat} {U : TypeId} {s g : Nat} {v : Value} {xs : List Value} (h : w.ownsRow B U s v n xs) (hv : v.ownBlock = some g) : ∃ cap, v = .slice (some ⟨g, 0, none⟩) n cap := by
  obtain ⟨_, ⟨rfl, h0⟩ | ⟨g', cap, cur, rfl, hB, hg, _⟩⟩ := h
  · simp [Value.ownBlock] at hv
  · simp [Value.ownBlock] at hv
    subst hv
    exact ⟨cap, rfl⟩
theorem typed {w : World} {B n : Nat} {U : TypeId} {s g : Nat} {v : Value} {xs : List Value} (h : w.ownsRow B U s v n xs) (hv : v.ownBlock = some g) : ∃ cur, w.heap[g]? = some (.cells cur U (0, 0)) := by
  obtain ⟨_, ⟨rfl, h0⟩ | ⟨g', cap, cur, rfl, hB, hg, _⟩⟩ := h
  · simp [Value.ownBlock] at hv
  · simp [Value.ownBlock] at hv
    subst hv
    exact ⟨cur, hg⟩
theorem tn_grow {W0 W W' : World} {S : Nat → Prop} {r : Option Nat} (h : Tn W0 W S) (hg : W.grownBy W' r) (hr : ∀ b, r = some b → b < W0.heap.size → S b) : Tn W0 W' S :=
  ⟨hg.os.trans h.os, hg.tape.trans h.tape, hg.output.trans h.output, Nat.le_trans h.size hg.size, fun k hk hs => (hg.block k (Nat.lt_of_lt_of_le hk h.size) (fun e => hs (hr k e.symm hk))).trans (h.block k hk hs)⟩
/-- what is drawn: the empty row, the run's new row and its room, the one run's place, the runs' row behind the append -/
structure G where
  e0 : Nat
  b1 : Nat
  q1 : Nat
  h : Nat
  v2 : Value
/-- the world ahead, below which nothing is of ours, the copy's place, its fresh pairs, its runs so far, and the run that is copied -/
structure Pm where
  W0 : World
  B : Nat
  n3 : Nat
  f0 : Value
  rv : Value
  k : Nat
  ys : List Value
  n : Nat
  xs : List Value
def v1 (p : Pm) (g : G) : Value := .slice (some ⟨g.b1, 0, none⟩) p.n g.q1
structure D (p : Pm) (g : G) (c1 c2 c8 c9 c10 c12 : Bool) (W : World) : Prop where
  tn : Tn p.W0 W (fun b => (c10 = true ∧ p.rv.ownBlock = some b) ∨ (c12 = true ∧ b = p.n3))
  out : W.heap[p.n3]? = some (.cells #[p.f0, if c12 then g.v2 else p.rv] 32 (0, 0))
  at2 : c2 = true → c8 = false → W.ownsRow p.W0.heap.size 63 3 (.slice (some ⟨g.e0, 0, none⟩) 0 0) 0 []
  at8 : c8 = true → c2 = true ∧ W.ownsRow p.W0.heap.size 63 3 (v1 p g) p.n p.xs
  at9 : c9 = true → c8 = true ∧ (c10 = false → W.heap[g.h]? = some (.cells #[v1 p g] 29 (0, 0)))
  at10 : c10 = true → c9 = true ∧ c1 = true ∧ W.ownsRow p.B 29 1 g.v2 (p.k + 1) (p.ys ++ [v1 p g])
  at12 : c12 = true → c10 = true
/-- what stands ahead -/
structure Ah (p : Pm) : Prop where
  lt : p.n3 < p.W0.heap.size
  out : p.W0.heap[p.n3]? = some (.cells #[p.f0, p.rv] 32 (0, 0))
  runs : p.W0.ownsRow p.B 29 1 p.rv p.k p.ys
  sz : p.B ≤ p.W0.heap.size
theorem Ah.ne {p : Pm} (h : Ah p) : p.rv.ownBlock ≠ some p.n3 := fun e => by
  obtain ⟨cur, hc⟩ := typed h.runs e
  rw [h.out] at hc
  simp at hc
theorem Ah.small {p : Pm} (h : Ah p) {b : Nat} (e : p.rv.ownBlock = some b) : b < p.W0.heap.size := (h.runs.lt b e).2
section
variable {p : Pm} {g : G} {c1 c2 c8 c9 c10 c12 : Bool} {W W' : World} {v : Value}
theorem no8 (h : D p g c1 false c8 c9 c10 c12 W) : c8 = false := by
  cases c8 with
  | false => rfl
  | true => have := (h.at8 rfl).1; cases this
theorem no9 (h : D p g c1 c2 false c9 c10 c12 W) : c9 = false := by
  cases c9 with
  | false => rfl
  | true => have := (h.at9 rfl).1; cases this
theorem no10 (h : D p g c1 c2 c8 false c10 c12 W) : c10 = false := by
  cases c10 with
  | false => rfl
  | true => have := (h.at10 rfl).1; cases this
theorem no101 (h : D p g false c2 c8 c9 c10 c12 W) : c10 = false := by
  cases c10 with
  | false => rfl
  | true => have := (h.at10 rfl).2.1; cases this
theorem no12 (h : D p g c1 c2 c8 c9 false c12 W) : c12 = false := by
  cases c12 with
  | false => rfl
  | true => have := h.at12 rfl; cases this
theorem D.below (h : D p g c1 c2 c8 c9 false false W) : Below p.W0.heap.size p.W0 W := h.tn.below (Nat.le_refl _) (fun k hk => by simp at hk)
theorem D.old (h : D p g c1 c2 c8 c9 c10 c12 W) {b : Nat} {o : Obj} (hb : p.W0.heap[b]? = some o) (hne : b ≠ p.n3) (hr : p.rv.ownBlock ≠ some b) : W.heap[b]? = some o := by
  rw [h.tn.block b (Array.getElem?_eq_some_iff.1 hb).1 (fun e => by rcases e with ⟨_, e⟩ | ⟨_, e⟩ <;> contradiction)]
  exact hb
theorem D.s1 (h : D p g false c2 c8 c9 c10 c12 W) : D p g true c2 c8 c9 c10 c12 W := by
  obtain rfl := no101 h
  exact ⟨h.tn, h.out, h.at2, h.at8, h.at9, fun e => (by cases e), h.at12⟩
theorem D.s2 (h : D p g c1 false c8 c9 c10 c12 W) (hA : Ah p) : D p { g with e0 := W.heap.size } c1 true c8 c9 c10 c12 (W.alloc (.cells #[] 63)) := by
  obtain rfl := no8 h
  obtain rfl := no9 h
  obtain rfl := no10 h
  obtain rfl := no12 h
  exact ⟨tn_grow h.tn (World.grownBy_alloc W _ none) (fun b e => by cases e), bold h.out _, fun _ _ => World.ownsRow_made W #[] 0 h.tn.size (by unfold maxLen; omega) (by simp), fun e => (by cases e), fun e => (by cases e), fun e => (by cases e), fun e => (by cases e)⟩
theorem D.s8 (h : D p g c1 c2 false c9 c10 c12 W) (hA : Ah p) (h2 : c2 = true) (hg : W.grownBy W' (some g.e0)) {b q : Nat} (ho : W'.ownsRow p.W0.heap.size 63 3 (.slice (some ⟨b, 0, none⟩) p.n q) p.n p.xs) : D p { g with b1 := b, q1 := q } c1 c2 true c9 c10 c12 W' := by
  obtain rfl := no9 h
  obtain rfl := no10 h
  obtain rfl := no12 h
  have he := ((h.at2 h2 rfl).lt g.e0 rfl)
  have hl := hA.lt
  exact ⟨tn_grow h.tn hg (fun b e hb => by cases e; omega), (hg.block _ (by have := h.tn.size; omega) (fun e => by have := Option.some.inj e; omega)).trans h.out, fun _ e => (by cases e), fun _ => ⟨h2, ho⟩, fun e => (by cases e), fun e => (by cases e), fun e => (by cases e)⟩
theorem D.s9 (h : D p g c1 c2 c8 false c10 c12 W) (hA : Ah p) (h8 : c8 = true) : D p { g with h := W.heap.size } c1 c2 c8 true c10 c12 (W.alloc (.cells #[v1 p g] 29)) := by
  obtain rfl := no10 h
  obtain rfl := no12 h
  exact ⟨tn_grow h.tn (World.grownBy_alloc W _ none) (fun b e => by cases e), bold h.out _, fun a b => (h.at2 a b).alloc _, fun a => ⟨(h.at8 a).1, (h.at8 a).2.alloc _⟩, fun _ => ⟨h8, fun _ => bnew W _ _⟩, fun e => (by cases e), fun e => (by cases e)⟩
theorem D.s10 (h : D p g c1 c2 c8 c9 false c12 W) (hA : Ah p) (h9 : c9 = true) (h1 : c1 = true) (hg : W.grownBy W' p.rv.ownBlock) (ho : W'.ownsRow p.B 29 1 v (p.k + 1) (p.ys ++ [v1 p g])) : D p { g with v2 := v } c1 c2 c8 c9 true c12 W' := by
  obtain rfl := no12 h
  have h8 := (h.at9 h9).1
  obtain ⟨h2, o8⟩ := h.at8 h8
  have hl := hA.lt
  refine ⟨tn_grow (h.tn.wide (fun k hk => by simp at hk)) hg (fun b e hb => .inl ⟨rfl, e⟩), (hg.block _ (by have := h.tn.size; omega) (fun e => hA.ne e.symm)).trans h.out, fun _ e => (by rw [h8] at e; cases e), fun _ => ⟨h2, o8.kept hg ?_⟩, fun _ => ⟨h8, fun e => (by cases e)⟩, fun _ => ⟨h9, h1, ho⟩, fun e => (by cases e)⟩
  right
  intro e
  have a1 := (o8.lt g.b1 rfl).1
  have a2 := hA.small (b := g.b1) (by rw [← e]; rfl)
  omega
theorem D.s12 (h : D p g c1 c2 c8 c9 c10 false W) (hA : Ah p) (h10 : c10 = true) : D p g c1 c2 c8 c9 c10 true (W.setCell ⟨p.n3, 1, none⟩ g.v2) := by
  obtain ⟨h9, h1, ho⟩ := h.at10 h10
  have h8 := (h.at9 h9).1
  obtain ⟨h2, o8⟩ := h.at8 h8
  have hl := hA.lt
  have hg : W.grownBy (W.setCell ⟨p.n3, 1, none⟩ g.v2) (some p.n3) := ⟨rfl, rfl, rfl, by simp, fun k hk hne => Below.heap_setCell _ _ _ _ (fun e => hne (by rw [e]))⟩
  refine ⟨tn_grow (h.tn.wide (fun k hk => ?_)) hg (fun b e hb => .inr ⟨rfl, (Option.some.inj e).symm⟩), bset h.out 1 g.v2, fun _ e => (by rw [h8] at e; cases e), fun _ => ⟨h2, o8.kept hg ?_⟩, fun _ => ⟨h8, fun e => (by rw [h10] at e; cases e)⟩, fun _ => ⟨h9, h1, ho.kept hg ?_⟩, fun _ => h10⟩
  · rcases hk with hk | ⟨hk, _⟩
    · exact .inl hk
    · cases hk
  · right
    intro e
    have a1 := (o8.lt p.n3 e).1
    omega
  · right
    intro e
    obtain ⟨cur, hc⟩ := typed ho e
    rw [h.out] at hc
    simp at hc
end
theorem more_on (L : Nat → Bool) (i : Nat) : dn.more L i i = true := by unfold dn.more; rw [if_pos rfl]
theorem more_off (L : Nat → Bool) {i j : Nat} (h : j ≠ i) : dn.more L i j = L j := by unfold dn.more; rw [if_neg h]
theorem add0 (g j : Nat) : (⟨g, 0, none⟩ : Addr).add j = ⟨g, j, none⟩ := by unfold Addr.add; split <;> simp_all
def C (p : Pm) (g : G) (L : Nat → Bool) (W : World) : Prop := D p g (L 1) (L 2) (L 8) (L 9) (L 10) (L 12) W
theorem C.d {p : Pm} {g : G} {L : Nat → Bool} {W : World} (h : C p g L W) : D p g (L 1) (L 2) (L 8) (L 9) (L 10) (L 12) W := h
def ws (p : Pm) (s0 b m rc a c : Nat) (g : G) : List (Nat × Value) := [(17, .pointer (some ⟨p.n3, 1, none⟩)), (18, p.rv), (19, .slice (some ⟨g.e0, 0, none⟩) 0 0), (20, .pointer (some ⟨s0, 1, none⟩)), (21, .slice (some ⟨b, 0, none⟩) m rc), (22, .int .i64 p.k), (23, .pointer (some ⟨b, p.k, none⟩)), (24, .slice (some ⟨a, 0, none⟩) p.n c), (25, v1 p g), (26, .slice (some ⟨g.h, 0, none⟩) 1 1), (27, g.v2), (28, .pointer (some ⟨p.n3, 1, none⟩))]
section
variable {p : Pm} {s0 b m rc a c : Nat} {act : Act} {Q : Exit → Act → World → Prop} {o : Oper}
theorem quiet {i : Nat} (hi : i = 0 ∨ i = 3 ∨ i = 4 ∨ i = 5 ∨ i = 6 ∨ i = 7 ∨ i = 11) (hsel : ∀ cs b, o.op ≠ .select cs b) (u : Value) (hd : ∀ s d, o.dst = some d → (dk.sets act (ws p s0 b m rc a c s)).tmps[d]? = some u)
    (hrun : ∀ s W, (∀ (b : Nat) (o : Obj), p.W0.heap[b]? = some o → b ≠ p.n3 → p.rv.ownBlock ≠ some b → W.heap[b]? = some o) → (execOp (dk.sets act (ws p s0 b m rc a c s)).eval o).run Try.prog W = .ok (.value u) W) : gh.Step Try.prog (fun s => dk.sets act (ws p s0 b m rc a c s)) (C p) Q i o := by
  refine gh.step_val hsel fun s L W hdp h0 hC => ⟨s, u, gh.Agree.refl _ _, hd s, ?_⟩
  rw [hrun s W (fun b o hb hne hr => hC.d.old hb hne hr)]
  refine ⟨rfl, ?_⟩
  unfold C
  rw [more_off L (show 1 ≠ i by omega), more_off L (show 2 ≠ i by omega), more_off L (show 8 ≠ i by omega), more_off L (show 9 ≠ i by omega), more_off L (show 10 ≠ i by omega), more_off L (show 12 ≠ i by omega)]
  exact hC
theorem st1 (hsel : ∀ cs b, o.op ≠ .select cs b) (hd : ∀ s d, o.dst = some d → (dk.sets act (ws p s0 b m rc a c s)).tmps[d]? = some p.rv)
    (hrun : ∀ s W, W.heap[p.n3]? = some (.cells #[p.f0, p.rv] 32 (0, 0)) → (execOp (dk.sets act (ws p s0 b m rc a c s)).eval o).run Try.prog W = .ok (.value p.rv) W) : gh.Step Try.prog (fun s => dk.sets act (ws p s0 b m rc a c s)) (C p) Q 1 o := by
  refine gh.step_val hsel fun s L W hdp h0 hC => ⟨s, p.rv, gh.Agree.refl _ _, hd s, ?_⟩
  have hd := hC.d
  rw [h0] at hd
  have e12 : L 12 = false := by
    have e10 := no101 hd
    rw [e10] at hd
    exact no12 hd
  have ho := hd.out
  rw [e12] at ho
  rw [hrun s W ho]
  refine ⟨rfl, ?_⟩
  unfold C
  rw [more_on, more_off L (show 2 ≠ 1 by omega), more_off L (show 8 ≠ 1 by omega), more_off L (show 9 ≠ 1 by omega), more_off L (show 10 ≠ 1 by omega), more_off L (show 12 ≠ 1 by omega)]
  exact hd.s1
theorem st2 (hA : Ah p) (hsz : 28 < act.tmps.size) (hop : o.op = .buildSlice 29 0 #[]) (hdst : o.dst = some 19) : gh.Step Try.prog (fun s => dk.sets act (ws p s0 b m rc a c s)) (C p) Q 2 o := by
  refine gh.step_val (by rw [hop]; simp) fun s L W hdp h0 hC => ⟨{ s with e0 := W.heap.size }, .slice (some ⟨W.heap.size, 0, none⟩) 0 0, dk.agree_sets 2 19 _ hdst rfl rfl, (fun d hd => by rw [hdst] at hd; cases hd; exact dk.sets_on _ (by omega) _ rfl), ?_⟩
  have hrun : (execOp (dk.sets act (ws p s0 b m rc a c s)).eval o).run Try.prog W = .ok (.value (.slice (some ⟨W.heap.size, 0, none⟩) 0 0)) (W.alloc (.cells #[] 63)) := by
    simp [execOp, hop, go_sem]
  rw [hrun]
  refine ⟨rfl, ?_⟩
  have hd := hC.d
  rw [h0] at hd
  unfold C
  rw [more_on, more_off L (show 1 ≠ 2 by omega), more_off L (show 8 ≠ 2 by omega), more_off L (show 9 ≠ 2 by omega), more_off L (show 10 ≠ 2 by omega), more_off L (show 12 ≠ 2 by omega)]
  exact hd.s2 hA
theorem app_run {ST s1 s2 m c : Nat} {a : Addr} {v v' : Value} {f : Act} {W w' : World} (hop : o.op = .call { callee := .builtin .append, args := #[.tmp s1, .tmp s2], argTypes := #[ST, ST] }) (e1 : f.eval (.tmp s1) = v) (e2 : f.eval (.tmp s2) = .slice (some a) m c) (hr : (Builtin.append_ #[ST, ST] o.type #[v, .slice (some a) m c]).run Try.prog W = .ok v' w') : (execOp f.eval o).run Try.prog W = .ok (.value v') w' := by
  unfold execOp
  simp only [hop, resolve, invoke, builtin, Sem.run_bind, Sem.run_pure, Result.andThen_ok, List.map_toArray, List.map_cons, List.map_nil, e1, e2, hr]
variable {i0 i1 : TypeInfo} {z z1 : Value}
theorem st8 (hA : Ah p) (hi : Try.prog.info? 63 = some i0) (hz : i0.zero = some z) (hn : i0.size = 3) (hb : i0.bytes = 40) (hzs : z.cells.size = 3) (hsz : 28 < act.tmps.size)
    (hop : o.op = .call { callee := .builtin .append, args := #[.tmp 19, .tmp 24], argTypes := #[29, 29] }) (hdst : o.dst = some 25)
    (hlen : p.xs.length = p.n * 3) (hnews : ∀ W, Below p.W0.heap.size p.W0 W → ∀ j u, p.xs[j]? = some u → W.cell? ((⟨a, 0, none⟩ : Addr).add j) = some u) (h1c : ∀ u ∈ p.xs, u.oneCell' = true) (hk : p.n ≤ 1048576)
    (hdep : ∃ e ∈ o.after, Region.binds .any e = true ∧ e.on = 2) : gh.Step Try.prog (fun s => dk.sets act (ws p s0 b m rc a c s)) (C p) Q 8 o := by
  refine gh.step_val (by rw [hop]; simp) fun s L W hdp h0 hC => ?_
  obtain ⟨xp, mp, yp, zp⟩ := hdep
  have lp := hdp xp mp yp
  rw [zp] at lp
  have hd := hC.d
  rw [h0] at hd
  have hbel : Below p.W0.heap.size p.W0 W := by
    have e9 := no9 hd
    rw [e9] at hd
    have e10 := no10 hd
    rw [e10] at hd
    have e12 := no12 hd
    rw [e12] at hd
    exact hd.below
  have hold := hd.at2 lp rfl
  obtain ⟨v', w', hr, ho, hg, _, hat⟩ := run_append_own_at (P := Try.prog) W p.W0.heap.size 29 o.type 63 i0 z 3 40 Try.underlying29 hi hz hn hb hzs (by omega) _ 0 [] hold ⟨a, 0, none⟩ p.n c p.xs hlen (hnews W hbel) h1c (by unfold maxLen; omega) (by omega) hd.tn.size
  rw [Nat.zero_add, List.nil_append] at ho
  obtain ⟨b', q', rfl⟩ : ∃ b' q', v' = .slice (some ⟨b', 0, none⟩) p.n q' := by
    rcases hat with ha | ha
    · exact ⟨_, form ho ha⟩
    · exact ⟨_, form ho ha⟩
  refine ⟨{ s with b1 := b', q1 := q' }, .slice (some ⟨b', 0, none⟩) p.n q', dk.agree_sets 8 25 _ hdst rfl rfl, (fun d' hd => by rw [hdst] at hd; cases hd; exact dk.sets_on _ (by omega) _ rfl), ?_⟩
  rw [app_run hop (dk.eval_on _ _ (by omega) rfl) (dk.eval_on _ _ (by omega) rfl) hr]
  refine ⟨rfl, ?_⟩
  unfold C
  rw [more_on, more_off L (show 1 ≠ 8 by omega), more_off L (show 2 ≠ 8 by omega), more_off L (show 9 ≠ 8 by omega), more_off L (show 10 ≠ 8 by omega), more_off L (show 12 ≠ 8 by omega)]
  exact hd.s8 hA lp hg ho
theorem st9 (hA : Ah p) (hsz : 28 < act.tmps.size) (hop : o.op = .buildSlice 30 1 #[(0, .tmp 25)]) (hdst : o.dst = some 26) (hdep : ∃ e ∈ o.after, Region.binds .any e = true ∧ e.on = 8) : gh.Step Try.prog (fun s => dk.sets act (ws p s0 b m rc a c s)) (C p) Q 9 o := by
  refine gh.step_val (by rw [hop]; simp) fun s L W hdp h0 hC => ⟨{ s with h := W.heap.size }, .slice (some ⟨W.heap.size, 0, none⟩) 1 1, dk.agree_sets 9 26 _ hdst rfl rfl, (fun d hd => by rw [hdst] at hd; cases hd; exact dk.sets_on _ (by omega) _ rfl), ?_⟩
  obtain ⟨xp, mp, yp, zp⟩ := hdep
  have lp := hdp xp mp yp
  rw [zp] at lp
  have e25 : (dk.sets act (ws p s0 b m rc a c s)).tmps[25]? = some (.slice (some ⟨s.b1, 0, none⟩) p.n s.q1) := dk.sets_on _ (by omega) _ rfl
  have hrun : (execOp (dk.sets act (ws p s0 b m rc a c s)).eval o).run Try.prog W = .ok (.value (.slice (some ⟨W.heap.size, 0, none⟩) 1 1)) (W.alloc (.cells #[v1 p s] 29)) := by
    simp [execOp, hop, go_sem, e25, v1]
  rw [hrun]
  refine ⟨rfl, ?_⟩
  have hd := hC.d
  rw [h0] at hd
  unfold C
  rw [more_on, more_off L (show 1 ≠ 9 by omega), more_off L (show 2 ≠ 9 by omega), more_off L (show 8 ≠ 9 by omega), more_off L (show 10 ≠ 9 by omega), more_off L (show 12 ≠ 9 by omega)]
  exact hd.s9 hA lp
theorem st10 (hA : Ah p) (hi : Try.prog.info? 29 = some i1) (hz : i1.zero = some z1) (hn : i1.size = 1) (hb : i1.bytes = 24) (hzs : z1.cells.size = 1) (hsz : 28 < act.tmps.size)
    (hop : o.op = .call { callee := .builtin .append, args := #[.tmp 18, .tmp 26], argTypes := #[30, 30] }) (hdst : o.dst = some 27) (hk : p.k ≤ 1048576)
    (hdep : ∃ e ∈ o.after, Region.binds .any e = true ∧ e.on = 9) (hdep1 : ∃ e ∈ o.after, Region.binds .any e = true ∧ e.on = 1) : gh.Step Try.prog (fun s => dk.sets act (ws p s0 b m rc a c s)) (C p) Q 10 o := by
  refine gh.step_val (by rw [hop]; simp) fun s L W hdp h0 hC => ?_
  obtain ⟨xp, mp, yp, zp⟩ := hdep
  have lp := hdp xp mp yp
  rw [zp] at lp
  obtain ⟨xq, mq, yq, zq⟩ := hdep1
  have lq := hdp xq mq yq
  rw [zq] at lq
  have hd := hC.d
  rw [h0] at hd
  have hbel : Below p.W0.heap.size p.W0 W := by
    have e12 := no12 hd
    rw [e12] at hd
    exact hd.below
  have hcell := (hd.at9 lp).2 rfl
  have hold : W.ownsRow p.B 29 1 p.rv p.k p.ys := hA.runs.kept (row := none) ⟨hbel.os, hbel.tape, hbel.output, hbel.size, fun k hk _ => hbel.block k hk⟩ (by cases p.rv.ownBlock <;> simp)
  have hnews : ∀ j u, [v1 p s][j]? = some u → W.cell? ((⟨s.h, 0, none⟩ : Addr).add j) = some u := fun j u hu => by
    rw [add0]
    exact bcell hcell (by simpa using hu)
  obtain ⟨v', w', hr, ho, hg, _, hat⟩ := run_append_own_at (P := Try.prog) W p.B 30 o.type 29 i1 z1 1 24 Try.underlying30 hi hz hn hb hzs (by omega) _ p.k p.ys hold ⟨s.h, 0, none⟩ 1 1 [v1 p s] rfl hnews (by intro u hu; simp at hu; subst hu; rfl) (by unfold maxLen; omega) (by omega) (Nat.le_trans hA.sz hd.tn.size)
  refine ⟨{ s with v2 := v' }, v', dk.agree_sets 10 27 _ hdst rfl rfl, (fun d' hd => by rw [hdst] at hd; cases hd; exact dk.sets_on _ (by omega) _ rfl), ?_⟩
  rw [app_run hop (dk.eval_on _ _ (by omega) rfl) (dk.eval_on _ _ (by omega) rfl) hr]
  refine ⟨rfl, ?_⟩
  unfold C
  rw [more_on, more_off L (show 1 ≠ 10 by omega), more_off L (show 2 ≠ 10 by omega), more_off L (show 8 ≠ 10 by omega), more_off L (show 9 ≠ 10 by omega), more_off L (show 12 ≠ 10 by omega)]
  exact hd.s10 hA lp lq hg ho
theorem st12 (hA : Ah p) (hsz : 28 < act.tmps.size) (hsel : ∀ cs b, o.op ≠ .select cs b) (hdst : o.dst = none)
    (hrun : ∀ s W, W.heap[p.n3]? = some (.cells #[p.f0, p.rv] 32 (0, 0)) → (∃ a n c, s.v2 = .slice a n c) → (execOp (dk.sets act (ws p s0 b m rc a c s)).eval o).run Try.prog W = .ok .skip (W.setCell ⟨p.n3, 1, none⟩ s.v2))
    (hdep : ∃ e ∈ o.after, Region.binds .any e = true ∧ e.on = 10) : gh.Step Try.prog (fun s => dk.sets act (ws p s0 b m rc a c s)) (C p) Q 12 o := by
  refine gh.step_val hsel fun s L W hdp h0 hC => ⟨s, undef, gh.Agree.refl _ _, (fun d hd => by rw [hdst] at hd; cases hd), ?_⟩
  obtain ⟨xp, mp, yp, zp⟩ := hdep
  have lp := hdp xp mp yp
  rw [zp] at lp
  have hd := hC.d
  rw [h0] at hd
  have hv : ∃ a n c, s.v2 = .slice a n c := by
    obtain ⟨_, ⟨e, _⟩ | ⟨g, cap, cur, e, _⟩⟩ := (hd.at10 lp).2.2
    · exact ⟨_, _, _, e⟩
    · exact ⟨_, _, _, e⟩
  rw [hrun s W hd.out hv]
  refine ⟨rfl, ?_⟩
  unfold C
  rw [more_on, more_off L (show 1 ≠ 12 by omega), more_off L (show 2 ≠ 12 by omega), more_off L (show 8 ≠ 12 by omega), more_off L (show 9 ≠ 12 by omega), more_off L (show 10 ≠ 12 by omega)]
  exact hd.s12 hA lp
end
/-- nothing is done yet -/
theorem start (p : Pm) (g : G) (hA : Ah p) : C p g (fun _ => false) p.W0.drew :=
  ⟨Tn.of _ (Below.refl _ _).drew, hA.out, fun e => (by cases e), fun e => (by cases e), fun e => (by cases e), fun e => (by cases e), fun e => (by cases e)⟩
/-- when all is done -/
theorem done {p : Pm} {g : G} {L : Nat → Bool} {W : World} (hC : C p g L W) (hL : ∀ i, i < 13 → L i = true) :
    Tn p.W0 W (fun b => p.rv.ownBlock = some b ∨ b = p.n3) ∧ W.heap[p.n3]? = some (.cells #[p.f0, g.v2] 32 (0, 0)) ∧ W.ownsRow p.W0.heap.size 63 3 (v1 p g) p.n p.xs ∧ W.ownsRow p.B 29 1 g.v2 (p.k + 1) (p.ys ++ [v1 p g]) := by
  have hd := hC.d
  rw [hL 8 (by omega), hL 10 (by omega), hL 12 (by omega)] at hd
  refine ⟨hd.tn.wide (fun k hk => ?_), hd.out, (hd.at8 rfl).2, (hd.at10 rfl).2.2⟩
  rcases hk with ⟨_, h⟩ | ⟨_, h⟩
  · exact .inl h
  · exact .inr h
end Go.Proofs.Ytfoajjkcocppeaa.sct
