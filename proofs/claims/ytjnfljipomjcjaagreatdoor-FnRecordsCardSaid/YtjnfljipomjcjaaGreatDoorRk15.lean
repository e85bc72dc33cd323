/- The specification's Replay. -/
import Derived.Test.YtjnfljipomjcjaaGreatDoorDoneKit
import Derived.Test.YtjnfljipomjcjaaGreatDoorRk03
import Derived.Maps.AppendAt
import Derived.Test.YtjnfljipomjcjaaGreatDoorRk13
import Derived.Test.YtjnfljipomjcjaaGreatDoorRk14
import Derived.Test.YtjnfljipomjcjaaGreatDoorRk07
import Derived.Test.YtjnfljipomjcjaaGreatDoorRk08
import Derived.Deep.QuietTactic
import Derived.BigQuiet
import Derived.Test.YtjnfljipomjcjaaGreatDoorRk09

/- append(append(append([]T{}, a...), x), b...) given to a variable, in one region that draws its order: the row that it leaves. -/
namespace Go.Proofs.YtjnfljipomjcjaaGreatDoor.tas
open Go.ChangeShapes Go.WideShapes Go.ChangeAt Go.RowKit Go.Proofs.YtjnfljipomjcjaaGreatDoor.fl
set_option linter.unusedVariables false

/-- what is drawn: the empty row, the row behind the first append, the new one's place, the rows behind the other two -/
structure G where
  e0 : Nat
  v1 : Value
  h : Nat
  v2 : Value
  v3 : Value
  v4 : Value
/-- the world ahead, the type and its cells, the cells ahead, of the new one and behind, how many ahead and behind -/
structure Pr where
  W0 : World
  T : TypeId
  n : Nat
  xs : List Value
  ms : List Value
  ys : List Value
  k : Nat
  m : Nat
structure D (p : Pr) (g : G) (c0 c1 c2 c3 c4 c5 : Bool) (W : World) : Prop where
  bel : Below p.W0.heap.size p.W0 W
  at0 : c0 = true → c1 = false → W.ownsRow p.W0.heap.size p.T p.n (.slice (some ⟨g.e0, 0, none⟩) 0 0) 0 []
  at1 : c1 = true → c0 = true ∧ (c3 = false → W.ownsRow p.W0.heap.size p.T p.n g.v1 p.k p.xs)
  at2 : c2 = true → c3 = false → W.heap[g.h]? = some (.cells p.ms.toArray p.T (0, 0)) ∧ (c0 = true → c1 = false → g.e0 ≠ g.h) ∧ (c1 = true → g.v1.ownBlock ≠ some g.h)
  at3 : c3 = true → c1 = true ∧ c2 = true ∧ (c4 = false → W.ownsRow p.W0.heap.size p.T p.n g.v2 (p.k + 1) (p.xs ++ p.ms))
  at4 : c4 = true → c3 = true ∧ W.ownsRow p.W0.heap.size p.T p.n g.v3 (p.k + 1 + p.m) (p.xs ++ p.ms ++ p.ys)
  at5 : c5 = true → c4 = true ∧ g.v4 = g.v3
section
variable {p : Pr} {g : G} {c0 c1 c2 c3 c4 c5 : Bool} {W W' : World} {v : Value}
theorem D.size (h : D p g c0 c1 c2 c3 c4 c5 W) : p.W0.heap.size ≤ W.heap.size := h.bel.size
theorem D.old (h : D p g c0 c1 c2 c3 c4 c5 W) {b : Nat} {o : Obj} (hb : p.W0.heap[b]? = some o) : W.heap[b]? = some o := bstay hb h.bel (Array.getElem?_eq_some_iff.1 hb).1
theorem D.below (h : D p g c0 c1 c2 c3 c4 c5 W) : Below p.W0.heap.size p.W0 W := h.bel
theorem no31 (h : D p g c0 false c2 c3 c4 c5 W) : c3 = false := by
  cases c3 with
  | false => rfl
  | true => have := (h.at3 rfl).1; cases this
theorem no32 (h : D p g c0 c1 false c3 c4 c5 W) : c3 = false := by
  cases c3 with
  | false => rfl
  | true => have := (h.at3 rfl).2.1; cases this
theorem no4 (h : D p g c0 c1 c2 false c4 c5 W) : c4 = false := by
  cases c4 with
  | false => rfl
  | true => have := (h.at4 rfl).1; cases this
theorem no5 (h : D p g c0 c1 c2 c3 false c5 W) : c5 = false := by
  cases c5 with
  | false => rfl
  | true => have := (h.at5 rfl).1; cases this
theorem no1 (h : D p g false c1 c2 c3 c4 c5 W) : c1 = false := by
  cases c1 with
  | false => rfl
  | true => have := (h.at1 rfl).1; cases this
/-- the empty row is made -/
theorem D.s0 (h : D p g false c1 c2 c3 c4 c5 W) : D p { g with e0 := W.heap.size } true c1 c2 c3 c4 c5 (W.alloc (.cells #[] p.T)) := by
  obtain rfl := no1 h
  obtain rfl := no31 h
  obtain rfl := no4 h
  obtain rfl := no5 h
  have hs := h.size
  refine ⟨h.below.alloc hs _, fun _ _ => World.ownsRow_made W #[] 0 hs (by unfold maxLen; omega) (by simp), fun e => (by cases e), fun e _ => ?_, fun e => (by cases e), fun e => (by cases e), fun e => (by cases e)⟩
  obtain ⟨h1, _, h3⟩ := h.at2 e rfl
  have := (Array.getElem?_eq_some_iff.1 h1).1
  exact ⟨bold h1 _, fun _ _ => (by show W.heap.size ≠ g.h; omega), h3⟩
/-- the first append -/
theorem D.s1 (h : D p g c0 false c2 c3 c4 c5 W) (h0 : c0 = true) (hg : W.grownBy W' (some g.e0)) (ho : W'.ownsRow p.W0.heap.size p.T p.n v p.k p.xs) (hat : v.ownBlock = some g.e0 ∨ v.ownBlock = some W.heap.size) : D p { g with v1 := v } c0 true c2 c3 c4 c5 W' := by
  obtain rfl := no31 h
  obtain rfl := no4 h
  obtain rfl := no5 h
  have hs := h.size
  have he := ((h.at0 h0 rfl).lt g.e0 rfl)
  refine ⟨h.below.grown hg hs (fun b hb => by cases hb; exact he.1), fun _ e => (by cases e), fun _ => ⟨h0, fun _ => ho⟩, fun e _ => ?_, fun e => (by cases e), fun e => (by cases e), fun e => (by cases e)⟩
  obtain ⟨h1, h2, _⟩ := h.at2 e rfl
  have hne := h2 h0 rfl
  have hlt := (Array.getElem?_eq_some_iff.1 h1).1
  refine ⟨(hg.block _ hlt (fun e => by have := Option.some.inj e; omega)).trans h1, fun _ e => (by cases e), fun _ e => ?_⟩
  have e' : v.ownBlock = some g.h := e
  rcases hat with ha | ha
  · rw [ha] at e'; have := Option.some.inj e'; omega
  · rw [ha] at e'; simp at e'; omega
/-- the new one's place -/
theorem D.s2 (h : D p g c0 c1 false c3 c4 c5 W) : D p { g with h := W.heap.size } c0 c1 true c3 c4 c5 (W.alloc (.cells p.ms.toArray p.T)) := by
  obtain rfl := no32 h
  obtain rfl := no4 h
  obtain rfl := no5 h
  have hs := h.size
  refine ⟨h.below.alloc hs _, fun a b => (h.at0 a b).alloc _, fun a => ⟨(h.at1 a).1, fun b => ((h.at1 a).2 b).alloc _⟩, fun _ _ => ⟨bnew W _ _, fun a b => ?_, fun a e => ?_⟩, fun e => (by cases e), fun e => (by cases e), fun e => (by cases e)⟩
  · have := ((h.at0 a b).lt g.e0 rfl).2
    show g.e0 ≠ W.heap.size
    omega
  · have := (((h.at1 a).2 rfl).lt _ e).2
    have : W.heap.size < W.heap.size := this
    omega
/-- the second append -/
theorem D.s3 (h : D p g c0 c1 c2 false c4 c5 W) (h1 : c1 = true) (h2 : c2 = true) (hg : W.grownBy W' g.v1.ownBlock) (ho : W'.ownsRow p.W0.heap.size p.T p.n v (p.k + 1) (p.xs ++ p.ms)) : D p { g with v2 := v } c0 c1 c2 true c4 c5 W' := by
  obtain rfl := no4 h
  obtain rfl := no5 h
  have hs := h.size
  have he := ((h.at1 h1).2 rfl).lt
  exact ⟨h.below.grown hg hs (fun b hb => (he b hb).1), fun a b => (by rw [h1] at b; cases b), fun a => ⟨(h.at1 a).1, fun e => (by cases e)⟩, fun _ e => (by cases e), fun _ => ⟨h1, h2, fun _ => ho⟩, fun e => (by cases e), fun e => (by cases e)⟩
/-- the third append -/
theorem D.s4 (h : D p g c0 c1 c2 c3 false c5 W) (h3 : c3 = true) (hg : W.grownBy W' g.v2.ownBlock) (ho : W'.ownsRow p.W0.heap.size p.T p.n v (p.k + 1 + p.m) (p.xs ++ p.ms ++ p.ys)) : D p { g with v3 := v } c0 c1 c2 c3 true c5 W' := by
  obtain rfl := no5 h
  have hs := h.size
  have he := ((h.at3 h3).2.2 rfl).lt
  obtain ⟨l1, l2, _⟩ := h.at3 h3
  exact ⟨h.below.grown hg hs (fun b hb => (he b hb).1), fun a b => (by rw [l1] at b; cases b), fun a => ⟨(h.at1 a).1, fun e => (by rw [h3] at e; cases e)⟩, fun _ e => (by rw [h3] at e; cases e), fun _ => ⟨l1, l2, fun e => (by cases e)⟩, fun _ => ⟨h3, ho⟩, fun e => (by cases e)⟩
/-- it is given to the variable -/
theorem D.s5 (h : D p g c0 c1 c2 c3 c4 false W) (h4 : c4 = true) : D p { g with v4 := g.v3 } c0 c1 c2 c3 c4 true W := ⟨h.bel, h.at0, h.at1, h.at2, h.at3, h.at4, fun _ => ⟨h4, rfl⟩⟩
end
theorem add0 (g j : Nat) : (⟨g, 0, none⟩ : Addr).add j = ⟨g, j, none⟩ := by unfold Addr.add; split <;> simp_all
theorem more_on (L : Nat → Bool) (i : Nat) : dn.more L i i = true := by unfold dn.more; rw [if_pos rfl]
theorem more_off (L : Nat → Bool) {i j : Nat} (h : j ≠ i) : dn.more L i j = L j := by unfold dn.more; rw [if_neg h]
/-- the numbers of the six operations that count -/
structure J where
  j0 : Nat
  j1 : Nat
  j2 : Nat
  j3 : Nat
  j4 : Nat
  j5 : Nat
def J.up (x : J) : Prop := x.j0 < x.j1 ∧ x.j1 < x.j2 ∧ x.j2 < x.j3 ∧ x.j3 < x.j4 ∧ x.j4 < x.j5
def C (p : Pr) (x : J) (g : G) (L : Nat → Bool) (W : World) : Prop := D p g (L x.j0) (L x.j1) (L x.j2) (L x.j3) (L x.j4) (L x.j5) W
theorem C.d {p : Pr} {x : J} {g : G} {L : Nat → Bool} {W : World} (h : C p x g L W) : D p g (L x.j0) (L x.j1) (L x.j2) (L x.j3) (L x.j4) (L x.j5) W := h
section
variable {p : Pr} {x : J} {ws : G → List (Nat × Value)} {act : Act} {Q : Exit → Act → World → Prop} {o : Oper}
theorem quiet {i : Nat} (hi : i ≠ x.j0 ∧ i ≠ x.j1 ∧ i ≠ x.j2 ∧ i ≠ x.j3 ∧ i ≠ x.j4 ∧ i ≠ x.j5) (hsel : ∀ cs b, o.op ≠ .select cs b) (u : Value) (hd : ∀ s d, o.dst = some d → (dk.sets act (ws s)).tmps[d]? = some u)
    (hrun : ∀ s W, (∀ (b : Nat) (o : Obj), p.W0.heap[b]? = some o → W.heap[b]? = some o) → (execOp (dk.sets act (ws s)).eval o).run Tryz.prog W = .ok (.value u) W) : gh.Step Tryz.prog (fun s => dk.sets act (ws s)) (C p x) Q i o := by
  refine gh.step_val hsel fun s L W hdp h0 hC => ⟨s, u, gh.Agree.refl _ _, hd s, ?_⟩
  rw [hrun s W (fun b o hb => hC.d.old hb)]
  refine ⟨rfl, ?_⟩
  obtain ⟨i0, i1, i2, i3, i4, i5⟩ := hi
  unfold C
  rw [more_off L i0.symm, more_off L i1.symm, more_off L i2.symm, more_off L i3.symm, more_off L i4.symm, more_off L i5.symm]
  exact hC
theorem st0 (hx : x.up) {d idx : Nat} (hsel : ∀ cs b, o.op ≠ .select cs b) (hdst : o.dst = some d) (hsz : d < act.tmps.size) (ld : ∀ g, (ws g).lookup d = some (.slice (some ⟨g.e0, 0, none⟩) 0 0)) (hidx : ∀ g, ((ws g)[idx]?.map (·.1)) = some d) (hset : ∀ g (e : Nat), ws { g with e0 := e } = (ws g).set idx (d, .slice (some ⟨e, 0, none⟩) 0 0))
    (hrun : ∀ s W, (execOp (dk.sets act (ws s)).eval o).run Tryz.prog W = .ok (.value (.slice (some ⟨W.heap.size, 0, none⟩) 0 0)) (W.alloc (.cells #[] p.T))) : gh.Step Tryz.prog (fun s => dk.sets act (ws s)) (C p x) Q x.j0 o := by
  refine gh.step_val hsel fun s L W hdp h0 hC => ⟨{ s with e0 := W.heap.size }, .slice (some ⟨W.heap.size, 0, none⟩) 0 0, dk.agree_sets idx d _ hdst (hidx s) (hset s _), (fun d' hd => by rw [hdst] at hd; cases hd; exact dk.sets_on _ hsz _ (ld _)), ?_⟩
  rw [hrun]
  refine ⟨rfl, ?_⟩
  obtain ⟨u0, u1, u2, u3, u4⟩ := hx
  have hd := hC.d
  rw [h0] at hd
  unfold C
  rw [more_on, more_off L (show x.j1 ≠ x.j0 by omega), more_off L (show x.j2 ≠ x.j0 by omega), more_off L (show x.j3 ≠ x.j0 by omega), more_off L (show x.j4 ≠ x.j0 by omega), more_off L (show x.j5 ≠ x.j0 by omega)]
  exact hd.s0
theorem st2 (hx : x.up) {d idx : Nat} (hsel : ∀ cs b, o.op ≠ .select cs b) (hdst : o.dst = some d) (hsz : d < act.tmps.size) (ld : ∀ g, (ws g).lookup d = some (.slice (some ⟨g.h, 0, none⟩) 1 1)) (hidx : ∀ g, ((ws g)[idx]?.map (·.1)) = some d) (hset : ∀ g (e : Nat), ws { g with h := e } = (ws g).set idx (d, .slice (some ⟨e, 0, none⟩) 1 1))
    (hrun : ∀ s W, (execOp (dk.sets act (ws s)).eval o).run Tryz.prog W = .ok (.value (.slice (some ⟨W.heap.size, 0, none⟩) 1 1)) (W.alloc (.cells p.ms.toArray p.T))) : gh.Step Tryz.prog (fun s => dk.sets act (ws s)) (C p x) Q x.j2 o := by
  refine gh.step_val hsel fun s L W hdp h0 hC => ⟨{ s with h := W.heap.size }, .slice (some ⟨W.heap.size, 0, none⟩) 1 1, dk.agree_sets idx d _ hdst (hidx s) (hset s _), (fun d' hd => by rw [hdst] at hd; cases hd; exact dk.sets_on _ hsz _ (ld _)), ?_⟩
  rw [hrun]
  refine ⟨rfl, ?_⟩
  obtain ⟨u0, u1, u2, u3, u4⟩ := hx
  have hd := hC.d
  rw [h0] at hd
  unfold C
  rw [more_on, more_off L (show x.j0 ≠ x.j2 by omega), more_off L (show x.j1 ≠ x.j2 by omega), more_off L (show x.j3 ≠ x.j2 by omega), more_off L (show x.j4 ≠ x.j2 by omega), more_off L (show x.j5 ≠ x.j2 by omega)]
  exact hd.s2
theorem app_run {ST s1 s2 m c : Nat} {a : Addr} {v v' : Value} {f : Act} {W w' : World} (hop : o.op = .call { callee := .builtin .append, args := #[.tmp s1, .tmp s2], argTypes := #[ST, ST] }) (e1 : f.eval (.tmp s1) = v) (e2 : f.eval (.tmp s2) = .slice (some a) m c) (hr : (Builtin.append_ #[ST, ST] o.type #[v, .slice (some a) m c]).run Tryz.prog W = .ok v' w') : (execOp f.eval o).run Tryz.prog W = .ok (.value v') w' := by
  unfold execOp
  simp only [hop, resolve, invoke, builtin, Sem.run_bind, Sem.run_pure, Result.andThen_ok, List.map_toArray, List.map_cons, List.map_nil, e1, e2, hr]
variable {ST : TypeId} {i0 : TypeInfo} {z : Value} {bytes : Nat}
theorem st1 (hx : x.up) (ht : Tryz.prog.underlying ST = some (.slice p.T)) (hi : Tryz.prog.info? p.T = some i0) (hz : i0.zero = some z) (hn : i0.size = p.n) (hb : i0.bytes = bytes) (hzs : z.cells.size = p.n) (hn0 : 0 < p.n)
    {s1 s2 d idx c : Nat} {a : Addr} (hop : o.op = .call { callee := .builtin .append, args := #[.tmp s1, .tmp s2], argTypes := #[ST, ST] }) (hdst : o.dst = some d) (hsz : d < act.tmps.size ∧ s1 < act.tmps.size ∧ s2 < act.tmps.size)
    (ld : ∀ g, (ws g).lookup d = some g.v1) (l1 : ∀ g, (ws g).lookup s1 = some (.slice (some ⟨g.e0, 0, none⟩) 0 0)) (l2 : ∀ g, (ws g).lookup s2 = some (.slice (some a) p.k c)) (hidx : ∀ g, ((ws g)[idx]?.map (·.1)) = some d) (hset : ∀ g (v : Value), ws { g with v1 := v } = (ws g).set idx (d, v))
    (hlen : p.xs.length = p.k * p.n) (hnews : ∀ W, Below p.W0.heap.size p.W0 W → ∀ j u, p.xs[j]? = some u → W.cell? (a.add j) = some u) (h1c : ∀ u ∈ p.xs, u.oneCell' = true) (hk : p.k ≤ 1048576) (hby : (0 + p.k) * bytes ≤ 140737488355328)
    (hdep : ∃ e ∈ o.after, Region.binds .any e = true ∧ e.on = x.j0) : gh.Step Tryz.prog (fun s => dk.sets act (ws s)) (C p x) Q x.j1 o := by
  refine gh.step_val (by rw [hop]; simp) fun s L W hdp h0 hC => ?_
  obtain ⟨xp, mp, yp, zp⟩ := hdep
  have lp := hdp xp mp yp
  rw [zp] at lp
  obtain ⟨u0, u1, u2, u3, u4⟩ := hx
  have hd := hC.d
  rw [h0] at hd
  have hbel : Below p.W0.heap.size p.W0 W := by
    have e3 := no31 hd
    rw [e3] at hd
    have e4 := no4 hd
    rw [e4] at hd
    have e5 := no5 hd
    rw [e5] at hd
    exact hd.below
  have hold := hd.at0 lp rfl
  obtain ⟨v', w', hr, ho, hg, _, hat⟩ := run_append_own_at (P := Tryz.prog) W p.W0.heap.size ST o.type p.T i0 z p.n bytes ht hi hz hn hb hzs hn0 _ 0 [] hold a p.k c p.xs hlen (hnews W hbel) h1c (by unfold maxLen; omega) hby hd.size
  rw [Nat.zero_add, List.nil_append] at ho
  refine ⟨{ s with v1 := v' }, v', dk.agree_sets idx d _ hdst (hidx s) (hset s _), (fun d' hd => by rw [hdst] at hd; cases hd; exact dk.sets_on _ hsz.1 _ (ld _)), ?_⟩
  rw [app_run hop (dk.eval_on _ _ hsz.2.1 (l1 s)) (dk.eval_on _ _ hsz.2.2 (l2 s)) hr]
  refine ⟨rfl, ?_⟩
  unfold C
  rw [more_on, more_off L (show x.j0 ≠ x.j1 by omega), more_off L (show x.j2 ≠ x.j1 by omega), more_off L (show x.j3 ≠ x.j1 by omega), more_off L (show x.j4 ≠ x.j1 by omega), more_off L (show x.j5 ≠ x.j1 by omega)]
  exact hd.s1 lp hg ho hat
theorem st3 (hx : x.up) (ht : Tryz.prog.underlying ST = some (.slice p.T)) (hi : Tryz.prog.info? p.T = some i0) (hz : i0.zero = some z) (hn : i0.size = p.n) (hb : i0.bytes = bytes) (hzs : z.cells.size = p.n) (hn0 : 0 < p.n)
    {s1 s2 d idx : Nat} (hop : o.op = .call { callee := .builtin .append, args := #[.tmp s1, .tmp s2], argTypes := #[ST, ST] }) (hdst : o.dst = some d) (hsz : d < act.tmps.size ∧ s1 < act.tmps.size ∧ s2 < act.tmps.size)
    (ld : ∀ g, (ws g).lookup d = some g.v2) (l1 : ∀ g, (ws g).lookup s1 = some g.v1) (l2 : ∀ g, (ws g).lookup s2 = some (.slice (some ⟨g.h, 0, none⟩) 1 1)) (hidx : ∀ g, ((ws g)[idx]?.map (·.1)) = some d) (hset : ∀ g (v : Value), ws { g with v2 := v } = (ws g).set idx (d, v))
    (hlen : p.ms.length = p.n) (h1c : ∀ u ∈ p.ms, u.oneCell' = true) (hk : p.k ≤ 1048576) (hby : (p.k + 1) * bytes ≤ 140737488355328)
    (hdep : ∃ e ∈ o.after, Region.binds .any e = true ∧ e.on = x.j1) (hdep2 : ∃ e ∈ o.after, Region.binds .any e = true ∧ e.on = x.j2) : gh.Step Tryz.prog (fun s => dk.sets act (ws s)) (C p x) Q x.j3 o := by
  refine gh.step_val (by rw [hop]; simp) fun s L W hdp h0 hC => ?_
  obtain ⟨xp, mp, yp, zp⟩ := hdep
  have lp := hdp xp mp yp
  rw [zp] at lp
  obtain ⟨xq, mq, yq, zq⟩ := hdep2
  have lq := hdp xq mq yq
  rw [zq] at lq
  obtain ⟨u0, u1, u2, u3, u4⟩ := hx
  have hd := hC.d
  rw [h0] at hd
  have hold := (hd.at1 lp).2 rfl
  obtain ⟨hcell, _, _⟩ := hd.at2 lq rfl
  have hnews : ∀ j u, p.ms[j]? = some u → W.cell? ((⟨s.h, 0, none⟩ : Addr).add j) = some u := fun j u hu => by
    rw [add0]
    exact bcell hcell (by simpa using hu)
  obtain ⟨v', w', hr, ho, hg, _, hat⟩ := run_append_own_at (P := Tryz.prog) W p.W0.heap.size ST o.type p.T i0 z p.n bytes ht hi hz hn hb hzs hn0 _ p.k p.xs hold ⟨s.h, 0, none⟩ 1 1 p.ms (by rw [hlen, Nat.one_mul]) hnews h1c (by unfold maxLen; omega) hby hd.size
  refine ⟨{ s with v2 := v' }, v', dk.agree_sets idx d _ hdst (hidx s) (hset s _), (fun d' hd => by rw [hdst] at hd; cases hd; exact dk.sets_on _ hsz.1 _ (ld _)), ?_⟩
  rw [app_run hop (dk.eval_on _ _ hsz.2.1 (l1 s)) (dk.eval_on _ _ hsz.2.2 (l2 s)) hr]
  refine ⟨rfl, ?_⟩
  unfold C
  rw [more_on, more_off L (show x.j0 ≠ x.j3 by omega), more_off L (show x.j1 ≠ x.j3 by omega), more_off L (show x.j2 ≠ x.j3 by omega), more_off L (show x.j4 ≠ x.j3 by omega), more_off L (show x.j5 ≠ x.j3 by omega)]
  exact hd.s3 lp lq hg ho
theorem st4 (hx : x.up) (ht : Tryz.prog.underlying ST = some (.slice p.T)) (hi : Tryz.prog.info? p.T = some i0) (hz : i0.zero = some z) (hn : i0.size = p.n) (hb : i0.bytes = bytes) (hzs : z.cells.size = p.n) (hn0 : 0 < p.n)
    {s1 s2 d idx c : Nat} {a : Addr} (hop : o.op = .call { callee := .builtin .append, args := #[.tmp s1, .tmp s2], argTypes := #[ST, ST] }) (hdst : o.dst = some d) (hsz : d < act.tmps.size ∧ s1 < act.tmps.size ∧ s2 < act.tmps.size)
    (ld : ∀ g, (ws g).lookup d = some g.v3) (l1 : ∀ g, (ws g).lookup s1 = some g.v2) (l2 : ∀ g, (ws g).lookup s2 = some (.slice (some a) p.m c)) (hidx : ∀ g, ((ws g)[idx]?.map (·.1)) = some d) (hset : ∀ g (v : Value), ws { g with v3 := v } = (ws g).set idx (d, v))
    (hlen : p.ys.length = p.m * p.n) (hnews : ∀ W, Below p.W0.heap.size p.W0 W → ∀ j u, p.ys[j]? = some u → W.cell? (a.add j) = some u) (h1c : ∀ u ∈ p.ys, u.oneCell' = true) (hk : p.k ≤ 1048576 ∧ p.m ≤ 1048576) (hby : (p.k + 1 + p.m) * bytes ≤ 140737488355328)
    (hdep : ∃ e ∈ o.after, Region.binds .any e = true ∧ e.on = x.j3) : gh.Step Tryz.prog (fun s => dk.sets act (ws s)) (C p x) Q x.j4 o := by
  refine gh.step_val (by rw [hop]; simp) fun s L W hdp h0 hC => ?_
  obtain ⟨xp, mp, yp, zp⟩ := hdep
  have lp := hdp xp mp yp
  rw [zp] at lp
  obtain ⟨u0, u1, u2, u3, u4⟩ := hx
  have hd := hC.d
  rw [h0] at hd
  have hbel : Below p.W0.heap.size p.W0 W := by
    have e5 := no5 hd
    rw [e5] at hd
    exact hd.below
  have hold := (hd.at3 lp).2.2 rfl
  obtain ⟨v', w', hr, ho, hg, _, hat⟩ := run_append_own_at (P := Tryz.prog) W p.W0.heap.size ST o.type p.T i0 z p.n bytes ht hi hz hn hb hzs hn0 _ (p.k + 1) (p.xs ++ p.ms) hold a p.m c p.ys hlen (hnews W hbel) h1c (by unfold maxLen; omega) hby hd.size
  refine ⟨{ s with v3 := v' }, v', dk.agree_sets idx d _ hdst (hidx s) (hset s _), (fun d' hd => by rw [hdst] at hd; cases hd; exact dk.sets_on _ hsz.1 _ (ld _)), ?_⟩
  rw [app_run hop (dk.eval_on _ _ hsz.2.1 (l1 s)) (dk.eval_on _ _ hsz.2.2 (l2 s)) hr]
  refine ⟨rfl, ?_⟩
  unfold C
  rw [more_on, more_off L (show x.j0 ≠ x.j4 by omega), more_off L (show x.j1 ≠ x.j4 by omega), more_off L (show x.j2 ≠ x.j4 by omega), more_off L (show x.j3 ≠ x.j4 by omega), more_off L (show x.j5 ≠ x.j4 by omega)]
  exact hd.s4 lp hg ho
theorem st5 (hx : x.up) {d s1 idx : Nat} (hop : o.op = .assign (.tmp s1)) (hdst : o.dst = some d) (hsz : d < act.tmps.size ∧ s1 < act.tmps.size) (ld : ∀ g, (ws g).lookup d = some g.v4) (l1 : ∀ g, (ws g).lookup s1 = some g.v3) (hidx : ∀ g, ((ws g)[idx]?.map (·.1)) = some d) (hset : ∀ g (v : Value), ws { g with v4 := v } = (ws g).set idx (d, v))
    (hdep : ∃ e ∈ o.after, Region.binds .any e = true ∧ e.on = x.j4) : gh.Step Tryz.prog (fun s => dk.sets act (ws s)) (C p x) Q x.j5 o := by
  refine gh.step_val (by rw [hop]; simp) fun s L W hdp h0 hC => ?_
  obtain ⟨xp, mp, yp, zp⟩ := hdep
  have lp := hdp xp mp yp
  rw [zp] at lp
  obtain ⟨u0, u1, u2, u3, u4⟩ := hx
  have hd := hC.d
  rw [h0] at hd
  refine ⟨{ s with v4 := s.v3 }, s.v3, dk.agree_sets idx d _ hdst (hidx s) (hset s _), (fun d' hd => by rw [hdst] at hd; cases hd; exact dk.sets_on _ hsz.1 _ (ld _)), ?_⟩
  have hrun : (execOp (dk.sets act (ws s)).eval o).run Tryz.prog W = .ok (.value s.v3) W := by
    unfold execOp
    simp only [hop, dk.eval_on _ _ hsz.2 (l1 s), Sem.run_pure]
  rw [hrun]
  refine ⟨rfl, ?_⟩
  unfold C
  rw [more_on, more_off L (show x.j0 ≠ x.j5 by omega), more_off L (show x.j1 ≠ x.j5 by omega), more_off L (show x.j2 ≠ x.j5 by omega), more_off L (show x.j3 ≠ x.j5 by omega), more_off L (show x.j4 ≠ x.j5 by omega)]
  exact hd.s5 lp
end
/-- when all is done -/
theorem done {p : Pr} {x : J} {g : G} {L : Nat → Bool} {W : World} {N : Nat} (hC : C p x g L W) (hx : x.up) (hN : x.j5 < N) (hL : ∀ i, i < N → L i = true) :
    Below p.W0.heap.size p.W0 W ∧ g.v4 = g.v3 ∧ W.ownsRow p.W0.heap.size p.T p.n g.v3 (p.k + 1 + p.m) (p.xs ++ p.ms ++ p.ys) := by
  have hd := hC.d
  obtain ⟨u0, u1, u2, u3, u4⟩ := hx
  rw [hL x.j4 (by omega), hL x.j5 hN] at hd
  exact ⟨hd.bel, (hd.at5 rfl).2, (hd.at4 rfl).2⟩
/-- nothing is done yet -/
theorem start (p : Pr) (x : J) (g : G) : C p x g (fun _ => false) p.W0.drew :=
  ⟨(Below.refl _ _).drew, fun e => (by cases e), fun e => (by cases e), fun e => (by cases e), fun e => (by cases e), fun e => (by cases e), fun e => (by cases e)⟩
end Go.Proofs.YtjnfljipomjcjaaGreatDoor.tas

/- The specification's l07Set: a run with a pair in its place, in a row of its own. -/
namespace Go.Proofs.YtjnfljipomjcjaaGreatDoor.pss
open Go.ChangeShapes Go.WideShapes Go.ChangeAt Go.RowKit Go.Proofs.YtjnfljipomjcjaaGreatDoor.fl Go.Proofs.YtjnfljipomjcjaaGreatDoor.fo Go.Proofs.YtjnfljipomjcjaaGreatDoor.rn Go.Proofs.YtjnfljipomjcjaaGreatDoor.rc Go.Proofs.YtjnfljipomjcjaaGreatDoor.ro Go.Proofs.YtjnfljipomjcjaaGreatDoor.ptp
set_option linter.unusedVariables false

theorem row_cell {w : World} {B g k : Nat} {l : List flP.Pr} {e : flP.Pr} (h : Row flP.c 3 w B (some ⟨g, 0, none⟩) l) (he : l[k]? = some e) : w.cell? ⟨g, k * 3, none⟩ = some (.string e.k) := by
  rcases h with h0 | ⟨b', off', hh, hlt, hc⟩
  · rw [h0] at he; simp at he
  · cases hh
    have := hc k _ he 0 _ rfl
    simpa using this
theorem bdrewN {B : Nat} {a w : World} (h : Below B a w) (n : Nat) : Below B a (w.drewN n) := ⟨h.os, h.tape, h.output, h.size, h.block⟩
theorem add_at (g o j : Nat) : (⟨g, o, none⟩ : Addr).add j = ⟨g, o + j, none⟩ := by unfold Addr.add; split <;> simp_all
theorem take_drop_flat (l : List flP.Pr) (k : Nat) : l.flatMap flP.c = (l.take k).flatMap flP.c ++ (l.drop k).flatMap flP.c := by rw [← List.flatMap_append, List.take_append_drop]
theorem news_take {w : World} {B g : Nat} {l : List flP.Pr} (h : Row flP.c 3 w B (some ⟨g, 0, none⟩) l) (k : Nat) : ∀ (j : Nat) (u : Value), ((l.take k).flatMap flP.c)[j]? = some u → w.cell? ((⟨g, 0, none⟩ : Addr).add j) = some u := fun j u hu => sct.newsP h j u (by
  rw [take_drop_flat l k, List.getElem?_append_left (List.getElem?_eq_some_iff.1 hu).1]
  exact hu)
theorem news_drop {w : World} {B g : Nat} {l : List flP.Pr} (h : Row flP.c 3 w B (some ⟨g, 0, none⟩) l) (k : Nat) (hk : k ≤ l.length) : ∀ (j : Nat) (u : Value), ((l.drop k).flatMap flP.c)[j]? = some u → w.cell? ((⟨g, k * 3, none⟩ : Addr).add j) = some u := fun j u hu => by
  have hlen : ((l.take k).flatMap flP.c).length = k * 3 := by rw [flat_len flP.c_len, List.length_take]; congr 1; omega
  have := sct.newsP h (k * 3 + j) u (by
    rw [take_drop_flat l k, List.getElem?_append_right (by omega), hlen, show k * 3 + j - k * 3 = j by omega]
    exact hu)
  rw [sct.add0] at this
  rw [add_at]
  exact this
def ws (g n c k o m cc : Nat) (pk pv : ByteArray) (pg : Bool) (s : tas.G) : List (Nat × Value) := [(40, .slice (some ⟨s.e0, 0, none⟩) 0 0), (41, .slice (some ⟨g, 0, none⟩) n c), (42, .int .i64 k), (43, .slice (some ⟨g, 0, none⟩) k c), (44, s.v1), (45, .agg #[.string pk, .string pv, .bool pg]), (46, .slice (some ⟨s.h, 0, none⟩) 1 1), (47, s.v2), (48, .slice (some ⟨g, o, none⟩) m cc), (49, s.v3), (4, s.v4)]
def J0 : tas.J := ⟨0, 4, 6, 7, 9, 10⟩
theorem J0_up : J0.up := ⟨by decide, by decide, by decide, by decide, by decide⟩
set_option maxRecDepth 100000 in
set_option maxHeartbeats 4000000 in
theorem spec_set (l : List flP.Pr) (g c : Nat) (pk pv : ByteArray) (pg : Bool) (w : World) (hl : l.length ≤ 1048576) (hlc : l.length ≤ c) (hS : Row flP.c 3 w w.heap.size (some ⟨g, 0, none⟩) l) :
    Calls Tryz.prog 49 #[.slice (some ⟨g, 0, none⟩) l.length c, .agg #[.string pk, .string pv, .bool pg]] w fun e w' => ∃ g2 c2, e = .returned (.slice (some ⟨g2, 0, none⟩) (setP l ⟨pk, pv, pg⟩).length c2) ∧ w'.ownsRow w.heap.size 61 3 (.slice (some ⟨g2, 0, none⟩) (setP l ⟨pk, pv, pg⟩).length c2) (setP l ⟨pk, pv, pg⟩).length ((setP l ⟨pk, pv, pg⟩).flatMap flP.c) ∧ Below w.heap.size w w' := by
  obtain ⟨i0, hi, hz0, hz1, hz2⟩ := sct.infoP
  have hb : Below w.heap.size w (w.alloc (.cells #[.string pk, .string pv, .bool pg] 61)) := (Below.refl _ _).alloc (Nat.le_refl _) _
  have hA := bnew w #[.string pk, .string pv, .bool pg] 61
  obtain ⟨W, hW⟩ : ∃ W, w.alloc (.cells #[.string pk, .string pv, .bool pg] 61) = W := ⟨_, rfl⟩
  have hsW : W.heap.size = w.heap.size + 1 := by rw [← hW]; simp
  rw [hW] at hb hA
  have HS : Hid (Row flP.c 3 W W.heap.size (some ⟨g, 0, none⟩) l) := hS.inn hb
  have HA : Hid (W.heap[w.heap.size]? = some (.cells #[.string pk, .string pv, .bool pg] 61 (0, 0))) := hA
  clear hS hA
  go_enter Tryz.func49, Tryz.ntmps49
  go_wp2
  clear hW
  go_loopw [5] (fun v wr => ∃ k : Nat, k ≤ l.length ∧ v = .int .i64 k ∧ Hid (∀ (i : Nat) a, i < k → l[i]? = some a → lt a.k pk = true) ∧ Hid (Below W.heap.size W wr)) (fun v _ => l.length - (intOf v).toNat)
  case atStart => exact ⟨0, Nat.zero_le _, rfl, fun i a h => by omega, Below.refl _ _⟩
  case round =>
    obtain ⟨k, hk, rfl, hn, hB⟩ := hrel
    have p0 : wr.cell? ⟨w.heap.size, 0, none⟩ = some (.string pk) := bcell (bstay HA.out hB.out (by omega)) rfl
    have HSr : Hid (Row flP.c 3 wr wr.heap.size (some ⟨g, 0, none⟩) l) := HS.out.inn hB.out
    have hsr : w.heap.size + 1 ≤ wr.heap.size := by have := hB.out.size; omega
    by_cases hkl : k < l.length
    · have f0 : decide ((k : Int) < (l.length : Int)) = true := by simp; omega
      have HG : Hid (l[k]? = some l[k]) := List.getElem?_eq_getElem hkl
      obtain ⟨⟨mk, mv, mg⟩, he⟩ : ∃ e, l[k] = e := ⟨_, rfl⟩
      rw [he] at HG
      have a0 : wr.cell? ⟨g, k * 3, none⟩ = some (.string mk) := row_cell HSr.out HG.out
      have i2 : (k : Int) < (l.length : Int) := by omega
      clear he
      cases hq : Op.bytesLess mk.toList pk.toList with
      | true =>
        have hn2 : Hid (∀ (i : Nat) a, i < k + 1 → l[i]? = some a → lt a.k pk = true) := fun i a hi ha => by
          by_cases ei : i = k
          · subst ei; rw [HG.out] at ha; cases ha; exact hq
          · exact hn.out i a (by omega) ha
        go_wp2
        go_quiet (fail)
        go_wp2
        go_roundw
        case rel => exact ⟨k + 1, by omega, by go_num, hn2, bdrewN hB.out _⟩
        case measure => simp [intOf]; omega
      | false =>
        have HP : Hid (posP l pk = k) := posP_eq l pk k hk hn.out (fun a ha => by rw [HG.out] at ha; cases ha; exact hq)
        have r4 : ¬ c = k := by omega
        have r5 : 0 < l.length - k := by omega
        have r7 : (0 : Int) < ((l.length - k : Nat) : Int) := by omega
        have f5 : decide ((0 : Int) < ((l.length - k : Nat) : Int)) = true := decide_eq_true r7
        have r9 : k ≤ c := by omega
        by_cases heq : mk.toList = pk.toList
        · have hq2 : (mk.toList == pk.toList) = true := by simp [heq]
          have HIS : Hid (isP l k pk = true) := isP_true.2 ⟨_, HG.out, cmp_zero.2 (of_same heq)⟩
          clear heq
          have HRE : Hid (restP l pk = l.drop (k + 1)) := by show restP l pk = l.drop (k + 1); unfold restP; rw [HP.out, if_pos HIS.out]
          have r8 : 1 ≤ l.length - k := by omega
          by_cases hck : c = k + 1
          · have r6 : c - k = 1 := by omega
            have HLE : Hid (l.length = k + 1) := by exact (by omega : l.length = k + 1)
            have HCK : Hid (c = k + 1) := hck
            clear hck
            go_wp2
            go_quiet (fail)
            have hBX := bdrewN hB.out nq
            obtain ⟨X, hX⟩ : ∃ X, wr.drewN nq = X := ⟨_, rfl⟩
            rw [hX] at hBX ⊢
            have HSX := HS.out.inn hBX
            have hsx := hBX.size
            have x0 : X.cell? ⟨w.heap.size, 0, none⟩ = some (.string pk) := bcell (bstay HA.out hBX (by omega)) rfl
            have b0 : X.cell? ⟨g, k * 3, none⟩ = some (.string mk) := row_cell HSX HG.out
            clear hX p0 a0 HSX
            go_wp2
            go_quiet (fail)
            have hBX2 := bdrewN hBX nq
            obtain ⟨X2, hX2⟩ : ∃ X2, X.drewN nq = X2 := ⟨_, rfl⟩
            rw [hX2] at hBX2 ⊢
            clear hX2 x0 b0
            have hX2s := hBX2.size
            have HSX2 : Hid (Row flP.c 3 X2 X2.heap.size (some ⟨g, 0, none⟩) l) := HS.out.inn hBX2
            have HA2 : Hid (X2.heap[w.heap.size]? = some (.cells #[.string pk, .string pv, .bool pg] 61 (0, 0))) := bstay HA.out hBX2 (by omega)
            have HRL : Hid ((restP l pk).length = l.length - k - 1) := by show (restP l pk).length = l.length - k - 1; rw [HRE.out]; simp; omega
            have HBX2 : Hid (Below W.heap.size W X2) := hBX2
            go_wp2
            refine dk.region_gsets (ws g l.length c k (k * 3) (l.length - k - 1) (0) pk pv pg) [40, 41, 42, 43, 44, 45, 46, 47, 48, 49, 4] (tas.C ⟨X2, 61, 3, (l.take k).flatMap flP.c, [.string pk, .string pv, .bool pg], (restP l pk).flatMap flP.c, k, l.length - k - 1⟩ J0) ⟨0, .slice none 0 0, 0, .slice none 0 0, .slice none 0 0, .slice none 0 0⟩ (by kernel_rfl) (by kernel_rfl) (fun _ => rfl) (by kernel_rfl) (tas.start _ _ _) ?each ?fin
            case each =>
              refine ⟨tas.st0 (x := J0) (d := 40) (idx := 0) J0_up (by simp) rfl (by simp) (fun g => rfl) (fun g => rfl) (fun g e => rfl) (fun s W => by simp [execOp, go_sem]), ?_⟩
              refine ⟨tas.quiet (by decide) (by simp) (.slice (some ⟨g, 0, none⟩) l.length c) (by rintro s _ ⟨⟩; exact dk.sets_on _ (by simp) _ rfl) (fun s W h => by simp [execOp, go_sem, Act.eval, dk.sets_get, ws, List.lookup]), ?_⟩
              refine ⟨tas.quiet (by decide) (by simp) (.int .i64 k) (by rintro s _ ⟨⟩; exact dk.sets_on _ (by simp) _ rfl) (fun s W h => by simp [execOp, go_sem, Act.eval, dk.sets_get, ws, List.lookup]), ?_⟩
              refine ⟨tas.quiet (by decide) (by simp) (.slice (some ⟨g, 0, none⟩) k c) (by rintro s _ ⟨⟩; exact dk.sets_on _ (by simp) _ rfl) (fun s W h => by simp [execOp, go_sem, Act.eval, dk.sets_get, ws, List.lookup, r9]), ?_⟩
              refine ⟨tas.st1 (x := J0) (d := 44) (s1 := 40) (s2 := 43) (idx := 4) (c := c) (a := ⟨g, 0, none⟩) J0_up Tryz.underlying24 hi hz0 hz1 hz2 rfl (by show 0 < 3; decide) rfl rfl ⟨by simp, by simp, by simp⟩ (fun g => rfl) (fun g => rfl) (fun g => rfl) (fun g => rfl) (fun g v => rfl) (by show ((l.take k).flatMap flP.c).length = k * 3; rw [flat_len flP.c_len, List.length_take]; congr 1; omega) (fun W hb => news_take (HSX2.out.inn hb) k) (sct.oneP _) (by show k ≤ 1048576; omega) (by show (0 + k) * 40 ≤ 140737488355328; omega) ⟨⟨0, .data⟩, by simp, rfl, rfl⟩, ?_⟩
              refine ⟨tas.quiet (by decide) (by simp) (.agg #[.string pk, .string pv, .bool pg]) (by rintro s _ ⟨⟩; exact dk.sets_on _ (by simp) _ rfl) (fun s W h => by have hh := h _ _ HA2.out; have c0 : W.cell? ⟨w.heap.size, 0, none⟩ = some (.string pk) := bcell hh rfl; have c1 : W.cell? ⟨w.heap.size, 1, none⟩ = some (.string pv) := bcell hh rfl; have c2 : W.cell? ⟨w.heap.size, 2, none⟩ = some (.bool pg) := bcell hh rfl; simp [execOp, go_sem, Act.eval, dk.sets_get, ws, List.lookup, c0, c1, c2]), ?_⟩
              refine ⟨tas.st2 (x := J0) (d := 46) (idx := 6) J0_up (by simp) rfl (by simp) (fun g => rfl) (fun g => rfl) (fun g e => rfl) (fun s W => by simp [execOp, go_sem, Act.eval, dk.sets_get, ws, List.lookup]), ?_⟩
              refine ⟨tas.st3 (x := J0) (d := 47) (s1 := 44) (s2 := 46) (idx := 7) J0_up Tryz.underlying24 hi hz0 hz1 hz2 rfl (by show 0 < 3; decide) rfl rfl ⟨by simp, by simp, by simp⟩ (fun g => rfl) (fun g => rfl) (fun g => rfl) (fun g => rfl) (fun g v => rfl) rfl (by intro u hu; simp at hu; rcases hu with rfl | rfl | rfl <;> rfl) (by show k ≤ 1048576; omega) (by show (k + 1) * 40 ≤ 140737488355328; omega) ⟨⟨4, .data⟩, by simp, rfl, rfl⟩ ⟨⟨6, .data⟩, by simp, rfl, rfl⟩, ?_⟩
              refine ⟨tas.quiet (by decide) (by simp) (.slice (some ⟨g, k * 3, none⟩) (l.length - k - 1) (0)) (by rintro s _ ⟨⟩; exact dk.sets_on _ (by simp) _ rfl) (fun s W h => by simp [execOp, go_sem, Act.eval, dk.sets_get, ws, List.lookup]), ?_⟩
              refine ⟨tas.st4 (x := J0) (d := 49) (s1 := 47) (s2 := 48) (idx := 9) (c := 0) (a := ⟨g, k * 3, none⟩) J0_up Tryz.underlying24 hi hz0 hz1 hz2 rfl (by show 0 < 3; decide) rfl rfl ⟨by simp, by simp, by simp⟩ (fun g => rfl) (fun g => rfl) (fun g => rfl) (fun g => rfl) (fun g v => rfl) (by show ((restP l pk).flatMap flP.c).length = (l.length - k - 1) * 3; rw [flat_len flP.c_len, HRL.out]) (fun W hb => by rw [HRE.out, List.drop_of_length_le (by rw [HLE.out]; omega)]; intro j u hu; simp at hu) (sct.oneP _) (by show k ≤ 1048576 ∧ l.length - k - 1 ≤ 1048576; omega) (by show (k + 1 + (l.length - k - 1)) * 40 ≤ 140737488355328; omega) ⟨⟨7, .data⟩, by simp, rfl, rfl⟩, ?_⟩
              exact ⟨tas.st5 (x := J0) (d := 4) (s1 := 49) (idx := 10) J0_up rfl rfl ⟨by simp, by simp⟩ (fun g => rfl) (fun g => rfl) (fun g => rfl) (fun g v => rfl) ⟨⟨9, .data⟩, by simp, rfl, rfl⟩, trivial⟩
            case fin =>
              intro s L X3 hL hC
              obtain ⟨hbl, hv4, hown⟩ := tas.done hC J0_up (N := 11) (by decide) hL
              replace hbl : Below X2.heap.size X2 X3 := hbl
              replace hown : X3.ownsRow X2.heap.size 61 3 s.v3 (k + 1 + (l.length - k - 1)) ((l.take k).flatMap flP.c ++ [.string pk, .string pv, .bool pg] ++ (restP l pk).flatMap flP.c) := hown
              have hlen : k + 1 + (l.length - k - 1) = (setP l ⟨pk, pv, pg⟩).length := by unfold setP; rw [HP.out, List.length_append, List.length_cons, List.length_take, HRL.out]; omega
              have hfl : (l.take k).flatMap flP.c ++ [.string pk, .string pv, .bool pg] ++ (restP l pk).flatMap flP.c = (setP l ⟨pk, pv, pg⟩).flatMap flP.c := by unfold setP; rw [HP.out]; simp [flP.c]
              rw [hlen, hfl] at hown
              obtain ⟨g5, c5, hv3⟩ : ∃ g5 c5, s.v3 = .slice (some ⟨g5, 0, none⟩) (setP l ⟨pk, pv, pg⟩).length c5 := by
                obtain ⟨_, ⟨_, h0⟩ | ⟨g6, cap, cur, e, _⟩⟩ := hown
                · omega
                · exact ⟨g6, cap, e⟩
              rw [hv3] at hown hv4
              have HW : Hid (X3.ownsRow X2.heap.size 61 3 (.slice (some ⟨g5, 0, none⟩) (setP l ⟨pk, pv, pg⟩).length c5) (setP l ⟨pk, pv, pg⟩).length ((setP l ⟨pk, pv, pg⟩).flatMap flP.c)) := hown
              have HBL : Hid (Below X2.heap.size X2 X3) := hbl
              have HV4 : Hid (s.v4 = .slice (some ⟨g5, 0, none⟩) (setP l ⟨pk, pv, pg⟩).length c5) := hv4
              clear hC hL hbl hown hlen hfl hv3 hv4
              go_wp2
              refine bodyPost_ret (v := .slice (some ⟨g5, 0, none⟩) (setP l ⟨pk, pv, pg⟩).length c5) (by simp [results, Tryz.results49, go_sem, dk.sets_get, ws, List.lookup, HV4.out]) rfl ?_
              exact ⟨g5, c5, rfl, sct.own_low HW.out (by omega), hb.trans ((HBX2.out.trans (HBL.out.mono HBX2.out.size)).mono hb.size)⟩
          · have r6 : ¬ c - k = 1 := by omega
            go_wp2
            go_quiet (fail)
            have hBX := bdrewN hB.out nq
            obtain ⟨X, hX⟩ : ∃ X, wr.drewN nq = X := ⟨_, rfl⟩
            rw [hX] at hBX ⊢
            have HSX := HS.out.inn hBX
            have hsx := hBX.size
            have x0 : X.cell? ⟨w.heap.size, 0, none⟩ = some (.string pk) := bcell (bstay HA.out hBX (by omega)) rfl
            have b0 : X.cell? ⟨g, k * 3, none⟩ = some (.string mk) := row_cell HSX HG.out
            clear hX p0 a0 HSX
            go_wp2
            go_quiet (fail)
            have hBX2 := bdrewN hBX nq
            obtain ⟨X2, hX2⟩ : ∃ X2, X.drewN nq = X2 := ⟨_, rfl⟩
            rw [hX2] at hBX2 ⊢
            clear hX2 x0 b0
            have hX2s := hBX2.size
            have HSX2 : Hid (Row flP.c 3 X2 X2.heap.size (some ⟨g, 0, none⟩) l) := HS.out.inn hBX2
            have HA2 : Hid (X2.heap[w.heap.size]? = some (.cells #[.string pk, .string pv, .bool pg] 61 (0, 0))) := bstay HA.out hBX2 (by omega)
            have HRL : Hid ((restP l pk).length = l.length - k - 1) := by show (restP l pk).length = l.length - k - 1; rw [HRE.out]; simp; omega
            have HBX2 : Hid (Below W.heap.size W X2) := hBX2
            go_wp2
            refine dk.region_gsets (ws g l.length c k (k * 3 + 3) (l.length - k - 1) (c - k - 1) pk pv pg) [40, 41, 42, 43, 44, 45, 46, 47, 48, 49, 4] (tas.C ⟨X2, 61, 3, (l.take k).flatMap flP.c, [.string pk, .string pv, .bool pg], (restP l pk).flatMap flP.c, k, l.length - k - 1⟩ J0) ⟨0, .slice none 0 0, 0, .slice none 0 0, .slice none 0 0, .slice none 0 0⟩ (by kernel_rfl) (by kernel_rfl) (fun _ => rfl) (by kernel_rfl) (tas.start _ _ _) ?each ?fin
            case each =>
              refine ⟨tas.st0 (x := J0) (d := 40) (idx := 0) J0_up (by simp) rfl (by simp) (fun g => rfl) (fun g => rfl) (fun g e => rfl) (fun s W => by simp [execOp, go_sem]), ?_⟩
              refine ⟨tas.quiet (by decide) (by simp) (.slice (some ⟨g, 0, none⟩) l.length c) (by rintro s _ ⟨⟩; exact dk.sets_on _ (by simp) _ rfl) (fun s W h => by simp [execOp, go_sem, Act.eval, dk.sets_get, ws, List.lookup]), ?_⟩
              refine ⟨tas.quiet (by decide) (by simp) (.int .i64 k) (by rintro s _ ⟨⟩; exact dk.sets_on _ (by simp) _ rfl) (fun s W h => by simp [execOp, go_sem, Act.eval, dk.sets_get, ws, List.lookup]), ?_⟩
              refine ⟨tas.quiet (by decide) (by simp) (.slice (some ⟨g, 0, none⟩) k c) (by rintro s _ ⟨⟩; exact dk.sets_on _ (by simp) _ rfl) (fun s W h => by simp [execOp, go_sem, Act.eval, dk.sets_get, ws, List.lookup, r9]), ?_⟩
              refine ⟨tas.st1 (x := J0) (d := 44) (s1 := 40) (s2 := 43) (idx := 4) (c := c) (a := ⟨g, 0, none⟩) J0_up Tryz.underlying24 hi hz0 hz1 hz2 rfl (by show 0 < 3; decide) rfl rfl ⟨by simp, by simp, by simp⟩ (fun g => rfl) (fun g => rfl) (fun g => rfl) (fun g => rfl) (fun g v => rfl) (by show ((l.take k).flatMap flP.c).length = k * 3; rw [flat_len flP.c_len, List.length_take]; congr 1; omega) (fun W hb => news_take (HSX2.out.inn hb) k) (sct.oneP _) (by show k ≤ 1048576; omega) (by show (0 + k) * 40 ≤ 140737488355328; omega) ⟨⟨0, .data⟩, by simp, rfl, rfl⟩, ?_⟩
              refine ⟨tas.quiet (by decide) (by simp) (.agg #[.string pk, .string pv, .bool pg]) (by rintro s _ ⟨⟩; exact dk.sets_on _ (by simp) _ rfl) (fun s W h => by have hh := h _ _ HA2.out; have c0 : W.cell? ⟨w.heap.size, 0, none⟩ = some (.string pk) := bcell hh rfl; have c1 : W.cell? ⟨w.heap.size, 1, none⟩ = some (.string pv) := bcell hh rfl; have c2 : W.cell? ⟨w.heap.size, 2, none⟩ = some (.bool pg) := bcell hh rfl; simp [execOp, go_sem, Act.eval, dk.sets_get, ws, List.lookup, c0, c1, c2]), ?_⟩
              refine ⟨tas.st2 (x := J0) (d := 46) (idx := 6) J0_up (by simp) rfl (by simp) (fun g => rfl) (fun g => rfl) (fun g e => rfl) (fun s W => by simp [execOp, go_sem, Act.eval, dk.sets_get, ws, List.lookup]), ?_⟩
              refine ⟨tas.st3 (x := J0) (d := 47) (s1 := 44) (s2 := 46) (idx := 7) J0_up Tryz.underlying24 hi hz0 hz1 hz2 rfl (by show 0 < 3; decide) rfl rfl ⟨by simp, by simp, by simp⟩ (fun g => rfl) (fun g => rfl) (fun g => rfl) (fun g => rfl) (fun g v => rfl) rfl (by intro u hu; simp at hu; rcases hu with rfl | rfl | rfl <;> rfl) (by show k ≤ 1048576; omega) (by show (k + 1) * 40 ≤ 140737488355328; omega) ⟨⟨4, .data⟩, by simp, rfl, rfl⟩ ⟨⟨6, .data⟩, by simp, rfl, rfl⟩, ?_⟩
              refine ⟨tas.quiet (by decide) (by simp) (.slice (some ⟨g, k * 3 + 3, none⟩) (l.length - k - 1) (c - k - 1)) (by rintro s _ ⟨⟩; exact dk.sets_on _ (by simp) _ rfl) (fun s W h => by simp [execOp, go_sem, Act.eval, dk.sets_get, ws, List.lookup]), ?_⟩
              refine ⟨tas.st4 (x := J0) (d := 49) (s1 := 47) (s2 := 48) (idx := 9) (c := c - k - 1) (a := ⟨g, k * 3 + 3, none⟩) J0_up Tryz.underlying24 hi hz0 hz1 hz2 rfl (by show 0 < 3; decide) rfl rfl ⟨by simp, by simp, by simp⟩ (fun g => rfl) (fun g => rfl) (fun g => rfl) (fun g => rfl) (fun g v => rfl) (by show ((restP l pk).flatMap flP.c).length = (l.length - k - 1) * 3; rw [flat_len flP.c_len, HRL.out]) (fun W hb => by rw [HRE.out]; have hnd := news_drop (HSX2.out.inn hb) (k + 1) (by omega); rw [show (k + 1) * 3 = k * 3 + 3 by omega] at hnd; exact hnd) (sct.oneP _) (by show k ≤ 1048576 ∧ l.length - k - 1 ≤ 1048576; omega) (by show (k + 1 + (l.length - k - 1)) * 40 ≤ 140737488355328; omega) ⟨⟨7, .data⟩, by simp, rfl, rfl⟩, ?_⟩
              exact ⟨tas.st5 (x := J0) (d := 4) (s1 := 49) (idx := 10) J0_up rfl rfl ⟨by simp, by simp⟩ (fun g => rfl) (fun g => rfl) (fun g => rfl) (fun g v => rfl) ⟨⟨9, .data⟩, by simp, rfl, rfl⟩, trivial⟩
            case fin =>
              intro s L X3 hL hC
              obtain ⟨hbl, hv4, hown⟩ := tas.done hC J0_up (N := 11) (by decide) hL
              replace hbl : Below X2.heap.size X2 X3 := hbl
              replace hown : X3.ownsRow X2.heap.size 61 3 s.v3 (k + 1 + (l.length - k - 1)) ((l.take k).flatMap flP.c ++ [.string pk, .string pv, .bool pg] ++ (restP l pk).flatMap flP.c) := hown
              have hlen : k + 1 + (l.length - k - 1) = (setP l ⟨pk, pv, pg⟩).length := by unfold setP; rw [HP.out, List.length_append, List.length_cons, List.length_take, HRL.out]; omega
              have hfl : (l.take k).flatMap flP.c ++ [.string pk, .string pv, .bool pg] ++ (restP l pk).flatMap flP.c = (setP l ⟨pk, pv, pg⟩).flatMap flP.c := by unfold setP; rw [HP.out]; simp [flP.c]
              rw [hlen, hfl] at hown
              obtain ⟨g5, c5, hv3⟩ : ∃ g5 c5, s.v3 = .slice (some ⟨g5, 0, none⟩) (setP l ⟨pk, pv, pg⟩).length c5 := by
                obtain ⟨_, ⟨_, h0⟩ | ⟨g6, cap, cur, e, _⟩⟩ := hown
                · omega
                · exact ⟨g6, cap, e⟩
              rw [hv3] at hown hv4
              have HW : Hid (X3.ownsRow X2.heap.size 61 3 (.slice (some ⟨g5, 0, none⟩) (setP l ⟨pk, pv, pg⟩).length c5) (setP l ⟨pk, pv, pg⟩).length ((setP l ⟨pk, pv, pg⟩).flatMap flP.c)) := hown
              have HBL : Hid (Below X2.heap.size X2 X3) := hbl
              have HV4 : Hid (s.v4 = .slice (some ⟨g5, 0, none⟩) (setP l ⟨pk, pv, pg⟩).length c5) := hv4
              clear hC hL hbl hown hlen hfl hv3 hv4
              go_wp2
              refine bodyPost_ret (v := .slice (some ⟨g5, 0, none⟩) (setP l ⟨pk, pv, pg⟩).length c5) (by simp [results, Tryz.results49, go_sem, dk.sets_get, ws, List.lookup, HV4.out]) rfl ?_
              exact ⟨g5, c5, rfl, sct.own_low HW.out (by omega), hb.trans ((HBX2.out.trans (HBL.out.mono HBX2.out.size)).mono hb.size)⟩
        · have hq2 : (mk.toList == pk.toList) = false := by simp [heq]
          have HIS : Hid (isP l k pk = false) := by
            cases h : isP l k pk with
            | false => rfl
            | true =>
              obtain ⟨a, ha, hz⟩ := isP_true.1 h
              rw [HG.out] at ha
              cases ha
              exact absurd (congrArg ByteArray.toList (cmp_zero.1 hz)) heq
          clear heq
          have HRE : Hid (restP l pk = l.drop k) := by show restP l pk = l.drop k; unfold restP; rw [HP.out, if_neg (by rw [HIS.out]; simp)]
          go_wp2
          go_quiet (fail)
          have hBX := bdrewN hB.out nq
          obtain ⟨X, hX⟩ : ∃ X, wr.drewN nq = X := ⟨_, rfl⟩
          rw [hX] at hBX ⊢
          have HSX := HS.out.inn hBX
          have hsx := hBX.size
          have x0 : X.cell? ⟨w.heap.size, 0, none⟩ = some (.string pk) := bcell (bstay HA.out hBX (by omega)) rfl
          have b0 : X.cell? ⟨g, k * 3, none⟩ = some (.string mk) := row_cell HSX HG.out
          clear hX p0 a0 HSX
          go_wp2
          go_quiet (fail)
          have hBX2 := bdrewN hBX nq
          obtain ⟨X2, hX2⟩ : ∃ X2, X.drewN nq = X2 := ⟨_, rfl⟩
          rw [hX2] at hBX2 ⊢
          clear hX2 x0 b0
          have hX2s := hBX2.size
          have HSX2 : Hid (Row flP.c 3 X2 X2.heap.size (some ⟨g, 0, none⟩) l) := HS.out.inn hBX2
          have HA2 : Hid (X2.heap[w.heap.size]? = some (.cells #[.string pk, .string pv, .bool pg] 61 (0, 0))) := bstay HA.out hBX2 (by omega)
          have HRL : Hid ((restP l pk).length = l.length - k) := by show (restP l pk).length = l.length - k; rw [HRE.out]; simp
          have HBX2 : Hid (Below W.heap.size W X2) := hBX2
          go_wp2
          refine dk.region_gsets (ws g l.length c k (k * 3) (l.length - k) (c - k) pk pv pg) [40, 41, 42, 43, 44, 45, 46, 47, 48, 49, 4] (tas.C ⟨X2, 61, 3, (l.take k).flatMap flP.c, [.string pk, .string pv, .bool pg], (restP l pk).flatMap flP.c, k, l.length - k⟩ J0) ⟨0, .slice none 0 0, 0, .slice none 0 0, .slice none 0 0, .slice none 0 0⟩ (by kernel_rfl) (by kernel_rfl) (fun _ => rfl) (by kernel_rfl) (tas.start _ _ _) ?each ?fin
          case each =>
            refine ⟨tas.st0 (x := J0) (d := 40) (idx := 0) J0_up (by simp) rfl (by simp) (fun g => rfl) (fun g => rfl) (fun g e => rfl) (fun s W => by simp [execOp, go_sem]), ?_⟩
            refine ⟨tas.quiet (by decide) (by simp) (.slice (some ⟨g, 0, none⟩) l.length c) (by rintro s _ ⟨⟩; exact dk.sets_on _ (by simp) _ rfl) (fun s W h => by simp [execOp, go_sem, Act.eval, dk.sets_get, ws, List.lookup]), ?_⟩
            refine ⟨tas.quiet (by decide) (by simp) (.int .i64 k) (by rintro s _ ⟨⟩; exact dk.sets_on _ (by simp) _ rfl) (fun s W h => by simp [execOp, go_sem, Act.eval, dk.sets_get, ws, List.lookup]), ?_⟩
            refine ⟨tas.quiet (by decide) (by simp) (.slice (some ⟨g, 0, none⟩) k c) (by rintro s _ ⟨⟩; exact dk.sets_on _ (by simp) _ rfl) (fun s W h => by simp [execOp, go_sem, Act.eval, dk.sets_get, ws, List.lookup, r9]), ?_⟩
            refine ⟨tas.st1 (x := J0) (d := 44) (s1 := 40) (s2 := 43) (idx := 4) (c := c) (a := ⟨g, 0, none⟩) J0_up Tryz.underlying24 hi hz0 hz1 hz2 rfl (by show 0 < 3; decide) rfl rfl ⟨by simp, by simp, by simp⟩ (fun g => rfl) (fun g => rfl) (fun g => rfl) (fun g => rfl) (fun g v => rfl) (by show ((l.take k).flatMap flP.c).length = k * 3; rw [flat_len flP.c_len, List.length_take]; congr 1; omega) (fun W hb => news_take (HSX2.out.inn hb) k) (sct.oneP _) (by show k ≤ 1048576; omega) (by show (0 + k) * 40 ≤ 140737488355328; omega) ⟨⟨0, .data⟩, by simp, rfl, rfl⟩, ?_⟩
            refine ⟨tas.quiet (by decide) (by simp) (.agg #[.string pk, .string pv, .bool pg]) (by rintro s _ ⟨⟩; exact dk.sets_on _ (by simp) _ rfl) (fun s W h => by have hh := h _ _ HA2.out; have c0 : W.cell? ⟨w.heap.size, 0, none⟩ = some (.string pk) := bcell hh rfl; have c1 : W.cell? ⟨w.heap.size, 1, none⟩ = some (.string pv) := bcell hh rfl; have c2 : W.cell? ⟨w.heap.size, 2, none⟩ = some (.bool pg) := bcell hh rfl; simp [execOp, go_sem, Act.eval, dk.sets_get, ws, List.lookup, c0, c1, c2]), ?_⟩
            refine ⟨tas.st2 (x := J0) (d := 46) (idx := 6) J0_up (by simp) rfl (by simp) (fun g => rfl) (fun g => rfl) (fun g e => rfl) (fun s W => by simp [execOp, go_sem, Act.eval, dk.sets_get, ws, List.lookup]), ?_⟩
            refine ⟨tas.st3 (x := J0) (d := 47) (s1 := 44) (s2 := 46) (idx := 7) J0_up Tryz.underlying24 hi hz0 hz1 hz2 rfl (by show 0 < 3; decide) rfl rfl ⟨by simp, by simp, by simp⟩ (fun g => rfl) (fun g => rfl) (fun g => rfl) (fun g => rfl) (fun g v => rfl) rfl (by intro u hu; simp at hu; rcases hu with rfl | rfl | rfl <;> rfl) (by show k ≤ 1048576; omega) (by show (k + 1) * 40 ≤ 140737488355328; omega) ⟨⟨4, .data⟩, by simp, rfl, rfl⟩ ⟨⟨6, .data⟩, by simp, rfl, rfl⟩, ?_⟩
            refine ⟨tas.quiet (by decide) (by simp) (.slice (some ⟨g, k * 3, none⟩) (l.length - k) (c - k)) (by rintro s _ ⟨⟩; exact dk.sets_on _ (by simp) _ rfl) (fun s W h => by simp [execOp, go_sem, Act.eval, dk.sets_get, ws, List.lookup]), ?_⟩
            refine ⟨tas.st4 (x := J0) (d := 49) (s1 := 47) (s2 := 48) (idx := 9) (c := c - k) (a := ⟨g, k * 3, none⟩) J0_up Tryz.underlying24 hi hz0 hz1 hz2 rfl (by show 0 < 3; decide) rfl rfl ⟨by simp, by simp, by simp⟩ (fun g => rfl) (fun g => rfl) (fun g => rfl) (fun g => rfl) (fun g v => rfl) (by show ((restP l pk).flatMap flP.c).length = (l.length - k) * 3; rw [flat_len flP.c_len, HRL.out]) (fun W hb => by rw [HRE.out]; exact news_drop (HSX2.out.inn hb) k (by omega)) (sct.oneP _) (by show k ≤ 1048576 ∧ l.length - k ≤ 1048576; omega) (by show (k + 1 + (l.length - k)) * 40 ≤ 140737488355328; omega) ⟨⟨7, .data⟩, by simp, rfl, rfl⟩, ?_⟩
            exact ⟨tas.st5 (x := J0) (d := 4) (s1 := 49) (idx := 10) J0_up rfl rfl ⟨by simp, by simp⟩ (fun g => rfl) (fun g => rfl) (fun g => rfl) (fun g v => rfl) ⟨⟨9, .data⟩, by simp, rfl, rfl⟩, trivial⟩
          case fin =>
            intro s L X3 hL hC
            obtain ⟨hbl, hv4, hown⟩ := tas.done hC J0_up (N := 11) (by decide) hL
            replace hbl : Below X2.heap.size X2 X3 := hbl
            replace hown : X3.ownsRow X2.heap.size 61 3 s.v3 (k + 1 + (l.length - k)) ((l.take k).flatMap flP.c ++ [.string pk, .string pv, .bool pg] ++ (restP l pk).flatMap flP.c) := hown
            have hlen : k + 1 + (l.length - k) = (setP l ⟨pk, pv, pg⟩).length := by unfold setP; rw [HP.out, List.length_append, List.length_cons, List.length_take, HRL.out]; omega
            have hfl : (l.take k).flatMap flP.c ++ [.string pk, .string pv, .bool pg] ++ (restP l pk).flatMap flP.c = (setP l ⟨pk, pv, pg⟩).flatMap flP.c := by unfold setP; rw [HP.out]; simp [flP.c]
            rw [hlen, hfl] at hown
            obtain ⟨g5, c5, hv3⟩ : ∃ g5 c5, s.v3 = .slice (some ⟨g5, 0, none⟩) (setP l ⟨pk, pv, pg⟩).length c5 := by
              obtain ⟨_, ⟨_, h0⟩ | ⟨g6, cap, cur, e, _⟩⟩ := hown
              · omega
              · exact ⟨g6, cap, e⟩
            rw [hv3] at hown hv4
            have HW : Hid (X3.ownsRow X2.heap.size 61 3 (.slice (some ⟨g5, 0, none⟩) (setP l ⟨pk, pv, pg⟩).length c5) (setP l ⟨pk, pv, pg⟩).length ((setP l ⟨pk, pv, pg⟩).flatMap flP.c)) := hown
            have HBL : Hid (Below X2.heap.size X2 X3) := hbl
            have HV4 : Hid (s.v4 = .slice (some ⟨g5, 0, none⟩) (setP l ⟨pk, pv, pg⟩).length c5) := hv4
            clear hC hL hbl hown hlen hfl hv3 hv4
            go_wp2
            refine bodyPost_ret (v := .slice (some ⟨g5, 0, none⟩) (setP l ⟨pk, pv, pg⟩).length c5) (by simp [results, Tryz.results49, go_sem, dk.sets_get, ws, List.lookup, HV4.out]) rfl ?_
            exact ⟨g5, c5, rfl, sct.own_low HW.out (by omega), hb.trans ((HBX2.out.trans (HBL.out.mono HBX2.out.size)).mono hb.size)⟩
    · have HKE : Hid (k = l.length) := by exact (by omega : k = l.length)
      have HP : Hid (posP l pk = k) := posP_eq l pk k hk hn.out (fun a ha => by rw [HKE.out] at ha; simp at ha)
      have HRE : Hid (restP l pk = []) := by
        show restP l pk = []
        unfold restP
        rw [HP.out, HKE.out]
        split <;> simp
      have r9 : k ≤ c := by omega
      have f0 : decide ((k : Int) < (l.length : Int)) = false := by simp; omega
      have r5 : ¬ 0 < l.length - k := by omega
      have f5 : decide ((0 : Int) < ((l.length - k : Nat) : Int)) = false := by simp; omega
      by_cases hck : c = k
      · have hck' := hck.symm
        subst hck'
        clear hck
        go_wp2
        go_quiet (fail)
        have hBX := bdrewN hB.out nq
        obtain ⟨X, hX⟩ : ∃ X, wr.drewN nq = X := ⟨_, rfl⟩
        rw [hX] at hBX ⊢
        have HSX := HS.out.inn hBX
        have hsx := hBX.size
        have x0 : X.cell? ⟨w.heap.size, 0, none⟩ = some (.string pk) := bcell (bstay HA.out hBX (by omega)) rfl
        clear hX p0 HSX
        go_wp2
        go_quiet (fail)
        have hBX2 := bdrewN hBX nq
        obtain ⟨X2, hX2⟩ : ∃ X2, X.drewN nq = X2 := ⟨_, rfl⟩
        rw [hX2] at hBX2 ⊢
        clear hX2 x0
        have hX2s := hBX2.size
        have HSX2 : Hid (Row flP.c 3 X2 X2.heap.size (some ⟨g, 0, none⟩) l) := HS.out.inn hBX2
        have HA2 : Hid (X2.heap[w.heap.size]? = some (.cells #[.string pk, .string pv, .bool pg] 61 (0, 0))) := bstay HA.out hBX2 (by omega)
        have HRL : Hid ((restP l pk).length = 0) := by show (restP l pk).length = 0; rw [HRE.out]; rfl
        have HBX2 : Hid (Below W.heap.size W X2) := hBX2
        go_wp2
        refine dk.region_gsets (ws g l.length k k (0) (0) (0) pk pv pg) [40, 41, 42, 43, 44, 45, 46, 47, 48, 49, 4] (tas.C ⟨X2, 61, 3, (l.take k).flatMap flP.c, [.string pk, .string pv, .bool pg], (restP l pk).flatMap flP.c, k, 0⟩ J0) ⟨0, .slice none 0 0, 0, .slice none 0 0, .slice none 0 0, .slice none 0 0⟩ (by kernel_rfl) (by kernel_rfl) (fun _ => rfl) (by kernel_rfl) (tas.start _ _ _) ?each ?fin
        case each =>
          refine ⟨tas.st0 (x := J0) (d := 40) (idx := 0) J0_up (by simp) rfl (by simp) (fun g => rfl) (fun g => rfl) (fun g e => rfl) (fun s W => by simp [execOp, go_sem]), ?_⟩
          refine ⟨tas.quiet (by decide) (by simp) (.slice (some ⟨g, 0, none⟩) l.length k) (by rintro s _ ⟨⟩; exact dk.sets_on _ (by simp) _ rfl) (fun s W h => by simp [execOp, go_sem, Act.eval, dk.sets_get, ws, List.lookup]), ?_⟩
          refine ⟨tas.quiet (by decide) (by simp) (.int .i64 k) (by rintro s _ ⟨⟩; exact dk.sets_on _ (by simp) _ rfl) (fun s W h => by simp [execOp, go_sem, Act.eval, dk.sets_get, ws, List.lookup]), ?_⟩
          refine ⟨tas.quiet (by decide) (by simp) (.slice (some ⟨g, 0, none⟩) k k) (by rintro s _ ⟨⟩; exact dk.sets_on _ (by simp) _ rfl) (fun s W h => by simp [execOp, go_sem, Act.eval, dk.sets_get, ws, List.lookup]), ?_⟩
          refine ⟨tas.st1 (x := J0) (d := 44) (s1 := 40) (s2 := 43) (idx := 4) (c := k) (a := ⟨g, 0, none⟩) J0_up Tryz.underlying24 hi hz0 hz1 hz2 rfl (by show 0 < 3; decide) rfl rfl ⟨by simp, by simp, by simp⟩ (fun g => rfl) (fun g => rfl) (fun g => rfl) (fun g => rfl) (fun g v => rfl) (by show ((l.take k).flatMap flP.c).length = k * 3; rw [flat_len flP.c_len, List.length_take]; congr 1; omega) (fun W hb => news_take (HSX2.out.inn hb) k) (sct.oneP _) (by show k ≤ 1048576; omega) (by show (0 + k) * 40 ≤ 140737488355328; omega) ⟨⟨0, .data⟩, by simp, rfl, rfl⟩, ?_⟩
          refine ⟨tas.quiet (by decide) (by simp) (.agg #[.string pk, .string pv, .bool pg]) (by rintro s _ ⟨⟩; exact dk.sets_on _ (by simp) _ rfl) (fun s W h => by have hh := h _ _ HA2.out; have c0 : W.cell? ⟨w.heap.size, 0, none⟩ = some (.string pk) := bcell hh rfl; have c1 : W.cell? ⟨w.heap.size, 1, none⟩ = some (.string pv) := bcell hh rfl; have c2 : W.cell? ⟨w.heap.size, 2, none⟩ = some (.bool pg) := bcell hh rfl; simp [execOp, go_sem, Act.eval, dk.sets_get, ws, List.lookup, c0, c1, c2]), ?_⟩
          refine ⟨tas.st2 (x := J0) (d := 46) (idx := 6) J0_up (by simp) rfl (by simp) (fun g => rfl) (fun g => rfl) (fun g e => rfl) (fun s W => by simp [execOp, go_sem, Act.eval, dk.sets_get, ws, List.lookup]), ?_⟩
          refine ⟨tas.st3 (x := J0) (d := 47) (s1 := 44) (s2 := 46) (idx := 7) J0_up Tryz.underlying24 hi hz0 hz1 hz2 rfl (by show 0 < 3; decide) rfl rfl ⟨by simp, by simp, by simp⟩ (fun g => rfl) (fun g => rfl) (fun g => rfl) (fun g => rfl) (fun g v => rfl) rfl (by intro u hu; simp at hu; rcases hu with rfl | rfl | rfl <;> rfl) (by show k ≤ 1048576; omega) (by show (k + 1) * 40 ≤ 140737488355328; omega) ⟨⟨4, .data⟩, by simp, rfl, rfl⟩ ⟨⟨6, .data⟩, by simp, rfl, rfl⟩, ?_⟩
          refine ⟨tas.quiet (by decide) (by simp) (.slice (some ⟨g, 0, none⟩) (0) (0)) (by rintro s _ ⟨⟩; exact dk.sets_on _ (by simp) _ rfl) (fun s W h => by simp [execOp, go_sem, Act.eval, dk.sets_get, ws, List.lookup]), ?_⟩
          refine ⟨tas.st4 (x := J0) (d := 49) (s1 := 47) (s2 := 48) (idx := 9) (c := 0) (a := ⟨g, 0, none⟩) J0_up Tryz.underlying24 hi hz0 hz1 hz2 rfl (by show 0 < 3; decide) rfl rfl ⟨by simp, by simp, by simp⟩ (fun g => rfl) (fun g => rfl) (fun g => rfl) (fun g => rfl) (fun g v => rfl) (by show ((restP l pk).flatMap flP.c).length = (0) * 3; rw [flat_len flP.c_len, HRL.out]) (fun W hb => by rw [HRE.out]; intro j u hu; simp at hu) (sct.oneP _) (by show k ≤ 1048576 ∧ 0 ≤ 1048576; omega) (by show (k + 1 + (0)) * 40 ≤ 140737488355328; omega) ⟨⟨7, .data⟩, by simp, rfl, rfl⟩, ?_⟩
          exact ⟨tas.st5 (x := J0) (d := 4) (s1 := 49) (idx := 10) J0_up rfl rfl ⟨by simp, by simp⟩ (fun g => rfl) (fun g => rfl) (fun g => rfl) (fun g v => rfl) ⟨⟨9, .data⟩, by simp, rfl, rfl⟩, trivial⟩
        case fin =>
          intro s L X3 hL hC
          obtain ⟨hbl, hv4, hown⟩ := tas.done hC J0_up (N := 11) (by decide) hL
          replace hbl : Below X2.heap.size X2 X3 := hbl
          replace hown : X3.ownsRow X2.heap.size 61 3 s.v3 (k + 1 + (0)) ((l.take k).flatMap flP.c ++ [.string pk, .string pv, .bool pg] ++ (restP l pk).flatMap flP.c) := hown
          have hlen : k + 1 + (0) = (setP l ⟨pk, pv, pg⟩).length := by unfold setP; rw [HP.out, List.length_append, List.length_cons, List.length_take, HRL.out]; omega
          have hfl : (l.take k).flatMap flP.c ++ [.string pk, .string pv, .bool pg] ++ (restP l pk).flatMap flP.c = (setP l ⟨pk, pv, pg⟩).flatMap flP.c := by unfold setP; rw [HP.out]; simp [flP.c]
          rw [hlen, hfl] at hown
          obtain ⟨g5, c5, hv3⟩ : ∃ g5 c5, s.v3 = .slice (some ⟨g5, 0, none⟩) (setP l ⟨pk, pv, pg⟩).length c5 := by
            obtain ⟨_, ⟨_, h0⟩ | ⟨g6, cap, cur, e, _⟩⟩ := hown
            · omega
            · exact ⟨g6, cap, e⟩
          rw [hv3] at hown hv4
          have HW : Hid (X3.ownsRow X2.heap.size 61 3 (.slice (some ⟨g5, 0, none⟩) (setP l ⟨pk, pv, pg⟩).length c5) (setP l ⟨pk, pv, pg⟩).length ((setP l ⟨pk, pv, pg⟩).flatMap flP.c)) := hown
          have HBL : Hid (Below X2.heap.size X2 X3) := hbl
          have HV4 : Hid (s.v4 = .slice (some ⟨g5, 0, none⟩) (setP l ⟨pk, pv, pg⟩).length c5) := hv4
          clear hC hL hbl hown hlen hfl hv3 hv4
          go_wp2
          refine bodyPost_ret (v := .slice (some ⟨g5, 0, none⟩) (setP l ⟨pk, pv, pg⟩).length c5) (by simp [results, Tryz.results49, go_sem, dk.sets_get, ws, List.lookup, HV4.out]) rfl ?_
          exact ⟨g5, c5, rfl, sct.own_low HW.out (by omega), hb.trans ((HBX2.out.trans (HBL.out.mono HBX2.out.size)).mono hb.size)⟩
      · have r4 : ¬ c = k := hck
        clear hck
        go_wp2
        go_quiet (fail)
        have hBX := bdrewN hB.out nq
        obtain ⟨X, hX⟩ : ∃ X, wr.drewN nq = X := ⟨_, rfl⟩
        rw [hX] at hBX ⊢
        have HSX := HS.out.inn hBX
        have hsx := hBX.size
        have x0 : X.cell? ⟨w.heap.size, 0, none⟩ = some (.string pk) := bcell (bstay HA.out hBX (by omega)) rfl
        clear hX p0 HSX
        go_wp2
        go_quiet (fail)
        have hBX2 := bdrewN hBX nq
        obtain ⟨X2, hX2⟩ : ∃ X2, X.drewN nq = X2 := ⟨_, rfl⟩
        rw [hX2] at hBX2 ⊢
        clear hX2 x0
        have hX2s := hBX2.size
        have HSX2 : Hid (Row flP.c 3 X2 X2.heap.size (some ⟨g, 0, none⟩) l) := HS.out.inn hBX2
        have HA2 : Hid (X2.heap[w.heap.size]? = some (.cells #[.string pk, .string pv, .bool pg] 61 (0, 0))) := bstay HA.out hBX2 (by omega)
        have HRL : Hid ((restP l pk).length = l.length - k) := by show (restP l pk).length = l.length - k; rw [HRE.out]; simp; omega
        have HBX2 : Hid (Below W.heap.size W X2) := hBX2
        go_wp2
        refine dk.region_gsets (ws g l.length c k (k * 3) (l.length - k) (c - k) pk pv pg) [40, 41, 42, 43, 44, 45, 46, 47, 48, 49, 4] (tas.C ⟨X2, 61, 3, (l.take k).flatMap flP.c, [.string pk, .string pv, .bool pg], (restP l pk).flatMap flP.c, k, l.length - k⟩ J0) ⟨0, .slice none 0 0, 0, .slice none 0 0, .slice none 0 0, .slice none 0 0⟩ (by kernel_rfl) (by kernel_rfl) (fun _ => rfl) (by kernel_rfl) (tas.start _ _ _) ?each ?fin
        case each =>
          refine ⟨tas.st0 (x := J0) (d := 40) (idx := 0) J0_up (by simp) rfl (by simp) (fun g => rfl) (fun g => rfl) (fun g e => rfl) (fun s W => by simp [execOp, go_sem]), ?_⟩
          refine ⟨tas.quiet (by decide) (by simp) (.slice (some ⟨g, 0, none⟩) l.length c) (by rintro s _ ⟨⟩; exact dk.sets_on _ (by simp) _ rfl) (fun s W h => by simp [execOp, go_sem, Act.eval, dk.sets_get, ws, List.lookup]), ?_⟩
          refine ⟨tas.quiet (by decide) (by simp) (.int .i64 k) (by rintro s _ ⟨⟩; exact dk.sets_on _ (by simp) _ rfl) (fun s W h => by simp [execOp, go_sem, Act.eval, dk.sets_get, ws, List.lookup]), ?_⟩
          refine ⟨tas.quiet (by decide) (by simp) (.slice (some ⟨g, 0, none⟩) k c) (by rintro s _ ⟨⟩; exact dk.sets_on _ (by simp) _ rfl) (fun s W h => by simp [execOp, go_sem, Act.eval, dk.sets_get, ws, List.lookup, r9]), ?_⟩
          refine ⟨tas.st1 (x := J0) (d := 44) (s1 := 40) (s2 := 43) (idx := 4) (c := c) (a := ⟨g, 0, none⟩) J0_up Tryz.underlying24 hi hz0 hz1 hz2 rfl (by show 0 < 3; decide) rfl rfl ⟨by simp, by simp, by simp⟩ (fun g => rfl) (fun g => rfl) (fun g => rfl) (fun g => rfl) (fun g v => rfl) (by show ((l.take k).flatMap flP.c).length = k * 3; rw [flat_len flP.c_len, List.length_take]; congr 1; omega) (fun W hb => news_take (HSX2.out.inn hb) k) (sct.oneP _) (by show k ≤ 1048576; omega) (by show (0 + k) * 40 ≤ 140737488355328; omega) ⟨⟨0, .data⟩, by simp, rfl, rfl⟩, ?_⟩
          refine ⟨tas.quiet (by decide) (by simp) (.agg #[.string pk, .string pv, .bool pg]) (by rintro s _ ⟨⟩; exact dk.sets_on _ (by simp) _ rfl) (fun s W h => by have hh := h _ _ HA2.out; have c0 : W.cell? ⟨w.heap.size, 0, none⟩ = some (.string pk) := bcell hh rfl; have c1 : W.cell? ⟨w.heap.size, 1, none⟩ = some (.string pv) := bcell hh rfl; have c2 : W.cell? ⟨w.heap.size, 2, none⟩ = some (.bool pg) := bcell hh rfl; simp [execOp, go_sem, Act.eval, dk.sets_get, ws, List.lookup, c0, c1, c2]), ?_⟩
          refine ⟨tas.st2 (x := J0) (d := 46) (idx := 6) J0_up (by simp) rfl (by simp) (fun g => rfl) (fun g => rfl) (fun g e => rfl) (fun s W => by simp [execOp, go_sem, Act.eval, dk.sets_get, ws, List.lookup]), ?_⟩
          refine ⟨tas.st3 (x := J0) (d := 47) (s1 := 44) (s2 := 46) (idx := 7) J0_up Tryz.underlying24 hi hz0 hz1 hz2 rfl (by show 0 < 3; decide) rfl rfl ⟨by simp, by simp, by simp⟩ (fun g => rfl) (fun g => rfl) (fun g => rfl) (fun g => rfl) (fun g v => rfl) rfl (by intro u hu; simp at hu; rcases hu with rfl | rfl | rfl <;> rfl) (by show k ≤ 1048576; omega) (by show (k + 1) * 40 ≤ 140737488355328; omega) ⟨⟨4, .data⟩, by simp, rfl, rfl⟩ ⟨⟨6, .data⟩, by simp, rfl, rfl⟩, ?_⟩
          refine ⟨tas.quiet (by decide) (by simp) (.slice (some ⟨g, k * 3, none⟩) (l.length - k) (c - k)) (by rintro s _ ⟨⟩; exact dk.sets_on _ (by simp) _ rfl) (fun s W h => by simp [execOp, go_sem, Act.eval, dk.sets_get, ws, List.lookup]), ?_⟩
          refine ⟨tas.st4 (x := J0) (d := 49) (s1 := 47) (s2 := 48) (idx := 9) (c := c - k) (a := ⟨g, k * 3, none⟩) J0_up Tryz.underlying24 hi hz0 hz1 hz2 rfl (by show 0 < 3; decide) rfl rfl ⟨by simp, by simp, by simp⟩ (fun g => rfl) (fun g => rfl) (fun g => rfl) (fun g => rfl) (fun g v => rfl) (by show ((restP l pk).flatMap flP.c).length = (l.length - k) * 3; rw [flat_len flP.c_len, HRL.out]) (fun W hb => by rw [HRE.out]; intro j u hu; simp at hu) (sct.oneP _) (by show k ≤ 1048576 ∧ l.length - k ≤ 1048576; omega) (by show (k + 1 + (l.length - k)) * 40 ≤ 140737488355328; omega) ⟨⟨7, .data⟩, by simp, rfl, rfl⟩, ?_⟩
          exact ⟨tas.st5 (x := J0) (d := 4) (s1 := 49) (idx := 10) J0_up rfl rfl ⟨by simp, by simp⟩ (fun g => rfl) (fun g => rfl) (fun g => rfl) (fun g v => rfl) ⟨⟨9, .data⟩, by simp, rfl, rfl⟩, trivial⟩
        case fin =>
          intro s L X3 hL hC
          obtain ⟨hbl, hv4, hown⟩ := tas.done hC J0_up (N := 11) (by decide) hL
          replace hbl : Below X2.heap.size X2 X3 := hbl
          replace hown : X3.ownsRow X2.heap.size 61 3 s.v3 (k + 1 + (l.length - k)) ((l.take k).flatMap flP.c ++ [.string pk, .string pv, .bool pg] ++ (restP l pk).flatMap flP.c) := hown
          have hlen : k + 1 + (l.length - k) = (setP l ⟨pk, pv, pg⟩).length := by unfold setP; rw [HP.out, List.length_append, List.length_cons, List.length_take, HRL.out]; omega
          have hfl : (l.take k).flatMap flP.c ++ [.string pk, .string pv, .bool pg] ++ (restP l pk).flatMap flP.c = (setP l ⟨pk, pv, pg⟩).flatMap flP.c := by unfold setP; rw [HP.out]; simp [flP.c]
          rw [hlen, hfl] at hown
          obtain ⟨g5, c5, hv3⟩ : ∃ g5 c5, s.v3 = .slice (some ⟨g5, 0, none⟩) (setP l ⟨pk, pv, pg⟩).length c5 := by
            obtain ⟨_, ⟨_, h0⟩ | ⟨g6, cap, cur, e, _⟩⟩ := hown
            · omega
            · exact ⟨g6, cap, e⟩
          rw [hv3] at hown hv4
          have HW : Hid (X3.ownsRow X2.heap.size 61 3 (.slice (some ⟨g5, 0, none⟩) (setP l ⟨pk, pv, pg⟩).length c5) (setP l ⟨pk, pv, pg⟩).length ((setP l ⟨pk, pv, pg⟩).flatMap flP.c)) := hown
          have HBL : Hid (Below X2.heap.size X2 X3) := hbl
          have HV4 : Hid (s.v4 = .slice (some ⟨g5, 0, none⟩) (setP l ⟨pk, pv, pg⟩).length c5) := hv4
          clear hC hL hbl hown hlen hfl hv3 hv4
          go_wp2
          refine bodyPost_ret (v := .slice (some ⟨g5, 0, none⟩) (setP l ⟨pk, pv, pg⟩).length c5) (by simp [results, Tryz.results49, go_sem, dk.sets_get, ws, List.lookup, HV4.out]) rfl ?_
          exact ⟨g5, c5, rfl, sct.own_low HW.out (by omega), hb.trans ((HBX2.out.trans (HBL.out.mono HBX2.out.size)).mono hb.size)⟩
end Go.Proofs.YtjnfljipomjcjaaGreatDoor.pss

/- The specification's Replay. -/
namespace Go.Proofs.YtjnfljipomjcjaaGreatDoor.rps
open Go.ChangeShapes Go.WideShapes Go.ChangeAt Go.RowKit Go.Proofs.YtjnfljipomjcjaaGreatDoor.fl Go.Proofs.YtjnfljipomjcjaaGreatDoor.fo Go.Proofs.YtjnfljipomjcjaaGreatDoor.rn Go.Proofs.YtjnfljipomjcjaaGreatDoor.mrR Go.Proofs.YtjnfljipomjcjaaGreatDoor.rcp Go.Proofs.YtjnfljipomjcjaaGreatDoor.rcm Go.Proofs.YtjnfljipomjcjaaGreatDoor.rpp
set_option linter.unusedVariables false

def kp (e : flP.Pr) : Bool := !e.g
theorem nx_no {p : flP.Pr → Bool} {all : List flP.Pr} {k : Nat} {e : flP.Pr} (h : all[k]? = some e) (hk : p e = false) : (all.take (k + 1)).filter p = (all.take k).filter p := by
  rw [List.take_add_one, List.filter_append, h]
  simp [hk]
theorem nx_yes {p : flP.Pr → Bool} {all : List flP.Pr} {k : Nat} {e : flP.Pr} (h : all[k]? = some e) (hk : p e = true) : (all.take (k + 1)).filter p = (all.take k).filter p ++ [e] := by
  rw [List.take_add_one, List.filter_append, h]
  simp [hk]
theorem row_of {W : World} {B g c : Nat} {l : List flP.Pr} (h : W.ownsRow B 61 3 (.slice (some ⟨g, 0, none⟩) l.length c) l.length (l.flatMap flP.c)) : Row flP.c 3 W W.heap.size (some ⟨g, 0, none⟩) l ∧ l.length ≤ c := by
  refine ⟨?_, ?_⟩
  · obtain ⟨a, cap, e, hr⟩ := own_row flP.c_len h
    have e2 := (Value.slice.inj e).1
    rw [← e2] at hr
    exact hr
  · obtain ⟨_, ⟨h1, _⟩ | ⟨g', cap, cur, h1, _, _, h4, _⟩⟩ := h
    · cases h1
    · have e2 := (Value.slice.inj h1).2.2
      omega
/-- what stands while what stays is laid -/
def S4 (w w9 : World) (gl : Nat) (all : List flP.Pr) (k : Nat) (v : Value) (wx : World) : Prop := Below w.heap.size w wx ∧ wx.ownsRow w.heap.size 61 3 v ((all.take k).filter kp).length (((all.take k).filter kp).flatMap flP.c) ∧ v.ownBlock ≠ some gl ∧ wx.heap[gl]? = w9.heap[gl]? ∧ gl < wx.heap.size

set_option maxRecDepth 100000 in
set_option maxHeartbeats 2000000 in
theorem spec_last (b : List flP.Pr) (aa : Option Addr) (bg ac bc : Nat) (w : World) (hbl : b.length ≤ 500000) (hB : Row flP.c 3 w w.heap.size (some ⟨bg, 0, none⟩) b) :
    Calls Tryz.prog 50 #[.slice aa 0 ac, .slice (some ⟨bg, 0, none⟩) b.length bc, .bool true] w fun r w' => ∃ v, r = .returned v ∧ w'.ownsRow w.heap.size 61 3 v (b.filter kp).length ((b.filter kp).flatMap flP.c) ∧ Below w.heap.size w w' := by
  obtain ⟨i0, hi, hz0, hz1, hz2⟩ := sct.infoP
  have hal1 : Below w.heap.size w (w.alloc (.cells #[] 61)) := (Below.refl _ _).alloc (Nat.le_refl _) _
  have hmade : (w.alloc (.cells #[] 61)).ownsRow w.heap.size 61 3 (.slice (some ⟨w.heap.size, 0, none⟩) 0 0) 0 [] := World.ownsRow_made w #[] 0 (Nat.le_refl _) (by unfold maxLen; omega) (by simp)
  have hyw : Row flP.c 3 (w.alloc (.cells #[] 61)) (w.alloc (.cells #[] 61)).heap.size (some ⟨bg, 0, none⟩) b := hB.inn hal1
  obtain ⟨X, hX⟩ : ∃ X, w.alloc (.cells #[] 61) = X := ⟨_, rfl⟩
  rw [hX] at hal1 hmade hyw
  obtain ⟨v', Y, hr, ho, hg, hnil, _⟩ := run_append_own_at (P := Tryz.prog) X w.heap.size 24 24 61 i0 (.agg #[.string ByteArray.empty, .string ByteArray.empty, .bool false]) 3 40 Tryz.underlying24 hi hz0 hz1 hz2 rfl (by decide) _ 0 [] hmade ⟨bg, 0, none⟩ b.length bc (b.flatMap flP.c) (flat_len flP.c_len b) (sct.newsP hyw) (sct.oneP b) (by unfold maxLen; omega) (by omega) hal1.size
  have hbY : Below w.heap.size w Y := hal1.grown hg hal1.size (fun b hb => (hmade.lt b hb).1)
  rw [Nat.zero_add, List.nil_append] at ho
  obtain ⟨gl, ca, rfl⟩ : ∃ ga ca, v' = .slice (some ⟨ga, 0, none⟩) b.length ca := by
    obtain ⟨_, ⟨rfl, h0⟩ | ⟨g, cap, cur, e, _⟩⟩ := ho
    · have := hnil.1 rfl; cases this.1
    · exact ⟨_, _, e⟩
  have hal9 : Below Y.heap.size Y (Y.alloc (.cells #[] 61)) := (Below.refl _ _).alloc (Nat.le_refl _) _
  have hbs := hbY.size
  have HRW : Hid (Row flP.c 3 (Y.alloc (.cells #[] 61)) (Y.alloc (.cells #[] 61)).heap.size (some ⟨gl, 0, none⟩) b) := (row_of ho).1.inn hal9
  have hgl1 : w.heap.size ≤ gl ∧ gl < Y.heap.size := ho.lt gl rfl
  have HS0 : Hid (S4 w (Y.alloc (.cells #[] 61)) gl b 0 (.slice (some ⟨Y.heap.size, 0, none⟩) 0 0) (Y.alloc (.cells #[] 61))) := by
    refine ⟨hbY.alloc hbs _, sct.own_low (World.ownsRow_made Y #[] 0 (Nat.le_refl _) (by unfold maxLen; omega) (by simp)) hbs, ?_, rfl, by simp; omega⟩
    show some Y.heap.size ≠ some gl
    intro h; have := Option.some.inj h; omega
  have hg9 : gl < (Y.alloc (.cells #[] 61)).heap.size := by simp; omega
  obtain ⟨w9, hw9⟩ : ∃ w9, Y.alloc (.cells #[] 61) = w9 := ⟨_, rfl⟩
  rw [hw9] at HRW HS0 hg9
  clear hmade hyw ho hg hnil hal1 hB hbY hal9 hgl1
  go_enter Tryz.func50, Tryz.ntmps50
  go_wp2_with (at_builtin; refine cpr.wpList_append_run rfl _ _ _ _ rfl _ _ _ rfl rfl hr ?_)
  clear hr hX
  refine wp_loop_rounds 1 ?_
  rw [rounds_succ]
  go_wp2
  clear hw9
  go_loopw [9, 10] (fun v x wx => ∃ k : Nat, k ≤ b.length ∧ x = .int .i64 k ∧ Hid (S4 w w9 gl b k v wx)) (fun _ x _ => b.length - (intOf x).toNat)
  case atStart => exact ⟨0, Nat.zero_le _, rfl, HS0⟩
  case round =>
    obtain ⟨k, hk2, rfl, hst⟩ := hrel
    by_cases hkl2 : k < b.length
    · obtain ⟨s1, s2, s3, s4, s5⟩ := hst.out
      have s6 := s1.size
      have HG : Hid (b[k]? = some b[k]) := List.getElem?_eq_getElem hkl2
      obtain ⟨⟨pk, pv, pg⟩, he⟩ : ∃ e, b[k] = e := ⟨_, rfl⟩
      rw [he] at HG
      obtain ⟨b', off, hbo, hlt, hc⟩ := HRW.out.resolve_left (by rintro rfl; simp at hkl2)
      cases hbo
      have go : ∀ (o : Nat) (v : Value), w9.cell? ⟨gl, o, none⟩ = some v → wr.cell? ⟨gl, o, none⟩ = some v := fun o v hv => (World.cell?_of_block (a := ⟨gl, o, none⟩) s4).trans hv
      have c0 : wr.cell? ⟨gl, k * 3, none⟩ = some (.string pk) := go _ _ (by have := hc k _ HG.out 0 _ rfl; simpa using this)
      have c1 : wr.cell? ⟨gl, k * 3 + 1, none⟩ = some (.string pv) := go _ _ (by have := hc k _ HG.out 1 _ rfl; simpa using this)
      have c2 : wr.cell? ⟨gl, k * 3 + 2, none⟩ = some (.bool pg) := go _ _ (by have := hc k _ HG.out 2 _ rfl; simpa using this)
      have i2 : (k : Int) < (b.length : Int) := by omega
      have hlen : ((b.take k).filter kp).length ≤ 1000000 := by have := List.length_filter_le kp (b.take k); rw [List.length_take] at this; omega
      clear he hc go
      cases pg with
      | true =>
        have HN : Hid ((b.take (k + 1)).filter kp = (b.take k).filter kp) := nx_no HG.out rfl
        have hst2 : Hid (S4 w w9 gl b (k + 1) u9 wr) := by
          unfold Hid S4
          rw [HN.out]
          exact hst.out
        clear hst s1 s2 s3 s4
        go_wp2
        go_roundw
        case rel => exact ⟨k + 1, by omega, by go_num, hst2⟩
        case measure => simp [intOf]; omega
      | false =>
        have HN : Hid ((b.take (k + 1)).filter kp = (b.take k).filter kp ++ [⟨pk, pv, false⟩]) := nx_yes HG.out rfl
        have hal5 : Below wr.heap.size wr (wr.alloc (.cells #[.string pk, .string pv, .bool false] 61)) := (Below.refl _ _).alloc (Nat.le_refl _) _
        obtain ⟨v', Y4, hr, ho, hg, _, hat⟩ := run_append_own_at (P := Tryz.prog) (wr.alloc (.cells #[.string pk, .string pv, .bool false] 61)) w.heap.size 24 24 61 i0 (.agg #[.string ByteArray.empty, .string ByteArray.empty, .bool false]) 3 40 Tryz.underlying24 hi hz0 hz1 hz2 rfl (by decide) u9 _ _ (gbs.own_on s2 hal5) ⟨wr.heap.size, 0, none⟩ 1 1 [.string pk, .string pv, .bool false] rfl (fun j u hu => by rw [sct.add0]; exact bcell (bnew wr _ _) (by simpa using hu)) (by intro u hu; simp at hu; rcases hu with rfl | rfl | rfl <;> rfl) (by unfold maxLen; omega) (by omega) (by simp; omega)
        have hst2 : Hid (S4 w w9 gl b (k + 1) v' Y4) := by
          unfold Hid S4
          rw [HN.out, List.length_append, List.flatMap_append]
          have hgs := hg.size
          simp at hgs
          refine ⟨(s1.alloc (by omega) _).grown hg (by simp; omega) (fun b hb => (s2.lt b hb).1), by simpa [flP.c] using ho, ?_, ((hg.block gl (by simp; omega) (Ne.symm s3)).trans (hal5.block gl s5)).trans s4, by omega⟩
          rcases hat with h | h
          · rw [h]; exact s3
          · rw [h]; intro h2; have := Option.some.inj h2; simp at this; omega
        clear ho hg hal5 hst hat s1 s2 s3 s4
        go_wp2_with (at_builtin; refine cpr.wpList_append_run rfl _ _ _ _ rfl _ _ _ rfl rfl hr ?_)
        go_roundw
        case rel => exact ⟨k + 1, by omega, by go_num, hst2⟩
        case measure => simp [intOf]; omega
    · obtain rfl : k = b.length := by omega
      have HFN : Hid (wr.ownsRow w.heap.size 61 3 u9 (b.filter kp).length ((b.filter kp).flatMap flP.c) ∧ Below w.heap.size w wr) := by
        unfold Hid
        have h2 := hst.out.2.1
        rw [List.take_length] at h2
        exact ⟨h2, hst.out.1⟩
      clear hst
      go_wp2
      go_ret
      exact ⟨_, rfl, HFN.out⟩

/-- all pairs of the first batches, and of the first pairs of the next -/
def upto (R : List (List flP.Pr)) (i k : Nat) : List flP.Pr := (R.take i).flatten ++ (R.getD i []).take k
theorem upto_next {R : List (List flP.Pr)} {i k : Nat} {l : List flP.Pr} {e : flP.Pr} (h : R[i]? = some l) (he : l[k]? = some e) : upto R i (k + 1) = upto R i k ++ [e] := by
  unfold upto
  rw [List.getD_eq_getElem?_getD, h, Option.getD_some, List.take_add_one, he]
  simp
theorem upto_row {R : List (List flP.Pr)} {i : Nat} {l : List flP.Pr} (h : R[i]? = some l) : upto R i l.length = upto R (i + 1) 0 := by
  unfold upto
  rw [List.getD_eq_getElem?_getD, h, Option.getD_some, List.take_add_one, h, List.take_length]
  simp
theorem upto_0 (R : List (List flP.Pr)) : upto R 0 0 = [] := by simp [upto]
theorem upto_all (R : List (List flP.Pr)) : upto R R.length 0 = R.flatten := by simp [upto]
theorem upto_le {R : List (List flP.Pr)} (i k : Nat) : (upto R i k).length ≤ R.flatten.length := by
  by_cases hi : i < R.length
  · have h := List.getElem?_eq_getElem hi
    have e : R.flatten = (R.take i).flatten ++ (R[i] ++ (R.drop (i + 1)).flatten) := by
      have h0 : R = R.take i ++ R[i] :: R.drop (i + 1) := by rw [← List.drop_eq_getElem_cons hi, List.take_append_drop]
      have h1 := congrArg List.flatten h0
      rw [List.flatten_append, List.flatten_cons] at h1
      exact h1
    unfold upto
    rw [e, List.getD_eq_getElem?_getD, h, Option.getD_some]
    simp only [List.length_append, List.length_take]
    omega
  · unfold upto
    rw [List.getD_eq_getElem?_getD, List.getElem?_eq_none (by omega), Option.getD_none, List.take_of_length_le (by omega)]
    simp
/-- what stands when some pairs are set -/
structure Sa (W : World) (R : List (List flP.Pr)) (i k : Nat) (v : Value) (wr : World) : Prop where
  bel : Below W.heap.size W wr
  al : ∃ g c, v = .slice (some ⟨g, 0, none⟩) (ev (upto R i k)).length c ∧ (ev (upto R i k)).length ≤ c ∧ Row flP.c 3 wr wr.heap.size (some ⟨g, 0, none⟩) (ev (upto R i k))

set_option maxRecDepth 100000 in
set_option maxHeartbeats 4000000 in
theorem spec_replay (s : ByteArray) (w : World) (hs : s.size ≤ 1048576) :
    Calls Tryz.prog 19 #[.string s] w fun e w' => ∃ v, e = .returned v ∧ w'.ownsRow w.heap.size 61 3 v (rep s).length ((rep s).flatMap flP.c) ∧ Below w.heap.size w w' := by
  have hal : Below w.heap.size w (w.alloc (.cells #[] 61)) := (Below.refl _ _).alloc (Nat.le_refl _) _
  have hnw := bnew w #[] 61
  obtain ⟨W0, hW0⟩ : ∃ W0, w.alloc (.cells #[] 61) = W0 := ⟨_, rfl⟩
  rw [hW0] at hal hnw
  have hlt0 := (Array.getElem?_eq_some_iff.1 hnw).1
  have hrc := rcS.spec_recs s W0 hs
  obtain ⟨R, hR⟩ : ∃ R, (recs s).1 = R := ⟨_, rfl⟩
  obtain ⟨z, hz⟩ : ∃ z, (recs s).2 = z := ⟨_, rfl⟩
  have HRep : Hid (rep s = (ev R.flatten).filter kp) := by unfold Hid rep; rw [hR]; rfl
  have hfl : R.flatten.length ≤ 200000 ∧ R.length ≤ 25000 := by
    by_cases h : s.size ≤ 200000
    · obtain ⟨i, hi, _⟩ := left_ex s h
      rw [hR] at hi
      exact ⟨by have := hi.tot; have := hi.hi; omega, left_len h hi⟩
    · rw [recs_big (by omega)] at hR
      subst hR
      simp
  rw [hR, hz] at hrc
  clear hR hz
  go_enter Tryz.func19, Tryz.ntmps19
  go_wp2_with (go_at_call 7; fail)
  clear hW0
  refine hrc.mono ?_
  rintro e W ⟨v1, rfl, rs, hm, hro⟩
  obtain ⟨la, lc, rfl, hvr, _⟩ := hro.vr
  have hb1 := hro.bel
  have hrl : rs.length = R.length := by rw [← hm, List.length_map]
  have HVR : Hid (VR W W.heap.size la rs) := hvr
  have HM : Hid (rs.map (·.l) = R) := hm
  have hBW : Below w.heap.size w W := hal.trans (hb1.mono hal.size)
  have HS0 : Hid (Sa W R 0 0 (.slice (some ⟨w.heap.size, 0, none⟩) 0 0) W) := ⟨Below.refl _ _, w.heap.size, 0, by rw [upto_0]; rfl, by rw [upto_0]; exact Nat.le_refl _, .inl (by rw [upto_0]; rfl)⟩
  clear hrc hro hvr hm hb1 hal hnw hlt0
  rw [hrl]
  go_wp2
  go_loopw [3, 6] (fun v x wr => ∃ i : Nat, i ≤ R.length ∧ x = .int .i64 i ∧ Hid (Sa W R i 0 v wr)) (fun _ x _ => R.length - (intOf x).toNat)
  case atStart => exact ⟨0, Nat.zero_le _, rfl, HS0⟩
  case round =>
    obtain ⟨i, hi, rfl, hst⟩ := hrel
    by_cases hil : i < R.length
    · have hir : i < rs.length := by omega
      have i2 : (i : Int) < (R.length : Int) := by omega
      have HG : Hid (rs[i]? = some rs[i]) := List.getElem?_eq_getElem hir
      have HRR : Hid (Row flP.c 3 W W.heap.size rs[i].a rs[i].l) := HVR.out.2 rs[i] (List.getElem_mem hir)
      have HRI : Hid (R[i]? = some rs[i].l) := by unfold Hid; rw [← HM.out, List.getElem?_map, List.getElem?_eq_getElem hir]; rfl
      obtain ⟨⟨ra, rc, rl⟩, he⟩ : ∃ e, rs[i] = e := ⟨_, rfl⟩
      rw [he] at HG HRR HRI
      obtain ⟨b, off, rfl, hlt, hc⟩ := HVR.out.1.resolve_left (by rintro rfl; simp at hir)
      have HC : Hid (∀ wr, Below W.heap.size W wr → wr.cell? ⟨b, off + i, none⟩ = some (.slice ra rl.length rc)) := fun wr hb => (hb.cell (p := ⟨b, off + i, none⟩) hlt).trans (by have := hc i _ HG.out 0 _ rfl; simpa using this)
      have hrl60 : rl.length ≤ R.flatten.length := by
        have := List.length_flatten (L := R)
        have h2 := upto_le (R := R) i rl.length
        unfold upto at h2
        rw [List.getD_eq_getElem?_getD, HRI.out, Option.getD_some, List.take_length, List.length_append] at h2
        omega
      clear he hc HS0 hir
      go_wp2
      go_loopw [3, 7] (fun v x wr => ∃ k : Nat, k ≤ rl.length ∧ x = .int .i64 k ∧ Hid (Sa W R i k v wr)) (fun _ x _ => rl.length - (intOf x).toNat)
      case atStart => exact ⟨0, Nat.zero_le _, rfl, hst⟩
      case round =>
        obtain ⟨k, hk, rfl, hs2⟩ := hrel
        clear hst
        have c0 := HC.out wr hs2.out.bel
        by_cases hkl : k < rl.length
        · have i3 : (k : Int) < (rl.length : Int) := by omega
          have HE : Hid (rl[k]? = some rl[k]) := List.getElem?_eq_getElem hkl
          obtain ⟨⟨pk, pv, pg⟩, hpe⟩ : ∃ e, rl[k] = e := ⟨_, rfl⟩
          rw [hpe] at HE
          obtain ⟨qb, qo, rfl, hqlt, hqc⟩ := HRR.out.resolve_left (by rintro h0; rw [h0] at hkl; simp at hkl)
          have go : ∀ (o : Nat) (v : Value), W.cell? ⟨qb, o, none⟩ = some v → wr.cell? ⟨qb, o, none⟩ = some v := fun o v hv => (hs2.out.bel.cell (p := ⟨qb, o, none⟩) hqlt).trans hv
          have p0 := go _ _ (hqc k _ HE.out 0 _ rfl)
          have p1 := go _ _ (hqc k _ HE.out 1 _ rfl)
          have p2 := go _ _ (hqc k _ HE.out 2 _ rfl)
          rw [Nat.add_zero] at p0
          obtain ⟨gl, cl, rfl, hlc, hrow⟩ := hs2.out.al
          have hln : (ev (upto R i k)).length ≤ 200000 := by have := ev_len (upto R i k); have := upto_le (R := R) i k; omega
          have hset := pss.spec_set (ev (upto R i k)) gl cl pk pv pg wr (by omega) hlc hrow
          have HEV : Hid (ptp.setP (ev (upto R i k)) ⟨pk, pv, pg⟩ = ev (upto R i (k + 1))) := by unfold Hid; rw [upto_next HRI.out HE.out, ev_app]
          have HB : Hid (Below W.heap.size W wr) := hs2.out.bel
          rw [HEV.out] at hset
          clear hpe hqc go hrow hs2
          go_wp2_with (go_at_call 49; fail)
          refine hset.mono ?_
          rintro e w3 ⟨g2, c2, rfl, ho3, hb3⟩
          obtain ⟨hr3, hle3⟩ := row_of ho3
          have HN : Hid (Sa W R i (k + 1) (.slice (some ⟨g2, 0, none⟩) (ev (upto R i (k + 1))).length c2) w3) := ⟨HB.out.trans (hb3.mono HB.out.size), g2, c2, rfl, hle3, hr3⟩
          clear hset ho3 hb3 p0 p1 p2 hr3 c0 HB
          go_wp2
          go_roundw
          case rel => exact ⟨k + 1, by omega, by go_num, HN⟩
          case measure => simp [intOf]; omega
        · obtain rfl : k = rl.length := by omega
          have HN : Hid (Sa W R (i + 1) 0 u3 wr) := by
            obtain ⟨h1, h2⟩ := hs2.out
            rw [upto_row HRI.out] at h2
            exact ⟨h1, h2⟩
          clear hs2
          go_wp2
          go_roundw
          case rel => exact ⟨i + 1, by omega, by go_num, HN⟩
          case measure => simp [intOf]; omega
    · obtain rfl : i = R.length := by omega
      obtain ⟨h1, gl, cl, rfl, hlc, hrow⟩ := hst.out
      rw [upto_all] at hlc hrow ⊢
      have hln : (ev R.flatten).length ≤ 200000 := by have := ev_len R.flatten; omega
      have hal2 : Below wr.heap.size wr (wr.alloc (.cells #[] 61)) := (Below.refl _ _).alloc (Nat.le_refl _) _
      have hls := spec_last (ev R.flatten) (some ⟨wr.heap.size, 0, none⟩) gl 0 cl (wr.alloc (.cells #[] 61)) (by omega) (hrow.inn hal2)
      have hb2 : Below w.heap.size w wr := hBW.trans (h1.mono hBW.size)
      have hb3 : Below w.heap.size w (wr.alloc (.cells #[] 61)) := hb2.trans (hal2.mono hb2.size)
      clear hst HS0 hrow h1
      go_wp2_with (go_at_call 50; fail)
      refine hls.mono ?_
      rintro e w5 ⟨v5, rfl, ho5, hb5⟩
      have HF : Hid (∃ v, Ending.returned v5 = .returned v ∧ w5.ownsRow w.heap.size 61 3 v (rep s).length ((rep s).flatMap flP.c) ∧ Below w.heap.size w w5) := by
        unfold Hid
        rw [HRep.out]
        exact ⟨v5, rfl, sct.own_low ho5 hb3.size, hb3.trans (hb5.mono hb3.size)⟩
      clear hls ho5 hb5
      go_wp2
      go_ret
      exact HF.out
end Go.Proofs.YtjnfljipomjcjaaGreatDoor.rps
