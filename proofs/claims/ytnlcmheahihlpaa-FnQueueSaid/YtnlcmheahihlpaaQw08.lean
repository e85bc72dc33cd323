/- The specification's Return: what is meant is Ready again, in its place; new memory alone. -/
import Derived.Test.YtnlcmheahihlpaaDoneKit
import Derived.Test.YtnlcmheahihlpaaFlatOwn
import Derived.Maps.AppendAt
import Derived.Test.YtnlcmheahihlpaaQw07
import Derived.Test.YtnlcmheahihlpaaQTakeSpec
import Derived.Deep.QuietTactic
import Derived.BigQuiet
import Derived.Test.YtnlcmheahihlpaaQDropSpec

/- append(append(append([]T{}, a...), x), b...) given to a variable, in one region that draws its order: the row that it leaves. -/
namespace Go.Proofs.Ytnlcmheahihlpaa.tas
open Go.ChangeShapes Go.WideShapes Go.ChangeAt Go.RowKit Go.Proofs.Ytnlcmheahihlpaa.fl
set_option linter.unusedVariables false

/-- what is drawn: the empty row, the row behind the first append, the new one's place, the rows behind the other two -/
structure G where
  e0 : Nat
  v1 : Value
  h : Nat
  v2 : Value
  v3 : Value
  v4 : Value
/-- the world ahead, the type and its cells, the cells ahead, of the new one and behind, how many ahead and behind -/
structure Pr where
  W0 : World
  T : TypeId
  n : Nat
  xs : List Value
  ms : List Value
  ys : List Value
  k : Nat
  m : Nat
structure D (p : Pr) (g : G) (c0 c1 c2 c3 c4 c5 : Bool) (W : World) : Prop where
  bel : Below p.W0.heap.size p.W0 W
  at0 : c0 = true → c1 = false → W.ownsRow p.W0.heap.size p.T p.n (.slice (some ⟨g.e0, 0, none⟩) 0 0) 0 []
  at1 : c1 = true → c0 = true ∧ (c3 = false → W.ownsRow p.W0.heap.size p.T p.n g.v1 p.k p.xs)
  at2 : c2 = true → c3 = false → W.heap[g.h]? = some (.cells p.ms.toArray p.T (0, 0)) ∧ (c0 = true → c1 = false → g.e0 ≠ g.h) ∧ (c1 = true → g.v1.ownBlock ≠ some g.h)
  at3 : c3 = true → c1 = true ∧ c2 = true ∧ (c4 = false → W.ownsRow p.W0.heap.size p.T p.n g.v2 (p.k + 1) (p.xs ++ p.ms))
  at4 : c4 = true → c3 = true ∧ W.ownsRow p.W0.heap.size p.T p.n g.v3 (p.k + 1 + p.m) (p.xs ++ p.ms ++ p.ys)
  at5 : c5 = true → c4 = true ∧ g.v4 = g.v3
section
variable {p : Pr} {g : G} {c0 c1 c2 c3 c4 c5 : Bool} {W W' : World} {v : Value}
theorem D.size (h : D p g c0 c1 c2 c3 c4 c5 W) : p.W0.heap.size ≤ W.heap.size := h.bel.size
theorem D.old (h : D p g c0 c1 c2 c3 c4 c5 W) {b : Nat} {o : Obj} (hb : p.W0.heap[b]? = some o) : W.heap[b]? = some o := bstay hb h.bel (Array.getElem?_eq_some_iff.1 hb).1
theorem D.below (h : D p g c0 c1 c2 c3 c4 c5 W) : Below p.W0.heap.size p.W0 W := h.bel
theorem no31 (h : D p g c0 false c2 c3 c4 c5 W) : c3 = false := by
  cases c3 with
  | false => rfl
  | true => have := (h.at3 rfl).1; cases this
theorem no32 (h : D p g c0 c1 false c3 c4 c5 W) : c3 = false := by
  cases c3 with
  | false => rfl
  | true => have := (h.at3 rfl).2.1; cases this
theorem no4 (h : D p g c0 c1 c2 false c4 c5 W) : c4 = false := by
  cases c4 with
  | false => rfl
  | true => have := (h.at4 rfl).1; cases this
theorem no5 (h : D p g c0 c1 c2 c3 false c5 W) : c5 = false := by
  cases c5 with
  | false => rfl
  | true => have := (h.at5 rfl).1; cases this
theorem no1 (h : D p g false c1 c2 c3 c4 c5 W) : c1 = false := by
  cases c1 with
  | false => rfl
  | true => have := (h.at1 rfl).1; cases this
/-- the empty row is made -/
theorem D.s0 (h : D p g false c1 c2 c3 c4 c5 W) : D p { g with e0 := W.heap.size } true c1 c2 c3 c4 c5 (W.alloc (.cells #[] p.T)) := by
  obtain rfl := no1 h
  obtain rfl := no31 h
  obtain rfl := no4 h
  obtain rfl := no5 h
  have hs := h.size
  refine ⟨h.below.alloc hs _, fun _ _ => World.ownsRow_made W #[] 0 hs (by unfold maxLen; omega) (by simp), fun e => (by cases e), fun e _ => ?_, fun e => (by cases e), fun e => (by cases e), fun e => (by cases e)⟩
  obtain ⟨h1, _, h3⟩ := h.at2 e rfl
  have := (Array.getElem?_eq_some_iff.1 h1).1
  exact ⟨bold h1 _, fun _ _ => (by show W.heap.size ≠ g.h; omega), h3⟩
/-- the first append -/
theorem D.s1 (h : D p g c0 false c2 c3 c4 c5 W) (h0 : c0 = true) (hg : W.grownBy W' (some g.e0)) (ho : W'.ownsRow p.W0.heap.size p.T p.n v p.k p.xs) (hat : v.ownBlock = some g.e0 ∨ v.ownBlock = some W.heap.size) : D p { g with v1 := v } c0 true c2 c3 c4 c5 W' := by
  obtain rfl := no31 h
  obtain rfl := no4 h
  obtain rfl := no5 h
  have hs := h.size
  have he := ((h.at0 h0 rfl).lt g.e0 rfl)
  refine ⟨h.below.grown hg hs (fun b hb => by cases hb; exact he.1), fun _ e => (by cases e), fun _ => ⟨h0, fun _ => ho⟩, fun e _ => ?_, fun e => (by cases e), fun e => (by cases e), fun e => (by cases e)⟩
  obtain ⟨h1, h2, _⟩ := h.at2 e rfl
  have hne := h2 h0 rfl
  have hlt := (Array.getElem?_eq_some_iff.1 h1).1
  refine ⟨(hg.block _ hlt (fun e => by have := Option.some.inj e; omega)).trans h1, fun _ e => (by cases e), fun _ e => ?_⟩
  have e' : v.ownBlock = some g.h := e
  rcases hat with ha | ha
  · rw [ha] at e'; have := Option.some.inj e'; omega
  · rw [ha] at e'; simp at e'; omega
/-- the new one's place -/
theorem D.s2 (h : D p g c0 c1 false c3 c4 c5 W) : D p { g with h := W.heap.size } c0 c1 true c3 c4 c5 (W.alloc (.cells p.ms.toArray p.T)) := by
  obtain rfl := no32 h
  obtain rfl := no4 h
  obtain rfl := no5 h
  have hs := h.size
  refine ⟨h.below.alloc hs _, fun a b => (h.at0 a b).alloc _, fun a => ⟨(h.at1 a).1, fun b => ((h.at1 a).2 b).alloc _⟩, fun _ _ => ⟨bnew W _ _, fun a b => ?_, fun a e => ?_⟩, fun e => (by cases e), fun e => (by cases e), fun e => (by cases e)⟩
  · have := ((h.at0 a b).lt g.e0 rfl).2
    show g.e0 ≠ W.heap.size
    omega
  · have := (((h.at1 a).2 rfl).lt _ e).2
    have : W.heap.size < W.heap.size := this
    omega
/-- the second append -/
theorem D.s3 (h : D p g c0 c1 c2 false c4 c5 W) (h1 : c1 = true) (h2 : c2 = true) (hg : W.grownBy W' g.v1.ownBlock) (ho : W'.ownsRow p.W0.heap.size p.T p.n v (p.k + 1) (p.xs ++ p.ms)) : D p { g with v2 := v } c0 c1 c2 true c4 c5 W' := by
  obtain rfl := no4 h
  obtain rfl := no5 h
  have hs := h.size
  have he := ((h.at1 h1).2 rfl).lt
  exact ⟨h.below.grown hg hs (fun b hb => (he b hb).1), fun a b => (by rw [h1] at b; cases b), fun a => ⟨(h.at1 a).1, fun e => (by cases e)⟩, fun _ e => (by cases e), fun _ => ⟨h1, h2, fun _ => ho⟩, fun e => (by cases e), fun e => (by cases e)⟩
/-- the third append -/
theorem D.s4 (h : D p g c0 c1 c2 c3 false c5 W) (h3 : c3 = true) (hg : W.grownBy W' g.v2.ownBlock) (ho : W'.ownsRow p.W0.heap.size p.T p.n v (p.k + 1 + p.m) (p.xs ++ p.ms ++ p.ys)) : D p { g with v3 := v } c0 c1 c2 c3 true c5 W' := by
  obtain rfl := no5 h
  have hs := h.size
  have he := ((h.at3 h3).2.2 rfl).lt
  obtain ⟨l1, l2, _⟩ := h.at3 h3
  exact ⟨h.below.grown hg hs (fun b hb => (he b hb).1), fun a b => (by rw [l1] at b; cases b), fun a => ⟨(h.at1 a).1, fun e => (by rw [h3] at e; cases e)⟩, fun _ e => (by rw [h3] at e; cases e), fun _ => ⟨l1, l2, fun e => (by cases e)⟩, fun _ => ⟨h3, ho⟩, fun e => (by cases e)⟩
/-- it is given to the variable -/
theorem D.s5 (h : D p g c0 c1 c2 c3 c4 false W) (h4 : c4 = true) : D p { g with v4 := g.v3 } c0 c1 c2 c3 c4 true W := ⟨h.bel, h.at0, h.at1, h.at2, h.at3, h.at4, fun _ => ⟨h4, rfl⟩⟩
end
theorem add0 (g j : Nat) : (⟨g, 0, none⟩ : Addr).add j = ⟨g, j, none⟩ := by unfold Addr.add; split <;> simp_all
theorem more_on (L : Nat → Bool) (i : Nat) : dn.more L i i = true := by unfold dn.more; rw [if_pos rfl]
theorem more_off (L : Nat → Bool) {i j : Nat} (h : j ≠ i) : dn.more L i j = L j := by unfold dn.more; rw [if_neg h]
/-- the numbers of the six operations that count -/
structure J where
  j0 : Nat
  j1 : Nat
  j2 : Nat
  j3 : Nat
  j4 : Nat
  j5 : Nat
def J.up (x : J) : Prop := x.j0 < x.j1 ∧ x.j1 < x.j2 ∧ x.j2 < x.j3 ∧ x.j3 < x.j4 ∧ x.j4 < x.j5
def C (p : Pr) (x : J) (g : G) (L : Nat → Bool) (W : World) : Prop := D p g (L x.j0) (L x.j1) (L x.j2) (L x.j3) (L x.j4) (L x.j5) W
theorem C.d {p : Pr} {x : J} {g : G} {L : Nat → Bool} {W : World} (h : C p x g L W) : D p g (L x.j0) (L x.j1) (L x.j2) (L x.j3) (L x.j4) (L x.j5) W := h
section
variable {p : Pr} {x : J} {ws : G → List (Nat × Value)} {act : Act} {Q : Exit → Act → World → Prop} {o : Oper}
theorem quiet {i : Nat} (hi : i ≠ x.j0 ∧ i ≠ x.j1 ∧ i ≠ x.j2 ∧ i ≠ x.j3 ∧ i ≠ x.j4 ∧ i ≠ x.j5) (hsel : ∀ cs b, o.op ≠ .select cs b) (u : Value) (hd : ∀ s d, o.dst = some d → (dk.sets act (ws s)).tmps[d]? = some u)
    (hrun : ∀ s W, (∀ (b : Nat) (o : Obj), p.W0.heap[b]? = some o → W.heap[b]? = some o) → (execOp (dk.sets act (ws s)).eval o).run Try.prog W = .ok (.value u) W) : gh.Step Try.prog (fun s => dk.sets act (ws s)) (C p x) Q i o := by
  refine gh.step_val hsel fun s L W hdp h0 hC => ⟨s, u, gh.Agree.refl _ _, hd s, ?_⟩
  rw [hrun s W (fun b o hb => hC.d.old hb)]
  refine ⟨rfl, ?_⟩
  obtain ⟨i0, i1, i2, i3, i4, i5⟩ := hi
  unfold C
  rw [more_off L i0.symm, more_off L i1.symm, more_off L i2.symm, more_off L i3.symm, more_off L i4.symm, more_off L i5.symm]
  exact hC
theorem st0 (hx : x.up) {d idx : Nat} (hsel : ∀ cs b, o.op ≠ .select cs b) (hdst : o.dst = some d) (hsz : d < act.tmps.size) (ld : ∀ g, (ws g).lookup d = some (.slice (some ⟨g.e0, 0, none⟩) 0 0)) (hidx : ∀ g, ((ws g)[idx]?.map (·.1)) = some d) (hset : ∀ g (e : Nat), ws { g with e0 := e } = (ws g).set idx (d, .slice (some ⟨e, 0, none⟩) 0 0))
    (hrun : ∀ s W, (execOp (dk.sets act (ws s)).eval o).run Try.prog W = .ok (.value (.slice (some ⟨W.heap.size, 0, none⟩) 0 0)) (W.alloc (.cells #[] p.T))) : gh.Step Try.prog (fun s => dk.sets act (ws s)) (C p x) Q x.j0 o := by
  refine gh.step_val hsel fun s L W hdp h0 hC => ⟨{ s with e0 := W.heap.size }, .slice (some ⟨W.heap.size, 0, none⟩) 0 0, dk.agree_sets idx d _ hdst (hidx s) (hset s _), (fun d' hd => by rw [hdst] at hd; cases hd; exact dk.sets_on _ hsz _ (ld _)), ?_⟩
  rw [hrun]
  refine ⟨rfl, ?_⟩
  obtain ⟨u0, u1, u2, u3, u4⟩ := hx
  have hd := hC.d
  rw [h0] at hd
  unfold C
  rw [more_on, more_off L (show x.j1 ≠ x.j0 by omega), more_off L (show x.j2 ≠ x.j0 by omega), more_off L (show x.j3 ≠ x.j0 by omega), more_off L (show x.j4 ≠ x.j0 by omega), more_off L (show x.j5 ≠ x.j0 by omega)]
  exact hd.s0
theorem st2 (hx : x.up) {d idx : Nat} (hsel : ∀ cs b, o.op ≠ .select cs b) (hdst : o.dst = some d) (hsz : d < act.tmps.size) (ld : ∀ g, (ws g).lookup d = some (.slice (some ⟨g.h, 0, none⟩) 1 1)) (hidx : ∀ g, ((ws g)[idx]?.map (·.1)) = some d) (hset : ∀ g (e : Nat), ws { g with h := e } = (ws g).set idx (d, .slice (some ⟨e, 0, none⟩) 1 1))
    (hrun : ∀ s W, (execOp (dk.sets act (ws s)).eval o).run Try.prog W = .ok (.value (.slice (some ⟨W.heap.size, 0, none⟩) 1 1)) (W.alloc (.cells p.ms.toArray p.T))) : gh.Step Try.prog (fun s => dk.sets act (ws s)) (C p x) Q x.j2 o := by
  refine gh.step_val hsel fun s L W hdp h0 hC => ⟨{ s with h := W.heap.size }, .slice (some ⟨W.heap.size, 0, none⟩) 1 1, dk.agree_sets idx d _ hdst (hidx s) (hset s _), (fun d' hd => by rw [hdst] at hd; cases hd; exact dk.sets_on _ hsz _ (ld _)), ?_⟩
  rw [hrun]
  refine ⟨rfl, ?_⟩
  obtain ⟨u0, u1, u2, u3, u4⟩ := hx
  have hd := hC.d
  rw [h0] at hd
  unfold C
  rw [more_on, more_off L (show x.j0 ≠ x.j2 by omega), more_off L (show x.j1 ≠ x.j2 by omega), more_off L (show x.j3 ≠ x.j2 by omega), more_off L (show x.j4 ≠ x.j2 by omega), more_off L (show x.j5 ≠ x.j2 by omega)]
  exact hd.s2
theorem app_run {ST s1 s2 m c : Nat} {a : Addr} {v v' : Value} {f : Act} {W w' : World} (hop : o.op = .call { callee := .builtin .append, args := #[.tmp s1, .tmp s2], argTypes := #[ST, ST] }) (e1 : f.eval (.tmp s1) = v) (e2 : f.eval (.tmp s2) = .slice (some a) m c) (hr : (Builtin.append_ #[ST, ST] o.type #[v, .slice (some a) m c]).run Try.prog W = .ok v' w') : (execOp f.eval o).run Try.prog W = .ok (.value v') w' := by
  unfold execOp
  simp only [hop, resolve, invoke, builtin, Sem.run_bind, Sem.run_pure, Result.andThen_ok, List.map_toArray, List.map_cons, List.map_nil, e1, e2, hr]
variable {ST : TypeId} {i0 : TypeInfo} {z : Value} {bytes : Nat}
theorem st1 (hx : x.up) (ht : Try.prog.underlying ST = some (.slice p.T)) (hi : Try.prog.info? p.T = some i0) (hz : i0.zero = some z) (hn : i0.size = p.n) (hb : i0.bytes = bytes) (hzs : z.cells.size = p.n) (hn0 : 0 < p.n)
    {s1 s2 d idx c : Nat} {a : Addr} (hop : o.op = .call { callee := .builtin .append, args := #[.tmp s1, .tmp s2], argTypes := #[ST, ST] }) (hdst : o.dst = some d) (hsz : d < act.tmps.size ∧ s1 < act.tmps.size ∧ s2 < act.tmps.size)
    (ld : ∀ g, (ws g).lookup d = some g.v1) (l1 : ∀ g, (ws g).lookup s1 = some (.slice (some ⟨g.e0, 0, none⟩) 0 0)) (l2 : ∀ g, (ws g).lookup s2 = some (.slice (some a) p.k c)) (hidx : ∀ g, ((ws g)[idx]?.map (·.1)) = some d) (hset : ∀ g (v : Value), ws { g with v1 := v } = (ws g).set idx (d, v))
    (hlen : p.xs.length = p.k * p.n) (hnews : ∀ W, Below p.W0.heap.size p.W0 W → ∀ j u, p.xs[j]? = some u → W.cell? (a.add j) = some u) (h1c : ∀ u ∈ p.xs, u.oneCell' = true) (hk : p.k ≤ 1048576) (hby : (0 + p.k) * bytes ≤ 140737488355328)
    (hdep : ∃ e ∈ o.after, Region.binds .any e = true ∧ e.on = x.j0) : gh.Step Try.prog (fun s => dk.sets act (ws s)) (C p x) Q x.j1 o := by
  refine gh.step_val (by rw [hop]; simp) fun s L W hdp h0 hC => ?_
  obtain ⟨xp, mp, yp, zp⟩ := hdep
  have lp := hdp xp mp yp
  rw [zp] at lp
  obtain ⟨u0, u1, u2, u3, u4⟩ := hx
  have hd := hC.d
  rw [h0] at hd
  have hbel : Below p.W0.heap.size p.W0 W := by
    have e3 := no31 hd
    rw [e3] at hd
    have e4 := no4 hd
    rw [e4] at hd
    have e5 := no5 hd
    rw [e5] at hd
    exact hd.below
  have hold := hd.at0 lp rfl
  obtain ⟨v', w', hr, ho, hg, _, hat⟩ := run_append_own_at (P := Try.prog) W p.W0.heap.size ST o.type p.T i0 z p.n bytes ht hi hz hn hb hzs hn0 _ 0 [] hold a p.k c p.xs hlen (hnews W hbel) h1c (by unfold maxLen; omega) hby hd.size
  rw [Nat.zero_add, List.nil_append] at ho
  refine ⟨{ s with v1 := v' }, v', dk.agree_sets idx d _ hdst (hidx s) (hset s _), (fun d' hd => by rw [hdst] at hd; cases hd; exact dk.sets_on _ hsz.1 _ (ld _)), ?_⟩
  rw [app_run hop (dk.eval_on _ _ hsz.2.1 (l1 s)) (dk.eval_on _ _ hsz.2.2 (l2 s)) hr]
  refine ⟨rfl, ?_⟩
  unfold C
  rw [more_on, more_off L (show x.j0 ≠ x.j1 by omega), more_off L (show x.j2 ≠ x.j1 by omega), more_off L (show x.j3 ≠ x.j1 by omega), more_off L (show x.j4 ≠ x.j1 by omega), more_off L (show x.j5 ≠ x.j1 by omega)]
  exact hd.s1 lp hg ho hat
theorem st3 (hx : x.up) (ht : Try.prog.underlying ST = some (.slice p.T)) (hi : Try.prog.info? p.T = some i0) (hz : i0.zero = some z) (hn : i0.size = p.n) (hb : i0.bytes = bytes) (hzs : z.cells.size = p.n) (hn0 : 0 < p.n)
    {s1 s2 d idx : Nat} (hop : o.op = .call { callee := .builtin .append, args := #[.tmp s1, .tmp s2], argTypes := #[ST, ST] }) (hdst : o.dst = some d) (hsz : d < act.tmps.size ∧ s1 < act.tmps.size ∧ s2 < act.tmps.size)
    (ld : ∀ g, (ws g).lookup d = some g.v2) (l1 : ∀ g, (ws g).lookup s1 = some g.v1) (l2 : ∀ g, (ws g).lookup s2 = some (.slice (some ⟨g.h, 0, none⟩) 1 1)) (hidx : ∀ g, ((ws g)[idx]?.map (·.1)) = some d) (hset : ∀ g (v : Value), ws { g with v2 := v } = (ws g).set idx (d, v))
    (hlen : p.ms.length = p.n) (h1c : ∀ u ∈ p.ms, u.oneCell' = true) (hk : p.k ≤ 1048576) (hby : (p.k + 1) * bytes ≤ 140737488355328)
    (hdep : ∃ e ∈ o.after, Region.binds .any e = true ∧ e.on = x.j1) (hdep2 : ∃ e ∈ o.after, Region.binds .any e = true ∧ e.on = x.j2) : gh.Step Try.prog (fun s => dk.sets act (ws s)) (C p x) Q x.j3 o := by
  refine gh.step_val (by rw [hop]; simp) fun s L W hdp h0 hC => ?_
  obtain ⟨xp, mp, yp, zp⟩ := hdep
  have lp := hdp xp mp yp
  rw [zp] at lp
  obtain ⟨xq, mq, yq, zq⟩ := hdep2
  have lq := hdp xq mq yq
  rw [zq] at lq
  obtain ⟨u0, u1, u2, u3, u4⟩ := hx
  have hd := hC.d
  rw [h0] at hd
  have hold := (hd.at1 lp).2 rfl
  obtain ⟨hcell, _, _⟩ := hd.at2 lq rfl
  have hnews : ∀ j u, p.ms[j]? = some u → W.cell? ((⟨s.h, 0, none⟩ : Addr).add j) = some u := fun j u hu => by
    rw [add0]
    exact bcell hcell (by simpa using hu)
  obtain ⟨v', w', hr, ho, hg, _, hat⟩ := run_append_own_at (P := Try.prog) W p.W0.heap.size ST o.type p.T i0 z p.n bytes ht hi hz hn hb hzs hn0 _ p.k p.xs hold ⟨s.h, 0, none⟩ 1 1 p.ms (by rw [hlen, Nat.one_mul]) hnews h1c (by unfold maxLen; omega) hby hd.size
  refine ⟨{ s with v2 := v' }, v', dk.agree_sets idx d _ hdst (hidx s) (hset s _), (fun d' hd => by rw [hdst] at hd; cases hd; exact dk.sets_on _ hsz.1 _ (ld _)), ?_⟩
  rw [app_run hop (dk.eval_on _ _ hsz.2.1 (l1 s)) (dk.eval_on _ _ hsz.2.2 (l2 s)) hr]
  refine ⟨rfl, ?_⟩
  unfold C
  rw [more_on, more_off L (show x.j0 ≠ x.j3 by omega), more_off L (show x.j1 ≠ x.j3 by omega), more_off L (show x.j2 ≠ x.j3 by omega), more_off L (show x.j4 ≠ x.j3 by omega), more_off L (show x.j5 ≠ x.j3 by omega)]
  exact hd.s3 lp lq hg ho
theorem st4 (hx : x.up) (ht : Try.prog.underlying ST = some (.slice p.T)) (hi : Try.prog.info? p.T = some i0) (hz : i0.zero = some z) (hn : i0.size = p.n) (hb : i0.bytes = bytes) (hzs : z.cells.size = p.n) (hn0 : 0 < p.n)
    {s1 s2 d idx c : Nat} {a : Addr} (hop : o.op = .call { callee := .builtin .append, args := #[.tmp s1, .tmp s2], argTypes := #[ST, ST] }) (hdst : o.dst = some d) (hsz : d < act.tmps.size ∧ s1 < act.tmps.size ∧ s2 < act.tmps.size)
    (ld : ∀ g, (ws g).lookup d = some g.v3) (l1 : ∀ g, (ws g).lookup s1 = some g.v2) (l2 : ∀ g, (ws g).lookup s2 = some (.slice (some a) p.m c)) (hidx : ∀ g, ((ws g)[idx]?.map (·.1)) = some d) (hset : ∀ g (v : Value), ws { g with v3 := v } = (ws g).set idx (d, v))
    (hlen : p.ys.length = p.m * p.n) (hnews : ∀ W, Below p.W0.heap.size p.W0 W → ∀ j u, p.ys[j]? = some u → W.cell? (a.add j) = some u) (h1c : ∀ u ∈ p.ys, u.oneCell' = true) (hk : p.k ≤ 1048576 ∧ p.m ≤ 1048576) (hby : (p.k + 1 + p.m) * bytes ≤ 140737488355328)
    (hdep : ∃ e ∈ o.after, Region.binds .any e = true ∧ e.on = x.j3) : gh.Step Try.prog (fun s => dk.sets act (ws s)) (C p x) Q x.j4 o := by
  refine gh.step_val (by rw [hop]; simp) fun s L W hdp h0 hC => ?_
  obtain ⟨xp, mp, yp, zp⟩ := hdep
  have lp := hdp xp mp yp
  rw [zp] at lp
  obtain ⟨u0, u1, u2, u3, u4⟩ := hx
  have hd := hC.d
  rw [h0] at hd
  have hbel : Below p.W0.heap.size p.W0 W := by
    have e5 := no5 hd
    rw [e5] at hd
    exact hd.below
  have hold := (hd.at3 lp).2.2 rfl
  obtain ⟨v', w', hr, ho, hg, _, hat⟩ := run_append_own_at (P := Try.prog) W p.W0.heap.size ST o.type p.T i0 z p.n bytes ht hi hz hn hb hzs hn0 _ (p.k + 1) (p.xs ++ p.ms) hold a p.m c p.ys hlen (hnews W hbel) h1c (by unfold maxLen; omega) hby hd.size
  refine ⟨{ s with v3 := v' }, v', dk.agree_sets idx d _ hdst (hidx s) (hset s _), (fun d' hd => by rw [hdst] at hd; cases hd; exact dk.sets_on _ hsz.1 _ (ld _)), ?_⟩
  rw [app_run hop (dk.eval_on _ _ hsz.2.1 (l1 s)) (dk.eval_on _ _ hsz.2.2 (l2 s)) hr]
  refine ⟨rfl, ?_⟩
  unfold C
  rw [more_on, more_off L (show x.j0 ≠ x.j4 by omega), more_off L (show x.j1 ≠ x.j4 by omega), more_off L (show x.j2 ≠ x.j4 by omega), more_off L (show x.j3 ≠ x.j4 by omega), more_off L (show x.j5 ≠ x.j4 by omega)]
  exact hd.s4 lp hg ho
theorem st5 (hx : x.up) {d s1 idx : Nat} (hop : o.op = .assign (.tmp s1)) (hdst : o.dst = some d) (hsz : d < act.tmps.size ∧ s1 < act.tmps.size) (ld : ∀ g, (ws g).lookup d = some g.v4) (l1 : ∀ g, (ws g).lookup s1 = some g.v3) (hidx : ∀ g, ((ws g)[idx]?.map (·.1)) = some d) (hset : ∀ g (v : Value), ws { g with v4 := v } = (ws g).set idx (d, v))
    (hdep : ∃ e ∈ o.after, Region.binds .any e = true ∧ e.on = x.j4) : gh.Step Try.prog (fun s => dk.sets act (ws s)) (C p x) Q x.j5 o := by
  refine gh.step_val (by rw [hop]; simp) fun s L W hdp h0 hC => ?_
  obtain ⟨xp, mp, yp, zp⟩ := hdep
  have lp := hdp xp mp yp
  rw [zp] at lp
  obtain ⟨u0, u1, u2, u3, u4⟩ := hx
  have hd := hC.d
  rw [h0] at hd
  refine ⟨{ s with v4 := s.v3 }, s.v3, dk.agree_sets idx d _ hdst (hidx s) (hset s _), (fun d' hd => by rw [hdst] at hd; cases hd; exact dk.sets_on _ hsz.1 _ (ld _)), ?_⟩
  have hrun : (execOp (dk.sets act (ws s)).eval o).run Try.prog W = .ok (.value s.v3) W := by
    unfold execOp
    simp only [hop, dk.eval_on _ _ hsz.2 (l1 s), Sem.run_pure]
  rw [hrun]
  refine ⟨rfl, ?_⟩
  unfold C
  rw [more_on, more_off L (show x.j0 ≠ x.j5 by omega), more_off L (show x.j1 ≠ x.j5 by omega), more_off L (show x.j2 ≠ x.j5 by omega), more_off L (show x.j3 ≠ x.j5 by omega), more_off L (show x.j4 ≠ x.j5 by omega)]
  exact hd.s5 lp
end
/-- when all is done -/
theorem done {p : Pr} {x : J} {g : G} {L : Nat → Bool} {W : World} {N : Nat} (hC : C p x g L W) (hx : x.up) (hN : x.j5 < N) (hL : ∀ i, i < N → L i = true) :
    Below p.W0.heap.size p.W0 W ∧ g.v4 = g.v3 ∧ W.ownsRow p.W0.heap.size p.T p.n g.v3 (p.k + 1 + p.m) (p.xs ++ p.ms ++ p.ys) := by
  have hd := hC.d
  obtain ⟨u0, u1, u2, u3, u4⟩ := hx
  rw [hL x.j4 (by omega), hL x.j5 hN] at hd
  exact ⟨hd.bel, (hd.at5 rfl).2, (hd.at4 rfl).2⟩
/-- nothing is done yet -/
theorem start (p : Pr) (x : J) (g : G) : C p x g (fun _ => false) p.W0.drew :=
  ⟨(Below.refl _ _).drew, fun e => (by cases e), fun e => (by cases e), fun e => (by cases e), fun e => (by cases e), fun e => (by cases e), fun e => (by cases e)⟩
end Go.Proofs.Ytnlcmheahihlpaa.tas

/- The specification's l05Back: messages with one more in its place. -/
namespace Go.Proofs.Ytnlcmheahihlpaa.qbs
open Go.ChangeShapes Go.WideShapes Go.ChangeAt Go.RowKit Go.Proofs.Ytnlcmheahihlpaa.fl Go.Proofs.Ytnlcmheahihlpaa.qbk
set_option linter.unusedVariables false

theorem box5 {W : World} {b : Nat} {x0 x1 x2 x3 x4 : Value} {U : TypeId} (h : W.heap[b]? = some (.cells #[x0, x1, x2, x3, x4] U (0, 0))) : W.cell? ⟨b, 0, none⟩ = some x0 ∧ W.cell? ⟨b, 1, none⟩ = some x1 ∧ W.cell? ⟨b, 2, none⟩ = some x2 ∧ W.cell? ⟨b, 3, none⟩ = some x3 ∧ W.cell? ⟨b, 4, none⟩ = some x4 := ⟨bcell h rfl, bcell h rfl, bcell h rfl, bcell h rfl, bcell h rfl⟩
theorem take_drop_flat (l : List flM.Ms) (k : Nat) : l.flatMap flM.c = (l.take k).flatMap flM.c ++ (l.drop k).flatMap flM.c := by rw [← List.flatMap_append, List.take_append_drop]
theorem news_take {w : World} {B g : Nat} {l : List flM.Ms} (h : Row flM.c 5 w B (some ⟨g, 0, none⟩) l) (k : Nat) : ∀ (j : Nat) (u : Value), ((l.take k).flatMap flM.c)[j]? = some u → w.cell? ((⟨g, 0, none⟩ : Addr).add j) = some u := fun j u hu => by
  refine qsp.newsR flM.c_len h j u ?_
  rw [take_drop_flat l k, List.getElem?_append_left (List.getElem?_eq_some_iff.1 hu).1]
  exact hu
theorem news_drop {w : World} {B g : Nat} {l : List flM.Ms} (h : Row flM.c 5 w B (some ⟨g, 0, none⟩) l) (k : Nat) (hk : k ≤ l.length) : ∀ (j : Nat) (u : Value), ((l.drop k).flatMap flM.c)[j]? = some u → w.cell? ((⟨g, k * 5, none⟩ : Addr).add j) = some u := fun j u hu => by
  have hlen : ((l.take k).flatMap flM.c).length = k * 5 := by rw [flat_len flM.c_len, List.length_take, Nat.min_eq_left hk]
  have hh := qsp.newsR flM.c_len h (k * 5 + j) u (by rw [take_drop_flat l k, List.getElem?_append_right (by omega), hlen, show k * 5 + j - k * 5 = j by omega]; exact hu)
  rw [qsp.add_at] at hh ⊢
  rwa [Nat.zero_add] at hh
theorem row_cell {w : World} {B g k : Nat} {l : List flM.Ms} {e : flM.Ms} (h : Row flM.c 5 w B (some ⟨g, 0, none⟩) l) (he : l[k]? = some e) : w.cell? ⟨g, k * 5, none⟩ = some (.int .i64 e.q) := by
  rcases h with h0 | ⟨b', off', hh, hlt, hc⟩
  · rw [h0] at he; simp at he
  · cases hh
    have := hc k _ he 0 _ rfl
    simpa using this
theorem back_at {l : List flM.Ms} {m : flM.Ms} {k : Nat} (h : at_ l m.q = k) : back l m = l.take k ++ [m] ++ l.drop k := by subst h; rfl
def ws (g n c k o m' cc : Nat) (m : flM.Ms) (s : tas.G) : List (Nat × Value) := [(22, .slice (some ⟨s.e0, 0, none⟩) 0 0), (23, .slice (some ⟨g, 0, none⟩) n c), (24, .int .i64 k), (25, .slice (some ⟨g, 0, none⟩) k c), (26, s.v1), (27, .agg #[.int .i64 m.q, .string m.x, .string m.k, .string m.b, .bool m.a]), (28, .slice (some ⟨s.h, 0, none⟩) 1 1), (29, s.v2), (30, .slice (some ⟨g, 0, none⟩) n c), (31, .int .i64 k), (32, .slice (some ⟨g, o, none⟩) m' cc), (33, s.v3), (4, s.v4)]
def J0 : tas.J := ⟨0, 4, 6, 7, 11, 12⟩
theorem J0_up : J0.up := ⟨by decide, by decide, by decide, by decide, by decide⟩


set_option maxRecDepth 100000 in
set_option maxHeartbeats 4000000 in
theorem spec_back (l : List flM.Ms) (g c : Nat) (m : flM.Ms) (w : World) (hl : l.length ≤ 1048576) (hlc : l.length ≤ c) (hS : Row flM.c 5 w w.heap.size (some ⟨g, 0, none⟩) l) :
    Calls Try.prog 28 #[.slice (some ⟨g, 0, none⟩) l.length c, .agg #[.int .i64 m.q, .string m.x, .string m.k, .string m.b, .bool m.a]] w fun e w' => ∃ g2 c2, e = .returned (.slice (some ⟨g2, 0, none⟩) (back l m).length c2) ∧ w'.ownsRow w.heap.size 41 5 (.slice (some ⟨g2, 0, none⟩) (back l m).length c2) (back l m).length ((back l m).flatMap flM.c) ∧ Below w.heap.size w w' := by
  obtain ⟨i0, hi, hz0, hz1, hz2⟩ := qsp.infoY
  have HS : Hid (Row flM.c 5 w w.heap.size (some ⟨g, 0, none⟩) l) := hS
  have hal : Below w.heap.size w (w.alloc (.cells #[.int .i64 m.q, .string m.x, .string m.k, .string m.b, .bool m.a] 41)) := (Below.refl _ _).alloc (Nat.le_refl _) _
  have hA := bnew w #[.int .i64 m.q, .string m.x, .string m.k, .string m.b, .bool m.a] 41
  obtain ⟨V, hV⟩ : ∃ V, w.alloc (.cells #[.int .i64 m.q, .string m.x, .string m.k, .string m.b, .bool m.a] 41) = V := ⟨_, rfl⟩
  rw [hV] at hal hA
  have HA : Hid (V.heap[w.heap.size]? = some (.cells #[.int .i64 m.q, .string m.x, .string m.k, .string m.b, .bool m.a] 41 (0, 0))) := hA
  have hVs : w.heap.size < V.heap.size := (Array.getElem?_eq_some_iff.1 hA).1
  clear hS hA
  go_enter Try.func28, Try.ntmps28
  go_wp2
  clear hV
  go_loopw [5] (fun v wr => ∃ k : Nat, k ≤ l.length ∧ v = .int .i64 k ∧ Hid (∀ (i : Nat) a, i < k → l[i]? = some a → a.q < m.q) ∧ Hid (Below V.heap.size V wr)) (fun v _ => l.length - (intOf v).toNat)
  case atStart => exact ⟨0, Nat.zero_le _, rfl, fun i a h => by omega, Below.refl _ _⟩
  case round =>
    obtain ⟨k, hk, rfl, hn, hBV⟩ := hrel
    have hB : Hid (Below w.heap.size w wr) := hal.trans (hBV.out.mono hal.size)
    have HSr : Hid (Row flM.c 5 wr wr.heap.size (some ⟨g, 0, none⟩) l) := HS.out.inn hB.out
    have HBX : Hid (wr.heap[w.heap.size]? = some (.cells #[.int .i64 m.q, .string m.x, .string m.k, .string m.b, .bool m.a] 41 (0, 0))) := bstay HA.out hBV.out hVs
    have b0 : wr.cell? ⟨w.heap.size, 0, none⟩ = some (.int .i64 m.q) := bcell HBX.out rfl
    have r9 : k ≤ c := by omega
    by_cases hkl : k < l.length
    · have f0 : decide ((k : Int) < (l.length : Int)) = true := by simp; omega
      have HG : Hid (l[k]? = some l[k]) := List.getElem?_eq_getElem hkl
      obtain ⟨mk, he⟩ : ∃ e, l[k] = e := ⟨_, rfl⟩
      rw [he] at HG
      have a0 : wr.cell? ⟨g, k * 5, none⟩ = some (.int .i64 mk.q) := row_cell HSr.out HG.out
      have i2 : (k : Int) < (l.length : Int) := by omega
      clear he
      by_cases hq : mk.q < m.q
      · have hq1 : decide (mk.q < m.q) = true := by simpa using hq
        have hn2 : Hid (∀ (i : Nat) a, i < k + 1 → l[i]? = some a → a.q < m.q) := fun i a hi ha => by
          by_cases ei : i = k
          · subst ei; rw [HG.out] at ha; cases ha; exact hq
          · exact hn.out i a (by omega) ha
        go_wp2
        go_quiet (fail)
        have hBV2 : Hid (Below V.heap.size V (wr.drewN nq)) := qts.bdrewN hBV.out _
        go_wp2
        go_roundw
        case rel => exact ⟨k + 1, by omega, by go_num, hn2, hBV2⟩
        case measure => simp [intOf]; omega
      · have hq1 : decide (mk.q < m.q) = false := by simpa using hq
        have HPT : Hid (back l m = l.take k ++ [m] ++ l.drop k) := back_at (at_of hn.out (fun e he => by rw [HG.out] at he; cases he; exact hq) hk)
        have r4 : ¬ c = k := by omega
        have r10 : k ≤ l.length := by omega
        have HRL : Hid ((l.drop k).length = l.length - k) := by show (l.drop k).length = l.length - k; simp
        go_wp2
        go_quiet (fail)
        obtain ⟨X, hX⟩ : ∃ X, wr.drewN nq = X := ⟨_, rfl⟩
        have hWX : Below wr.heap.size wr X := by rw [← hX]; exact qts.bdrewN (Below.refl _ _) _
        rw [hX]
        have hBX : Hid (Below w.heap.size w X) := hB.out.trans (hWX.mono hB.out.size)
        have HSX : Hid (Row flM.c 5 X X.heap.size (some ⟨g, 0, none⟩) l) := HSr.out.inn hWX
        have HBY : Hid (X.heap[w.heap.size]? = some (.cells #[.int .i64 m.q, .string m.x, .string m.k, .string m.b, .bool m.a] 41 (0, 0))) := bstay HBX.out hWX (Array.getElem?_eq_some_iff.1 HBX.out).1
        clear hX
        go_wp2
        refine dk.region_gsets (ws g l.length c (k) (k * 5) (l.length - k) (c - k) m) [22, 23, 24, 25, 26, 27, 28, 29, 30, 31, 32, 33, 4] (tas.C ⟨X, 41, 5, (l.take k).flatMap flM.c, [.int .i64 m.q, .string m.x, .string m.k, .string m.b, .bool m.a], (l.drop k).flatMap flM.c, k, l.length - k⟩ J0) ⟨0, .slice none 0 0, 0, .slice none 0 0, .slice none 0 0, .slice none 0 0⟩ (by kernel_rfl) (by kernel_rfl) (fun _ => rfl) (by kernel_rfl) (tas.start _ _ _) ?each ?fin
        case each =>
          refine ⟨tas.st0 (x := J0) (d := 22) (idx := 0) J0_up (by simp) rfl (by simp) (fun g => rfl) (fun g => rfl) (fun g e => rfl) (fun s W => by simp [execOp, go_sem]), ?_⟩
          refine ⟨tas.quiet (by decide) (by simp) (.slice (some ⟨g, 0, none⟩) l.length c) (by rintro s _ ⟨⟩; exact dk.sets_on _ (by simp) _ rfl) (fun s W h => by simp [execOp, go_sem, Act.eval, dk.sets_get, ws, List.lookup]), ?_⟩
          refine ⟨tas.quiet (by decide) (by simp) (.int .i64 (k : Nat)) (by rintro s _ ⟨⟩; exact dk.sets_on _ (by simp) _ rfl) (fun s W h => by simp [execOp, go_sem, Act.eval, dk.sets_get, ws, List.lookup]), ?_⟩
          refine ⟨tas.quiet (by decide) (by simp) (.slice (some ⟨g, 0, none⟩) (k) c) (by rintro s _ ⟨⟩; exact dk.sets_on _ (by simp) _ rfl) (fun s W h => by simp [execOp, go_sem, Act.eval, dk.sets_get, ws, List.lookup, r9]), ?_⟩
          refine ⟨tas.st1 (x := J0) (d := 26) (s1 := 22) (s2 := 25) (idx := 4) (c := c) (a := ⟨g, 0, none⟩) J0_up Try.underlying24 hi hz0 hz1 hz2 rfl (by show 0 < 5; decide) rfl rfl ⟨by simp, by simp, by simp⟩ (fun g => rfl) (fun g => rfl) (fun g => rfl) (fun g => rfl) (fun g v => rfl) (by show ((l.take k).flatMap flM.c).length = (k) * 5; rw [flat_len flM.c_len, List.length_take, Nat.min_eq_left (by omega)]) (fun W hb => news_take (HSX.out.inn hb) (k)) (qsp.oneY _) (by show k ≤ 1048576; omega) (by show (0 + k) * 64 ≤ 140737488355328; omega) ⟨⟨0, .data⟩, by simp, rfl, rfl⟩, ?_⟩
          refine ⟨tas.quiet (by decide) (by simp) (.agg #[.int .i64 m.q, .string m.x, .string m.k, .string m.b, .bool m.a]) (by rintro s _ ⟨⟩; exact dk.sets_on _ (by simp) _ rfl) (fun s W h => by obtain ⟨d0, d1, d2, d3, d4⟩ := box5 (h _ _ HBY.out); simp [execOp, go_sem, Act.eval, dk.sets_get, ws, List.lookup, d0, d1, d2, d3, d4]), ?_⟩
          refine ⟨tas.st2 (x := J0) (d := 28) (idx := 6) J0_up (by simp) rfl (by simp) (fun g => rfl) (fun g => rfl) (fun g e => rfl) (fun s W => by simp [execOp, go_sem, Act.eval, dk.sets_get, ws, List.lookup]), ?_⟩
          refine ⟨tas.st3 (x := J0) (d := 29) (s1 := 26) (s2 := 28) (idx := 7) J0_up Try.underlying24 hi hz0 hz1 hz2 rfl (by show 0 < 5; decide) rfl rfl ⟨by simp, by simp, by simp⟩ (fun g => rfl) (fun g => rfl) (fun g => rfl) (fun g => rfl) (fun g v => rfl) rfl (by intro u hu; simp at hu; rcases hu with rfl | rfl | rfl | rfl | rfl <;> rfl) (by show k ≤ 1048576; omega) (by show (k + 1) * 64 ≤ 140737488355328; omega) ⟨⟨4, .data⟩, by simp, rfl, rfl⟩ ⟨⟨6, .data⟩, by simp, rfl, rfl⟩, ?_⟩
          refine ⟨tas.quiet (by decide) (by simp) (.slice (some ⟨g, 0, none⟩) l.length c) (by rintro s _ ⟨⟩; exact dk.sets_on _ (by simp) _ rfl) (fun s W h => by simp [execOp, go_sem, Act.eval, dk.sets_get, ws, List.lookup]), ?_⟩
          refine ⟨tas.quiet (by decide) (by simp) (.int .i64 (k : Nat)) (by rintro s _ ⟨⟩; exact dk.sets_on _ (by simp) _ rfl) (fun s W h => by simp [execOp, go_sem, Act.eval, dk.sets_get, ws, List.lookup]), ?_⟩
          refine ⟨tas.quiet (by decide) (by simp) (.slice (some ⟨g, k * 5, none⟩) (l.length - k) (c - k)) (by rintro s _ ⟨⟩; exact dk.sets_on _ (by simp) _ rfl) (fun s W h => by simp [execOp, go_sem, Act.eval, dk.sets_get, ws, List.lookup, r4, r10]), ?_⟩
          refine ⟨tas.st4 (x := J0) (d := 33) (s1 := 29) (s2 := 32) (idx := 11) (c := c - k) (a := ⟨g, k * 5, none⟩) J0_up Try.underlying24 hi hz0 hz1 hz2 rfl (by show 0 < 5; decide) rfl rfl ⟨by simp, by simp, by simp⟩ (fun g => rfl) (fun g => rfl) (fun g => rfl) (fun g => rfl) (fun g v => rfl) (by show ((l.drop k).flatMap flM.c).length = (l.length - k) * 5; rw [flat_len flM.c_len, HRL.out]) (fun W hb => news_drop (HSX.out.inn hb) k (by omega)) (qsp.oneY _) (by show k ≤ 1048576 ∧ l.length - k ≤ 1048576; omega) (by show (k + 1 + (l.length - k)) * 64 ≤ 140737488355328; omega) ⟨⟨7, .data⟩, by simp, rfl, rfl⟩, ?_⟩
          exact ⟨tas.st5 (x := J0) (d := 4) (s1 := 33) (idx := 12) J0_up rfl rfl ⟨by simp, by simp⟩ (fun g => rfl) (fun g => rfl) (fun g => rfl) (fun g v => rfl) ⟨⟨11, .data⟩, by simp, rfl, rfl⟩, trivial⟩
        case fin =>
          intro s L X3 hL hC
          obtain ⟨hbl, hv4, hown⟩ := tas.done hC J0_up (N := 13) (by decide) hL
          replace hbl : Below X.heap.size X X3 := hbl
          replace hown : X3.ownsRow X.heap.size 41 5 s.v3 (k + 1 + (l.length - k)) ((l.take k).flatMap flM.c ++ [.int .i64 m.q, .string m.x, .string m.k, .string m.b, .bool m.a] ++ (l.drop k).flatMap flM.c) := hown
          have hlen : k + 1 + (l.length - k) = (back l m).length := by have := back_len l m; omega
          have hfl : (l.take k).flatMap flM.c ++ [.int .i64 m.q, .string m.x, .string m.k, .string m.b, .bool m.a] ++ (l.drop k).flatMap flM.c = (back l m).flatMap flM.c := by rw [HPT.out]; simp [flM.c]
          rw [hlen, hfl] at hown
          obtain ⟨g5, c5, hv3⟩ : ∃ g5 c5, s.v3 = .slice (some ⟨g5, 0, none⟩) (back l m).length c5 := by
            obtain ⟨_, ⟨_, h0⟩ | ⟨g6, cap, cur, e, _⟩⟩ := hown
            · omega
            · exact ⟨g6, cap, e⟩
          rw [hv3] at hown hv4
          have HOW : Hid (X3.ownsRow w.heap.size 41 5 (.slice (some ⟨g5, 0, none⟩) (back l m).length c5) (back l m).length ((back l m).flatMap flM.c)) := qsp.own_low hown hBX.out.size
          have HBL : Hid (Below X.heap.size X X3) := hbl
          have HV4 : Hid (s.v4 = .slice (some ⟨g5, 0, none⟩) (back l m).length c5) := hv4
          clear hC hL hbl hown hlen hfl hv3 hv4
          go_wp2
          refine bodyPost_ret (v := .slice (some ⟨g5, 0, none⟩) (back l m).length c5) (by simp [results, Try.results28, go_sem, dk.sets_get, ws, List.lookup, HV4.out]) rfl ?_
          exact ⟨g5, c5, rfl, HOW.out, hBX.out.trans (HBL.out.mono hBX.out.size)⟩
    · obtain rfl : k = l.length := by omega
      have HPT : Hid (back l m = l.take l.length ++ [m] ++ l.drop l.length) := back_at (at_of hn.out (fun e he => by simp at he) hk)
      have f0 : decide ((l.length : Int) < (l.length : Int)) = false := by simp
      by_cases hck : c = l.length
      · have r4 := hck
        have HRL : Hid ((l.drop l.length).length = 0) := by show (l.drop l.length).length = 0; simp
        go_wp2
        go_quiet (fail)
        obtain ⟨X, hX⟩ : ∃ X, wr.drewN nq = X := ⟨_, rfl⟩
        have hWX : Below wr.heap.size wr X := by rw [← hX]; exact qts.bdrewN (Below.refl _ _) _
        rw [hX]
        have hBX : Hid (Below w.heap.size w X) := hB.out.trans (hWX.mono hB.out.size)
        have HSX : Hid (Row flM.c 5 X X.heap.size (some ⟨g, 0, none⟩) l) := HSr.out.inn hWX
        have HBY : Hid (X.heap[w.heap.size]? = some (.cells #[.int .i64 m.q, .string m.x, .string m.k, .string m.b, .bool m.a] 41 (0, 0))) := bstay HBX.out hWX (Array.getElem?_eq_some_iff.1 HBX.out).1
        clear hX
        go_wp2
        refine dk.region_gsets (ws g l.length c (l.length) (0) (0) (0) m) [22, 23, 24, 25, 26, 27, 28, 29, 30, 31, 32, 33, 4] (tas.C ⟨X, 41, 5, (l.take l.length).flatMap flM.c, [.int .i64 m.q, .string m.x, .string m.k, .string m.b, .bool m.a], (l.drop l.length).flatMap flM.c, l.length, 0⟩ J0) ⟨0, .slice none 0 0, 0, .slice none 0 0, .slice none 0 0, .slice none 0 0⟩ (by kernel_rfl) (by kernel_rfl) (fun _ => rfl) (by kernel_rfl) (tas.start _ _ _) ?each ?fin
        case each =>
          refine ⟨tas.st0 (x := J0) (d := 22) (idx := 0) J0_up (by simp) rfl (by simp) (fun g => rfl) (fun g => rfl) (fun g e => rfl) (fun s W => by simp [execOp, go_sem]), ?_⟩
          refine ⟨tas.quiet (by decide) (by simp) (.slice (some ⟨g, 0, none⟩) l.length c) (by rintro s _ ⟨⟩; exact dk.sets_on _ (by simp) _ rfl) (fun s W h => by simp [execOp, go_sem, Act.eval, dk.sets_get, ws, List.lookup]), ?_⟩
          refine ⟨tas.quiet (by decide) (by simp) (.int .i64 (l.length : Nat)) (by rintro s _ ⟨⟩; exact dk.sets_on _ (by simp) _ rfl) (fun s W h => by simp [execOp, go_sem, Act.eval, dk.sets_get, ws, List.lookup]), ?_⟩
          refine ⟨tas.quiet (by decide) (by simp) (.slice (some ⟨g, 0, none⟩) (l.length) c) (by rintro s _ ⟨⟩; exact dk.sets_on _ (by simp) _ rfl) (fun s W h => by simp [execOp, go_sem, Act.eval, dk.sets_get, ws, List.lookup, r9]), ?_⟩
          refine ⟨tas.st1 (x := J0) (d := 26) (s1 := 22) (s2 := 25) (idx := 4) (c := c) (a := ⟨g, 0, none⟩) J0_up Try.underlying24 hi hz0 hz1 hz2 rfl (by show 0 < 5; decide) rfl rfl ⟨by simp, by simp, by simp⟩ (fun g => rfl) (fun g => rfl) (fun g => rfl) (fun g => rfl) (fun g v => rfl) (by show ((l.take l.length).flatMap flM.c).length = (l.length) * 5; rw [flat_len flM.c_len, List.length_take, Nat.min_eq_left (by omega)]) (fun W hb => news_take (HSX.out.inn hb) (l.length)) (qsp.oneY _) (by show l.length ≤ 1048576; omega) (by show (0 + l.length) * 64 ≤ 140737488355328; omega) ⟨⟨0, .data⟩, by simp, rfl, rfl⟩, ?_⟩
          refine ⟨tas.quiet (by decide) (by simp) (.agg #[.int .i64 m.q, .string m.x, .string m.k, .string m.b, .bool m.a]) (by rintro s _ ⟨⟩; exact dk.sets_on _ (by simp) _ rfl) (fun s W h => by obtain ⟨d0, d1, d2, d3, d4⟩ := box5 (h _ _ HBY.out); simp [execOp, go_sem, Act.eval, dk.sets_get, ws, List.lookup, d0, d1, d2, d3, d4]), ?_⟩
          refine ⟨tas.st2 (x := J0) (d := 28) (idx := 6) J0_up (by simp) rfl (by simp) (fun g => rfl) (fun g => rfl) (fun g e => rfl) (fun s W => by simp [execOp, go_sem, Act.eval, dk.sets_get, ws, List.lookup]), ?_⟩
          refine ⟨tas.st3 (x := J0) (d := 29) (s1 := 26) (s2 := 28) (idx := 7) J0_up Try.underlying24 hi hz0 hz1 hz2 rfl (by show 0 < 5; decide) rfl rfl ⟨by simp, by simp, by simp⟩ (fun g => rfl) (fun g => rfl) (fun g => rfl) (fun g => rfl) (fun g v => rfl) rfl (by intro u hu; simp at hu; rcases hu with rfl | rfl | rfl | rfl | rfl <;> rfl) (by show l.length ≤ 1048576; omega) (by show (l.length + 1) * 64 ≤ 140737488355328; omega) ⟨⟨4, .data⟩, by simp, rfl, rfl⟩ ⟨⟨6, .data⟩, by simp, rfl, rfl⟩, ?_⟩
          refine ⟨tas.quiet (by decide) (by simp) (.slice (some ⟨g, 0, none⟩) l.length c) (by rintro s _ ⟨⟩; exact dk.sets_on _ (by simp) _ rfl) (fun s W h => by simp [execOp, go_sem, Act.eval, dk.sets_get, ws, List.lookup]), ?_⟩
          refine ⟨tas.quiet (by decide) (by simp) (.int .i64 (l.length : Nat)) (by rintro s _ ⟨⟩; exact dk.sets_on _ (by simp) _ rfl) (fun s W h => by simp [execOp, go_sem, Act.eval, dk.sets_get, ws, List.lookup]), ?_⟩
          refine ⟨tas.quiet (by decide) (by simp) (.slice (some ⟨g, 0, none⟩) (0) (0)) (by rintro s _ ⟨⟩; exact dk.sets_on _ (by simp) _ rfl) (fun s W h => by simp [execOp, go_sem, Act.eval, dk.sets_get, ws, List.lookup, r4]), ?_⟩
          refine ⟨tas.st4 (x := J0) (d := 33) (s1 := 29) (s2 := 32) (idx := 11) (c := 0) (a := ⟨g, 0, none⟩) J0_up Try.underlying24 hi hz0 hz1 hz2 rfl (by show 0 < 5; decide) rfl rfl ⟨by simp, by simp, by simp⟩ (fun g => rfl) (fun g => rfl) (fun g => rfl) (fun g => rfl) (fun g v => rfl) (by show ((l.drop l.length).flatMap flM.c).length = (0) * 5; rw [flat_len flM.c_len, HRL.out]) (fun W hb => by rw [List.drop_length]; intro j u hu; simp at hu) (qsp.oneY _) (by show l.length ≤ 1048576 ∧ 0 ≤ 1048576; omega) (by show (l.length + 1 + (0)) * 64 ≤ 140737488355328; omega) ⟨⟨7, .data⟩, by simp, rfl, rfl⟩, ?_⟩
          exact ⟨tas.st5 (x := J0) (d := 4) (s1 := 33) (idx := 12) J0_up rfl rfl ⟨by simp, by simp⟩ (fun g => rfl) (fun g => rfl) (fun g => rfl) (fun g v => rfl) ⟨⟨11, .data⟩, by simp, rfl, rfl⟩, trivial⟩
        case fin =>
          intro s L X3 hL hC
          obtain ⟨hbl, hv4, hown⟩ := tas.done hC J0_up (N := 13) (by decide) hL
          replace hbl : Below X.heap.size X X3 := hbl
          replace hown : X3.ownsRow X.heap.size 41 5 s.v3 (l.length + 1 + (0)) ((l.take l.length).flatMap flM.c ++ [.int .i64 m.q, .string m.x, .string m.k, .string m.b, .bool m.a] ++ (l.drop l.length).flatMap flM.c) := hown
          have hlen : l.length + 1 + (0) = (back l m).length := by have := back_len l m; omega
          have hfl : (l.take l.length).flatMap flM.c ++ [.int .i64 m.q, .string m.x, .string m.k, .string m.b, .bool m.a] ++ (l.drop l.length).flatMap flM.c = (back l m).flatMap flM.c := by rw [HPT.out]; simp [flM.c]
          rw [hlen, hfl] at hown
          obtain ⟨g5, c5, hv3⟩ : ∃ g5 c5, s.v3 = .slice (some ⟨g5, 0, none⟩) (back l m).length c5 := by
            obtain ⟨_, ⟨_, h0⟩ | ⟨g6, cap, cur, e, _⟩⟩ := hown
            · omega
            · exact ⟨g6, cap, e⟩
          rw [hv3] at hown hv4
          have HOW : Hid (X3.ownsRow w.heap.size 41 5 (.slice (some ⟨g5, 0, none⟩) (back l m).length c5) (back l m).length ((back l m).flatMap flM.c)) := qsp.own_low hown hBX.out.size
          have HBL : Hid (Below X.heap.size X X3) := hbl
          have HV4 : Hid (s.v4 = .slice (some ⟨g5, 0, none⟩) (back l m).length c5) := hv4
          clear hC hL hbl hown hlen hfl hv3 hv4
          go_wp2
          refine bodyPost_ret (v := .slice (some ⟨g5, 0, none⟩) (back l m).length c5) (by simp [results, Try.results28, go_sem, dk.sets_get, ws, List.lookup, HV4.out]) rfl ?_
          exact ⟨g5, c5, rfl, HOW.out, hBX.out.trans (HBL.out.mono hBX.out.size)⟩
      · have r4 : ¬ c = l.length := hck
        have HRL : Hid ((l.drop l.length).length = 0) := by show (l.drop l.length).length = 0; simp
        go_wp2
        go_quiet (fail)
        obtain ⟨X, hX⟩ : ∃ X, wr.drewN nq = X := ⟨_, rfl⟩
        have hWX : Below wr.heap.size wr X := by rw [← hX]; exact qts.bdrewN (Below.refl _ _) _
        rw [hX]
        have hBX : Hid (Below w.heap.size w X) := hB.out.trans (hWX.mono hB.out.size)
        have HSX : Hid (Row flM.c 5 X X.heap.size (some ⟨g, 0, none⟩) l) := HSr.out.inn hWX
        have HBY : Hid (X.heap[w.heap.size]? = some (.cells #[.int .i64 m.q, .string m.x, .string m.k, .string m.b, .bool m.a] 41 (0, 0))) := bstay HBX.out hWX (Array.getElem?_eq_some_iff.1 HBX.out).1
        clear hX
        go_wp2
        refine dk.region_gsets (ws g l.length c (l.length) (l.length * 5) (0) (c - l.length) m) [22, 23, 24, 25, 26, 27, 28, 29, 30, 31, 32, 33, 4] (tas.C ⟨X, 41, 5, (l.take l.length).flatMap flM.c, [.int .i64 m.q, .string m.x, .string m.k, .string m.b, .bool m.a], (l.drop l.length).flatMap flM.c, l.length, 0⟩ J0) ⟨0, .slice none 0 0, 0, .slice none 0 0, .slice none 0 0, .slice none 0 0⟩ (by kernel_rfl) (by kernel_rfl) (fun _ => rfl) (by kernel_rfl) (tas.start _ _ _) ?each ?fin
        case each =>
          refine ⟨tas.st0 (x := J0) (d := 22) (idx := 0) J0_up (by simp) rfl (by simp) (fun g => rfl) (fun g => rfl) (fun g e => rfl) (fun s W => by simp [execOp, go_sem]), ?_⟩
          refine ⟨tas.quiet (by decide) (by simp) (.slice (some ⟨g, 0, none⟩) l.length c) (by rintro s _ ⟨⟩; exact dk.sets_on _ (by simp) _ rfl) (fun s W h => by simp [execOp, go_sem, Act.eval, dk.sets_get, ws, List.lookup]), ?_⟩
          refine ⟨tas.quiet (by decide) (by simp) (.int .i64 (l.length : Nat)) (by rintro s _ ⟨⟩; exact dk.sets_on _ (by simp) _ rfl) (fun s W h => by simp [execOp, go_sem, Act.eval, dk.sets_get, ws, List.lookup]), ?_⟩
          refine ⟨tas.quiet (by decide) (by simp) (.slice (some ⟨g, 0, none⟩) (l.length) c) (by rintro s _ ⟨⟩; exact dk.sets_on _ (by simp) _ rfl) (fun s W h => by simp [execOp, go_sem, Act.eval, dk.sets_get, ws, List.lookup, r9]), ?_⟩
          refine ⟨tas.st1 (x := J0) (d := 26) (s1 := 22) (s2 := 25) (idx := 4) (c := c) (a := ⟨g, 0, none⟩) J0_up Try.underlying24 hi hz0 hz1 hz2 rfl (by show 0 < 5; decide) rfl rfl ⟨by simp, by simp, by simp⟩ (fun g => rfl) (fun g => rfl) (fun g => rfl) (fun g => rfl) (fun g v => rfl) (by show ((l.take l.length).flatMap flM.c).length = (l.length) * 5; rw [flat_len flM.c_len, List.length_take, Nat.min_eq_left (by omega)]) (fun W hb => news_take (HSX.out.inn hb) (l.length)) (qsp.oneY _) (by show l.length ≤ 1048576; omega) (by show (0 + l.length) * 64 ≤ 140737488355328; omega) ⟨⟨0, .data⟩, by simp, rfl, rfl⟩, ?_⟩
          refine ⟨tas.quiet (by decide) (by simp) (.agg #[.int .i64 m.q, .string m.x, .string m.k, .string m.b, .bool m.a]) (by rintro s _ ⟨⟩; exact dk.sets_on _ (by simp) _ rfl) (fun s W h => by obtain ⟨d0, d1, d2, d3, d4⟩ := box5 (h _ _ HBY.out); simp [execOp, go_sem, Act.eval, dk.sets_get, ws, List.lookup, d0, d1, d2, d3, d4]), ?_⟩
          refine ⟨tas.st2 (x := J0) (d := 28) (idx := 6) J0_up (by simp) rfl (by simp) (fun g => rfl) (fun g => rfl) (fun g e => rfl) (fun s W => by simp [execOp, go_sem, Act.eval, dk.sets_get, ws, List.lookup]), ?_⟩
          refine ⟨tas.st3 (x := J0) (d := 29) (s1 := 26) (s2 := 28) (idx := 7) J0_up Try.underlying24 hi hz0 hz1 hz2 rfl (by show 0 < 5; decide) rfl rfl ⟨by simp, by simp, by simp⟩ (fun g => rfl) (fun g => rfl) (fun g => rfl) (fun g => rfl) (fun g v => rfl) rfl (by intro u hu; simp at hu; rcases hu with rfl | rfl | rfl | rfl | rfl <;> rfl) (by show l.length ≤ 1048576; omega) (by show (l.length + 1) * 64 ≤ 140737488355328; omega) ⟨⟨4, .data⟩, by simp, rfl, rfl⟩ ⟨⟨6, .data⟩, by simp, rfl, rfl⟩, ?_⟩
          refine ⟨tas.quiet (by decide) (by simp) (.slice (some ⟨g, 0, none⟩) l.length c) (by rintro s _ ⟨⟩; exact dk.sets_on _ (by simp) _ rfl) (fun s W h => by simp [execOp, go_sem, Act.eval, dk.sets_get, ws, List.lookup]), ?_⟩
          refine ⟨tas.quiet (by decide) (by simp) (.int .i64 (l.length : Nat)) (by rintro s _ ⟨⟩; exact dk.sets_on _ (by simp) _ rfl) (fun s W h => by simp [execOp, go_sem, Act.eval, dk.sets_get, ws, List.lookup]), ?_⟩
          refine ⟨tas.quiet (by decide) (by simp) (.slice (some ⟨g, l.length * 5, none⟩) (0) (c - l.length)) (by rintro s _ ⟨⟩; exact dk.sets_on _ (by simp) _ rfl) (fun s W h => by simp [execOp, go_sem, Act.eval, dk.sets_get, ws, List.lookup, r4]), ?_⟩
          refine ⟨tas.st4 (x := J0) (d := 33) (s1 := 29) (s2 := 32) (idx := 11) (c := c - l.length) (a := ⟨g, l.length * 5, none⟩) J0_up Try.underlying24 hi hz0 hz1 hz2 rfl (by show 0 < 5; decide) rfl rfl ⟨by simp, by simp, by simp⟩ (fun g => rfl) (fun g => rfl) (fun g => rfl) (fun g => rfl) (fun g v => rfl) (by show ((l.drop l.length).flatMap flM.c).length = (0) * 5; rw [flat_len flM.c_len, HRL.out]) (fun W hb => by rw [List.drop_length]; intro j u hu; simp at hu) (qsp.oneY _) (by show l.length ≤ 1048576 ∧ 0 ≤ 1048576; omega) (by show (l.length + 1 + (0)) * 64 ≤ 140737488355328; omega) ⟨⟨7, .data⟩, by simp, rfl, rfl⟩, ?_⟩
          exact ⟨tas.st5 (x := J0) (d := 4) (s1 := 33) (idx := 12) J0_up rfl rfl ⟨by simp, by simp⟩ (fun g => rfl) (fun g => rfl) (fun g => rfl) (fun g v => rfl) ⟨⟨11, .data⟩, by simp, rfl, rfl⟩, trivial⟩
        case fin =>
          intro s L X3 hL hC
          obtain ⟨hbl, hv4, hown⟩ := tas.done hC J0_up (N := 13) (by decide) hL
          replace hbl : Below X.heap.size X X3 := hbl
          replace hown : X3.ownsRow X.heap.size 41 5 s.v3 (l.length + 1 + (0)) ((l.take l.length).flatMap flM.c ++ [.int .i64 m.q, .string m.x, .string m.k, .string m.b, .bool m.a] ++ (l.drop l.length).flatMap flM.c) := hown
          have hlen : l.length + 1 + (0) = (back l m).length := by have := back_len l m; omega
          have hfl : (l.take l.length).flatMap flM.c ++ [.int .i64 m.q, .string m.x, .string m.k, .string m.b, .bool m.a] ++ (l.drop l.length).flatMap flM.c = (back l m).flatMap flM.c := by rw [HPT.out]; simp [flM.c]
          rw [hlen, hfl] at hown
          obtain ⟨g5, c5, hv3⟩ : ∃ g5 c5, s.v3 = .slice (some ⟨g5, 0, none⟩) (back l m).length c5 := by
            obtain ⟨_, ⟨_, h0⟩ | ⟨g6, cap, cur, e, _⟩⟩ := hown
            · omega
            · exact ⟨g6, cap, e⟩
          rw [hv3] at hown hv4
          have HOW : Hid (X3.ownsRow w.heap.size 41 5 (.slice (some ⟨g5, 0, none⟩) (back l m).length c5) (back l m).length ((back l m).flatMap flM.c)) := qsp.own_low hown hBX.out.size
          have HBL : Hid (Below X.heap.size X X3) := hbl
          have HV4 : Hid (s.v4 = .slice (some ⟨g5, 0, none⟩) (back l m).length c5) := hv4
          clear hC hL hbl hown hlen hfl hv3 hv4
          go_wp2
          refine bodyPost_ret (v := .slice (some ⟨g5, 0, none⟩) (back l m).length c5) (by simp [results, Try.results28, go_sem, dk.sets_get, ws, List.lookup, HV4.out]) rfl ?_
          exact ⟨g5, c5, rfl, HOW.out, hBX.out.trans (HBL.out.mono hBX.out.size)⟩
end Go.Proofs.Ytnlcmheahihlpaa.qbs

/- The specification's Return: what is meant is Ready again, in its place; new memory alone. -/
namespace Go.Proofs.Ytnlcmheahihlpaa.qrs
open Go.ChangeShapes Go.WideShapes Go.ChangeAt Go.RowKit Go.Proofs.Ytnlcmheahihlpaa.fl Go.Proofs.Ytnlcmheahihlpaa.qsp Go.Proofs.Ytnlcmheahihlpaa.qdp Go.Proofs.Ytnlcmheahihlpaa.qds Go.Proofs.Ytnlcmheahihlpaa.qbk
set_option linter.unusedVariables false

/-- what stands in the loop: the answer so far, its rows, and what is given back -/
structure RT (w : World) (sn : ByteArray) (nx : Int) (n8 B g1 c1 : Nat) (L : List flM.Ms) (vb ub : Option Addr) (vc uc : Nat) (GL LL : List flH.Hd) (X : World) : Prop where
  bel : Below w.heap.size w X
  res : X.heap[w.heap.size + 1]? = some (.cells #[.string ⟨#[]⟩, .int .i64 0, .slice none 0 0, .slice none 0 0] 27 (0, 0))
  out : X.heap[n8]? = some (.cells #[.string sn, .int .i64 nx, .slice (some ⟨g1, 0, none⟩) L.length c1, .slice ub LL.length uc] 27 (0, 0))
  oe : X.ownsRow (w.heap.size + 2) 41 5 (.slice (some ⟨g1, 0, none⟩) L.length c1) L.length (L.flatMap flM.c)
  av : All X B (.slice vb GL.length vc) GL
  au : All X B (.slice ub LL.length uc) LL
  h8 : w.heap.size + 2 ≤ n8
  hB : n8 < B
  hS : B ≤ X.heap.size
section
variable {w : World} {sn : ByteArray} {nx : Int} {n8 B g1 c1 : Nat} {L : List flM.Ms} {vb ub : Option Addr} {vc uc : Nat} {GL LL : List flH.Hd} {X X' : World}
theorem RT.on (h : RT w sn nx n8 B g1 c1 L vb ub vc uc GL LL X) (hb : Below X.heap.size X X') : RT w sn nx n8 B g1 c1 L vb ub vc uc GL LL X' :=
  ⟨h.bel.trans (hb.mono h.bel.size), bstay h.res hb (Array.getElem?_eq_some_iff.1 h.res).1, bstay h.out hb (Array.getElem?_eq_some_iff.1 h.out).1, own_stay h.oe hb, h.av.on hb, h.au.on hb, h.h8, h.hB, Nat.le_trans h.hS hb.size⟩
theorem RT.cap (h : RT w sn nx n8 B g1 c1 L vb ub vc uc GL LL X) : L.length ≤ c1 := by
  obtain ⟨_, ⟨h1, _⟩ | ⟨g', cap, cur, h1, _, _, h4, _⟩⟩ := h.oe
  · cases h1
  · have e2 := (Value.slice.inj h1).2.2
    omega
theorem RT.put {g2 c2 : Nat} {L' : List flM.Ms} {Y : World} (h : RT w sn nx n8 B g1 c1 L vb ub vc uc GL LL Y) (ho : Y.ownsRow X.heap.size 41 5 (.slice (some ⟨g2, 0, none⟩) L'.length c2) L'.length (L'.flatMap flM.c)) (hX : B ≤ X.heap.size) : RT w sn nx n8 B g2 c2 L' vb ub vc uc GL LL (Y.setCell ⟨n8, 2, none⟩ (.slice (some ⟨g2, 0, none⟩) L'.length c2)) := by
  have h8 := h.h8
  have hB := h.hB
  exact ⟨h.bel.setCell (by show w.heap.size ≤ n8; omega) _, boff h.res n8 2 _ (by omega), bset h.out 2 (.slice (some ⟨g2, 0, none⟩) L'.length c2), own_low (own_set ho n8 2 _ (by omega)) (by omega), all_set h.av hB, all_set h.au hB, h8, hB, by simpa using h.hS⟩
end
theorem cells7 {w : World} {B g k : Nat} {l : List flH.Hd} {e : flH.Hd} (h : Row flH.c 7 w B (some ⟨g, 0, none⟩) l) (he : l[k]? = some e) : w.cell? ⟨g, k * 7 + 2, none⟩ = some (.int .i64 e.m.q) ∧ w.cell? ⟨g, k * 7 + 3, none⟩ = some (.string e.m.x) ∧ w.cell? ⟨g, k * 7 + 4, none⟩ = some (.string e.m.k) ∧ w.cell? ⟨g, k * 7 + 5, none⟩ = some (.string e.m.b) ∧ w.cell? ⟨g, k * 7 + 6, none⟩ = some (.bool e.m.a) := by
  rcases h with h0 | ⟨b', off', hh, hlt, hc⟩
  · rw [h0] at he; simp at he
  · cases hh
    have := fun j u (hj : (flH.c e)[j]? = some u) => hc k _ he j u hj
    simp only [Nat.zero_add] at this
    exact ⟨this 2 _ rfl, this 3 _ rfl, this 4 _ rfl, this 5 _ rfl, this 6 _ rfl⟩
theorem all_some {W : World} {B vc : Nat} {vb : Option Addr} {l : List flH.Hd} {e : flH.Hd} {k : Nat} (h : All W B (.slice vb l.length vc) l) (he : l[k]? = some e) : ∃ g, vb = some ⟨g, 0, none⟩ := by
  rcases h with ⟨h1, _⟩ | ⟨g, cap, h1, _⟩
  · rw [h1] at he; simp at he
  · exact ⟨g, (Value.slice.inj h1).1⟩
theorem backs_take {l : List flM.Ms} {GL : List flH.Hd} {k : Nat} {e : flH.Hd} (he : GL[k]? = some e) : backs l (GL.take (k + 1)) = back (backs l (GL.take k)) (again e) := by
  rw [List.take_add_one, he]
  exact backs_snoc _ _ _

set_option maxRecDepth 100000 in
set_option maxHeartbeats 4000000 in
theorem spec_ret (sn : ByteArray) (nx : Int) (es : List flM.Ms) (ms : List flH.Hd) (ga ha : Option Addr) (cg ch : Nat) (o t : Int) (a : Bool) (w : World) (F : Fit sn es ms) (hGQ : NZ ga es.length cg) (hHQ : NZ ha ms.length ch) (hY : Row flM.c 5 w w.heap.size ga es) (hE : Row flH.c 7 w w.heap.size ha ms) :
    Calls Try.prog 7 #[.agg #[.string sn, .int .i64 nx, .slice ga es.length cg, .slice ha ms.length ch], .int .i64 o, .int .i64 t, .bool a] w fun e w' => ∃ sa ce sb cb, e = .returned (.tuple #[.agg #[.string sn, .int .i64 nx, .slice sa (ansR sn nx es ms o t a).length ce, .slice sb (ansH sn nx es ms o t a).length cb], .int .i64 (ansC sn nx es ms o t a)]) ∧ OL flM.c 5 41 w' (w.heap.size + 2) sa ce (ansR sn nx es ms o t a) ∧ HL w' (w.heap.size + 2) sb cb (ansH sn nx es ms o t a) ∧ Below w.heap.size w w' := by
  have hWb : Below w.heap.size w ((w.alloc (.cells #[.string sn, .int .i64 nx, .slice ga es.length cg, .slice ha ms.length ch] 27)).alloc (.cells #[.string ⟨#[]⟩, .int .i64 0, .slice none 0 0, .slice none 0 0] 27)) := ((Below.refl _ _).alloc (Nat.le_refl _) _).alloc (by simp) _
  have hcopy := spec_copy sn nx es ms ga ha cg ch ((w.alloc (.cells #[.string sn, .int .i64 nx, .slice ga es.length cg, .slice ha ms.length ch] 27)).alloc (.cells #[.string ⟨#[]⟩, .int .i64 0, .slice none 0 0, .slice none 0 0] 27)) F hGQ hHQ (hY.inn hWb) (hE.inn hWb)
  have HF : Hid (Fit sn es ms) := F
  have HY : Hid (Row flM.c 5 w w.heap.size ga es) := hY
  have HE : Hid (Row flH.c 7 w w.heap.size ha ms) := hE
  have HAH : Hid (ansH sn nx es ms o t a = if okB sn nx es ms = true then left o t a ms else ms) := rfl
  have HAR : Hid (ansR sn nx es ms o t a = if okB sn nx es ms = true then backs es (gone o t a ms) else es) := rfl
  have HAC : Hid (ansC sn nx es ms o t a = if okB sn nx es ms = true then ((gone o t a ms).length : Int) else 0) := rfl
  obtain ⟨AH, hAH⟩ : ∃ AH, ansH sn nx es ms o t a = AH := ⟨_, rfl⟩
  obtain ⟨AC, hAC⟩ : ∃ AC, ansC sn nx es ms o t a = AC := ⟨_, rfl⟩
  obtain ⟨AR, hAR⟩ : ∃ AR, ansR sn nx es ms o t a = AR := ⟨_, rfl⟩
  rw [hAR] at HAR
  rw [hAH] at HAH
  rw [hAC] at HAC
  simp only [hAH, hAC, hAR]
  clear hY hE F hAH hAC hAR
  go_enter Try.func7, Try.ntmps7
  go_wp2_with (go_at_call 26; fail)
  refine hcopy.mono ?_
  rintro e w1 ⟨g1, c1, h1, c2, rfl, oe1, om1, _, hb1⟩
  have hs := first_out sn nx es ms ga ha cg ch w w1 g1 c1 h1 c2 hb1 oe1 om1
  obtain ⟨X, hX⟩ : ∃ X, w1.alloc (.cells #[.string sn, .int .i64 nx, .slice (some ⟨g1, 0, none⟩) es.length c1, .slice (some ⟨h1, 0, none⟩) ms.length c2] 27) = X := ⟨_, rfl⟩
  rw [hX] at hs
  have HSP : Hid (SP w sn nx es ms ga ha cg ch w1.heap.size nx g1 c1 h1 c2 es X) := hs
  have x0 : X.cell? ⟨w.heap.size, 0, none⟩ = some (.string sn) := bcell hs.box rfl
  have x2 : X.cell? ⟨w.heap.size, 1, none⟩ = some (.int .i64 nx) := bcell hs.box rfl
  have x3 : X.cell? ⟨w.heap.size, 2, none⟩ = some (.slice ga es.length cg) := bcell hs.box rfl
  have x4 : X.cell? ⟨w.heap.size, 3, none⟩ = some (.slice ha ms.length ch) := bcell hs.box rfl
  have hok := spec_okb sn nx es ms ga ha cg ch X HF.out (HY.out.inn hs.bel) (HE.out.inn hs.bel)
  clear hcopy oe1 om1 hb1 hWb hs
  cases hob : okB sn nx es ms with
  | false =>
    rw [hob] at hok HAH HAC HAR
    obtain rfl : ms = AH := HAH.out.symm
    obtain rfl : es = AR := HAR.out.symm
    obtain rfl : (0 : Int) = AC := HAC.out.symm
    go_wp2_with (go_at_call 12; fail)
    clear hX
    refine hok.mono ?_
    rintro e w2 ⟨rfl, hb2⟩
    have hs := HSP.out.on hb2
    have HS2 : Hid (SP w sn nx es ms ga ha cg ch w1.heap.size nx g1 c1 h1 c2 es w2) := hs
    have n0 : w2.cell? ⟨w1.heap.size, 0, none⟩ = some (.string sn) := bcell hs.out rfl
    have n2 : w2.cell? ⟨w1.heap.size, 1, none⟩ = some (.int .i64 nx) := bcell hs.out rfl
    have n3 : w2.cell? ⟨w1.heap.size, 2, none⟩ = some (.slice (some ⟨g1, 0, none⟩) es.length c1) := bcell hs.out rfl
    have n4 : w2.cell? ⟨w1.heap.size, 3, none⟩ = some (.slice (some ⟨h1, 0, none⟩) ms.length c2) := bcell hs.out rfl
    have z0 : w2.cell? ⟨w.heap.size + 1, 0, none⟩ = some (.string ⟨#[]⟩) := bcell hs.res rfl
    have z2 : w2.cell? ⟨w.heap.size + 1, 1, none⟩ = some (.int .i64 0) := bcell hs.res rfl
    have z3 : w2.cell? ⟨w.heap.size + 1, 2, none⟩ = some (.slice none 0 0) := bcell hs.res rfl
    have z4 : w2.cell? ⟨w.heap.size + 1, 3, none⟩ = some (.slice none 0 0) := bcell hs.res rfl
    have z0f := bfree hs.res 0
    have z2f := bfree hs.res 1
    have z3f := bfree hs.res 2
    have z4f := bfree hs.res 3
    clear hok hs HSP x0 x2 x3 x4
    go_wp2
    refine bodyPost_ret (v := .tuple #[.agg #[.string sn, .int .i64 nx, .slice (some ⟨g1, 0, none⟩) es.length c1, .slice (some ⟨h1, 0, none⟩) ms.length c2], .int .i64 0]) (by simp [results, Try.results7, go_sem, z0, z2, z3, z4]) rfl ⟨_, _, _, _, rfl, ?_, ?_, ?_⟩
    · exact fin_row flM.c_len HS2.out.oe
    · exact .inr ⟨_, rfl, fin_row flH.c_len HS2.out.om⟩
    · exact fin_below HS2.out.bel (Nat.le_succ _)
  | true =>
    rw [hob] at hok HAH HAC HAR
    go_wp2_with (go_at_call 12; fail)
    clear hX
    refine hok.mono ?_
    rintro e w2 ⟨rfl, hb2⟩
    have hs := HSP.out.on hb2
    have HS2 : Hid (SP w sn nx es ms ga ha cg ch w1.heap.size nx g1 c1 h1 c2 es w2) := hs
    clear x0 x2 x3 x4
    have x0 : w2.cell? ⟨w.heap.size, 0, none⟩ = some (.string sn) := bcell hs.box rfl
    have x2 : w2.cell? ⟨w.heap.size, 1, none⟩ = some (.int .i64 nx) := bcell hs.box rfl
    have x3 : w2.cell? ⟨w.heap.size, 2, none⟩ = some (.slice ga es.length cg) := bcell hs.box rfl
    have x4 : w2.cell? ⟨w.heap.size, 3, none⟩ = some (.slice ha ms.length ch) := bcell hs.box rfl
    have htk := spec_take sn nx ga es.length cg ms ha ch o t a w2 HF.out.ml (HE.out.inn hs.bel)
    have hw1 : w1.heap.size < w2.heap.size := (Array.getElem?_eq_some_iff.1 hs.out).1
    have h8 := hs.h8
    clear hok hs HSP
    go_wp2_with (go_at_call 27; fail)
    refine htk.mono ?_
    rintro e w3 ⟨v, u, rfl, hk⟩
    obtain ⟨GL, hGL⟩ : ∃ GL, gone o t a ms = GL := ⟨_, rfl⟩
    obtain ⟨LL, hLL⟩ : ∃ LL, left o t a ms = LL := ⟨_, rfl⟩
    have HAH2 : Hid (AH = left o t a ms) := HAH.out
    have HAC2 : Hid (AC = ((gone o t a ms).length : Int)) := HAC.out
    rw [hLL] at hk HAH2
    rw [hGL] at hk HAC2
    obtain rfl : AH = LL := HAH2.out
    obtain rfl : AC = (GL.length : Int) := HAC2.out
    have HAR2 : Hid (AR = backs es (gone o t a ms)) := HAR.out
    rw [hGL] at HAR2
    have HGLE : Hid (GL.length ≤ ms.length) := by show GL.length ≤ ms.length; rw [← hGL]; exact gone_le o t a ms
    have hln := (okB_true.1 hob).ln
    obtain ⟨vb, vc, rfl⟩ := hk.av.form
    obtain ⟨ub, uc, rfl⟩ := hk.au.form
    have hs := HS2.out.on hk.bel
    have hne1 : w1.heap.size ≠ w.heap.size + 1 := by omega
    have hne2 : w.heap.size + 1 ≠ w1.heap.size := by omega
    have n4 : w3.cell? ⟨w1.heap.size, 3, none⟩ = some (.slice (some ⟨h1, 0, none⟩) ms.length c2) := bcell hs.out rfl
    have n4f := bfree hs.out 3
    have hgne : g1 ≠ w1.heap.size := owns_ne (by decide) hs.oe hs.out
    have HR0 : Hid (RT w sn nx w1.heap.size w2.heap.size g1 c1 (backs es (GL.take 0)) vb ub vc uc GL AH (w3.setCell ⟨w1.heap.size, 3, none⟩ (.slice ub AH.length uc))) := ⟨hs.bel.setCell (by show w.heap.size ≤ w1.heap.size; omega) _, boff hs.res _ _ _ hne2, bset hs.out 3 _, owns_set hs.oe hgne _, all_set hk.av hw1, all_set hk.au hw1, h8, hw1, by simpa using hk.lo⟩
    clear htk hk hs x0 x2 x3 x4 hGL hLL HAH HAC HAR HAH2 HAC2 HS2
    go_wp2
    go_loopw [13] (fun v wr => ∃ k : Nat, k ≤ GL.length ∧ v = .int .i64 k ∧ ∃ g3 c3, Hid (RT w sn nx w1.heap.size w2.heap.size g3 c3 (backs es (GL.take k)) vb ub vc uc GL AH wr)) (fun v _ => GL.length - (intOf v).toNat)
    case atStart => exact ⟨0, Nat.zero_le _, rfl, _, _, HR0⟩
    case round =>
      obtain ⟨k, hk, rfl, g3, c3, hR⟩ := hrel
      clear HR0 n4 n4f
      have hlL : Hid ((backs es (GL.take k)).length = es.length + k) := by show (backs es (GL.take k)).length = es.length + k; rw [backs_len, List.length_take, Nat.min_eq_left hk]
      have hSz := hR.out.hS
      have hgl := HGLE.out
      by_cases hkl : k < GL.length
      · have i2 : (k : Int) < (GL.length : Int) := by omega
        have HG : Hid (GL[k]? = some GL[k]) := List.getElem?_eq_getElem hkl
        obtain ⟨⟨ht, ho, ⟨q, x, y, z, ag⟩⟩, he⟩ : ∃ e, GL[k] = e := ⟨_, rfl⟩
        rw [he] at HG
        obtain ⟨b0, rfl⟩ := all_some hR.out.av HG.out
        obtain ⟨k2, k3, k4, k5, k6⟩ := cells7 hR.out.av.row HG.out
        have HBT : Hid (backs es (GL.take (k + 1)) = back (backs es (GL.take k)) ⟨q, x, y, z, true⟩) := backs_take HG.out
        obtain ⟨LK, hLK⟩ : ∃ LK, backs es (GL.take k) = LK := ⟨_, rfl⟩
        rw [hLK] at hR hlL HBT
        have hst : Below wr.heap.size wr (wr.alloc (.cells #[.int .i64 q, .string x, .string y, .string z, .bool true] 41)) := (Below.refl _ _).alloc (Nat.le_refl _) _
        have hbk := qbs.spec_back LK g3 c3 ⟨q, x, y, z, true⟩ _ (by have := hlL.out; omega) hR.out.cap ((row_owns flM.c_len hR.out.oe).inn hst)
        have HRW : Hid (RT w sn nx w1.heap.size w2.heap.size g3 c3 LK (some ⟨b0, 0, none⟩) ub vc uc GL AH (wr.alloc (.cells #[.int .i64 q, .string x, .string y, .string z, .bool true] 41))) := hR.out.on hst
        have o2 : wr.cell? ⟨w1.heap.size, 2, none⟩ = some (.slice (some ⟨g3, 0, none⟩) LK.length c3) := bcell hR.out.out rfl
        have hw18 : w1.heap.size < wr.heap.size := by omega
        have hne5 : w1.heap.size ≠ wr.heap.size := by omega
        have hne6 : wr.heap.size ≠ w1.heap.size := by omega
        have hBB : b0 < wr.heap.size := by
          rcases hR.out.av with ⟨h1, _⟩ | ⟨g9, cap9, h1, ho9⟩
          · rw [h1] at hkl; simp at hkl
          · have := (Value.slice.inj h1).1
            cases this
            exact (ho9.lt _ rfl).2
        clear he hLK hst
        go_wp2_with (go_at_call 28; fail)
        refine hbk.mono ?_
        rintro e w4 ⟨g4, c4, rfl, how, hb4⟩
        have hR4 := HRW.out.on hb4
        have o3 : w4.cell? ⟨w1.heap.size, 2, none⟩ = some (.slice (some ⟨g3, 0, none⟩) LK.length c3) := bcell hR4.out rfl
        have o3f := bfree hR4.out 2
        have hRN := hR4.put how HRW.out.hS
        rw [← HBT.out] at hRN
        have HRN : Hid (RT w sn nx w1.heap.size w2.heap.size g4 c4 (backs es (GL.take (k + 1))) (some ⟨b0, 0, none⟩) ub vc uc GL AH (w4.setCell ⟨w1.heap.size, 2, none⟩ (.slice (some ⟨g4, 0, none⟩) (backs es (GL.take (k + 1))).length c4))) := hRN
        rw [← HBT.out]
        clear hbk how hR4 hRN o2 k2 k3 k4 k5 k6 HRW hR
        go_wp2
        go_roundw
        case rel => exact ⟨k + 1, by omega, by go_num, _, _, HRN⟩
        case measure => simp [intOf]; omega
      · obtain rfl : k = GL.length := by omega
        rw [List.take_length] at hR hlL
        rw [← HAR2.out] at hR
        have n0 : wr.cell? ⟨w1.heap.size, 0, none⟩ = some (.string sn) := bcell hR.out.out rfl
        have n2 : wr.cell? ⟨w1.heap.size, 1, none⟩ = some (.int .i64 nx) := bcell hR.out.out rfl
        have n3 : wr.cell? ⟨w1.heap.size, 2, none⟩ = some (.slice (some ⟨g3, 0, none⟩) AR.length c3) := bcell hR.out.out rfl
        have n4 : wr.cell? ⟨w1.heap.size, 3, none⟩ = some (.slice ub AH.length uc) := bcell hR.out.out rfl
        have z0 : wr.cell? ⟨w.heap.size + 1, 0, none⟩ = some (.string ⟨#[]⟩) := bcell hR.out.res rfl
        have z2 : wr.cell? ⟨w.heap.size + 1, 1, none⟩ = some (.int .i64 0) := bcell hR.out.res rfl
        have z3 : wr.cell? ⟨w.heap.size + 1, 2, none⟩ = some (.slice none 0 0) := bcell hR.out.res rfl
        have z4 : wr.cell? ⟨w.heap.size + 1, 3, none⟩ = some (.slice none 0 0) := bcell hR.out.res rfl
        have z0f := bfree hR.out.res 0
        have z2f := bfree hR.out.res 1
        have z3f := bfree hR.out.res 2
        have z4f := bfree hR.out.res 3
        clear hlL HAR2
        go_wp2
        refine bodyPost_ret (v := .tuple #[.agg #[.string sn, .int .i64 nx, .slice (some ⟨g3, 0, none⟩) AR.length c3, .slice ub AH.length uc], .int .i64 GL.length]) (by simp [results, Try.results7, go_sem, z0, z2, z3, z4]) rfl ⟨_, _, _, _, rfl, ?_, ?_, ?_⟩
        · exact fin_row flM.c_len hR.out.oe
        · exact fin_allH (B := w2.heap.size) hR.out.au (by omega) (by omega)
        · exact fin_below hR.out.bel (Nat.le_succ _)
end Go.Proofs.Ytnlcmheahihlpaa.qrs
