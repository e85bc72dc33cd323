/- Nine cells of two boxes written: what lies elsewhere stays. -/
import Derived.Test.YtnlcmheahihlpaaDoneKit
import Derived.Test.YtnlcmheahihlpaaFlatOwn
import Derived.Maps.AppendAt
import Derived.Test.YtnlcmheahihlpaaQw07

/- append(append(append([]T{}, a...), x), b...) laid into a field, in one region that draws its order: the row that it leaves. -/
namespace Go.Proofs.Ytnlcmheahihlpaa.ta
open Go.ChangeShapes Go.WideShapes Go.ChangeAt Go.RowKit Go.Proofs.Ytnlcmheahihlpaa.fl
set_option linter.unusedVariables false

/-- what is drawn: the empty row, the row behind the first append, the new one's place, the rows behind the other two -/
structure G where
  e0 : Nat
  v1 : Value
  h : Nat
  v2 : Value
  v3 : Value
/-- the world ahead, the type and its cells, the cells ahead, of the new one and behind, how many ahead and behind, and where the row is laid -/
structure Pr where
  W0 : World
  T : TypeId
  n : Nat
  xs : List Value
  ms : List Value
  ys : List Value
  k : Nat
  m : Nat
  b : Nat
  j : Nat
structure D (p : Pr) (g : G) (c0 c1 c2 c3 c4 c5 : Bool) (W : World) : Prop where
  bel : ∃ V, Below p.W0.heap.size p.W0 V ∧ W = if c5 then V.setCell ⟨p.b, p.j, none⟩ g.v3 else V
  at0 : c0 = true → c1 = false → W.ownsRow p.W0.heap.size p.T p.n (.slice (some ⟨g.e0, 0, none⟩) 0 0) 0 []
  at1 : c1 = true → c0 = true ∧ (c3 = false → W.ownsRow p.W0.heap.size p.T p.n g.v1 p.k p.xs)
  at2 : c2 = true → c3 = false → W.heap[g.h]? = some (.cells p.ms.toArray p.T (0, 0)) ∧ (c0 = true → c1 = false → g.e0 ≠ g.h) ∧ (c1 = true → g.v1.ownBlock ≠ some g.h)
  at3 : c3 = true → c1 = true ∧ c2 = true ∧ (c4 = false → W.ownsRow p.W0.heap.size p.T p.n g.v2 (p.k + 1) (p.xs ++ p.ms))
  at4 : c4 = true → c3 = true ∧ W.ownsRow p.W0.heap.size p.T p.n g.v3 (p.k + 1 + p.m) (p.xs ++ p.ms ++ p.ys)
  at5 : c5 = true → c4 = true
section
variable {p : Pr} {g : G} {c0 c1 c2 c3 c4 c5 : Bool} {W W' : World} {v : Value}
theorem D.size (h : D p g c0 c1 c2 c3 c4 c5 W) : p.W0.heap.size ≤ W.heap.size := by
  obtain ⟨V, hV, rfl⟩ := h.bel
  have := hV.size
  split
  · simpa using this
  · exact this
theorem D.old (h : D p g c0 c1 c2 c3 c4 c5 W) {b : Nat} {o : Obj} (hb : p.W0.heap[b]? = some o) (hne : b ≠ p.b) : W.heap[b]? = some o := by
  obtain ⟨V, hV, rfl⟩ := h.bel
  have := bstay hb hV (Array.getElem?_eq_some_iff.1 hb).1
  split
  · exact boff this _ _ _ hne
  · exact this
theorem D.below (h : D p g c0 c1 c2 c3 c4 false W) : Below p.W0.heap.size p.W0 W := by
  obtain ⟨V, hV, rfl⟩ := h.bel
  exact hV
theorem no31 (h : D p g c0 false c2 c3 c4 c5 W) : c3 = false := by
  cases c3 with
  | false => rfl
  | true => have := (h.at3 rfl).1; cases this
theorem no32 (h : D p g c0 c1 false c3 c4 c5 W) : c3 = false := by
  cases c3 with
  | false => rfl
  | true => have := (h.at3 rfl).2.1; cases this
theorem no4 (h : D p g c0 c1 c2 false c4 c5 W) : c4 = false := by
  cases c4 with
  | false => rfl
  | true => have := (h.at4 rfl).1; cases this
theorem no5 (h : D p g c0 c1 c2 c3 false c5 W) : c5 = false := by
  cases c5 with
  | false => rfl
  | true => have := h.at5 rfl; cases this
theorem no1 (h : D p g false c1 c2 c3 c4 c5 W) : c1 = false := by
  cases c1 with
  | false => rfl
  | true => have := (h.at1 rfl).1; cases this
/-- the empty row is made -/
theorem D.s0 (h : D p g false c1 c2 c3 c4 c5 W) : D p { g with e0 := W.heap.size } true c1 c2 c3 c4 c5 (W.alloc (.cells #[] p.T)) := by
  obtain rfl := no1 h
  obtain rfl := no31 h
  obtain rfl := no4 h
  obtain rfl := no5 h
  have hs := h.size
  refine ⟨⟨_, h.below.alloc hs _, rfl⟩, fun _ _ => World.ownsRow_made W #[] 0 hs (by unfold maxLen; omega) (by simp), fun e => (by cases e), fun e _ => ?_, fun e => (by cases e), fun e => (by cases e), fun e => (by cases e)⟩
  obtain ⟨h1, _, h3⟩ := h.at2 e rfl
  have := (Array.getElem?_eq_some_iff.1 h1).1
  exact ⟨bold h1 _, fun _ _ => (by show W.heap.size ≠ g.h; omega), h3⟩
/-- the first append -/
theorem D.s1 (h : D p g c0 false c2 c3 c4 c5 W) (h0 : c0 = true) (hg : W.grownBy W' (some g.e0)) (ho : W'.ownsRow p.W0.heap.size p.T p.n v p.k p.xs) (hat : v.ownBlock = some g.e0 ∨ v.ownBlock = some W.heap.size) : D p { g with v1 := v } c0 true c2 c3 c4 c5 W' := by
  obtain rfl := no31 h
  obtain rfl := no4 h
  obtain rfl := no5 h
  have hs := h.size
  have he := ((h.at0 h0 rfl).lt g.e0 rfl)
  refine ⟨⟨_, h.below.grown hg hs (fun b hb => by cases hb; exact he.1), rfl⟩, fun _ e => (by cases e), fun _ => ⟨h0, fun _ => ho⟩, fun e _ => ?_, fun e => (by cases e), fun e => (by cases e), fun e => (by cases e)⟩
  obtain ⟨h1, h2, _⟩ := h.at2 e rfl
  have hne := h2 h0 rfl
  have hlt := (Array.getElem?_eq_some_iff.1 h1).1
  refine ⟨(hg.block _ hlt (fun e => by have := Option.some.inj e; omega)).trans h1, fun _ e => (by cases e), fun _ e => ?_⟩
  have e' : v.ownBlock = some g.h := e
  rcases hat with ha | ha
  · rw [ha] at e'; have := Option.some.inj e'; omega
  · rw [ha] at e'; simp at e'; omega
/-- the new one's place -/
theorem D.s2 (h : D p g c0 c1 false c3 c4 c5 W) : D p { g with h := W.heap.size } c0 c1 true c3 c4 c5 (W.alloc (.cells p.ms.toArray p.T)) := by
  obtain rfl := no32 h
  obtain rfl := no4 h
  obtain rfl := no5 h
  have hs := h.size
  refine ⟨⟨_, h.below.alloc hs _, rfl⟩, fun a b => (h.at0 a b).alloc _, fun a => ⟨(h.at1 a).1, fun b => ((h.at1 a).2 b).alloc _⟩, fun _ _ => ⟨bnew W _ _, fun a b => ?_, fun a e => ?_⟩, fun e => (by cases e), fun e => (by cases e), fun e => (by cases e)⟩
  · have := ((h.at0 a b).lt g.e0 rfl).2
    show g.e0 ≠ W.heap.size
    omega
  · have := (((h.at1 a).2 rfl).lt _ e).2
    have : W.heap.size < W.heap.size := this
    omega
/-- the second append -/
theorem D.s3 (h : D p g c0 c1 c2 false c4 c5 W) (h1 : c1 = true) (h2 : c2 = true) (hg : W.grownBy W' g.v1.ownBlock) (ho : W'.ownsRow p.W0.heap.size p.T p.n v (p.k + 1) (p.xs ++ p.ms)) : D p { g with v2 := v } c0 c1 c2 true c4 c5 W' := by
  obtain rfl := no4 h
  obtain rfl := no5 h
  have hs := h.size
  have he := ((h.at1 h1).2 rfl).lt
  exact ⟨⟨_, h.below.grown hg hs (fun b hb => (he b hb).1), rfl⟩, fun a b => (by rw [h1] at b; cases b), fun a => ⟨(h.at1 a).1, fun e => (by cases e)⟩, fun _ e => (by cases e), fun _ => ⟨h1, h2, fun _ => ho⟩, fun e => (by cases e), fun e => (by cases e)⟩
/-- the third append -/
theorem D.s4 (h : D p g c0 c1 c2 c3 false c5 W) (h3 : c3 = true) (hg : W.grownBy W' g.v2.ownBlock) (ho : W'.ownsRow p.W0.heap.size p.T p.n v (p.k + 1 + p.m) (p.xs ++ p.ms ++ p.ys)) : D p { g with v3 := v } c0 c1 c2 c3 true c5 W' := by
  obtain rfl := no5 h
  have hs := h.size
  have he := ((h.at3 h3).2.2 rfl).lt
  obtain ⟨l1, l2, _⟩ := h.at3 h3
  exact ⟨⟨_, h.below.grown hg hs (fun b hb => (he b hb).1), rfl⟩, fun a b => (by rw [l1] at b; cases b), fun a => ⟨(h.at1 a).1, fun e => (by rw [h3] at e; cases e)⟩, fun _ e => (by rw [h3] at e; cases e), fun _ => ⟨l1, l2, fun e => (by cases e)⟩, fun _ => ⟨h3, ho⟩, fun e => (by cases e)⟩
/-- it is laid into its field -/
theorem D.s5 (h : D p g c0 c1 c2 c3 c4 false W) (h4 : c4 = true) (hb : p.b < p.W0.heap.size) : D p g c0 c1 c2 c3 c4 true (W.setCell ⟨p.b, p.j, none⟩ g.v3) := by
  obtain ⟨h3, ho⟩ := h.at4 h4
  obtain ⟨l1, l2, _⟩ := h.at3 h3
  refine ⟨⟨W, h.below, rfl⟩, fun a b => (by rw [l1] at b; cases b), fun a => ⟨(h.at1 a).1, fun e => (by rw [h3] at e; cases e)⟩, fun _ e => (by rw [h3] at e; cases e), fun _ => ⟨l1, l2, fun e => (by rw [h4] at e; cases e)⟩, fun _ => ⟨h3, ?_⟩, fun _ => h4⟩
  refine ho.kept (row := some p.b) ⟨rfl, rfl, rfl, by simp, fun k hk hne => Below.heap_setCell _ _ _ _ (fun e => hne (by rw [e]))⟩ ?_
  right
  intro e
  have := (ho.lt _ e).1
  omega
end
theorem add0 (g j : Nat) : (⟨g, 0, none⟩ : Addr).add j = ⟨g, j, none⟩ := by unfold Addr.add; split <;> simp_all
theorem more_on (L : Nat → Bool) (i : Nat) : dn.more L i i = true := by unfold dn.more; rw [if_pos rfl]
theorem more_off (L : Nat → Bool) {i j : Nat} (h : j ≠ i) : dn.more L i j = L j := by unfold dn.more; rw [if_neg h]
/-- the numbers of the six operations that count -/
structure J where
  j0 : Nat
  j1 : Nat
  j2 : Nat
  j3 : Nat
  j4 : Nat
  j5 : Nat
def J.up (x : J) : Prop := x.j0 < x.j1 ∧ x.j1 < x.j2 ∧ x.j2 < x.j3 ∧ x.j3 < x.j4 ∧ x.j4 < x.j5
def C (p : Pr) (x : J) (g : G) (L : Nat → Bool) (W : World) : Prop := D p g (L x.j0) (L x.j1) (L x.j2) (L x.j3) (L x.j4) (L x.j5) W
theorem C.d {p : Pr} {x : J} {g : G} {L : Nat → Bool} {W : World} (h : C p x g L W) : D p g (L x.j0) (L x.j1) (L x.j2) (L x.j3) (L x.j4) (L x.j5) W := h
section
variable {p : Pr} {x : J} {ws : G → List (Nat × Value)} {act : Act} {Q : Exit → Act → World → Prop} {o : Oper}
theorem quiet {i : Nat} (hi : i ≠ x.j0 ∧ i ≠ x.j1 ∧ i ≠ x.j2 ∧ i ≠ x.j3 ∧ i ≠ x.j4 ∧ i ≠ x.j5) (hsel : ∀ cs b, o.op ≠ .select cs b) (u : Value) (hd : ∀ s d, o.dst = some d → (dk.sets act (ws s)).tmps[d]? = some u)
    (hrun : ∀ s W, (∀ (b : Nat) (o : Obj), p.W0.heap[b]? = some o → b ≠ p.b → W.heap[b]? = some o) → (execOp (dk.sets act (ws s)).eval o).run Try.prog W = .ok (.value u) W) : gh.Step Try.prog (fun s => dk.sets act (ws s)) (C p x) Q i o := by
  refine gh.step_val hsel fun s L W hdp h0 hC => ⟨s, u, gh.Agree.refl _ _, hd s, ?_⟩
  rw [hrun s W (fun b o hb hne => hC.d.old hb hne)]
  refine ⟨rfl, ?_⟩
  obtain ⟨i0, i1, i2, i3, i4, i5⟩ := hi
  unfold C
  rw [more_off L i0.symm, more_off L i1.symm, more_off L i2.symm, more_off L i3.symm, more_off L i4.symm, more_off L i5.symm]
  exact hC
theorem st0 (hx : x.up) {d idx : Nat} (hsel : ∀ cs b, o.op ≠ .select cs b) (hdst : o.dst = some d) (hsz : d < act.tmps.size) (ld : ∀ g, (ws g).lookup d = some (.slice (some ⟨g.e0, 0, none⟩) 0 0)) (hidx : ∀ g, ((ws g)[idx]?.map (·.1)) = some d) (hset : ∀ g (e : Nat), ws { g with e0 := e } = (ws g).set idx (d, .slice (some ⟨e, 0, none⟩) 0 0))
    (hrun : ∀ s W, (execOp (dk.sets act (ws s)).eval o).run Try.prog W = .ok (.value (.slice (some ⟨W.heap.size, 0, none⟩) 0 0)) (W.alloc (.cells #[] p.T))) : gh.Step Try.prog (fun s => dk.sets act (ws s)) (C p x) Q x.j0 o := by
  refine gh.step_val hsel fun s L W hdp h0 hC => ⟨{ s with e0 := W.heap.size }, .slice (some ⟨W.heap.size, 0, none⟩) 0 0, dk.agree_sets idx d _ hdst (hidx s) (hset s _), (fun d' hd => by rw [hdst] at hd; cases hd; exact dk.sets_on _ hsz _ (ld _)), ?_⟩
  rw [hrun]
  refine ⟨rfl, ?_⟩
  obtain ⟨u0, u1, u2, u3, u4⟩ := hx
  have hd := hC.d
  rw [h0] at hd
  unfold C
  rw [more_on, more_off L (show x.j1 ≠ x.j0 by omega), more_off L (show x.j2 ≠ x.j0 by omega), more_off L (show x.j3 ≠ x.j0 by omega), more_off L (show x.j4 ≠ x.j0 by omega), more_off L (show x.j5 ≠ x.j0 by omega)]
  exact hd.s0
theorem st2 (hx : x.up) {d idx : Nat} (hsel : ∀ cs b, o.op ≠ .select cs b) (hdst : o.dst = some d) (hsz : d < act.tmps.size) (ld : ∀ g, (ws g).lookup d = some (.slice (some ⟨g.h, 0, none⟩) 1 1)) (hidx : ∀ g, ((ws g)[idx]?.map (·.1)) = some d) (hset : ∀ g (e : Nat), ws { g with h := e } = (ws g).set idx (d, .slice (some ⟨e, 0, none⟩) 1 1))
    (hrun : ∀ s W, (execOp (dk.sets act (ws s)).eval o).run Try.prog W = .ok (.value (.slice (some ⟨W.heap.size, 0, none⟩) 1 1)) (W.alloc (.cells p.ms.toArray p.T))) : gh.Step Try.prog (fun s => dk.sets act (ws s)) (C p x) Q x.j2 o := by
  refine gh.step_val hsel fun s L W hdp h0 hC => ⟨{ s with h := W.heap.size }, .slice (some ⟨W.heap.size, 0, none⟩) 1 1, dk.agree_sets idx d _ hdst (hidx s) (hset s _), (fun d' hd => by rw [hdst] at hd; cases hd; exact dk.sets_on _ hsz _ (ld _)), ?_⟩
  rw [hrun]
  refine ⟨rfl, ?_⟩
  obtain ⟨u0, u1, u2, u3, u4⟩ := hx
  have hd := hC.d
  rw [h0] at hd
  unfold C
  rw [more_on, more_off L (show x.j0 ≠ x.j2 by omega), more_off L (show x.j1 ≠ x.j2 by omega), more_off L (show x.j3 ≠ x.j2 by omega), more_off L (show x.j4 ≠ x.j2 by omega), more_off L (show x.j5 ≠ x.j2 by omega)]
  exact hd.s2
theorem app_run {ST s1 s2 m c : Nat} {a : Addr} {v v' : Value} {f : Act} {W w' : World} (hop : o.op = .call { callee := .builtin .append, args := #[.tmp s1, .tmp s2], argTypes := #[ST, ST] }) (e1 : f.eval (.tmp s1) = v) (e2 : f.eval (.tmp s2) = .slice (some a) m c) (hr : (Builtin.append_ #[ST, ST] o.type #[v, .slice (some a) m c]).run Try.prog W = .ok v' w') : (execOp f.eval o).run Try.prog W = .ok (.value v') w' := by
  unfold execOp
  simp only [hop, resolve, invoke, builtin, Sem.run_bind, Sem.run_pure, Result.andThen_ok, List.map_toArray, List.map_cons, List.map_nil, e1, e2, hr]
variable {ST : TypeId} {i0 : TypeInfo} {z : Value} {bytes : Nat}
theorem st1 (hx : x.up) (ht : Try.prog.underlying ST = some (.slice p.T)) (hi : Try.prog.info? p.T = some i0) (hz : i0.zero = some z) (hn : i0.size = p.n) (hb : i0.bytes = bytes) (hzs : z.cells.size = p.n) (hn0 : 0 < p.n)
    {s1 s2 d idx c : Nat} {a : Addr} (hop : o.op = .call { callee := .builtin .append, args := #[.tmp s1, .tmp s2], argTypes := #[ST, ST] }) (hdst : o.dst = some d) (hsz : d < act.tmps.size ∧ s1 < act.tmps.size ∧ s2 < act.tmps.size)
    (ld : ∀ g, (ws g).lookup d = some g.v1) (l1 : ∀ g, (ws g).lookup s1 = some (.slice (some ⟨g.e0, 0, none⟩) 0 0)) (l2 : ∀ g, (ws g).lookup s2 = some (.slice (some a) p.k c)) (hidx : ∀ g, ((ws g)[idx]?.map (·.1)) = some d) (hset : ∀ g (v : Value), ws { g with v1 := v } = (ws g).set idx (d, v))
    (hlen : p.xs.length = p.k * p.n) (hnews : ∀ W, Below p.W0.heap.size p.W0 W → ∀ j u, p.xs[j]? = some u → W.cell? (a.add j) = some u) (h1c : ∀ u ∈ p.xs, u.oneCell' = true) (hk : p.k ≤ 1048576) (hby : (0 + p.k) * bytes ≤ 140737488355328)
    (hdep : ∃ e ∈ o.after, Region.binds .any e = true ∧ e.on = x.j0) : gh.Step Try.prog (fun s => dk.sets act (ws s)) (C p x) Q x.j1 o := by
  refine gh.step_val (by rw [hop]; simp) fun s L W hdp h0 hC => ?_
  obtain ⟨xp, mp, yp, zp⟩ := hdep
  have lp := hdp xp mp yp
  rw [zp] at lp
  obtain ⟨u0, u1, u2, u3, u4⟩ := hx
  have hd := hC.d
  rw [h0] at hd
  have hbel : Below p.W0.heap.size p.W0 W := by
    have e3 := no31 hd
    rw [e3] at hd
    have e4 := no4 hd
    rw [e4] at hd
    have e5 := no5 hd
    rw [e5] at hd
    exact hd.below
  have hold := hd.at0 lp rfl
  obtain ⟨v', w', hr, ho, hg, _, hat⟩ := run_append_own_at (P := Try.prog) W p.W0.heap.size ST o.type p.T i0 z p.n bytes ht hi hz hn hb hzs hn0 _ 0 [] hold a p.k c p.xs hlen (hnews W hbel) h1c (by unfold maxLen; omega) hby hd.size
  rw [Nat.zero_add, List.nil_append] at ho
  refine ⟨{ s with v1 := v' }, v', dk.agree_sets idx d _ hdst (hidx s) (hset s _), (fun d' hd => by rw [hdst] at hd; cases hd; exact dk.sets_on _ hsz.1 _ (ld _)), ?_⟩
  rw [app_run hop (dk.eval_on _ _ hsz.2.1 (l1 s)) (dk.eval_on _ _ hsz.2.2 (l2 s)) hr]
  refine ⟨rfl, ?_⟩
  unfold C
  rw [more_on, more_off L (show x.j0 ≠ x.j1 by omega), more_off L (show x.j2 ≠ x.j1 by omega), more_off L (show x.j3 ≠ x.j1 by omega), more_off L (show x.j4 ≠ x.j1 by omega), more_off L (show x.j5 ≠ x.j1 by omega)]
  exact hd.s1 lp hg ho hat
theorem st3 (hx : x.up) (ht : Try.prog.underlying ST = some (.slice p.T)) (hi : Try.prog.info? p.T = some i0) (hz : i0.zero = some z) (hn : i0.size = p.n) (hb : i0.bytes = bytes) (hzs : z.cells.size = p.n) (hn0 : 0 < p.n)
    {s1 s2 d idx : Nat} (hop : o.op = .call { callee := .builtin .append, args := #[.tmp s1, .tmp s2], argTypes := #[ST, ST] }) (hdst : o.dst = some d) (hsz : d < act.tmps.size ∧ s1 < act.tmps.size ∧ s2 < act.tmps.size)
    (ld : ∀ g, (ws g).lookup d = some g.v2) (l1 : ∀ g, (ws g).lookup s1 = some g.v1) (l2 : ∀ g, (ws g).lookup s2 = some (.slice (some ⟨g.h, 0, none⟩) 1 1)) (hidx : ∀ g, ((ws g)[idx]?.map (·.1)) = some d) (hset : ∀ g (v : Value), ws { g with v2 := v } = (ws g).set idx (d, v))
    (hlen : p.ms.length = p.n) (h1c : ∀ u ∈ p.ms, u.oneCell' = true) (hk : p.k ≤ 1048576) (hby : (p.k + 1) * bytes ≤ 140737488355328)
    (hdep : ∃ e ∈ o.after, Region.binds .any e = true ∧ e.on = x.j1) (hdep2 : ∃ e ∈ o.after, Region.binds .any e = true ∧ e.on = x.j2) : gh.Step Try.prog (fun s => dk.sets act (ws s)) (C p x) Q x.j3 o := by
  refine gh.step_val (by rw [hop]; simp) fun s L W hdp h0 hC => ?_
  obtain ⟨xp, mp, yp, zp⟩ := hdep
  have lp := hdp xp mp yp
  rw [zp] at lp
  obtain ⟨xq, mq, yq, zq⟩ := hdep2
  have lq := hdp xq mq yq
  rw [zq] at lq
  obtain ⟨u0, u1, u2, u3, u4⟩ := hx
  have hd := hC.d
  rw [h0] at hd
  have hold := (hd.at1 lp).2 rfl
  obtain ⟨hcell, _, _⟩ := hd.at2 lq rfl
  have hnews : ∀ j u, p.ms[j]? = some u → W.cell? ((⟨s.h, 0, none⟩ : Addr).add j) = some u := fun j u hu => by
    rw [add0]
    exact bcell hcell (by simpa using hu)
  obtain ⟨v', w', hr, ho, hg, _, hat⟩ := run_append_own_at (P := Try.prog) W p.W0.heap.size ST o.type p.T i0 z p.n bytes ht hi hz hn hb hzs hn0 _ p.k p.xs hold ⟨s.h, 0, none⟩ 1 1 p.ms (by rw [hlen, Nat.one_mul]) hnews h1c (by unfold maxLen; omega) hby hd.size
  refine ⟨{ s with v2 := v' }, v', dk.agree_sets idx d _ hdst (hidx s) (hset s _), (fun d' hd => by rw [hdst] at hd; cases hd; exact dk.sets_on _ hsz.1 _ (ld _)), ?_⟩
  rw [app_run hop (dk.eval_on _ _ hsz.2.1 (l1 s)) (dk.eval_on _ _ hsz.2.2 (l2 s)) hr]
  refine ⟨rfl, ?_⟩
  unfold C
  rw [more_on, more_off L (show x.j0 ≠ x.j3 by omega), more_off L (show x.j1 ≠ x.j3 by omega), more_off L (show x.j2 ≠ x.j3 by omega), more_off L (show x.j4 ≠ x.j3 by omega), more_off L (show x.j5 ≠ x.j3 by omega)]
  exact hd.s3 lp lq hg ho
theorem st4 (hx : x.up) (ht : Try.prog.underlying ST = some (.slice p.T)) (hi : Try.prog.info? p.T = some i0) (hz : i0.zero = some z) (hn : i0.size = p.n) (hb : i0.bytes = bytes) (hzs : z.cells.size = p.n) (hn0 : 0 < p.n)
    {s1 s2 d idx c : Nat} {a : Addr} (hop : o.op = .call { callee := .builtin .append, args := #[.tmp s1, .tmp s2], argTypes := #[ST, ST] }) (hdst : o.dst = some d) (hsz : d < act.tmps.size ∧ s1 < act.tmps.size ∧ s2 < act.tmps.size)
    (ld : ∀ g, (ws g).lookup d = some g.v3) (l1 : ∀ g, (ws g).lookup s1 = some g.v2) (l2 : ∀ g, (ws g).lookup s2 = some (.slice (some a) p.m c)) (hidx : ∀ g, ((ws g)[idx]?.map (·.1)) = some d) (hset : ∀ g (v : Value), ws { g with v3 := v } = (ws g).set idx (d, v))
    (hlen : p.ys.length = p.m * p.n) (hnews : ∀ W, Below p.W0.heap.size p.W0 W → ∀ j u, p.ys[j]? = some u → W.cell? (a.add j) = some u) (h1c : ∀ u ∈ p.ys, u.oneCell' = true) (hk : p.k ≤ 1048576 ∧ p.m ≤ 1048576) (hby : (p.k + 1 + p.m) * bytes ≤ 140737488355328)
    (hdep : ∃ e ∈ o.after, Region.binds .any e = true ∧ e.on = x.j3) : gh.Step Try.prog (fun s => dk.sets act (ws s)) (C p x) Q x.j4 o := by
  refine gh.step_val (by rw [hop]; simp) fun s L W hdp h0 hC => ?_
  obtain ⟨xp, mp, yp, zp⟩ := hdep
  have lp := hdp xp mp yp
  rw [zp] at lp
  obtain ⟨u0, u1, u2, u3, u4⟩ := hx
  have hd := hC.d
  rw [h0] at hd
  have hbel : Below p.W0.heap.size p.W0 W := by
    have e5 := no5 hd
    rw [e5] at hd
    exact hd.below
  have hold := (hd.at3 lp).2.2 rfl
  obtain ⟨v', w', hr, ho, hg, _, hat⟩ := run_append_own_at (P := Try.prog) W p.W0.heap.size ST o.type p.T i0 z p.n bytes ht hi hz hn hb hzs hn0 _ (p.k + 1) (p.xs ++ p.ms) hold a p.m c p.ys hlen (hnews W hbel) h1c (by unfold maxLen; omega) hby hd.size
  refine ⟨{ s with v3 := v' }, v', dk.agree_sets idx d _ hdst (hidx s) (hset s _), (fun d' hd => by rw [hdst] at hd; cases hd; exact dk.sets_on _ hsz.1 _ (ld _)), ?_⟩
  rw [app_run hop (dk.eval_on _ _ hsz.2.1 (l1 s)) (dk.eval_on _ _ hsz.2.2 (l2 s)) hr]
  refine ⟨rfl, ?_⟩
  unfold C
  rw [more_on, more_off L (show x.j0 ≠ x.j4 by omega), more_off L (show x.j1 ≠ x.j4 by omega), more_off L (show x.j2 ≠ x.j4 by omega), more_off L (show x.j3 ≠ x.j4 by omega), more_off L (show x.j5 ≠ x.j4 by omega)]
  exact hd.s4 lp hg ho
theorem st5 (hx : x.up) (hsel : ∀ cs b, o.op ≠ .select cs b) (hdst : o.dst = none) (hb : p.b < p.W0.heap.size)
    (hrun : ∀ s W, (∀ (b : Nat) (o : Obj), p.W0.heap[b]? = some o → W.heap[b]? = some o) → (∃ a n c, s.v3 = .slice a n c) → (execOp (dk.sets act (ws s)).eval o).run Try.prog W = .ok .skip (W.setCell ⟨p.b, p.j, none⟩ s.v3))
    (hdep : ∃ e ∈ o.after, Region.binds .any e = true ∧ e.on = x.j4) : gh.Step Try.prog (fun s => dk.sets act (ws s)) (C p x) Q x.j5 o := by
  refine gh.step_val hsel fun s L W hdp h0 hC => ⟨s, undef, gh.Agree.refl _ _, (fun d hd => by rw [hdst] at hd; cases hd), ?_⟩
  obtain ⟨xp, mp, yp, zp⟩ := hdep
  have lp := hdp xp mp yp
  rw [zp] at lp
  obtain ⟨u0, u1, u2, u3, u4⟩ := hx
  have hd := hC.d
  rw [h0] at hd
  have hv : ∃ a n c, s.v3 = .slice a n c := by
    obtain ⟨_, ⟨e, _⟩ | ⟨g, cap, cur, e, _⟩⟩ := (hd.at4 lp).2
    · exact ⟨_, _, _, e⟩
    · exact ⟨_, _, _, e⟩
  rw [hrun s W (fun b o hb => bstay hb hd.below (Array.getElem?_eq_some_iff.1 hb).1) hv]
  refine ⟨rfl, ?_⟩
  unfold C
  rw [more_on, more_off L (show x.j0 ≠ x.j5 by omega), more_off L (show x.j1 ≠ x.j5 by omega), more_off L (show x.j2 ≠ x.j5 by omega), more_off L (show x.j3 ≠ x.j5 by omega), more_off L (show x.j4 ≠ x.j5 by omega)]
  exact hd.s5 lp hb
end
/-- when all is done -/
theorem done {p : Pr} {x : J} {g : G} {L : Nat → Bool} {W : World} {N : Nat} (hC : C p x g L W) (hx : x.up) (hN : x.j5 < N) (hL : ∀ i, i < N → L i = true) :
    ∃ V, Below p.W0.heap.size p.W0 V ∧ W = V.setCell ⟨p.b, p.j, none⟩ g.v3 ∧ W.ownsRow p.W0.heap.size p.T p.n g.v3 (p.k + 1 + p.m) (p.xs ++ p.ms ++ p.ys) := by
  have hd := hC.d
  obtain ⟨u0, u1, u2, u3, u4⟩ := hx
  rw [hL x.j4 (by omega), hL x.j5 hN] at hd
  obtain ⟨V, h1, h2⟩ := hd.bel
  exact ⟨V, h1, h2, (hd.at4 rfl).2⟩
/-- nothing is done yet -/
theorem start (p : Pr) (x : J) (g : G) : C p x g (fun _ => false) p.W0.drew :=
  ⟨⟨_, (Below.refl _ _).drew, rfl⟩, fun e => (by cases e), fun e => (by cases e), fun e => (by cases e), fun e => (by cases e), fun e => (by cases e), fun e => (by cases e)⟩
end Go.Proofs.Ytnlcmheahihlpaa.ta

/- A structure's cells laid one by one into a row of its own. -/
namespace Go.Proofs.Ytnlcmheahihlpaa.fp
open Go.ChangeShapes Go.WideShapes Go.ChangeAt Go.RowKit Go.Proofs.Ytnlcmheahihlpaa.fl Go.Proofs.Ytnlcmheahihlpaa.fo
set_option linter.unusedVariables false

section
variable {α : Type} {c : α → List Value} {n : Nat} {T : TypeId} {w w' : World} {l : List α} {g off k j : Nat} {e : α}
/-- the first k of a row are laid, and of the next one the first j cells -/
structure Pt (c : α → List Value) (n : Nat) (T : TypeId) (w : World) (g off : Nat) (l : List α) (k : Nat) (e : α) (j : Nat) : Prop where
  own : OwnO c n T w g off l k
  part : ∀ (i : Nat) (v : Value), i < j → (c e)[i]? = some v → w.cell? ⟨g, off + k * n + i, none⟩ = some v
theorem Pt.zero (h : OwnO c n T w g off l k) (e : α) : Pt c n T w g off l k e 0 := ⟨h, fun i v hi => by omega⟩
theorem Pt.put (hn : ∀ e, (c e).length = n) (h : Pt c n T w g off l k e j) (he : l[k]? = some e) {v : Value} (hv : (c e)[j]? = some v) : Pt c n T (w.setCell ⟨g, off + k * n + j, none⟩ v) g off l k e (j + 1) := by
  have hk := (List.getElem?_eq_some_iff.1 he).1
  have hj := (List.getElem?_eq_some_iff.1 hv).1
  rw [hn e] at hj
  obtain ⟨cur, h1, h2⟩ := h.own.cells
  have hle := Nat.mul_le_mul_right n (show k + 1 ≤ l.length from hk)
  rw [Nat.add_mul] at hle
  refine ⟨h.own.put hn _ v (by omega), fun i u hi hu => ?_⟩
  by_cases ei : i = j
  · subst ei
    rw [hv] at hu
    cases hu
    exact set_eq h1 (by omega)
  · rw [set_ne h1 (by omega)]
    exact h.part i u (by omega) hu
theorem Pt.below (h : Pt c n T w g off l k e j) (hb : Below w.heap.size w w') : Pt c n T w' g off l k e j :=
  ⟨h.own.below hb h.own.lt, fun i v hi hv => (hb.cell (p := ⟨g, _, none⟩) h.own.lt).trans (h.part i v hi hv)⟩
theorem Pt.done (hn : ∀ e, (c e).length = n) (h : Pt c n T w g off l k e n) (he : l[k]? = some e) : OwnO c n T w g off l (k + 1) :=
  h.own.more he fun j v hv => h.part j v (by have := (List.getElem?_eq_some_iff.1 hv).1; rw [hn e] at this; exact this) hv
end
end Go.Proofs.Ytnlcmheahihlpaa.fp

/- Nine cells of two boxes written: what lies elsewhere stays. -/
namespace Go.Proofs.Ytnlcmheahihlpaa.s9
open Go.ChangeShapes Go.WideShapes Go.ChangeAt Go.RowKit
set_option linter.unusedVariables false

section
variable {w W : World} {b d B : Nat} {v0 v1 v2 v3 u0 u1 u2 u3 u4 : Value}
theorem bel (h : Below B w W) (h1 : B ≤ b) (h2 : B ≤ d) : Below B w (((((((((W.setCell ⟨b, 0, none⟩ v0).setCell ⟨b, 1, none⟩ v1).setCell ⟨b, 2, none⟩ v2).setCell ⟨b, 3, none⟩ v3).setCell ⟨d, 0, none⟩ u0).setCell ⟨d, 1, none⟩ u1).setCell ⟨d, 2, none⟩ u2).setCell ⟨d, 3, none⟩ u3).setCell ⟨d, 4, none⟩ u4) := ((((((((h.setCell h1 _).setCell h1 _).setCell h1 _).setCell h1 _).setCell h2 _).setCell h2 _).setCell h2 _).setCell h2 _).setCell h2 _
theorem heap {g : Nat} (h1 : g ≠ b) (h2 : g ≠ d) : (((((((((W.setCell ⟨b, 0, none⟩ v0).setCell ⟨b, 1, none⟩ v1).setCell ⟨b, 2, none⟩ v2).setCell ⟨b, 3, none⟩ v3).setCell ⟨d, 0, none⟩ u0).setCell ⟨d, 1, none⟩ u1).setCell ⟨d, 2, none⟩ u2).setCell ⟨d, 3, none⟩ u3).setCell ⟨d, 4, none⟩ u4).heap[g]? = W.heap[g]? := by
  rw [Below.heap_setCell _ _ _ _ h2, Below.heap_setCell _ _ _ _ h2, Below.heap_setCell _ _ _ _ h2, Below.heap_setCell _ _ _ _ h2, Below.heap_setCell _ _ _ _ h2, Below.heap_setCell _ _ _ _ h1, Below.heap_setCell _ _ _ _ h1, Below.heap_setCell _ _ _ _ h1, Below.heap_setCell _ _ _ _ h1]
end
end Go.Proofs.Ytnlcmheahihlpaa.s9
