/- *h = append(*h, x) in one region that draws its order: the row behind it, and the box that holds it. -/
import Derived.Test.YtfgilmibeeljnaaDoneKit
import Derived.Test.YtfgilmibeeljnaaFlatOwn
import Derived.Maps.AppendAt
namespace Go.Proofs.Ytfgilmibeeljnaa.qpap
open Go.ChangeShapes Go.WideShapes Go.ChangeAt Go.RowKit Go.Proofs.Ytfgilmibeeljnaa.fl
set_option linter.unusedVariables false

theorem add0 (g j : Nat) : (⟨g, 0, none⟩ : Addr).add j = ⟨g, j, none⟩ := by unfold Addr.add; split <;> simp_all
/-- what is drawn: the place of the new one, the row behind the append -/
structure G where
  h : Nat
  v1 : Value
/-- the world ahead, from where on what may be turned lies, the box and its type, the elements' type and cells, the row, how many, the cells, the new one's cells -/
structure Pm where
  W0 : World
  B : Nat
  hb : Nat
  TB : TypeId
  T : TypeId
  n : Nat
  v0 : Value
  k : Nat
  xs : List Value
  ms : List Value
  r1 : Value
  r2 : Value
  r3 : Value
structure Ok (p : Pm) : Prop where
  hB : p.B ≤ p.W0.heap.size
  hbB : p.B ≤ p.hb
  box : p.W0.heap[p.hb]? = some (.cells #[p.v0, p.r1, p.r2, p.r3] p.TB (0, 0))
  own : p.W0.ownsRow p.B p.T p.n p.v0 p.k p.xs
  ne : p.v0.ownBlock ≠ some p.hb
structure D (p : Pm) (g : G) (cl cm cb ca cs : Bool) (W : World) : Prop where
  bel : Below p.B p.W0 W
  bel2 : ca = false → Below p.W0.heap.size p.W0 W
  box : W.heap[p.hb]? = some (.cells #[if cs = true then g.v1 else p.v0, p.r1, p.r2, p.r3] p.TB (0, 0))
  atb : cb = true → cm = true ∧ (ca = false → W.heap[g.h]? = some (.cells p.ms.toArray p.T (0, 0)))
  ata : ca = true → cl = true ∧ cb = true ∧ W.ownsRow p.B p.T p.n g.v1 (p.k + 1) (p.xs ++ p.ms) ∧ g.v1.ownBlock ≠ some p.hb
  ats : cs = true → ca = true
  kpt : ∀ k, k < p.W0.heap.size → k ≠ p.hb → p.v0.ownBlock ≠ some k → W.heap[k]? = p.W0.heap[k]?
/-- the numbers of the operations that count: the box read, the new one read, laid, appended, the box written -/
structure J where
  jl : Nat
  jm : Nat
  jb : Nat
  ja : Nat
  js : Nat
def J.ok (x : J) : Prop := x.jl ≠ x.jm ∧ x.jl ≠ x.jb ∧ x.jl ≠ x.ja ∧ x.jl ≠ x.js ∧ x.jm ≠ x.jb ∧ x.jm ≠ x.ja ∧ x.jm ≠ x.js ∧ x.jb ≠ x.ja ∧ x.jb ≠ x.js ∧ x.ja ≠ x.js
def C (p : Pm) (x : J) (g : G) (L : Nat → Bool) (W : World) : Prop := D p g (L x.jl) (L x.jm) (L x.jb) (L x.ja) (L x.js) W
theorem start {p : Pm} (O : Ok p) (x : J) (g : G) : C p x g (fun _ => false) p.W0.drew :=
  ⟨(Below.refl _ _).drew, fun _ => (Below.refl _ _).drew, O.box, fun h => (by cases h), fun h => (by cases h), fun h => (by cases h), fun _ _ _ _ => rfl⟩
theorem more_on (L : Nat → Bool) (i : Nat) : dn.more L i i = true := by unfold dn.more; rw [if_pos rfl]
theorem more_off (L : Nat → Bool) {i j : Nat} (h : j ≠ i) : dn.more L i j = L j := by unfold dn.more; rw [if_neg h]
section
variable {p : Pm} {x : J} {ws : G → List (Nat × Value)} {act : Act} {Q : Exit → Act → World → Prop} {o : Oper}
theorem quiet {i : Nat} (hi : i ≠ x.jl ∧ i ≠ x.jm ∧ i ≠ x.jb ∧ i ≠ x.ja ∧ i ≠ x.js) (hsel : ∀ cs b, o.op ≠ .select cs b) (u : Value) (hd : ∀ s d, o.dst = some d → (dk.sets act (ws s)).tmps[d]? = some u)
    (hrun : ∀ s (W : World), (execOp (dk.sets act (ws s)).eval o).run Try.prog W = .ok (.value u) W) : gh.Step Try.prog (fun s => dk.sets act (ws s)) (C p x) Q i o := by
  refine gh.step_val hsel fun s L W hdp h0 hC => ⟨s, u, gh.Agree.refl _ _, hd s, ?_⟩
  rw [hrun s W]
  refine ⟨rfl, ?_⟩
  obtain ⟨i0, i1, i2, i3, i4⟩ := hi
  unfold C
  rw [more_off L i0.symm, more_off L i1.symm, more_off L i2.symm, more_off L i3.symm, more_off L i4.symm]
  exact hC
theorem sl (hx : x.ok) {d : Nat} (hsel : ∀ cs b, o.op ≠ .select cs b) (hdst : o.dst = some d) (hd : ∀ s, (dk.sets act (ws s)).tmps[d]? = some p.v0)
    (hrun : ∀ s (W : World), W.heap[p.hb]? = some (.cells #[p.v0, p.r1, p.r2, p.r3] p.TB (0, 0)) → (execOp (dk.sets act (ws s)).eval o).run Try.prog W = .ok (.value p.v0) W) : gh.Step Try.prog (fun s => dk.sets act (ws s)) (C p x) Q x.jl o := by
  refine gh.step_val hsel fun s L W hdp h0 hC => ⟨s, p.v0, gh.Agree.refl _ _, (fun d' hd' => by rw [hdst] at hd'; cases hd'; exact hd s), ?_⟩
  have hC' : D p s (L x.jl) (L x.jm) (L x.jb) (L x.ja) (L x.js) W := hC
  have na : L x.ja = false := by
    cases h : L x.ja with
    | false => rfl
    | true => have := (hC'.ata h).1; rw [h0] at this; cases this
  have ns : L x.js = false := by
    cases h : L x.js with
    | false => rfl
    | true => have := hC'.ats h; rw [na] at this; cases this
  have hb := hC'.box
  rw [ns] at hb
  rw [hrun s W hb]
  refine ⟨rfl, ?_⟩
  obtain ⟨x1, x2, x3, x4, _⟩ := hx
  unfold C
  rw [more_on, more_off L x1.symm, more_off L x2.symm, more_off L x3.symm, more_off L x4.symm]
  exact ⟨hC'.bel, hC'.bel2, hC'.box, hC'.atb, fun h => (by rw [na] at h; cases h), hC'.ats, hC'.kpt⟩
theorem sm (hx : x.ok) {d : Nat} (u : Value) (hsel : ∀ cs b, o.op ≠ .select cs b) (hdst : o.dst = some d) (hd : ∀ s, (dk.sets act (ws s)).tmps[d]? = some u)
    (hrun : ∀ s (W : World), Below p.W0.heap.size p.W0 W → (execOp (dk.sets act (ws s)).eval o).run Try.prog W = .ok (.value u) W) : gh.Step Try.prog (fun s => dk.sets act (ws s)) (C p x) Q x.jm o := by
  refine gh.step_val hsel fun s L W hdp h0 hC => ⟨s, u, gh.Agree.refl _ _, (fun d' hd' => by rw [hdst] at hd'; cases hd'; exact hd s), ?_⟩
  have hC' : D p s (L x.jl) (L x.jm) (L x.jb) (L x.ja) (L x.js) W := hC
  have nb : L x.jb = false := by
    cases h : L x.jb with
    | false => rfl
    | true => have := (hC'.atb h).1; rw [h0] at this; cases this
  have na : L x.ja = false := by
    cases h : L x.ja with
    | false => rfl
    | true => have := (hC'.ata h).2.1; rw [nb] at this; cases this
  rw [hrun s W (hC'.bel2 na)]
  refine ⟨rfl, ?_⟩
  obtain ⟨x1, _, _, _, x5, x6, x7, _⟩ := hx
  unfold C
  rw [more_on, more_off L x1, more_off L x5.symm, more_off L x6.symm, more_off L x7.symm]
  exact ⟨hC'.bel, hC'.bel2, hC'.box, fun h => (by rw [nb] at h; cases h), fun h => (by rw [na] at h; cases h), hC'.ats, hC'.kpt⟩
theorem sb (O : Ok p) (hx : x.ok) {d idx : Nat} (hsel : ∀ cs b, o.op ≠ .select cs b) (hdst : o.dst = some d) (hsz : d < act.tmps.size) (ld : ∀ g, (ws g).lookup d = some (.slice (some ⟨g.h, 0, none⟩) 1 1)) (hidx : ∀ g, ((ws g)[idx]?.map (·.1)) = some d) (hset : ∀ g (e : Nat), ws { g with h := e } = (ws g).set idx (d, .slice (some ⟨e, 0, none⟩) 1 1))
    (hrun : ∀ s (W : World), (execOp (dk.sets act (ws s)).eval o).run Try.prog W = .ok (.value (.slice (some ⟨W.heap.size, 0, none⟩) 1 1)) (W.alloc (.cells p.ms.toArray p.T))) (hdep : ∃ e ∈ o.after, Region.binds .any e = true ∧ e.on = x.jm) : gh.Step Try.prog (fun s => dk.sets act (ws s)) (C p x) Q x.jb o := by
  refine gh.step_val hsel fun s L W hdp h0 hC => ⟨{ s with h := W.heap.size }, .slice (some ⟨W.heap.size, 0, none⟩) 1 1, dk.agree_sets idx d _ hdst (hidx s) (hset s _), (fun d' hd => by rw [hdst] at hd; cases hd; exact dk.sets_on _ hsz _ (ld _)), ?_⟩
  have hC' : D p s (L x.jl) (L x.jm) (L x.jb) (L x.ja) (L x.js) W := hC
  obtain ⟨xp, mp, yp, zp⟩ := hdep
  have lm := hdp xp mp yp
  rw [zp] at lm
  have na : L x.ja = false := by
    cases h : L x.ja with
    | false => rfl
    | true => have := (hC'.ata h).2.1; rw [h0] at this; cases this
  have ns : L x.js = false := by
    cases h : L x.js with
    | false => rfl
    | true => have := hC'.ats h; rw [na] at this; cases this
  rw [hrun s W]
  refine ⟨rfl, ?_⟩
  obtain ⟨_, x2, _, _, x5, _, _, x8, x9, _⟩ := hx
  unfold C
  rw [more_on, more_off L x2, more_off L x5, more_off L x8.symm, more_off L x9.symm, lm, na, ns]
  have hb := hC'.box
  rw [ns] at hb
  have hsz2 := (hC'.bel2 na).size
  exact ⟨hC'.bel.alloc (Nat.le_trans O.hB hsz2) _, fun _ => (hC'.bel2 na).alloc hsz2 _, bold hb _, fun _ => ⟨rfl, fun _ => bnew W _ _⟩, fun h => (by cases h), fun h => (by cases h), fun k hk _ _ => ((hC'.bel2 na).alloc hsz2 _).block k hk⟩
theorem sa (O : Ok p) (hx : x.ok) {ST : TypeId} {i0 : TypeInfo} {z : Value} {bytes : Nat} (ht : Try.prog.underlying ST = some (.slice p.T)) (hi : Try.prog.info? p.T = some i0) (hz : i0.zero = some z) (hn : i0.size = p.n) (hby0 : i0.bytes = bytes) (hzs : z.cells.size = p.n) (hn0 : 0 < p.n)
    {s1 s2 d idx : Nat} (hop : o.op = .call { callee := .builtin .append, args := #[.tmp s1, .tmp s2], argTypes := #[ST, ST] }) (hdst : o.dst = some d) (hsz : d < act.tmps.size ∧ s1 < act.tmps.size ∧ s2 < act.tmps.size)
    (ld : ∀ g, (ws g).lookup d = some g.v1) (l1 : ∀ g, (ws g).lookup s1 = some p.v0) (l2 : ∀ g, (ws g).lookup s2 = some (.slice (some ⟨g.h, 0, none⟩) 1 1)) (hidx : ∀ g, ((ws g)[idx]?.map (·.1)) = some d) (hset : ∀ g (v : Value), ws { g with v1 := v } = (ws g).set idx (d, v))
    (hlen : p.ms.length = p.n) (h1c : ∀ u ∈ p.ms, u.oneCell' = true) (hk : p.k ≤ 1048576) (hby : (p.k + 1) * bytes ≤ 140737488355328)
    (hdep : ∃ e ∈ o.after, Region.binds .any e = true ∧ e.on = x.jl) (hdep2 : ∃ e ∈ o.after, Region.binds .any e = true ∧ e.on = x.jb) : gh.Step Try.prog (fun s => dk.sets act (ws s)) (C p x) Q x.ja o := by
  refine gh.step_val (by rw [hop]; simp) fun s L W hdp h0 hC => ?_
  have hC' : D p s (L x.jl) (L x.jm) (L x.jb) (L x.ja) (L x.js) W := hC
  obtain ⟨xp, mp, yp, zp⟩ := hdep
  have ll := hdp xp mp yp
  rw [zp] at ll
  obtain ⟨xq, mq, yq, zq⟩ := hdep2
  have lb := hdp xq mq yq
  rw [zq] at lb
  have ns : L x.js = false := by
    cases h : L x.js with
    | false => rfl
    | true => have := hC'.ats h; rw [h0] at this; cases this
  have hb2 := hC'.bel2 h0
  have hcell := (hC'.atb lb).2 h0
  have hown : W.ownsRow p.B p.T p.n p.v0 p.k p.xs := O.own.kept (row := none) ⟨hb2.os, hb2.tape, hb2.output, hb2.size, fun i hi _ => hb2.block i hi⟩ (by
    cases hv : p.v0.ownBlock with
    | none => exact .inl rfl
    | some g => right; simp)
  have hnews : ∀ j u, p.ms[j]? = some u → W.cell? ((⟨s.h, 0, none⟩ : Addr).add j) = some u := fun j u hu => by
    rw [add0]
    exact bcell hcell (by simpa using hu)
  have hbox := hC'.box
  rw [ns] at hbox
  have hblt := (Array.getElem?_eq_some_iff.1 hbox).1
  obtain ⟨v', w', hr, ho, hg, _, hat⟩ := run_append_own_at (P := Try.prog) W p.B ST o.type p.T i0 z p.n bytes ht hi hz hn hby0 hzs hn0 _ p.k p.xs hown ⟨s.h, 0, none⟩ 1 1 p.ms (by rw [hlen, Nat.one_mul]) hnews h1c (by unfold maxLen; omega) hby (Nat.le_trans O.hB hb2.size)
  refine ⟨{ s with v1 := v' }, v', dk.agree_sets idx d _ hdst (hidx s) (hset s _), (fun d' hd => by rw [hdst] at hd; cases hd; exact dk.sets_on _ hsz.1 _ (ld _)), ?_⟩
  have e1 : (dk.sets act (ws s)).eval (.tmp s1) = p.v0 := dk.eval_on _ _ hsz.2.1 (l1 s)
  have e2 : (dk.sets act (ws s)).eval (.tmp s2) = .slice (some ⟨s.h, 0, none⟩) 1 1 := dk.eval_on _ _ hsz.2.2 (l2 s)
  have hr2 : (execOp (dk.sets act (ws s)).eval o).run Try.prog W = .ok (.value v') w' := by
    unfold execOp
    simp only [hop, resolve, invoke, builtin, Sem.run_bind, Sem.run_pure, Result.andThen_ok, List.map_toArray, List.map_cons, List.map_nil, e1, e2, hr]
  rw [hr2]
  refine ⟨rfl, ?_⟩
  obtain ⟨_, _, x3, _, _, x6, _, x8, _, x10⟩ := hx
  unfold C
  rw [more_on, more_off L x3, more_off L x6, more_off L x8, more_off L x10.symm, ll, lb, ns]
  have hbel : Below p.B p.W0 w' := hC'.bel.grown hg (Nat.le_trans O.hB hb2.size) (fun b hb => (hown.lt b hb).1)
  have hbw : w'.heap[p.hb]? = some (.cells #[p.v0, p.r1, p.r2, p.r3] p.TB (0, 0)) := (hg.block p.hb hblt (fun e => O.ne e.symm)).trans hbox
  have hne : v'.ownBlock ≠ some p.hb := by
    intro e
    rcases hat with ha | ha
    · rw [ha] at e; exact O.ne e
    · rw [ha] at e
      have := Option.some.inj e
      omega
  exact ⟨hbel, fun h => (by cases h), hbw, fun _ => ⟨(hC'.atb lb).1, fun h => (by cases h)⟩, fun _ => ⟨rfl, rfl, ho, hne⟩, fun h => (by cases h), fun k hk h2 h3 => (hg.block k (Nat.lt_of_lt_of_le hk hb2.size) (fun e => h3 e.symm)).trans (hb2.block k hk)⟩
theorem ss (O : Ok p) (hx : x.ok) (hdst : o.dst = none) (hsel : ∀ cs b, o.op ≠ .select cs b) (hrun : ∀ s (W : World) a m c, s.v1 = .slice a m c → W.heap[p.hb]? = some (.cells #[p.v0, p.r1, p.r2, p.r3] p.TB (0, 0)) → (execOp (dk.sets act (ws s)).eval o).run Try.prog W = .ok .skip (W.setCell ⟨p.hb, 0, none⟩ (.slice a m c)))
    (hdep : ∃ e ∈ o.after, Region.binds .any e = true ∧ e.on = x.ja) : gh.Step Try.prog (fun s => dk.sets act (ws s)) (C p x) Q x.js o := by
  refine gh.step_val hsel fun s L W hdp h0 hC => ⟨s, undef, gh.Agree.refl _ _, (fun d hd => by rw [hdst] at hd; cases hd), ?_⟩
  have hC' : D p s (L x.jl) (L x.jm) (L x.jb) (L x.ja) (L x.js) W := hC
  obtain ⟨xp, mp, yp, zp⟩ := hdep
  have la := hdp xp mp yp
  rw [zp] at la
  have hb := hC'.box
  rw [h0] at hb
  obtain ⟨va, vm, vc, hv1⟩ : ∃ a m c, s.v1 = .slice a m c := by
    rcases (hC'.ata la).2.2.1.2 with ⟨h, _⟩ | ⟨g, cap, cur, h, _⟩
    · exact ⟨_, _, _, h⟩
    · exact ⟨_, _, _, h⟩
  rw [hrun s W va vm vc hv1 hb, ← hv1]
  refine ⟨rfl, ?_⟩
  obtain ⟨_, _, _, x4, _, _, x7, _, x9, x10⟩ := hx
  unfold C
  rw [more_on, more_off L x4, more_off L x7, more_off L x9, more_off L x10, la]
  obtain ⟨a1, a2, a3, a4⟩ := hC'.ata la
  refine ⟨hC'.bel.setCell (p := ⟨p.hb, 0, none⟩) O.hbB _, fun h => (by cases h), bset hb _ _, fun h => ⟨(hC'.atb h).1, fun h => (by cases h)⟩, fun _ => ⟨a1, a2, ?_, a4⟩, fun _ => rfl, fun k h1 h2 h3 => (Below.heap_setCell _ _ _ k h2).trans (hC'.kpt k h1 h2 h3)⟩
  refine ⟨a3.1, ?_⟩
  rcases a3.2 with h | ⟨g, cap, cur, e, q1, q2, q3⟩
  · exact .inl h
  · refine .inr ⟨g, cap, cur, e, q1, ?_, q3⟩
    rw [Below.heap_setCell W ⟨p.hb, 0, none⟩ _ g (fun e2 => a4 (by rw [e]; show some g = some p.hb; rw [e2]))]
    exact q2
theorem done {g : G} {L : Nat → Bool} {W : World} {N : Nat} (h : C p x g L W) (h1 : x.ja < N) (h2 : x.js < N) (hL : ∀ i, i < N → L i = true) : Below p.B p.W0 W ∧ W.heap[p.hb]? = some (.cells #[g.v1, p.r1, p.r2, p.r3] p.TB (0, 0)) ∧ W.ownsRow p.B p.T p.n g.v1 (p.k + 1) (p.xs ++ p.ms) ∧ g.v1.ownBlock ≠ some p.hb ∧ (∀ k, k < p.W0.heap.size → k ≠ p.hb → p.v0.ownBlock ≠ some k → W.heap[k]? = p.W0.heap[k]?) := by
  have h' : D p g (L x.jl) (L x.jm) (L x.jb) (L x.ja) (L x.js) W := h
  have hb := h'.box
  rw [hL x.js h2] at hb
  obtain ⟨_, _, a3, a4⟩ := h'.ata (hL x.ja h1)
  exact ⟨h'.bel, hb, a3, a4, h'.kpt⟩
end
end Go.Proofs.Ytfgilmibeeljnaa.qpap
