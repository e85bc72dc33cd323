/- append(append(append([]T{}, a...), x), b...) given to a variable, in one region that draws its order: the row that it leaves. -/
import Derived.Test.YtokaoafbgebelaaAppendAny
import Derived.Test.YtokaoafbgebelaaTd01
import Derived.Test.YtokaoafbgebelaaFlatOff
import Derived.Test.YtokaoafbgebelaaTabLib
import Derived.Test.YtokaoafbgebelaaTd02
import Derived.Maps.AppendAt

/- The specification's l07Copy: the region of its loop that copies one run. -/
namespace Go.Proofs.Ytokaoafbgebelaa.sct
open Go.ChangeShapes Go.WideShapes Go.ChangeAt Go.RowKit Go.Proofs.Ytokaoafbgebelaa.fl Go.Proofs.Ytokaoafbgebelaa.fo Go.Proofs.Ytokaoafbgebelaa.rn
set_option linter.unusedVariables false

theorem typed {w : World} {B n : Nat} {U : TypeId} {s g : Nat} {v : Value} {xs : List Value} (h : w.ownsRow B U s v n xs) (hv : v.ownBlock = some g) : ∃ cur, w.heap[g]? = some (.cells cur U (0, 0)) := by
  obtain ⟨_, ⟨rfl, h0⟩ | ⟨g', cap, cur, rfl, hB, hg, _⟩⟩ := h
  · simp [Value.ownBlock] at hv
  · simp [Value.ownBlock] at hv
    subst hv
    exact ⟨cur, hg⟩
theorem tn_grow {W0 W W' : World} {S : Nat → Prop} {r : Option Nat} (h : Tn W0 W S) (hg : W.grownBy W' r) (hr : ∀ b, r = some b → b < W0.heap.size → S b) : Tn W0 W' S :=
  ⟨hg.os.trans h.os, hg.tape.trans h.tape, hg.output.trans h.output, Nat.le_trans h.size hg.size, fun k hk hs => (hg.block k (Nat.lt_of_lt_of_le hk h.size) (fun e => hs (hr k e.symm hk))).trans (h.block k hk hs)⟩
/-- what is drawn: the empty row, the run's new row and its room, the one run's place, the runs' row behind the append -/
structure G where
  e0 : Nat
  b1 : Nat
  q1 : Nat
  h : Nat
  v2 : Value
/-- the world ahead, below which nothing is of ours, the copy's place, its fresh pairs, its runs so far, and the run that is copied -/
structure Pm where
  W0 : World
  B : Nat
  n3 : Nat
  f0 : Value
  rv : Value
  k : Nat
  ys : List Value
  n : Nat
  xs : List Value
def v1 (p : Pm) (g : G) : Value := .slice (some ⟨g.b1, 0, none⟩) p.n g.q1
structure D (p : Pm) (g : G) (c1 c2 c8 c9 c10 c12 : Bool) (W : World) : Prop where
  tn : Tn p.W0 W (fun b => (c10 = true ∧ p.rv.ownBlock = some b) ∨ (c12 = true ∧ b = p.n3))
  out : W.heap[p.n3]? = some (.cells #[p.f0, if c12 then g.v2 else p.rv] 27 (0, 0))
  at2 : c2 = true → c8 = false → W.ownsRow p.W0.heap.size 40 3 (.slice (some ⟨g.e0, 0, none⟩) 0 0) 0 []
  at8 : c8 = true → c2 = true ∧ W.ownsRow p.W0.heap.size 40 3 (v1 p g) p.n p.xs
  at9 : c9 = true → c8 = true ∧ (c10 = false → W.heap[g.h]? = some (.cells #[v1 p g] 24 (0, 0)))
  at10 : c10 = true → c9 = true ∧ c1 = true ∧ W.ownsRow p.B 24 1 g.v2 (p.k + 1) (p.ys ++ [v1 p g])
  at12 : c12 = true → c10 = true
/-- what stands ahead -/
structure Ah (p : Pm) : Prop where
  lt : p.n3 < p.W0.heap.size
  out : p.W0.heap[p.n3]? = some (.cells #[p.f0, p.rv] 27 (0, 0))
  runs : p.W0.ownsRow p.B 24 1 p.rv p.k p.ys
  sz : p.B ≤ p.W0.heap.size
theorem Ah.ne {p : Pm} (h : Ah p) : p.rv.ownBlock ≠ some p.n3 := fun e => by
  obtain ⟨cur, hc⟩ := typed h.runs e
  rw [h.out] at hc
  simp at hc
theorem Ah.small {p : Pm} (h : Ah p) {b : Nat} (e : p.rv.ownBlock = some b) : b < p.W0.heap.size := (h.runs.lt b e).2
section
variable {p : Pm} {g : G} {c1 c2 c8 c9 c10 c12 : Bool} {W W' : World} {v : Value}
theorem no8 (h : D p g c1 false c8 c9 c10 c12 W) : c8 = false := by
  cases c8 with
  | false => rfl
  | true => have := (h.at8 rfl).1; cases this
theorem no9 (h : D p g c1 c2 false c9 c10 c12 W) : c9 = false := by
  cases c9 with
  | false => rfl
  | true => have := (h.at9 rfl).1; cases this
theorem no10 (h : D p g c1 c2 c8 false c10 c12 W) : c10 = false := by
  cases c10 with
  | false => rfl
  | true => have := (h.at10 rfl).1; cases this
theorem no101 (h : D p g false c2 c8 c9 c10 c12 W) : c10 = false := by
  cases c10 with
  | false => rfl
  | true => have := (h.at10 rfl).2.1; cases this
theorem no12 (h : D p g c1 c2 c8 c9 false c12 W) : c12 = false := by
  cases c12 with
  | false => rfl
  | true => have := h.at12 rfl; cases this
theorem D.below (h : D p g c1 c2 c8 c9 false false W) : Below p.W0.heap.size p.W0 W := h.tn.below (Nat.le_refl _) (fun k hk => by simp at hk)
theorem D.old (h : D p g c1 c2 c8 c9 c10 c12 W) {b : Nat} {o : Obj} (hb : p.W0.heap[b]? = some o) (hne : b ≠ p.n3) (hr : p.rv.ownBlock ≠ some b) : W.heap[b]? = some o := by
  rw [h.tn.block b (Array.getElem?_eq_some_iff.1 hb).1 (fun e => by rcases e with ⟨_, e⟩ | ⟨_, e⟩ <;> contradiction)]
  exact hb
theorem D.s1 (h : D p g false c2 c8 c9 c10 c12 W) : D p g true c2 c8 c9 c10 c12 W := by
  obtain rfl := no101 h
  exact ⟨h.tn, h.out, h.at2, h.at8, h.at9, fun e => (by cases e), h.at12⟩
theorem D.s2 (h : D p g c1 false c8 c9 c10 c12 W) (hA : Ah p) : D p { g with e0 := W.heap.size } c1 true c8 c9 c10 c12 (W.alloc (.cells #[] 40)) := by
  obtain rfl := no8 h
  obtain rfl := no9 h
  obtain rfl := no10 h
  obtain rfl := no12 h
  exact ⟨tn_grow h.tn (World.grownBy_alloc W _ none) (fun b e => by cases e), bold h.out _, fun _ _ => World.ownsRow_made W #[] 0 h.tn.size (by unfold maxLen; omega) (by simp), fun e => (by cases e), fun e => (by cases e), fun e => (by cases e), fun e => (by cases e)⟩
theorem D.s8 (h : D p g c1 c2 false c9 c10 c12 W) (hA : Ah p) (h2 : c2 = true) (hg : W.grownBy W' (some g.e0)) {b q : Nat} (ho : W'.ownsRow p.W0.heap.size 40 3 (.slice (some ⟨b, 0, none⟩) p.n q) p.n p.xs) : D p { g with b1 := b, q1 := q } c1 c2 true c9 c10 c12 W' := by
  obtain rfl := no9 h
  obtain rfl := no10 h
  obtain rfl := no12 h
  have he := ((h.at2 h2 rfl).lt g.e0 rfl)
  have hl := hA.lt
  exact ⟨tn_grow h.tn hg (fun b e hb => by cases e; omega), (hg.block _ (by have := h.tn.size; omega) (fun e => by have := Option.some.inj e; omega)).trans h.out, fun _ e => (by cases e), fun _ => ⟨h2, ho⟩, fun e => (by cases e), fun e => (by cases e), fun e => (by cases e)⟩
theorem D.s9 (h : D p g c1 c2 c8 false c10 c12 W) (hA : Ah p) (h8 : c8 = true) : D p { g with h := W.heap.size } c1 c2 c8 true c10 c12 (W.alloc (.cells #[v1 p g] 24)) := by
  obtain rfl := no10 h
  obtain rfl := no12 h
  exact ⟨tn_grow h.tn (World.grownBy_alloc W _ none) (fun b e => by cases e), bold h.out _, fun a b => (h.at2 a b).alloc _, fun a => ⟨(h.at8 a).1, (h.at8 a).2.alloc _⟩, fun _ => ⟨h8, fun _ => bnew W _ _⟩, fun e => (by cases e), fun e => (by cases e)⟩
theorem D.s10 (h : D p g c1 c2 c8 c9 false c12 W) (hA : Ah p) (h9 : c9 = true) (h1 : c1 = true) (hg : W.grownBy W' p.rv.ownBlock) (ho : W'.ownsRow p.B 24 1 v (p.k + 1) (p.ys ++ [v1 p g])) : D p { g with v2 := v } c1 c2 c8 c9 true c12 W' := by
  obtain rfl := no12 h
  have h8 := (h.at9 h9).1
  obtain ⟨h2, o8⟩ := h.at8 h8
  have hl := hA.lt
  refine ⟨tn_grow (h.tn.wide (fun k hk => by simp at hk)) hg (fun b e hb => .inl ⟨rfl, e⟩), (hg.block _ (by have := h.tn.size; omega) (fun e => hA.ne e.symm)).trans h.out, fun _ e => (by rw [h8] at e; cases e), fun _ => ⟨h2, o8.kept hg ?_⟩, fun _ => ⟨h8, fun e => (by cases e)⟩, fun _ => ⟨h9, h1, ho⟩, fun e => (by cases e)⟩
  right
  intro e
  have a1 := (o8.lt g.b1 rfl).1
  have a2 := hA.small (b := g.b1) (by rw [← e]; rfl)
  omega
theorem D.s12 (h : D p g c1 c2 c8 c9 c10 false W) (hA : Ah p) (h10 : c10 = true) : D p g c1 c2 c8 c9 c10 true (W.setCell ⟨p.n3, 1, none⟩ g.v2) := by
  obtain ⟨h9, h1, ho⟩ := h.at10 h10
  have h8 := (h.at9 h9).1
  obtain ⟨h2, o8⟩ := h.at8 h8
  have hl := hA.lt
  have hg : W.grownBy (W.setCell ⟨p.n3, 1, none⟩ g.v2) (some p.n3) := ⟨rfl, rfl, rfl, by simp, fun k hk hne => Below.heap_setCell _ _ _ _ (fun e => hne (by rw [e]))⟩
  refine ⟨tn_grow (h.tn.wide (fun k hk => ?_)) hg (fun b e hb => .inr ⟨rfl, (Option.some.inj e).symm⟩), bset h.out 1 g.v2, fun _ e => (by rw [h8] at e; cases e), fun _ => ⟨h2, o8.kept hg ?_⟩, fun _ => ⟨h8, fun e => (by rw [h10] at e; cases e)⟩, fun _ => ⟨h9, h1, ho.kept hg ?_⟩, fun _ => h10⟩
  · rcases hk with hk | ⟨hk, _⟩
    · exact .inl hk
    · cases hk
  · right
    intro e
    have a1 := (o8.lt p.n3 e).1
    omega
  · right
    intro e
    obtain ⟨cur, hc⟩ := typed ho e
    rw [h.out] at hc
    simp at hc
end
theorem more_on (L : Nat → Bool) (i : Nat) : dn.more L i i = true := by unfold dn.more; rw [if_pos rfl]
theorem more_off (L : Nat → Bool) {i j : Nat} (h : j ≠ i) : dn.more L i j = L j := by unfold dn.more; rw [if_neg h]
def C (p : Pm) (g : G) (L : Nat → Bool) (W : World) : Prop := D p g (L 1) (L 2) (L 8) (L 9) (L 10) (L 12) W
theorem C.d {p : Pm} {g : G} {L : Nat → Bool} {W : World} (h : C p g L W) : D p g (L 1) (L 2) (L 8) (L 9) (L 10) (L 12) W := h
def ws (p : Pm) (s0 b m rc : Nat) (a : Option Addr) (c : Nat) (g : G) : List (Nat × Value) := [(17, .pointer (some ⟨p.n3, 1, none⟩)), (18, p.rv), (19, .slice (some ⟨g.e0, 0, none⟩) 0 0), (20, .pointer (some ⟨s0, 1, none⟩)), (21, .slice (some ⟨b, 0, none⟩) m rc), (22, .int .i64 p.k), (23, .pointer (some ⟨b, p.k, none⟩)), (24, .slice a p.n c), (25, v1 p g), (26, .slice (some ⟨g.h, 0, none⟩) 1 1), (27, g.v2), (28, .pointer (some ⟨p.n3, 1, none⟩))]
section
variable {p : Pm} {s0 b m rc : Nat} {a : Option Addr} {c : Nat} {act : Act} {Q : Exit → Act → World → Prop} {o : Oper}
theorem quiet {i : Nat} (hi : i = 0 ∨ i = 3 ∨ i = 4 ∨ i = 5 ∨ i = 6 ∨ i = 7 ∨ i = 11) (hsel : ∀ cs b, o.op ≠ .select cs b) (u : Value) (hd : ∀ s d, o.dst = some d → (dk.sets act (ws p s0 b m rc a c s)).tmps[d]? = some u)
    (hrun : ∀ s W, (∀ (b : Nat) (o : Obj), p.W0.heap[b]? = some o → b ≠ p.n3 → p.rv.ownBlock ≠ some b → W.heap[b]? = some o) → (execOp (dk.sets act (ws p s0 b m rc a c s)).eval o).run Try.prog W = .ok (.value u) W) : gh.Step Try.prog (fun s => dk.sets act (ws p s0 b m rc a c s)) (C p) Q i o := by
  refine gh.step_val hsel fun s L W hdp h0 hC => ⟨s, u, gh.Agree.refl _ _, hd s, ?_⟩
  rw [hrun s W (fun b o hb hne hr => hC.d.old hb hne hr)]
  refine ⟨rfl, ?_⟩
  unfold C
  rw [more_off L (show 1 ≠ i by omega), more_off L (show 2 ≠ i by omega), more_off L (show 8 ≠ i by omega), more_off L (show 9 ≠ i by omega), more_off L (show 10 ≠ i by omega), more_off L (show 12 ≠ i by omega)]
  exact hC
theorem st1 (hsel : ∀ cs b, o.op ≠ .select cs b) (hd : ∀ s d, o.dst = some d → (dk.sets act (ws p s0 b m rc a c s)).tmps[d]? = some p.rv)
    (hrun : ∀ s W, W.heap[p.n3]? = some (.cells #[p.f0, p.rv] 27 (0, 0)) → (execOp (dk.sets act (ws p s0 b m rc a c s)).eval o).run Try.prog W = .ok (.value p.rv) W) : gh.Step Try.prog (fun s => dk.sets act (ws p s0 b m rc a c s)) (C p) Q 1 o := by
  refine gh.step_val hsel fun s L W hdp h0 hC => ⟨s, p.rv, gh.Agree.refl _ _, hd s, ?_⟩
  have hd := hC.d
  rw [h0] at hd
  have e12 : L 12 = false := by
    have e10 := no101 hd
    rw [e10] at hd
    exact no12 hd
  have ho := hd.out
  rw [e12] at ho
  rw [hrun s W ho]
  refine ⟨rfl, ?_⟩
  unfold C
  rw [more_on, more_off L (show 2 ≠ 1 by omega), more_off L (show 8 ≠ 1 by omega), more_off L (show 9 ≠ 1 by omega), more_off L (show 10 ≠ 1 by omega), more_off L (show 12 ≠ 1 by omega)]
  exact hd.s1
theorem st2 (hA : Ah p) (hsz : 28 < act.tmps.size) (hop : o.op = .buildSlice 24 0 #[]) (hdst : o.dst = some 19) : gh.Step Try.prog (fun s => dk.sets act (ws p s0 b m rc a c s)) (C p) Q 2 o := by
  refine gh.step_val (by rw [hop]; simp) fun s L W hdp h0 hC => ⟨{ s with e0 := W.heap.size }, .slice (some ⟨W.heap.size, 0, none⟩) 0 0, dk.agree_sets 2 19 _ hdst rfl rfl, (fun d hd => by rw [hdst] at hd; cases hd; exact dk.sets_on _ (by omega) _ rfl), ?_⟩
  have hrun : (execOp (dk.sets act (ws p s0 b m rc a c s)).eval o).run Try.prog W = .ok (.value (.slice (some ⟨W.heap.size, 0, none⟩) 0 0)) (W.alloc (.cells #[] 40)) := by
    simp [execOp, hop, go_sem]
  rw [hrun]
  refine ⟨rfl, ?_⟩
  have hd := hC.d
  rw [h0] at hd
  unfold C
  rw [more_on, more_off L (show 1 ≠ 2 by omega), more_off L (show 8 ≠ 2 by omega), more_off L (show 9 ≠ 2 by omega), more_off L (show 10 ≠ 2 by omega), more_off L (show 12 ≠ 2 by omega)]
  exact hd.s2 hA
theorem app_run {ST s1 s2 m c : Nat} {a : Option Addr} {v v' : Value} {f : Act} {W w' : World} (hop : o.op = .call { callee := .builtin .append, args := #[.tmp s1, .tmp s2], argTypes := #[ST, ST] }) (e1 : f.eval (.tmp s1) = v) (e2 : f.eval (.tmp s2) = .slice a m c) (hr : (Builtin.append_ #[ST, ST] o.type #[v, .slice a m c]).run Try.prog W = .ok v' w') : (execOp f.eval o).run Try.prog W = .ok (.value v') w' := by
  unfold execOp
  simp only [hop, resolve, invoke, builtin, Sem.run_bind, Sem.run_pure, Result.andThen_ok, List.map_toArray, List.map_cons, List.map_nil, e1, e2, hr]
variable {i0 i1 : TypeInfo} {z z1 : Value}
theorem st8 {aq : Nat} (hNQ : apa.NQ a ⟨aq, 0, none⟩ p.n c) (hA : Ah p) (hi : Try.prog.info? 40 = some i0) (hz : i0.zero = some z) (hn : i0.size = 3) (hb : i0.bytes = 40) (hzs : z.cells.size = 3) (hsz : 28 < act.tmps.size)
    (hop : o.op = .call { callee := .builtin .append, args := #[.tmp 19, .tmp 24], argTypes := #[24, 24] }) (hdst : o.dst = some 25)
    (hlen : p.xs.length = p.n * 3) (hnews : ∀ W, Below p.W0.heap.size p.W0 W → ∀ j u, p.xs[j]? = some u → W.cell? ((⟨aq, 0, none⟩ : Addr).add j) = some u) (h1c : ∀ u ∈ p.xs, u.oneCell' = true) (hk : p.n ≤ 1048576)
    (hdep : ∃ e ∈ o.after, Region.binds .any e = true ∧ e.on = 2) : gh.Step Try.prog (fun s => dk.sets act (ws p s0 b m rc a c s)) (C p) Q 8 o := by
  refine gh.step_val (by rw [hop]; simp) fun s L W hdp h0 hC => ?_
  obtain ⟨xp, mp, yp, zp⟩ := hdep
  have lp := hdp xp mp yp
  rw [zp] at lp
  have hd := hC.d
  rw [h0] at hd
  have hbel : Below p.W0.heap.size p.W0 W := by
    have e9 := no9 hd
    rw [e9] at hd
    have e10 := no10 hd
    rw [e10] at hd
    have e12 := no12 hd
    rw [e12] at hd
    exact hd.below
  have hold := hd.at2 lp rfl
  obtain ⟨v', w', hr, ho, hg, hnil⟩ := apa.run_append_any (P := Try.prog) W p.W0.heap.size 24 o.type 40 i0 z 3 40 Try.underlying24 hi hz hn hb hzs (by omega) _ 0 [] hold a ⟨aq, 0, none⟩ p.n c hNQ p.xs hlen (hnews W hbel) h1c (by unfold maxLen; omega) (by omega) hd.tn.size
  rw [Nat.zero_add, List.nil_append] at ho
  obtain ⟨b', q', rfl⟩ : ∃ b' q', v' = .slice (some ⟨b', 0, none⟩) p.n q' := by
    exact apa.form_of ho fun e => absurd (hnil.1 e).1 apa.not_none
  refine ⟨{ s with b1 := b', q1 := q' }, .slice (some ⟨b', 0, none⟩) p.n q', dk.agree_sets 8 25 _ hdst rfl rfl, (fun d' hd => by rw [hdst] at hd; cases hd; exact dk.sets_on _ (by omega) _ rfl), ?_⟩
  rw [app_run hop (dk.eval_on _ _ (by omega) rfl) (dk.eval_on _ _ (by omega) rfl) hr]
  refine ⟨rfl, ?_⟩
  unfold C
  rw [more_on, more_off L (show 1 ≠ 8 by omega), more_off L (show 2 ≠ 8 by omega), more_off L (show 9 ≠ 8 by omega), more_off L (show 10 ≠ 8 by omega), more_off L (show 12 ≠ 8 by omega)]
  exact hd.s8 hA lp hg ho
theorem st9 (hA : Ah p) (hsz : 28 < act.tmps.size) (hop : o.op = .buildSlice 25 1 #[(0, .tmp 25)]) (hdst : o.dst = some 26) (hdep : ∃ e ∈ o.after, Region.binds .any e = true ∧ e.on = 8) : gh.Step Try.prog (fun s => dk.sets act (ws p s0 b m rc a c s)) (C p) Q 9 o := by
  refine gh.step_val (by rw [hop]; simp) fun s L W hdp h0 hC => ⟨{ s with h := W.heap.size }, .slice (some ⟨W.heap.size, 0, none⟩) 1 1, dk.agree_sets 9 26 _ hdst rfl rfl, (fun d hd => by rw [hdst] at hd; cases hd; exact dk.sets_on _ (by omega) _ rfl), ?_⟩
  obtain ⟨xp, mp, yp, zp⟩ := hdep
  have lp := hdp xp mp yp
  rw [zp] at lp
  have e25 : (dk.sets act (ws p s0 b m rc a c s)).tmps[25]? = some (.slice (some ⟨s.b1, 0, none⟩) p.n s.q1) := dk.sets_on _ (by omega) _ rfl
  have hrun : (execOp (dk.sets act (ws p s0 b m rc a c s)).eval o).run Try.prog W = .ok (.value (.slice (some ⟨W.heap.size, 0, none⟩) 1 1)) (W.alloc (.cells #[v1 p s] 24)) := by
    simp [execOp, hop, go_sem, e25, v1]
  rw [hrun]
  refine ⟨rfl, ?_⟩
  have hd := hC.d
  rw [h0] at hd
  unfold C
  rw [more_on, more_off L (show 1 ≠ 9 by omega), more_off L (show 2 ≠ 9 by omega), more_off L (show 8 ≠ 9 by omega), more_off L (show 10 ≠ 9 by omega), more_off L (show 12 ≠ 9 by omega)]
  exact hd.s9 hA lp
theorem st10 (hA : Ah p) (hi : Try.prog.info? 24 = some i1) (hz : i1.zero = some z1) (hn : i1.size = 1) (hb : i1.bytes = 24) (hzs : z1.cells.size = 1) (hsz : 28 < act.tmps.size)
    (hop : o.op = .call { callee := .builtin .append, args := #[.tmp 18, .tmp 26], argTypes := #[25, 25] }) (hdst : o.dst = some 27) (hk : p.k ≤ 1048576)
    (hdep : ∃ e ∈ o.after, Region.binds .any e = true ∧ e.on = 9) (hdep1 : ∃ e ∈ o.after, Region.binds .any e = true ∧ e.on = 1) : gh.Step Try.prog (fun s => dk.sets act (ws p s0 b m rc a c s)) (C p) Q 10 o := by
  refine gh.step_val (by rw [hop]; simp) fun s L W hdp h0 hC => ?_
  obtain ⟨xp, mp, yp, zp⟩ := hdep
  have lp := hdp xp mp yp
  rw [zp] at lp
  obtain ⟨xq, mq, yq, zq⟩ := hdep1
  have lq := hdp xq mq yq
  rw [zq] at lq
  have hd := hC.d
  rw [h0] at hd
  have hbel : Below p.W0.heap.size p.W0 W := by
    have e12 := no12 hd
    rw [e12] at hd
    exact hd.below
  have hcell := (hd.at9 lp).2 rfl
  have hold : W.ownsRow p.B 24 1 p.rv p.k p.ys := hA.runs.kept (row := none) ⟨hbel.os, hbel.tape, hbel.output, hbel.size, fun k hk _ => hbel.block k hk⟩ (by cases p.rv.ownBlock <;> simp)
  have hnews : ∀ j u, [v1 p s][j]? = some u → W.cell? ((⟨s.h, 0, none⟩ : Addr).add j) = some u := fun j u hu => by
    rw [add0]
    exact bcell hcell (by simpa using hu)
  obtain ⟨v', w', hr, ho, hg, _, hat⟩ := run_append_own_at (P := Try.prog) W p.B 25 o.type 24 i1 z1 1 24 Try.underlying25 hi hz hn hb hzs (by omega) _ p.k p.ys hold ⟨s.h, 0, none⟩ 1 1 [v1 p s] rfl hnews (by intro u hu; simp at hu; subst hu; rfl) (by unfold maxLen; omega) (by omega) (Nat.le_trans hA.sz hd.tn.size)
  refine ⟨{ s with v2 := v' }, v', dk.agree_sets 10 27 _ hdst rfl rfl, (fun d' hd => by rw [hdst] at hd; cases hd; exact dk.sets_on _ (by omega) _ rfl), ?_⟩
  rw [app_run hop (dk.eval_on _ _ (by omega) rfl) (dk.eval_on _ _ (by omega) rfl) hr]
  refine ⟨rfl, ?_⟩
  unfold C
  rw [more_on, more_off L (show 1 ≠ 10 by omega), more_off L (show 2 ≠ 10 by omega), more_off L (show 8 ≠ 10 by omega), more_off L (show 9 ≠ 10 by omega), more_off L (show 12 ≠ 10 by omega)]
  exact hd.s10 hA lp lq hg ho
theorem st12 (hA : Ah p) (hsz : 28 < act.tmps.size) (hsel : ∀ cs b, o.op ≠ .select cs b) (hdst : o.dst = none)
    (hrun : ∀ s W, W.heap[p.n3]? = some (.cells #[p.f0, p.rv] 27 (0, 0)) → (∃ a n c, s.v2 = .slice a n c) → (execOp (dk.sets act (ws p s0 b m rc a c s)).eval o).run Try.prog W = .ok .skip (W.setCell ⟨p.n3, 1, none⟩ s.v2))
    (hdep : ∃ e ∈ o.after, Region.binds .any e = true ∧ e.on = 10) : gh.Step Try.prog (fun s => dk.sets act (ws p s0 b m rc a c s)) (C p) Q 12 o := by
  refine gh.step_val hsel fun s L W hdp h0 hC => ⟨s, undef, gh.Agree.refl _ _, (fun d hd => by rw [hdst] at hd; cases hd), ?_⟩
  obtain ⟨xp, mp, yp, zp⟩ := hdep
  have lp := hdp xp mp yp
  rw [zp] at lp
  have hd := hC.d
  rw [h0] at hd
  have hv : ∃ a n c, s.v2 = .slice a n c := by
    obtain ⟨_, ⟨e, _⟩ | ⟨g, cap, cur, e, _⟩⟩ := (hd.at10 lp).2.2
    · exact ⟨_, _, _, e⟩
    · exact ⟨_, _, _, e⟩
  rw [hrun s W hd.out hv]
  refine ⟨rfl, ?_⟩
  unfold C
  rw [more_on, more_off L (show 1 ≠ 12 by omega), more_off L (show 2 ≠ 12 by omega), more_off L (show 8 ≠ 12 by omega), more_off L (show 9 ≠ 12 by omega), more_off L (show 10 ≠ 12 by omega)]
  exact hd.s12 hA lp
end
/-- nothing is done yet -/
theorem start (p : Pm) (g : G) (hA : Ah p) : C p g (fun _ => false) p.W0.drew :=
  ⟨Tn.of _ (Below.refl _ _).drew, hA.out, fun e => (by cases e), fun e => (by cases e), fun e => (by cases e), fun e => (by cases e), fun e => (by cases e)⟩
/-- when all is done -/
theorem done {p : Pm} {g : G} {L : Nat → Bool} {W : World} (hC : C p g L W) (hL : ∀ i, i < 13 → L i = true) :
    Tn p.W0 W (fun b => p.rv.ownBlock = some b ∨ b = p.n3) ∧ W.heap[p.n3]? = some (.cells #[p.f0, g.v2] 27 (0, 0)) ∧ W.ownsRow p.W0.heap.size 40 3 (v1 p g) p.n p.xs ∧ W.ownsRow p.B 24 1 g.v2 (p.k + 1) (p.ys ++ [v1 p g]) := by
  have hd := hC.d
  rw [hL 8 (by omega), hL 10 (by omega), hL 12 (by omega)] at hd
  refine ⟨hd.tn.wide (fun k hk => ?_), hd.out, (hd.at8 rfl).2, (hd.at10 rfl).2.2⟩
  rcases hk with ⟨_, h⟩ | ⟨_, h⟩
  · exact .inl h
  · exact .inr h
end Go.Proofs.Ytokaoafbgebelaa.sct

/- The specification's l07Copy: the same table, its pairs and runs in rows of their own. -/
namespace Go.Proofs.Ytokaoafbgebelaa.sct
open Go.ChangeShapes Go.WideShapes Go.ChangeAt Go.RowKit Go.Proofs.Ytokaoafbgebelaa.fl Go.Proofs.Ytokaoafbgebelaa.fo Go.Proofs.Ytokaoafbgebelaa.rn
set_option linter.unusedVariables false

theorem own_tn {w w' : World} {S : Nat → Prop} {B n s : Nat} {U : TypeId} {v : Value} {xs : List Value} (h : w.ownsRow B U s v n xs) (ht : Tn w w' S) (hS : ∀ g, v.ownBlock = some g → ¬ S g) : w'.ownsRow B U s v n xs := by
  obtain ⟨h0, h1 | ⟨g, cap, cur, rfl, hB, hg, hr⟩⟩ := h
  · exact ⟨h0, .inl h1⟩
  · exact ⟨h0, .inr ⟨g, cap, cur, rfl, hB, (ht.block g (Array.getElem?_eq_some_iff.1 hg).1 (hS g rfl)).trans hg, hr⟩⟩
theorem clash {w : World} {B B' n n' s s' g : Nat} {v v' : Value} {xs xs' : List Value} (h : w.ownsRow B 40 s v n xs) (h' : w.ownsRow B' 24 s' v' n' xs') (e : v.ownBlock = some g) : ¬ v'.ownBlock = some g := fun e' => by
  obtain ⟨c, hc⟩ := typed h e
  obtain ⟨c', hc'⟩ := typed h' e'
  rw [hc] at hc'
  simp at hc'
theorem clash3 {w : World} {B n s g : Nat} {v : Value} {xs : List Value} {cur : Array Value} (h : w.ownsRow B 40 s v n xs) (h' : w.heap[g]? = some (.cells cur 27 (0, 0))) : ¬ v.ownBlock = some g := fun e => by
  obtain ⟨c, hc⟩ := typed h e
  rw [hc] at h'
  simp at h'
theorem old_cell {p : Pm} {W : World} {x i : Nat} {v : Value} (h : ∀ (b : Nat) (o : Obj), p.W0.heap[b]? = some o → b ≠ p.n3 → p.rv.ownBlock ≠ some b → W.heap[b]? = some o) (h1 : x ≠ p.n3) (h2 : p.rv.ownBlock ≠ some x) (hc : p.W0.cell? ⟨x, i, none⟩ = some v) : W.cell? ⟨x, i, none⟩ = some v := by
  have e : W.heap[x]? = p.W0.heap[x]? := by
    cases hh : p.W0.heap[x]? with
    | none => simp [World.cell?, hh] at hc
    | some o => exact h x o hh h1 h2
  rw [World.cell?_of_block (a := ⟨x, i, none⟩) e]
  exact hc
theorem own_set {w : World} {B n s : Nat} {U : TypeId} {v : Value} {xs : List Value} (h : w.ownsRow B U s v n xs) {g j : Nat} {u : Value} (hg : g < B) : (w.setCell ⟨g, j, none⟩ u).ownsRow B U s v n xs := by
  refine h.kept (row := some g) ⟨rfl, rfl, rfl, by simp, fun k hk hne => Below.heap_setCell _ _ _ _ (fun e => hne (by rw [e]))⟩ (.inr fun e => ?_)
  have := (h.lt g (by first | exact e | exact e.symm)).1
  omega
/-- a run in a row of its own -/
def OwnR (W : World) (B : Nat) (r : Rn) : Prop := W.ownsRow B 40 3 (.slice r.a r.l.length r.c) r.l.length (r.l.flatMap flP.c)
/-- what stands when k runs are copied: the box, the answer's place, the copy's place, its pairs, its runs -/
structure St (w : World) (ys : List flP.Pr) (rs : List Rn) (a0 yc b rc n3 g1 c1 : Nat) (k : Nat) (va : Option Addr) (vc : Nat) (ks : List Rn) (W : World) : Prop where
  bel : Below w.heap.size w W
  box : W.heap[w.heap.size]? = some (.cells #[.slice (some ⟨a0, 0, none⟩) ys.length yc, .slice (some ⟨b, 0, none⟩) rs.length rc] 27 (0, 0))
  res : W.heap[w.heap.size + 1]? = some (.cells #[.slice none 0 0, .slice none 0 0] 27 (0, 0))
  lo : w.heap.size + 2 ≤ n3
  out : W.heap[n3]? = some (.cells #[.slice (some ⟨g1, 0, none⟩) ys.length c1, .slice va k vc] 27 (0, 0))
  fresh : W.ownsRow (w.heap.size + 2) 40 3 (.slice (some ⟨g1, 0, none⟩) ys.length c1) ys.length (ys.flatMap flP.c)
  runs : W.ownsRow (w.heap.size + 2) 24 1 (.slice va k vc) k (ks.flatMap cR)
  same : ks.map (·.l) = (rs.take k).map (·.l)
  rows : ∀ r ∈ ks, OwnR W (w.heap.size + 2) r
section
variable {w W W' : World} {ys : List flP.Pr} {rs : List Rn} {a0 yc b rc n3 g1 c1 k : Nat} {va : Option Addr} {vc : Nat} {ks : List Rn}
theorem St.big (h : St w ys rs a0 yc b rc n3 g1 c1 k va vc ks W) : w.heap.size + 2 ≤ W.heap.size := (Array.getElem?_eq_some_iff.1 h.res).1
theorem St.ah (h : St w ys rs a0 yc b rc n3 g1 c1 k va vc ks W) (n : Nat) (xs : List Value) : Ah ⟨W, w.heap.size + 2, n3, .slice (some ⟨g1, 0, none⟩) ys.length c1, .slice va k vc, k, ks.flatMap cR, n, xs⟩ := ⟨(Array.getElem?_eq_some_iff.1 h.out).1, h.out, h.runs, h.big⟩
theorem St.step (h : St w ys rs a0 yc b rc n3 g1 c1 k va vc ks W) {r : Rn} (hr : rs[k]? = some r) {b1 q1 : Nat} {v2 : Value} (ht : Tn W W' (fun x => (Value.slice va k vc).ownBlock = some x ∨ x = n3)) (ho : W'.heap[n3]? = some (.cells #[.slice (some ⟨g1, 0, none⟩) ys.length c1, v2] 27 (0, 0)))
    (o1 : W'.ownsRow W.heap.size 40 3 (.slice (some ⟨b1, 0, none⟩) r.l.length q1) r.l.length (r.l.flatMap flP.c)) (o2 : W'.ownsRow (w.heap.size + 2) 24 1 v2 (k + 1) (ks.flatMap cR ++ [.slice (some ⟨b1, 0, none⟩) r.l.length q1])) : ∃ va' vc' ks', v2 = .slice va' (k + 1) vc' ∧ St w ys rs a0 yc b rc n3 g1 c1 (k + 1) va' vc' ks' W' := by
  obtain ⟨va', vc', rfl⟩ : ∃ va' vc', v2 = .slice va' (k + 1) vc' := by
    obtain ⟨_, ⟨e, h0⟩ | ⟨g, cap, cur, e, _⟩⟩ := o2
    · cases h0
    · exact ⟨_, _, e⟩
  have hbig := h.big
  have hlo := h.lo
  have hrb : ∀ x, (Value.slice va k vc).ownBlock = some x → w.heap.size + 2 ≤ x := fun x e => (h.runs.lt x e).1
  have keep : ∀ x, x < w.heap.size + 2 → ¬ ((Value.slice va k vc).ownBlock = some x ∨ x = n3) := fun x hx e => by
    rcases e with e | e
    · have := hrb x e; omega
    · omega
  have kept : ∀ v n xs, W.ownsRow (w.heap.size + 2) 40 3 v n xs → W'.ownsRow (w.heap.size + 2) 40 3 v n xs := fun v n xs hv => own_tn hv ht (fun g e hS => by
    rcases hS with hS | hS
    · exact clash hv h.runs e hS
    · subst hS; exact clash3 hv h.out e)
  refine ⟨va', vc', ks ++ [⟨some ⟨b1, 0, none⟩, q1, r.l⟩], rfl, ⟨⟨ht.os.trans h.bel.os, ht.tape.trans h.bel.tape, ht.output.trans h.bel.output, Nat.le_trans h.bel.size ht.size, fun x hx => (ht.block x (by omega) (keep x (by omega))).trans (h.bel.block x hx)⟩, (ht.block _ (by omega) (keep _ (by omega))).trans h.box, (ht.block _ (by omega) (keep _ (by omega))).trans h.res, h.lo, ho, kept _ _ _ h.fresh, ?_, ?_, ?_⟩⟩
  · rw [List.flatMap_append]
    exact o2
  · have hlt := (List.getElem?_eq_some_iff.1 hr).1
    have he := (List.getElem?_eq_some_iff.1 hr).2
    rw [List.take_succ_eq_append_getElem hlt, List.map_append, List.map_append, h.same, he]
    rfl
  · intro s hs
    rcases List.mem_append.1 hs with hs | hs
    · exact kept _ _ _ (h.rows s hs)
    · simp at hs
      subst hs
      exact own_low o1 hbig
end

end Go.Proofs.Ytokaoafbgebelaa.sct

/- append(append(append([]T{}, a...), x), b...) given to a variable, in one region that draws its order: the row that it leaves. -/
namespace Go.Proofs.Ytokaoafbgebelaa.tas
open Go.ChangeShapes Go.WideShapes Go.ChangeAt Go.RowKit Go.Proofs.Ytokaoafbgebelaa.fl
set_option linter.unusedVariables false

/-- what is drawn: the empty row, the row behind the first append, the new one's place, the rows behind the other two -/
structure G where
  e0 : Nat
  v1 : Value
  h : Nat
  v2 : Value
  v3 : Value
  v4 : Value
/-- the world ahead, the type and its cells, the cells ahead, of the new one and behind, how many ahead and behind -/
structure Pr where
  W0 : World
  T : TypeId
  n : Nat
  xs : List Value
  ms : List Value
  ys : List Value
  k : Nat
  m : Nat
structure D (p : Pr) (g : G) (c0 c1 c2 c3 c4 c5 : Bool) (W : World) : Prop where
  bel : Below p.W0.heap.size p.W0 W
  at0 : c0 = true → c1 = false → W.ownsRow p.W0.heap.size p.T p.n (.slice (some ⟨g.e0, 0, none⟩) 0 0) 0 []
  at1 : c1 = true → c0 = true ∧ (c3 = false → W.ownsRow p.W0.heap.size p.T p.n g.v1 p.k p.xs)
  at2 : c2 = true → c3 = false → W.heap[g.h]? = some (.cells p.ms.toArray p.T (0, 0)) ∧ (c0 = true → c1 = false → g.e0 ≠ g.h) ∧ (c1 = true → g.v1.ownBlock ≠ some g.h)
  at3 : c3 = true → c1 = true ∧ c2 = true ∧ (c4 = false → W.ownsRow p.W0.heap.size p.T p.n g.v2 (p.k + 1) (p.xs ++ p.ms))
  at4 : c4 = true → c3 = true ∧ W.ownsRow p.W0.heap.size p.T p.n g.v3 (p.k + 1 + p.m) (p.xs ++ p.ms ++ p.ys)
  at5 : c5 = true → c4 = true ∧ g.v4 = g.v3
section
variable {p : Pr} {g : G} {c0 c1 c2 c3 c4 c5 : Bool} {W W' : World} {v : Value}
theorem D.size (h : D p g c0 c1 c2 c3 c4 c5 W) : p.W0.heap.size ≤ W.heap.size := h.bel.size
theorem D.old (h : D p g c0 c1 c2 c3 c4 c5 W) {b : Nat} {o : Obj} (hb : p.W0.heap[b]? = some o) : W.heap[b]? = some o := bstay hb h.bel (Array.getElem?_eq_some_iff.1 hb).1
theorem D.below (h : D p g c0 c1 c2 c3 c4 c5 W) : Below p.W0.heap.size p.W0 W := h.bel
theorem no31 (h : D p g c0 false c2 c3 c4 c5 W) : c3 = false := by
  cases c3 with
  | false => rfl
  | true => have := (h.at3 rfl).1; cases this
theorem no32 (h : D p g c0 c1 false c3 c4 c5 W) : c3 = false := by
  cases c3 with
  | false => rfl
  | true => have := (h.at3 rfl).2.1; cases this
theorem no4 (h : D p g c0 c1 c2 false c4 c5 W) : c4 = false := by
  cases c4 with
  | false => rfl
  | true => have := (h.at4 rfl).1; cases this
theorem no5 (h : D p g c0 c1 c2 c3 false c5 W) : c5 = false := by
  cases c5 with
  | false => rfl
  | true => have := (h.at5 rfl).1; cases this
theorem no1 (h : D p g false c1 c2 c3 c4 c5 W) : c1 = false := by
  cases c1 with
  | false => rfl
  | true => have := (h.at1 rfl).1; cases this
/-- the empty row is made -/
theorem D.s0 (h : D p g false c1 c2 c3 c4 c5 W) : D p { g with e0 := W.heap.size } true c1 c2 c3 c4 c5 (W.alloc (.cells #[] p.T)) := by
  obtain rfl := no1 h
  obtain rfl := no31 h
  obtain rfl := no4 h
  obtain rfl := no5 h
  have hs := h.size
  refine ⟨h.below.alloc hs _, fun _ _ => World.ownsRow_made W #[] 0 hs (by unfold maxLen; omega) (by simp), fun e => (by cases e), fun e _ => ?_, fun e => (by cases e), fun e => (by cases e), fun e => (by cases e)⟩
  obtain ⟨h1, _, h3⟩ := h.at2 e rfl
  have := (Array.getElem?_eq_some_iff.1 h1).1
  exact ⟨bold h1 _, fun _ _ => (by show W.heap.size ≠ g.h; omega), h3⟩
/-- the first append -/
theorem D.s1 (h : D p g c0 false c2 c3 c4 c5 W) (h0 : c0 = true) (hg : W.grownBy W' (some g.e0)) (ho : W'.ownsRow p.W0.heap.size p.T p.n v p.k p.xs) (hat : v.ownBlock = some g.e0 ∨ v.ownBlock = some W.heap.size) : D p { g with v1 := v } c0 true c2 c3 c4 c5 W' := by
  obtain rfl := no31 h
  obtain rfl := no4 h
  obtain rfl := no5 h
  have hs := h.size
  have he := ((h.at0 h0 rfl).lt g.e0 rfl)
  refine ⟨h.below.grown hg hs (fun b hb => by cases hb; exact he.1), fun _ e => (by cases e), fun _ => ⟨h0, fun _ => ho⟩, fun e _ => ?_, fun e => (by cases e), fun e => (by cases e), fun e => (by cases e)⟩
  obtain ⟨h1, h2, _⟩ := h.at2 e rfl
  have hne := h2 h0 rfl
  have hlt := (Array.getElem?_eq_some_iff.1 h1).1
  refine ⟨(hg.block _ hlt (fun e => by have := Option.some.inj e; omega)).trans h1, fun _ e => (by cases e), fun _ e => ?_⟩
  have e' : v.ownBlock = some g.h := e
  rcases hat with ha | ha
  · rw [ha] at e'; have := Option.some.inj e'; omega
  · rw [ha] at e'; simp at e'; omega
/-- the new one's place -/
theorem D.s2 (h : D p g c0 c1 false c3 c4 c5 W) : D p { g with h := W.heap.size } c0 c1 true c3 c4 c5 (W.alloc (.cells p.ms.toArray p.T)) := by
  obtain rfl := no32 h
  obtain rfl := no4 h
  obtain rfl := no5 h
  have hs := h.size
  refine ⟨h.below.alloc hs _, fun a b => (h.at0 a b).alloc _, fun a => ⟨(h.at1 a).1, fun b => ((h.at1 a).2 b).alloc _⟩, fun _ _ => ⟨bnew W _ _, fun a b => ?_, fun a e => ?_⟩, fun e => (by cases e), fun e => (by cases e), fun e => (by cases e)⟩
  · have := ((h.at0 a b).lt g.e0 rfl).2
    show g.e0 ≠ W.heap.size
    omega
  · have := (((h.at1 a).2 rfl).lt _ e).2
    have : W.heap.size < W.heap.size := this
    omega
/-- the second append -/
theorem D.s3 (h : D p g c0 c1 c2 false c4 c5 W) (h1 : c1 = true) (h2 : c2 = true) (hg : W.grownBy W' g.v1.ownBlock) (ho : W'.ownsRow p.W0.heap.size p.T p.n v (p.k + 1) (p.xs ++ p.ms)) : D p { g with v2 := v } c0 c1 c2 true c4 c5 W' := by
  obtain rfl := no4 h
  obtain rfl := no5 h
  have hs := h.size
  have he := ((h.at1 h1).2 rfl).lt
  exact ⟨h.below.grown hg hs (fun b hb => (he b hb).1), fun a b => (by rw [h1] at b; cases b), fun a => ⟨(h.at1 a).1, fun e => (by cases e)⟩, fun _ e => (by cases e), fun _ => ⟨h1, h2, fun _ => ho⟩, fun e => (by cases e), fun e => (by cases e)⟩
/-- the third append -/
theorem D.s4 (h : D p g c0 c1 c2 c3 false c5 W) (h3 : c3 = true) (hg : W.grownBy W' g.v2.ownBlock) (ho : W'.ownsRow p.W0.heap.size p.T p.n v (p.k + 1 + p.m) (p.xs ++ p.ms ++ p.ys)) : D p { g with v3 := v } c0 c1 c2 c3 true c5 W' := by
  obtain rfl := no5 h
  have hs := h.size
  have he := ((h.at3 h3).2.2 rfl).lt
  obtain ⟨l1, l2, _⟩ := h.at3 h3
  exact ⟨h.below.grown hg hs (fun b hb => (he b hb).1), fun a b => (by rw [l1] at b; cases b), fun a => ⟨(h.at1 a).1, fun e => (by rw [h3] at e; cases e)⟩, fun _ e => (by rw [h3] at e; cases e), fun _ => ⟨l1, l2, fun e => (by cases e)⟩, fun _ => ⟨h3, ho⟩, fun e => (by cases e)⟩
/-- it is given to the variable -/
theorem D.s5 (h : D p g c0 c1 c2 c3 c4 false W) (h4 : c4 = true) : D p { g with v4 := g.v3 } c0 c1 c2 c3 c4 true W := ⟨h.bel, h.at0, h.at1, h.at2, h.at3, h.at4, fun _ => ⟨h4, rfl⟩⟩
end
theorem add0 (g j : Nat) : (⟨g, 0, none⟩ : Addr).add j = ⟨g, j, none⟩ := by unfold Addr.add; split <;> simp_all
theorem more_on (L : Nat → Bool) (i : Nat) : dn.more L i i = true := by unfold dn.more; rw [if_pos rfl]
theorem more_off (L : Nat → Bool) {i j : Nat} (h : j ≠ i) : dn.more L i j = L j := by unfold dn.more; rw [if_neg h]
/-- the numbers of the six operations that count -/
structure J where
  j0 : Nat
  j1 : Nat
  j2 : Nat
  j3 : Nat
  j4 : Nat
  j5 : Nat
def J.up (x : J) : Prop := x.j0 < x.j1 ∧ x.j1 < x.j2 ∧ x.j2 < x.j3 ∧ x.j3 < x.j4 ∧ x.j4 < x.j5
def C (p : Pr) (x : J) (g : G) (L : Nat → Bool) (W : World) : Prop := D p g (L x.j0) (L x.j1) (L x.j2) (L x.j3) (L x.j4) (L x.j5) W
theorem C.d {p : Pr} {x : J} {g : G} {L : Nat → Bool} {W : World} (h : C p x g L W) : D p g (L x.j0) (L x.j1) (L x.j2) (L x.j3) (L x.j4) (L x.j5) W := h
section
variable {p : Pr} {x : J} {ws : G → List (Nat × Value)} {act : Act} {Q : Exit → Act → World → Prop} {o : Oper}
theorem quiet {i : Nat} (hi : i ≠ x.j0 ∧ i ≠ x.j1 ∧ i ≠ x.j2 ∧ i ≠ x.j3 ∧ i ≠ x.j4 ∧ i ≠ x.j5) (hsel : ∀ cs b, o.op ≠ .select cs b) (u : Value) (hd : ∀ s d, o.dst = some d → (dk.sets act (ws s)).tmps[d]? = some u)
    (hrun : ∀ s W, (∀ (b : Nat) (o : Obj), p.W0.heap[b]? = some o → W.heap[b]? = some o) → (execOp (dk.sets act (ws s)).eval o).run Try.prog W = .ok (.value u) W) : gh.Step Try.prog (fun s => dk.sets act (ws s)) (C p x) Q i o := by
  refine gh.step_val hsel fun s L W hdp h0 hC => ⟨s, u, gh.Agree.refl _ _, hd s, ?_⟩
  rw [hrun s W (fun b o hb => hC.d.old hb)]
  refine ⟨rfl, ?_⟩
  obtain ⟨i0, i1, i2, i3, i4, i5⟩ := hi
  unfold C
  rw [more_off L i0.symm, more_off L i1.symm, more_off L i2.symm, more_off L i3.symm, more_off L i4.symm, more_off L i5.symm]
  exact hC
theorem st0 (hx : x.up) {d idx : Nat} (hsel : ∀ cs b, o.op ≠ .select cs b) (hdst : o.dst = some d) (hsz : d < act.tmps.size) (ld : ∀ g, (ws g).lookup d = some (.slice (some ⟨g.e0, 0, none⟩) 0 0)) (hidx : ∀ g, ((ws g)[idx]?.map (·.1)) = some d) (hset : ∀ g (e : Nat), ws { g with e0 := e } = (ws g).set idx (d, .slice (some ⟨e, 0, none⟩) 0 0))
    (hrun : ∀ s W, (execOp (dk.sets act (ws s)).eval o).run Try.prog W = .ok (.value (.slice (some ⟨W.heap.size, 0, none⟩) 0 0)) (W.alloc (.cells #[] p.T))) : gh.Step Try.prog (fun s => dk.sets act (ws s)) (C p x) Q x.j0 o := by
  refine gh.step_val hsel fun s L W hdp h0 hC => ⟨{ s with e0 := W.heap.size }, .slice (some ⟨W.heap.size, 0, none⟩) 0 0, dk.agree_sets idx d _ hdst (hidx s) (hset s _), (fun d' hd => by rw [hdst] at hd; cases hd; exact dk.sets_on _ hsz _ (ld _)), ?_⟩
  rw [hrun]
  refine ⟨rfl, ?_⟩
  obtain ⟨u0, u1, u2, u3, u4⟩ := hx
  have hd := hC.d
  rw [h0] at hd
  unfold C
  rw [more_on, more_off L (show x.j1 ≠ x.j0 by omega), more_off L (show x.j2 ≠ x.j0 by omega), more_off L (show x.j3 ≠ x.j0 by omega), more_off L (show x.j4 ≠ x.j0 by omega), more_off L (show x.j5 ≠ x.j0 by omega)]
  exact hd.s0
theorem st2 (hx : x.up) {d idx : Nat} (hsel : ∀ cs b, o.op ≠ .select cs b) (hdst : o.dst = some d) (hsz : d < act.tmps.size) (ld : ∀ g, (ws g).lookup d = some (.slice (some ⟨g.h, 0, none⟩) 1 1)) (hidx : ∀ g, ((ws g)[idx]?.map (·.1)) = some d) (hset : ∀ g (e : Nat), ws { g with h := e } = (ws g).set idx (d, .slice (some ⟨e, 0, none⟩) 1 1))
    (hrun : ∀ s W, (execOp (dk.sets act (ws s)).eval o).run Try.prog W = .ok (.value (.slice (some ⟨W.heap.size, 0, none⟩) 1 1)) (W.alloc (.cells p.ms.toArray p.T))) : gh.Step Try.prog (fun s => dk.sets act (ws s)) (C p x) Q x.j2 o := by
  refine gh.step_val hsel fun s L W hdp h0 hC => ⟨{ s with h := W.heap.size }, .slice (some ⟨W.heap.size, 0, none⟩) 1 1, dk.agree_sets idx d _ hdst (hidx s) (hset s _), (fun d' hd => by rw [hdst] at hd; cases hd; exact dk.sets_on _ hsz _ (ld _)), ?_⟩
  rw [hrun]
  refine ⟨rfl, ?_⟩
  obtain ⟨u0, u1, u2, u3, u4⟩ := hx
  have hd := hC.d
  rw [h0] at hd
  unfold C
  rw [more_on, more_off L (show x.j0 ≠ x.j2 by omega), more_off L (show x.j1 ≠ x.j2 by omega), more_off L (show x.j3 ≠ x.j2 by omega), more_off L (show x.j4 ≠ x.j2 by omega), more_off L (show x.j5 ≠ x.j2 by omega)]
  exact hd.s2
theorem app_run {ST s1 s2 m c : Nat} {a : Addr} {v v' : Value} {f : Act} {W w' : World} (hop : o.op = .call { callee := .builtin .append, args := #[.tmp s1, .tmp s2], argTypes := #[ST, ST] }) (e1 : f.eval (.tmp s1) = v) (e2 : f.eval (.tmp s2) = .slice (some a) m c) (hr : (Builtin.append_ #[ST, ST] o.type #[v, .slice (some a) m c]).run Try.prog W = .ok v' w') : (execOp f.eval o).run Try.prog W = .ok (.value v') w' := by
  unfold execOp
  simp only [hop, resolve, invoke, builtin, Sem.run_bind, Sem.run_pure, Result.andThen_ok, List.map_toArray, List.map_cons, List.map_nil, e1, e2, hr]
variable {ST : TypeId} {i0 : TypeInfo} {z : Value} {bytes : Nat}
theorem st1 (hx : x.up) (ht : Try.prog.underlying ST = some (.slice p.T)) (hi : Try.prog.info? p.T = some i0) (hz : i0.zero = some z) (hn : i0.size = p.n) (hb : i0.bytes = bytes) (hzs : z.cells.size = p.n) (hn0 : 0 < p.n)
    {s1 s2 d idx c : Nat} {a : Addr} (hop : o.op = .call { callee := .builtin .append, args := #[.tmp s1, .tmp s2], argTypes := #[ST, ST] }) (hdst : o.dst = some d) (hsz : d < act.tmps.size ∧ s1 < act.tmps.size ∧ s2 < act.tmps.size)
    (ld : ∀ g, (ws g).lookup d = some g.v1) (l1 : ∀ g, (ws g).lookup s1 = some (.slice (some ⟨g.e0, 0, none⟩) 0 0)) (l2 : ∀ g, (ws g).lookup s2 = some (.slice (some a) p.k c)) (hidx : ∀ g, ((ws g)[idx]?.map (·.1)) = some d) (hset : ∀ g (v : Value), ws { g with v1 := v } = (ws g).set idx (d, v))
    (hlen : p.xs.length = p.k * p.n) (hnews : ∀ W, Below p.W0.heap.size p.W0 W → ∀ j u, p.xs[j]? = some u → W.cell? (a.add j) = some u) (h1c : ∀ u ∈ p.xs, u.oneCell' = true) (hk : p.k ≤ 1048576) (hby : (0 + p.k) * bytes ≤ 140737488355328)
    (hdep : ∃ e ∈ o.after, Region.binds .any e = true ∧ e.on = x.j0) : gh.Step Try.prog (fun s => dk.sets act (ws s)) (C p x) Q x.j1 o := by
  refine gh.step_val (by rw [hop]; simp) fun s L W hdp h0 hC => ?_
  obtain ⟨xp, mp, yp, zp⟩ := hdep
  have lp := hdp xp mp yp
  rw [zp] at lp
  obtain ⟨u0, u1, u2, u3, u4⟩ := hx
  have hd := hC.d
  rw [h0] at hd
  have hbel : Below p.W0.heap.size p.W0 W := by
    have e3 := no31 hd
    rw [e3] at hd
    have e4 := no4 hd
    rw [e4] at hd
    have e5 := no5 hd
    rw [e5] at hd
    exact hd.below
  have hold := hd.at0 lp rfl
  obtain ⟨v', w', hr, ho, hg, _, hat⟩ := run_append_own_at (P := Try.prog) W p.W0.heap.size ST o.type p.T i0 z p.n bytes ht hi hz hn hb hzs hn0 _ 0 [] hold a p.k c p.xs hlen (hnews W hbel) h1c (by unfold maxLen; omega) hby hd.size
  rw [Nat.zero_add, List.nil_append] at ho
  refine ⟨{ s with v1 := v' }, v', dk.agree_sets idx d _ hdst (hidx s) (hset s _), (fun d' hd => by rw [hdst] at hd; cases hd; exact dk.sets_on _ hsz.1 _ (ld _)), ?_⟩
  rw [app_run hop (dk.eval_on _ _ hsz.2.1 (l1 s)) (dk.eval_on _ _ hsz.2.2 (l2 s)) hr]
  refine ⟨rfl, ?_⟩
  unfold C
  rw [more_on, more_off L (show x.j0 ≠ x.j1 by omega), more_off L (show x.j2 ≠ x.j1 by omega), more_off L (show x.j3 ≠ x.j1 by omega), more_off L (show x.j4 ≠ x.j1 by omega), more_off L (show x.j5 ≠ x.j1 by omega)]
  exact hd.s1 lp hg ho hat
theorem st3 (hx : x.up) (ht : Try.prog.underlying ST = some (.slice p.T)) (hi : Try.prog.info? p.T = some i0) (hz : i0.zero = some z) (hn : i0.size = p.n) (hb : i0.bytes = bytes) (hzs : z.cells.size = p.n) (hn0 : 0 < p.n)
    {s1 s2 d idx : Nat} (hop : o.op = .call { callee := .builtin .append, args := #[.tmp s1, .tmp s2], argTypes := #[ST, ST] }) (hdst : o.dst = some d) (hsz : d < act.tmps.size ∧ s1 < act.tmps.size ∧ s2 < act.tmps.size)
    (ld : ∀ g, (ws g).lookup d = some g.v2) (l1 : ∀ g, (ws g).lookup s1 = some g.v1) (l2 : ∀ g, (ws g).lookup s2 = some (.slice (some ⟨g.h, 0, none⟩) 1 1)) (hidx : ∀ g, ((ws g)[idx]?.map (·.1)) = some d) (hset : ∀ g (v : Value), ws { g with v2 := v } = (ws g).set idx (d, v))
    (hlen : p.ms.length = p.n) (h1c : ∀ u ∈ p.ms, u.oneCell' = true) (hk : p.k ≤ 1048576) (hby : (p.k + 1) * bytes ≤ 140737488355328)
    (hdep : ∃ e ∈ o.after, Region.binds .any e = true ∧ e.on = x.j1) (hdep2 : ∃ e ∈ o.after, Region.binds .any e = true ∧ e.on = x.j2) : gh.Step Try.prog (fun s => dk.sets act (ws s)) (C p x) Q x.j3 o := by
  refine gh.step_val (by rw [hop]; simp) fun s L W hdp h0 hC => ?_
  obtain ⟨xp, mp, yp, zp⟩ := hdep
  have lp := hdp xp mp yp
  rw [zp] at lp
  obtain ⟨xq, mq, yq, zq⟩ := hdep2
  have lq := hdp xq mq yq
  rw [zq] at lq
  obtain ⟨u0, u1, u2, u3, u4⟩ := hx
  have hd := hC.d
  rw [h0] at hd
  have hold := (hd.at1 lp).2 rfl
  obtain ⟨hcell, _, _⟩ := hd.at2 lq rfl
  have hnews : ∀ j u, p.ms[j]? = some u → W.cell? ((⟨s.h, 0, none⟩ : Addr).add j) = some u := fun j u hu => by
    rw [add0]
    exact bcell hcell (by simpa using hu)
  obtain ⟨v', w', hr, ho, hg, _, hat⟩ := run_append_own_at (P := Try.prog) W p.W0.heap.size ST o.type p.T i0 z p.n bytes ht hi hz hn hb hzs hn0 _ p.k p.xs hold ⟨s.h, 0, none⟩ 1 1 p.ms (by rw [hlen, Nat.one_mul]) hnews h1c (by unfold maxLen; omega) hby hd.size
  refine ⟨{ s with v2 := v' }, v', dk.agree_sets idx d _ hdst (hidx s) (hset s _), (fun d' hd => by rw [hdst] at hd; cases hd; exact dk.sets_on _ hsz.1 _ (ld _)), ?_⟩
  rw [app_run hop (dk.eval_on _ _ hsz.2.1 (l1 s)) (dk.eval_on _ _ hsz.2.2 (l2 s)) hr]
  refine ⟨rfl, ?_⟩
  unfold C
  rw [more_on, more_off L (show x.j0 ≠ x.j3 by omega), more_off L (show x.j1 ≠ x.j3 by omega), more_off L (show x.j2 ≠ x.j3 by omega), more_off L (show x.j4 ≠ x.j3 by omega), more_off L (show x.j5 ≠ x.j3 by omega)]
  exact hd.s3 lp lq hg ho
theorem st4 (hx : x.up) (ht : Try.prog.underlying ST = some (.slice p.T)) (hi : Try.prog.info? p.T = some i0) (hz : i0.zero = some z) (hn : i0.size = p.n) (hb : i0.bytes = bytes) (hzs : z.cells.size = p.n) (hn0 : 0 < p.n)
    {s1 s2 d idx c : Nat} {a : Addr} (hop : o.op = .call { callee := .builtin .append, args := #[.tmp s1, .tmp s2], argTypes := #[ST, ST] }) (hdst : o.dst = some d) (hsz : d < act.tmps.size ∧ s1 < act.tmps.size ∧ s2 < act.tmps.size)
    (ld : ∀ g, (ws g).lookup d = some g.v3) (l1 : ∀ g, (ws g).lookup s1 = some g.v2) (l2 : ∀ g, (ws g).lookup s2 = some (.slice (some a) p.m c)) (hidx : ∀ g, ((ws g)[idx]?.map (·.1)) = some d) (hset : ∀ g (v : Value), ws { g with v3 := v } = (ws g).set idx (d, v))
    (hlen : p.ys.length = p.m * p.n) (hnews : ∀ W, Below p.W0.heap.size p.W0 W → ∀ j u, p.ys[j]? = some u → W.cell? (a.add j) = some u) (h1c : ∀ u ∈ p.ys, u.oneCell' = true) (hk : p.k ≤ 1048576 ∧ p.m ≤ 1048576) (hby : (p.k + 1 + p.m) * bytes ≤ 140737488355328)
    (hdep : ∃ e ∈ o.after, Region.binds .any e = true ∧ e.on = x.j3) : gh.Step Try.prog (fun s => dk.sets act (ws s)) (C p x) Q x.j4 o := by
  refine gh.step_val (by rw [hop]; simp) fun s L W hdp h0 hC => ?_
  obtain ⟨xp, mp, yp, zp⟩ := hdep
  have lp := hdp xp mp yp
  rw [zp] at lp
  obtain ⟨u0, u1, u2, u3, u4⟩ := hx
  have hd := hC.d
  rw [h0] at hd
  have hbel : Below p.W0.heap.size p.W0 W := by
    have e5 := no5 hd
    rw [e5] at hd
    exact hd.below
  have hold := (hd.at3 lp).2.2 rfl
  obtain ⟨v', w', hr, ho, hg, _, hat⟩ := run_append_own_at (P := Try.prog) W p.W0.heap.size ST o.type p.T i0 z p.n bytes ht hi hz hn hb hzs hn0 _ (p.k + 1) (p.xs ++ p.ms) hold a p.m c p.ys hlen (hnews W hbel) h1c (by unfold maxLen; omega) hby hd.size
  refine ⟨{ s with v3 := v' }, v', dk.agree_sets idx d _ hdst (hidx s) (hset s _), (fun d' hd => by rw [hdst] at hd; cases hd; exact dk.sets_on _ hsz.1 _ (ld _)), ?_⟩
  rw [app_run hop (dk.eval_on _ _ hsz.2.1 (l1 s)) (dk.eval_on _ _ hsz.2.2 (l2 s)) hr]
  refine ⟨rfl, ?_⟩
  unfold C
  rw [more_on, more_off L (show x.j0 ≠ x.j4 by omega), more_off L (show x.j1 ≠ x.j4 by omega), more_off L (show x.j2 ≠ x.j4 by omega), more_off L (show x.j3 ≠ x.j4 by omega), more_off L (show x.j5 ≠ x.j4 by omega)]
  exact hd.s4 lp hg ho
theorem st5 (hx : x.up) {d s1 idx : Nat} (hop : o.op = .assign (.tmp s1)) (hdst : o.dst = some d) (hsz : d < act.tmps.size ∧ s1 < act.tmps.size) (ld : ∀ g, (ws g).lookup d = some g.v4) (l1 : ∀ g, (ws g).lookup s1 = some g.v3) (hidx : ∀ g, ((ws g)[idx]?.map (·.1)) = some d) (hset : ∀ g (v : Value), ws { g with v4 := v } = (ws g).set idx (d, v))
    (hdep : ∃ e ∈ o.after, Region.binds .any e = true ∧ e.on = x.j4) : gh.Step Try.prog (fun s => dk.sets act (ws s)) (C p x) Q x.j5 o := by
  refine gh.step_val (by rw [hop]; simp) fun s L W hdp h0 hC => ?_
  obtain ⟨xp, mp, yp, zp⟩ := hdep
  have lp := hdp xp mp yp
  rw [zp] at lp
  obtain ⟨u0, u1, u2, u3, u4⟩ := hx
  have hd := hC.d
  rw [h0] at hd
  refine ⟨{ s with v4 := s.v3 }, s.v3, dk.agree_sets idx d _ hdst (hidx s) (hset s _), (fun d' hd => by rw [hdst] at hd; cases hd; exact dk.sets_on _ hsz.1 _ (ld _)), ?_⟩
  have hrun : (execOp (dk.sets act (ws s)).eval o).run Try.prog W = .ok (.value s.v3) W := by
    unfold execOp
    simp only [hop, dk.eval_on _ _ hsz.2 (l1 s), Sem.run_pure]
  rw [hrun]
  refine ⟨rfl, ?_⟩
  unfold C
  rw [more_on, more_off L (show x.j0 ≠ x.j5 by omega), more_off L (show x.j1 ≠ x.j5 by omega), more_off L (show x.j2 ≠ x.j5 by omega), more_off L (show x.j3 ≠ x.j5 by omega), more_off L (show x.j4 ≠ x.j5 by omega)]
  exact hd.s5 lp
end
/-- when all is done -/
theorem done {p : Pr} {x : J} {g : G} {L : Nat → Bool} {W : World} {N : Nat} (hC : C p x g L W) (hx : x.up) (hN : x.j5 < N) (hL : ∀ i, i < N → L i = true) :
    Below p.W0.heap.size p.W0 W ∧ g.v4 = g.v3 ∧ W.ownsRow p.W0.heap.size p.T p.n g.v3 (p.k + 1 + p.m) (p.xs ++ p.ms ++ p.ys) := by
  have hd := hC.d
  obtain ⟨u0, u1, u2, u3, u4⟩ := hx
  rw [hL x.j4 (by omega), hL x.j5 hN] at hd
  exact ⟨hd.bel, (hd.at5 rfl).2, (hd.at4 rfl).2⟩
/-- nothing is done yet -/
theorem start (p : Pr) (x : J) (g : G) : C p x g (fun _ => false) p.W0.drew :=
  ⟨(Below.refl _ _).drew, fun e => (by cases e), fun e => (by cases e), fun e => (by cases e), fun e => (by cases e), fun e => (by cases e), fun e => (by cases e)⟩
end Go.Proofs.Ytokaoafbgebelaa.tas
