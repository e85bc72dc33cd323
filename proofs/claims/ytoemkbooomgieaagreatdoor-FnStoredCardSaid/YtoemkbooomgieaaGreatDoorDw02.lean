/- The text that the laws mark a list with: laws.markText. -/
import Derived.Test.YtoemkbooomgieaaGreatDoorFlPair
import Derived.Test.YtoemkbooomgieaaGreatDoorFlatOwn
import Derived.Maps.AppendAt
import Derived.Test.YtoemkbooomgieaaGreatDoorAppendAny
import Derived.Test.YtoemkbooomgieaaGreatDoorDoneKit
import Derived.Test.YtoemkbooomgieaaGreatDoorFlatOff
import Derived.Test.YtoemkbooomgieaaGreatDoorTabLib
import Derived.Test.YtoemkbooomgieaaGreatDoorDw01
import Derived.Test.YtoemkbooomgieaaGreatDoorStoLib
import Derived.Test.YtoemkbooomgieaaGreatDoorRows
import Derived.WalkKit
import Derived.WalkLawsBesides
import Derived.WalkSpells
import Derived.ProofKit
import Derived.OpenShut
import Derived.ShutString
import Derived.Laws.BytesArg
import Derived.Lib.ItoaNum
import Derived.Lib.Strings
import Derived.Deep.RegionWith

/- Rows of pairs handed to append. -/
namespace Go.Proofs.YtoemkbooomgieaaGreatDoor.sct
open Go.ChangeShapes Go.WideShapes Go.ChangeAt Go.RowKit Go.Proofs.YtoemkbooomgieaaGreatDoor.fl
set_option linter.unusedVariables false

theorem add0 (g j : Nat) : (⟨g, 0, none⟩ : Addr).add j = ⟨g, j, none⟩ := by unfold Addr.add; split <;> simp_all
theorem own_low {w : World} {B B' n : Nat} {U : TypeId} {s : Nat} {v : Value} {xs : List Value} (h : w.ownsRow B U s v n xs) (hb : B' ≤ B) : w.ownsRow B' U s v n xs := by
  obtain ⟨h0, h1 | ⟨g, cap, cur, h1, h2, h3⟩⟩ := h
  · exact ⟨h0, .inl h1⟩
  · exact ⟨h0, .inr ⟨g, cap, cur, h1, by omega, h3⟩⟩
theorem infoP : ∃ i0, Tryz.prog.info? 61 = some i0 ∧ i0.zero = some (.agg #[.string ByteArray.empty, .string ByteArray.empty, .bool false]) ∧ i0.size = 3 ∧ i0.bytes = 40 := by
  have h := flP.info
  cases hh : Tryz.prog.info? 61 with
  | none => rw [hh] at h; cases h
  | some i => rw [hh] at h; simp at h; exact ⟨i, rfl, h.1, h.2.1, h.2.2⟩
end Go.Proofs.YtoemkbooomgieaaGreatDoor.sct

/- The specification's l07Copy: the region of its loop that copies one run. -/
namespace Go.Proofs.YtoemkbooomgieaaGreatDoor.sct
open Go.ChangeShapes Go.WideShapes Go.ChangeAt Go.RowKit Go.Proofs.YtoemkbooomgieaaGreatDoor.fl Go.Proofs.YtoemkbooomgieaaGreatDoor.fo Go.Proofs.YtoemkbooomgieaaGreatDoor.rn
set_option linter.unusedVariables false

theorem typed {w : World} {B n : Nat} {U : TypeId} {s g : Nat} {v : Value} {xs : List Value} (h : w.ownsRow B U s v n xs) (hv : v.ownBlock = some g) : ∃ cur, w.heap[g]? = some (.cells cur U (0, 0)) := by
  obtain ⟨_, ⟨rfl, h0⟩ | ⟨g', cap, cur, rfl, hB, hg, _⟩⟩ := h
  · simp [Value.ownBlock] at hv
  · simp [Value.ownBlock] at hv
    subst hv
    exact ⟨cur, hg⟩
theorem tn_grow {W0 W W' : World} {S : Nat → Prop} {r : Option Nat} (h : Tn W0 W S) (hg : W.grownBy W' r) (hr : ∀ b, r = some b → b < W0.heap.size → S b) : Tn W0 W' S :=
  ⟨hg.os.trans h.os, hg.tape.trans h.tape, hg.output.trans h.output, Nat.le_trans h.size hg.size, fun k hk hs => (hg.block k (Nat.lt_of_lt_of_le hk h.size) (fun e => hs (hr k e.symm hk))).trans (h.block k hk hs)⟩
/-- what is drawn: the empty row, the run's new row and its room, the one run's place, the runs' row behind the append -/
structure G where
  e0 : Nat
  b1 : Nat
  q1 : Nat
  h : Nat
  v2 : Value
/-- the world ahead, below which nothing is of ours, the copy's place, its fresh pairs, its runs so far, and the run that is copied -/
structure Pm where
  W0 : World
  B : Nat
  n3 : Nat
  f0 : Value
  rv : Value
  k : Nat
  ys : List Value
  n : Nat
  xs : List Value
def v1 (p : Pm) (g : G) : Value := .slice (some ⟨g.b1, 0, none⟩) p.n g.q1
structure D (p : Pm) (g : G) (c1 c2 c8 c9 c10 c12 : Bool) (W : World) : Prop where
  tn : Tn p.W0 W (fun b => (c10 = true ∧ p.rv.ownBlock = some b) ∨ (c12 = true ∧ b = p.n3))
  out : W.heap[p.n3]? = some (.cells #[p.f0, if c12 then g.v2 else p.rv] 30 (0, 0))
  at2 : c2 = true → c8 = false → W.ownsRow p.W0.heap.size 61 3 (.slice (some ⟨g.e0, 0, none⟩) 0 0) 0 []
  at8 : c8 = true → c2 = true ∧ W.ownsRow p.W0.heap.size 61 3 (v1 p g) p.n p.xs
  at9 : c9 = true → c8 = true ∧ (c10 = false → W.heap[g.h]? = some (.cells #[v1 p g] 28 (0, 0)))
  at10 : c10 = true → c9 = true ∧ c1 = true ∧ W.ownsRow p.B 28 1 g.v2 (p.k + 1) (p.ys ++ [v1 p g])
  at12 : c12 = true → c10 = true
/-- what stands ahead -/
structure Ah (p : Pm) : Prop where
  lt : p.n3 < p.W0.heap.size
  out : p.W0.heap[p.n3]? = some (.cells #[p.f0, p.rv] 30 (0, 0))
  runs : p.W0.ownsRow p.B 28 1 p.rv p.k p.ys
  sz : p.B ≤ p.W0.heap.size
theorem Ah.ne {p : Pm} (h : Ah p) : p.rv.ownBlock ≠ some p.n3 := fun e => by
  obtain ⟨cur, hc⟩ := typed h.runs e
  rw [h.out] at hc
  simp at hc
section
variable {p : Pm} {g : G} {c1 c2 c8 c9 c10 c12 : Bool} {W W' : World} {v : Value}
theorem no8 (h : D p g c1 false c8 c9 c10 c12 W) : c8 = false := by
  cases c8 with
  | false => rfl
  | true => have := (h.at8 rfl).1; cases this
theorem no9 (h : D p g c1 c2 false c9 c10 c12 W) : c9 = false := by
  cases c9 with
  | false => rfl
  | true => have := (h.at9 rfl).1; cases this
theorem no10 (h : D p g c1 c2 c8 false c10 c12 W) : c10 = false := by
  cases c10 with
  | false => rfl
  | true => have := (h.at10 rfl).1; cases this
theorem no12 (h : D p g c1 c2 c8 c9 false c12 W) : c12 = false := by
  cases c12 with
  | false => rfl
  | true => have := h.at12 rfl; cases this
theorem D.below (h : D p g c1 c2 c8 c9 false false W) : Below p.W0.heap.size p.W0 W := h.tn.below (Nat.le_refl _) (fun k hk => by simp at hk)
theorem D.old (h : D p g c1 c2 c8 c9 c10 c12 W) {b : Nat} {o : Obj} (hb : p.W0.heap[b]? = some o) (hne : b ≠ p.n3) (hr : p.rv.ownBlock ≠ some b) : W.heap[b]? = some o := by
  rw [h.tn.block b (Array.getElem?_eq_some_iff.1 hb).1 (fun e => by rcases e with ⟨_, e⟩ | ⟨_, e⟩ <;> contradiction)]
  exact hb
theorem D.s2 (h : D p g c1 false c8 c9 c10 c12 W) (hA : Ah p) : D p { g with e0 := W.heap.size } c1 true c8 c9 c10 c12 (W.alloc (.cells #[] 61)) := by
  obtain rfl := no8 h
  obtain rfl := no9 h
  obtain rfl := no10 h
  obtain rfl := no12 h
  exact ⟨tn_grow h.tn (World.grownBy_alloc W _ none) (fun b e => by cases e), bold h.out _, fun _ _ => World.ownsRow_made W #[] 0 h.tn.size (by unfold maxLen; omega) (by simp), fun e => (by cases e), fun e => (by cases e), fun e => (by cases e), fun e => (by cases e)⟩
theorem D.s8 (h : D p g c1 c2 false c9 c10 c12 W) (hA : Ah p) (h2 : c2 = true) (hg : W.grownBy W' (some g.e0)) {b q : Nat} (ho : W'.ownsRow p.W0.heap.size 61 3 (.slice (some ⟨b, 0, none⟩) p.n q) p.n p.xs) : D p { g with b1 := b, q1 := q } c1 c2 true c9 c10 c12 W' := by
  obtain rfl := no9 h
  obtain rfl := no10 h
  obtain rfl := no12 h
  have he := ((h.at2 h2 rfl).lt g.e0 rfl)
  have hl := hA.lt
  exact ⟨tn_grow h.tn hg (fun b e hb => by cases e; omega), (hg.block _ (by have := h.tn.size; omega) (fun e => by have := Option.some.inj e; omega)).trans h.out, fun _ e => (by cases e), fun _ => ⟨h2, ho⟩, fun e => (by cases e), fun e => (by cases e), fun e => (by cases e)⟩
theorem D.s9 (h : D p g c1 c2 c8 false c10 c12 W) (hA : Ah p) (h8 : c8 = true) : D p { g with h := W.heap.size } c1 c2 c8 true c10 c12 (W.alloc (.cells #[v1 p g] 28)) := by
  obtain rfl := no10 h
  obtain rfl := no12 h
  exact ⟨tn_grow h.tn (World.grownBy_alloc W _ none) (fun b e => by cases e), bold h.out _, fun a b => (h.at2 a b).alloc _, fun a => ⟨(h.at8 a).1, (h.at8 a).2.alloc _⟩, fun _ => ⟨h8, fun _ => bnew W _ _⟩, fun e => (by cases e), fun e => (by cases e)⟩
end
theorem more_on (L : Nat → Bool) (i : Nat) : dn.more L i i = true := by unfold dn.more; rw [if_pos rfl]
theorem more_off (L : Nat → Bool) {i j : Nat} (h : j ≠ i) : dn.more L i j = L j := by unfold dn.more; rw [if_neg h]
def C (p : Pm) (g : G) (L : Nat → Bool) (W : World) : Prop := D p g (L 1) (L 2) (L 8) (L 9) (L 10) (L 12) W
theorem C.d {p : Pm} {g : G} {L : Nat → Bool} {W : World} (h : C p g L W) : D p g (L 1) (L 2) (L 8) (L 9) (L 10) (L 12) W := h
def ws (p : Pm) (s0 b m rc : Nat) (a : Option Addr) (c : Nat) (g : G) : List (Nat × Value) := [(17, .pointer (some ⟨p.n3, 1, none⟩)), (18, p.rv), (19, .slice (some ⟨g.e0, 0, none⟩) 0 0), (20, .pointer (some ⟨s0, 1, none⟩)), (21, .slice (some ⟨b, 0, none⟩) m rc), (22, .int .i64 p.k), (23, .pointer (some ⟨b, p.k, none⟩)), (24, .slice a p.n c), (25, v1 p g), (26, .slice (some ⟨g.h, 0, none⟩) 1 1), (27, g.v2), (28, .pointer (some ⟨p.n3, 1, none⟩))]
section
variable {p : Pm} {s0 b m rc : Nat} {a : Option Addr} {c : Nat} {act : Act} {Q : Exit → Act → World → Prop} {o : Oper}
theorem quiet {i : Nat} (hi : i = 0 ∨ i = 3 ∨ i = 4 ∨ i = 5 ∨ i = 6 ∨ i = 7 ∨ i = 11) (hsel : ∀ cs b, o.op ≠ .select cs b) (u : Value) (hd : ∀ s d, o.dst = some d → (dk.sets act (ws p s0 b m rc a c s)).tmps[d]? = some u)
    (hrun : ∀ s W, (∀ (b : Nat) (o : Obj), p.W0.heap[b]? = some o → b ≠ p.n3 → p.rv.ownBlock ≠ some b → W.heap[b]? = some o) → (execOp (dk.sets act (ws p s0 b m rc a c s)).eval o).run Tryz.prog W = .ok (.value u) W) : gh.Step Tryz.prog (fun s => dk.sets act (ws p s0 b m rc a c s)) (C p) Q i o := by
  refine gh.step_val hsel fun s L W hdp h0 hC => ⟨s, u, gh.Agree.refl _ _, hd s, ?_⟩
  rw [hrun s W (fun b o hb hne hr => hC.d.old hb hne hr)]
  refine ⟨rfl, ?_⟩
  unfold C
  rw [more_off L (show 1 ≠ i by omega), more_off L (show 2 ≠ i by omega), more_off L (show 8 ≠ i by omega), more_off L (show 9 ≠ i by omega), more_off L (show 10 ≠ i by omega), more_off L (show 12 ≠ i by omega)]
  exact hC
theorem st2 (hA : Ah p) (hsz : 28 < act.tmps.size) (hop : o.op = .buildSlice 28 0 #[]) (hdst : o.dst = some 19) : gh.Step Tryz.prog (fun s => dk.sets act (ws p s0 b m rc a c s)) (C p) Q 2 o := by
  refine gh.step_val (by rw [hop]; simp) fun s L W hdp h0 hC => ⟨{ s with e0 := W.heap.size }, .slice (some ⟨W.heap.size, 0, none⟩) 0 0, dk.agree_sets 2 19 _ hdst rfl rfl, (fun d hd => by rw [hdst] at hd; cases hd; exact dk.sets_on _ (by omega) _ rfl), ?_⟩
  have hrun : (execOp (dk.sets act (ws p s0 b m rc a c s)).eval o).run Tryz.prog W = .ok (.value (.slice (some ⟨W.heap.size, 0, none⟩) 0 0)) (W.alloc (.cells #[] 61)) := by
    simp [execOp, hop, go_sem]
  rw [hrun]
  refine ⟨rfl, ?_⟩
  have hd := hC.d
  rw [h0] at hd
  unfold C
  rw [more_on, more_off L (show 1 ≠ 2 by omega), more_off L (show 8 ≠ 2 by omega), more_off L (show 9 ≠ 2 by omega), more_off L (show 10 ≠ 2 by omega), more_off L (show 12 ≠ 2 by omega)]
  exact hd.s2 hA
theorem app_run {ST s1 s2 m c : Nat} {a : Option Addr} {v v' : Value} {f : Act} {W w' : World} (hop : o.op = .call { callee := .builtin .append, args := #[.tmp s1, .tmp s2], argTypes := #[ST, ST] }) (e1 : f.eval (.tmp s1) = v) (e2 : f.eval (.tmp s2) = .slice a m c) (hr : (Builtin.append_ #[ST, ST] o.type #[v, .slice a m c]).run Tryz.prog W = .ok v' w') : (execOp f.eval o).run Tryz.prog W = .ok (.value v') w' := by
  unfold execOp
  simp only [hop, resolve, invoke, builtin, Sem.run_bind, Sem.run_pure, Result.andThen_ok, List.map_toArray, List.map_cons, List.map_nil, e1, e2, hr]
variable {i0 i1 : TypeInfo} {z z1 : Value}
theorem st8 {aq : Nat} (hNQ : apa.NQ a ⟨aq, 0, none⟩ p.n c) (hA : Ah p) (hi : Tryz.prog.info? 61 = some i0) (hz : i0.zero = some z) (hn : i0.size = 3) (hb : i0.bytes = 40) (hzs : z.cells.size = 3) (hsz : 28 < act.tmps.size)
    (hop : o.op = .call { callee := .builtin .append, args := #[.tmp 19, .tmp 24], argTypes := #[28, 28] }) (hdst : o.dst = some 25)
    (hlen : p.xs.length = p.n * 3) (hnews : ∀ W, Below p.W0.heap.size p.W0 W → ∀ j u, p.xs[j]? = some u → W.cell? ((⟨aq, 0, none⟩ : Addr).add j) = some u) (h1c : ∀ u ∈ p.xs, u.oneCell' = true) (hk : p.n ≤ 1048576)
    (hdep : ∃ e ∈ o.after, Region.binds .any e = true ∧ e.on = 2) : gh.Step Tryz.prog (fun s => dk.sets act (ws p s0 b m rc a c s)) (C p) Q 8 o := by
  refine gh.step_val (by rw [hop]; simp) fun s L W hdp h0 hC => ?_
  obtain ⟨xp, mp, yp, zp⟩ := hdep
  have lp := hdp xp mp yp
  rw [zp] at lp
  have hd := hC.d
  rw [h0] at hd
  have hbel : Below p.W0.heap.size p.W0 W := by
    have e9 := no9 hd
    rw [e9] at hd
    have e10 := no10 hd
    rw [e10] at hd
    have e12 := no12 hd
    rw [e12] at hd
    exact hd.below
  have hold := hd.at2 lp rfl
  obtain ⟨v', w', hr, ho, hg, hnil⟩ := apa.run_append_any (P := Tryz.prog) W p.W0.heap.size 28 o.type 61 i0 z 3 40 Tryz.underlying28 hi hz hn hb hzs (by omega) _ 0 [] hold a ⟨aq, 0, none⟩ p.n c hNQ p.xs hlen (hnews W hbel) h1c (by unfold maxLen; omega) (by omega) hd.tn.size
  rw [Nat.zero_add, List.nil_append] at ho
  obtain ⟨b', q', rfl⟩ : ∃ b' q', v' = .slice (some ⟨b', 0, none⟩) p.n q' := by
    exact apa.form_of ho fun e => absurd (hnil.1 e).1 apa.not_none
  refine ⟨{ s with b1 := b', q1 := q' }, .slice (some ⟨b', 0, none⟩) p.n q', dk.agree_sets 8 25 _ hdst rfl rfl, (fun d' hd => by rw [hdst] at hd; cases hd; exact dk.sets_on _ (by omega) _ rfl), ?_⟩
  rw [app_run hop (dk.eval_on _ _ (by omega) rfl) (dk.eval_on _ _ (by omega) rfl) hr]
  refine ⟨rfl, ?_⟩
  unfold C
  rw [more_on, more_off L (show 1 ≠ 8 by omega), more_off L (show 2 ≠ 8 by omega), more_off L (show 9 ≠ 8 by omega), more_off L (show 10 ≠ 8 by omega), more_off L (show 12 ≠ 8 by omega)]
  exact hd.s8 hA lp hg ho
theorem st9 (hA : Ah p) (hsz : 28 < act.tmps.size) (hop : o.op = .buildSlice 24 1 #[(0, .tmp 25)]) (hdst : o.dst = some 26) (hdep : ∃ e ∈ o.after, Region.binds .any e = true ∧ e.on = 8) : gh.Step Tryz.prog (fun s => dk.sets act (ws p s0 b m rc a c s)) (C p) Q 9 o := by
  refine gh.step_val (by rw [hop]; simp) fun s L W hdp h0 hC => ⟨{ s with h := W.heap.size }, .slice (some ⟨W.heap.size, 0, none⟩) 1 1, dk.agree_sets 9 26 _ hdst rfl rfl, (fun d hd => by rw [hdst] at hd; cases hd; exact dk.sets_on _ (by omega) _ rfl), ?_⟩
  obtain ⟨xp, mp, yp, zp⟩ := hdep
  have lp := hdp xp mp yp
  rw [zp] at lp
  have e25 : (dk.sets act (ws p s0 b m rc a c s)).tmps[25]? = some (.slice (some ⟨s.b1, 0, none⟩) p.n s.q1) := dk.sets_on _ (by omega) _ rfl
  have hrun : (execOp (dk.sets act (ws p s0 b m rc a c s)).eval o).run Tryz.prog W = .ok (.value (.slice (some ⟨W.heap.size, 0, none⟩) 1 1)) (W.alloc (.cells #[v1 p s] 28)) := by
    simp [execOp, hop, go_sem, e25, v1]
  rw [hrun]
  refine ⟨rfl, ?_⟩
  have hd := hC.d
  rw [h0] at hd
  unfold C
  rw [more_on, more_off L (show 1 ≠ 9 by omega), more_off L (show 2 ≠ 9 by omega), more_off L (show 8 ≠ 9 by omega), more_off L (show 10 ≠ 9 by omega), more_off L (show 12 ≠ 9 by omega)]
  exact hd.s9 hA lp
end
/-- when all is done -/
theorem done {p : Pm} {g : G} {L : Nat → Bool} {W : World} (hC : C p g L W) (hL : ∀ i, i < 13 → L i = true) :
    Tn p.W0 W (fun b => p.rv.ownBlock = some b ∨ b = p.n3) ∧ W.heap[p.n3]? = some (.cells #[p.f0, g.v2] 30 (0, 0)) ∧ W.ownsRow p.W0.heap.size 61 3 (v1 p g) p.n p.xs ∧ W.ownsRow p.B 28 1 g.v2 (p.k + 1) (p.ys ++ [v1 p g]) := by
  have hd := hC.d
  rw [hL 8 (by omega), hL 10 (by omega), hL 12 (by omega)] at hd
  refine ⟨hd.tn.wide (fun k hk => ?_), hd.out, (hd.at8 rfl).2, (hd.at10 rfl).2.2⟩
  rcases hk with ⟨_, h⟩ | ⟨_, h⟩
  · exact .inl h
  · exact .inr h
end Go.Proofs.YtoemkbooomgieaaGreatDoor.sct

/- The specification's l07Copy: the same table, its pairs and runs in rows of their own. -/
namespace Go.Proofs.YtoemkbooomgieaaGreatDoor.sct
open Go.ChangeShapes Go.WideShapes Go.ChangeAt Go.RowKit Go.Proofs.YtoemkbooomgieaaGreatDoor.fl Go.Proofs.YtoemkbooomgieaaGreatDoor.fo Go.Proofs.YtoemkbooomgieaaGreatDoor.rn
set_option linter.unusedVariables false

theorem own_tn {w w' : World} {S : Nat → Prop} {B n s : Nat} {U : TypeId} {v : Value} {xs : List Value} (h : w.ownsRow B U s v n xs) (ht : Tn w w' S) (hS : ∀ g, v.ownBlock = some g → ¬ S g) : w'.ownsRow B U s v n xs := by
  obtain ⟨h0, h1 | ⟨g, cap, cur, rfl, hB, hg, hr⟩⟩ := h
  · exact ⟨h0, .inl h1⟩
  · exact ⟨h0, .inr ⟨g, cap, cur, rfl, hB, (ht.block g (Array.getElem?_eq_some_iff.1 hg).1 (hS g rfl)).trans hg, hr⟩⟩
theorem clash {w : World} {B B' n n' s s' g : Nat} {v v' : Value} {xs xs' : List Value} (h : w.ownsRow B 61 s v n xs) (h' : w.ownsRow B' 28 s' v' n' xs') (e : v.ownBlock = some g) : ¬ v'.ownBlock = some g := fun e' => by
  obtain ⟨c, hc⟩ := typed h e
  obtain ⟨c', hc'⟩ := typed h' e'
  rw [hc] at hc'
  simp at hc'
theorem clash3 {w : World} {B n s g : Nat} {v : Value} {xs : List Value} {cur : Array Value} (h : w.ownsRow B 61 s v n xs) (h' : w.heap[g]? = some (.cells cur 30 (0, 0))) : ¬ v.ownBlock = some g := fun e => by
  obtain ⟨c, hc⟩ := typed h e
  rw [hc] at h'
  simp at h'
theorem own_set {w : World} {B n s : Nat} {U : TypeId} {v : Value} {xs : List Value} (h : w.ownsRow B U s v n xs) {g j : Nat} {u : Value} (hg : g < B) : (w.setCell ⟨g, j, none⟩ u).ownsRow B U s v n xs := by
  refine h.kept (row := some g) ⟨rfl, rfl, rfl, by simp, fun k hk hne => Below.heap_setCell _ _ _ _ (fun e => hne (by rw [e]))⟩ (.inr fun e => ?_)
  have := (h.lt g (by first | exact e | exact e.symm)).1
  omega
/-- a run in a row of its own -/
def OwnR (W : World) (B : Nat) (r : Rn) : Prop := W.ownsRow B 61 3 (.slice r.a r.l.length r.c) r.l.length (r.l.flatMap flP.c)
/-- what stands when k runs are copied: the box, the answer's place, the copy's place, its pairs, its runs -/
structure St (w : World) (ys : List flP.Pr) (rs : List Rn) (a0 yc b rc n3 g1 c1 : Nat) (k : Nat) (va : Option Addr) (vc : Nat) (ks : List Rn) (W : World) : Prop where
  bel : Below w.heap.size w W
  box : W.heap[w.heap.size]? = some (.cells #[.slice (some ⟨a0, 0, none⟩) ys.length yc, .slice (some ⟨b, 0, none⟩) rs.length rc] 30 (0, 0))
  res : W.heap[w.heap.size + 1]? = some (.cells #[.slice none 0 0, .slice none 0 0] 30 (0, 0))
  lo : w.heap.size + 2 ≤ n3
  out : W.heap[n3]? = some (.cells #[.slice (some ⟨g1, 0, none⟩) ys.length c1, .slice va k vc] 30 (0, 0))
  fresh : W.ownsRow (w.heap.size + 2) 61 3 (.slice (some ⟨g1, 0, none⟩) ys.length c1) ys.length (ys.flatMap flP.c)
  runs : W.ownsRow (w.heap.size + 2) 28 1 (.slice va k vc) k (ks.flatMap cR)
  same : ks.map (·.l) = (rs.take k).map (·.l)
  rows : ∀ r ∈ ks, OwnR W (w.heap.size + 2) r
section
variable {w W W' : World} {ys : List flP.Pr} {rs : List Rn} {a0 yc b rc n3 g1 c1 k : Nat} {va : Option Addr} {vc : Nat} {ks : List Rn}
theorem St.big (h : St w ys rs a0 yc b rc n3 g1 c1 k va vc ks W) : w.heap.size + 2 ≤ W.heap.size := (Array.getElem?_eq_some_iff.1 h.res).1
theorem St.step (h : St w ys rs a0 yc b rc n3 g1 c1 k va vc ks W) {r : Rn} (hr : rs[k]? = some r) {b1 q1 : Nat} {v2 : Value} (ht : Tn W W' (fun x => (Value.slice va k vc).ownBlock = some x ∨ x = n3)) (ho : W'.heap[n3]? = some (.cells #[.slice (some ⟨g1, 0, none⟩) ys.length c1, v2] 30 (0, 0)))
    (o1 : W'.ownsRow W.heap.size 61 3 (.slice (some ⟨b1, 0, none⟩) r.l.length q1) r.l.length (r.l.flatMap flP.c)) (o2 : W'.ownsRow (w.heap.size + 2) 28 1 v2 (k + 1) (ks.flatMap cR ++ [.slice (some ⟨b1, 0, none⟩) r.l.length q1])) : ∃ va' vc' ks', v2 = .slice va' (k + 1) vc' ∧ St w ys rs a0 yc b rc n3 g1 c1 (k + 1) va' vc' ks' W' := by
  obtain ⟨va', vc', rfl⟩ : ∃ va' vc', v2 = .slice va' (k + 1) vc' := by
    obtain ⟨_, ⟨e, h0⟩ | ⟨g, cap, cur, e, _⟩⟩ := o2
    · cases h0
    · exact ⟨_, _, e⟩
  have hbig := h.big
  have hlo := h.lo
  have hrb : ∀ x, (Value.slice va k vc).ownBlock = some x → w.heap.size + 2 ≤ x := fun x e => (h.runs.lt x e).1
  have keep : ∀ x, x < w.heap.size + 2 → ¬ ((Value.slice va k vc).ownBlock = some x ∨ x = n3) := fun x hx e => by
    rcases e with e | e
    · have := hrb x e; omega
    · omega
  have kept : ∀ v n xs, W.ownsRow (w.heap.size + 2) 61 3 v n xs → W'.ownsRow (w.heap.size + 2) 61 3 v n xs := fun v n xs hv => own_tn hv ht (fun g e hS => by
    rcases hS with hS | hS
    · exact clash hv h.runs e hS
    · subst hS; exact clash3 hv h.out e)
  refine ⟨va', vc', ks ++ [⟨some ⟨b1, 0, none⟩, q1, r.l⟩], rfl, ⟨⟨ht.os.trans h.bel.os, ht.tape.trans h.bel.tape, ht.output.trans h.bel.output, Nat.le_trans h.bel.size ht.size, fun x hx => (ht.block x (by omega) (keep x (by omega))).trans (h.bel.block x hx)⟩, (ht.block _ (by omega) (keep _ (by omega))).trans h.box, (ht.block _ (by omega) (keep _ (by omega))).trans h.res, h.lo, ho, kept _ _ _ h.fresh, ?_, ?_, ?_⟩⟩
  · rw [List.flatMap_append]
    exact o2
  · have hlt := (List.getElem?_eq_some_iff.1 hr).1
    have he := (List.getElem?_eq_some_iff.1 hr).2
    rw [List.take_succ_eq_append_getElem hlt, List.map_append, List.map_append, h.same, he]
    rfl
  · intro s hs
    rcases List.mem_append.1 hs with hs | hs
    · exact kept _ _ _ (h.rows s hs)
    · simp at hs
      subst hs
      exact own_low o1 hbig
end

end Go.Proofs.YtoemkbooomgieaaGreatDoor.sct

/- copyStore: the same store, its table in memory of its own. -/
namespace Go.Proofs.YtoemkbooomgieaaGreatDoor.scp
open Go.ChangeShapes Go.WideShapes Go.ChangeAt Go.RowKit Go.Proofs.YtoemkbooomgieaaGreatDoor.fl Go.Proofs.YtoemkbooomgieaaGreatDoor.fo Go.Proofs.YtoemkbooomgieaaGreatDoor.rn Go.Proofs.YtoemkbooomgieaaGreatDoor.sct
set_option linter.unusedVariables false

theorem or_low {w : World} {B B' g n : Nat} {ks : List Rn} (h : OR w B g n ks) (hb : B' ≤ B) : OR w B' g n ks :=
  ⟨h.blk, fun i r hr => by obtain ⟨h', e, h1, h2, h3⟩ := h.own i r hr; exact ⟨h', e, h1, by omega, h3⟩, h.nd⟩
/-- the copied table, all of it at or above B -/
structure CT (W : World) (B : Nat) (ys : List flP.Pr) (rs : List Rn) (g h : Nat) (ks : List Rn) : Prop where
  own : Own flP.c 3 61 W g ys ys.length
  orr : OR W B h rs.length ks
  map : ks.map (·.l) = rs.map (·.l)
  gB : B ≤ g
  hB : B ≤ h
  ne : ∀ (i : Nat) r, ks[i]? = some r → r.a ≠ some ⟨g, 0, none⟩
theorem CT.on {W W' : World} {B : Nat} {ys : List flP.Pr} {rs : List Rn} {g h : Nat} {ks : List Rn} (c : CT W B ys rs g h ks) (hb : Below W.heap.size W W') : CT W' B ys rs g h ks := ⟨c.own.below hb c.own.lt, c.orr.on hb, c.map, c.gB, c.hB, c.ne⟩
theorem CT.set {W : World} {B : Nat} {ys : List flP.Pr} {rs : List Rn} {g h : Nat} {ks : List Rn} (c : CT W B ys rs g h ks) {b : Nat} (hb : b < B) (o : Nat) (v : Value) : CT (W.setCell ⟨b, o, none⟩ v) B ys rs g h ks :=
  ⟨c.own.kept (Below.heap_setCell _ _ _ _ (by have := c.gB; show g ≠ b; omega)), c.orr.set hb (by have := c.hB; omega) o v, c.map, c.gB, c.hB, c.ne⟩
structure G where
  g : Nat
  h : Nat
  ks : List Rn
  xg : Nat
  xh : Nat
def ws (s : Nat) (ys : List flP.Pr) (rs : List Rn) (ya ra : Option Addr) (yc rc : Nat) (lg : ByteArray) (sf : Int) (g : G) : List (Nat × Value) := [(3, .pointer (some ⟨s, 0, none⟩)), (4, .agg #[.slice ya ys.length yc, .slice ra rs.length rc]), (5, .agg #[.slice (some ⟨g.g, 0, none⟩) ys.length ys.length, .slice (some ⟨g.h, 0, none⟩) rs.length rs.length]), (6, .pointer (some ⟨s, 2, none⟩)), (7, .string lg), (8, .string lg), (9, .pointer (some ⟨s, 3, none⟩)), (10, .int .i64 sf), (11, .agg #[.slice (some ⟨g.xg, 0, none⟩) ys.length ys.length, .slice (some ⟨g.xh, 0, none⟩) rs.length rs.length, .string lg, .int .i64 sf])]
structure D (w : World) (ys : List flP.Pr) (rs : List Rn) (ya ra : Option Addr) (yc rc : Nat) (lg : ByteArray) (sf : Int) (g : G) (c2 c8 c9 : Bool) (W : World) : Prop where
  bel : Below w.heap.size w W
  box : W.heap[w.heap.size]? = some (.cells #[.slice ya ys.length yc, .slice ra rs.length rc, .string lg, .int .i64 sf] 32 (0, 0))
  res : W.heap[w.heap.size + 1]? = some (.cells (if c9 then #[.slice (some ⟨g.xg, 0, none⟩) ys.length ys.length, .slice (some ⟨g.xh, 0, none⟩) rs.length rs.length, .string lg, .int .i64 sf] else #[.slice none 0 0, .slice none 0 0, .string ⟨#[]⟩, .int .i64 0]) 32 (0, 0))
  at2 : c2 = true → CT W (w.heap.size + 2) ys rs g.g g.h g.ks
  at8 : c8 = true → c2 = true ∧ g.xg = g.g ∧ g.xh = g.h
  at9 : c9 = true → c8 = true
def C (w : World) (ys : List flP.Pr) (rs : List Rn) (ya ra : Option Addr) (yc rc : Nat) (lg : ByteArray) (sf : Int) (g : G) (L : Nat → Bool) (W : World) : Prop := D w ys rs ya ra yc rc lg sf g (L 2) (L 8) (L 9) W
section
variable {w : World} {ys : List flP.Pr} {rs : List Rn} {ya ra : Option Addr} {yc rc : Nat} {lg : ByteArray} {sf : Int} {g : G} {c2 c8 c9 : Bool} {W W' : World}
theorem D.on (h : D w ys rs ya ra yc rc lg sf g c2 c8 c9 W) (hb : Below W.heap.size W W') : D w ys rs ya ra yc rc lg sf g c2 c8 c9 W' :=
  ⟨h.bel.trans (hb.mono h.bel.size), bstay h.box hb (Array.getElem?_eq_some_iff.1 h.box).1, bstay h.res hb (Array.getElem?_eq_some_iff.1 h.res).1, fun e => (h.at2 e).on hb, h.at8, h.at9⟩
theorem D.size (h : D w ys rs ya ra yc rc lg sf g c2 c8 c9 W) : w.heap.size + 2 ≤ W.heap.size := (Array.getElem?_eq_some_iff.1 h.res).1
theorem no8 (h : D w ys rs ya ra yc rc lg sf g false c8 c9 W) : c8 = false := by
  cases c8 with
  | false => rfl
  | true => have := (h.at8 rfl).1; cases this
theorem no9 (h : D w ys rs ya ra yc rc lg sf g c2 false c9 W) : c9 = false := by
  cases c9 with
  | false => rfl
  | true => have := h.at9 rfl; cases this
end
section
variable {w : World} {ys : List flP.Pr} {rs : List Rn} {ya ra : Option Addr} {yc rc : Nat} {lg : ByteArray} {sf : Int} {act : Act} {Q : Exit → Act → World → Prop} {o : Oper}
theorem quiet {i : Nat} (hi : i = 0 ∨ i = 1 ∨ i = 3 ∨ i = 4 ∨ i = 6 ∨ i = 7) (hsel : ∀ cs b, o.op ≠ .select cs b) (u : Value) (hd : ∀ s d, o.dst = some d → (dk.sets act (ws w.heap.size ys rs ya ra yc rc lg sf s)).tmps[d]? = some u)
    (hrun : ∀ s W, W.heap[w.heap.size]? = some (.cells #[.slice ya ys.length yc, .slice ra rs.length rc, .string lg, .int .i64 sf] 32 (0, 0)) → (execOp (dk.sets act (ws w.heap.size ys rs ya ra yc rc lg sf s)).eval o).run Tryz.prog W = .ok (.value u) W) : gh.Step Tryz.prog (fun s => dk.sets act (ws w.heap.size ys rs ya ra yc rc lg sf s)) (C w ys rs ya ra yc rc lg sf) Q i o := by
  refine gh.step_val hsel fun s L W hdp h0 hC => ⟨s, u, gh.Agree.refl _ _, hd s, ?_⟩
  rw [hrun s W hC.box]
  refine ⟨rfl, ?_⟩
  unfold C
  rw [more_off L (show 2 ≠ i by omega), more_off L (show 8 ≠ i by omega), more_off L (show 9 ≠ i by omega)]
  exact hC
theorem st2 (F : tb.Fit ys rs) (hY : Row flP.c 3 w w.heap.size ya ys) (hR : VR w w.heap.size ra rs) (hsz : 11 < act.tmps.size) (hsel : ∀ cs b, o.op ≠ .select cs b) (hdst : o.dst = some 5) (hrun : ∀ s W, (execOp (dk.sets act (ws w.heap.size ys rs ya ra yc rc lg sf s)).eval o).run Tryz.prog W = .ok (.enter 39 #[.agg #[.slice ya ys.length yc, .slice ra rs.length rc]]) W) : gh.Step Tryz.prog (fun s => dk.sets act (ws w.heap.size ys rs ya ra yc rc lg sf s)) (C w ys rs ya ra yc rc lg sf) Q 2 o := by
  refine stc.step_call hsel 39 #[.agg #[.slice ya ys.length yc, .slice ra rs.length rc]] fun s L W hdp h0 hC => ⟨hrun s W, ?_⟩
  have hC : D w ys rs ya ra yc rc lg sf s (L 2) (L 8) (L 9) W := hC
  rw [h0] at hC
  refine (cpt.copy_table ys rs ya ra yc rc W F (hY.inn hC.bel) (hR.inn hC.bel)).mono ?_
  rintro e w' ⟨g, h, ks, rfl, m, hg, hh, ho, hor, hne, hb⟩
  refine ⟨{ s with g := g, h := h, ks := ks }, _, rfl, dk.agree_sets 2 5 _ hdst rfl rfl, (fun d hd => by rw [hdst] at hd; cases hd; exact dk.sets_on _ (by omega) _ rfl), ?_⟩
  show D w ys rs ya ra yc rc lg sf _ (dn.more L 2 2) (dn.more L 2 8) (dn.more L 2 9) _
  rw [more_on, more_off L (show 8 ≠ 2 by omega), more_off L (show 9 ≠ 2 by omega)]
  have h8 := no8 hC
  rw [h8] at hC ⊢
  have h9 := no9 hC
  rw [h9] at hC ⊢
  have h1 := hC.on hb
  have hs := hC.size
  exact ⟨h1.bel, h1.box, h1.res, fun _ => ⟨ho, or_low hor (by omega), m, by show w.heap.size + 2 ≤ g; omega, by show w.heap.size + 2 ≤ h; omega, hne⟩, fun e => (by cases e), fun e => (by cases e)⟩
theorem st5 (hl : lg.size ≤ 1048576) (hsz : 11 < act.tmps.size) (hsel : ∀ cs b, o.op ≠ .select cs b) (hdst : o.dst = some 8) (hrun : ∀ s W, (execOp (dk.sets act (ws w.heap.size ys rs ya ra yc rc lg sf s)).eval o).run Tryz.prog W = .ok (.enter 25 #[.string lg]) W) : gh.Step Tryz.prog (fun s => dk.sets act (ws w.heap.size ys rs ya ra yc rc lg sf s)) (C w ys rs ya ra yc rc lg sf) Q 5 o := by
  refine stc.step_call hsel 25 #[.string lg] fun s L W hdp h0 hC => ⟨hrun s W, ?_⟩
  have hC : D w ys rs ya ra yc rc lg sf s (L 2) (L 8) (L 9) W := hC
  refine (cl.clone lg W (by omega)).mono ?_
  rintro e w' ⟨rfl, hb⟩
  refine ⟨s, _, rfl, gh.Agree.refl _ _, (fun d hd => by rw [hdst] at hd; cases hd; exact dk.sets_on _ (by omega) _ rfl), ?_⟩
  show D w ys rs ya ra yc rc lg sf _ (dn.more L 5 2) (dn.more L 5 8) (dn.more L 5 9) _
  rw [more_off L (show 2 ≠ 5 by omega), more_off L (show 8 ≠ 5 by omega), more_off L (show 9 ≠ 5 by omega)]
  exact hC.on hb
theorem st8 (hsz : 11 < act.tmps.size) (hop : o.op = .build 32 #[(0, .tmp 5), (1, .tmp 8), (2, .tmp 10)]) (hdst : o.dst = some 11) (hd2 : ∃ e ∈ o.after, Region.binds .any e = true ∧ e.on = 2) : gh.Step Tryz.prog (fun s => dk.sets act (ws w.heap.size ys rs ya ra yc rc lg sf s)) (C w ys rs ya ra yc rc lg sf) Q 8 o := by
  refine gh.step_val (by rw [hop]; simp) fun s L W hdp h0 hC => ⟨{ s with xg := s.g, xh := s.h }, .agg #[.slice (some ⟨s.g, 0, none⟩) ys.length ys.length, .slice (some ⟨s.h, 0, none⟩) rs.length rs.length, .string lg, .int .i64 sf], dk.agree_sets 8 11 _ hdst rfl rfl, (fun d hd => by rw [hdst] at hd; cases hd; exact dk.sets_on _ (by omega) _ rfl), ?_⟩
  obtain ⟨x2, m2, y2, z2⟩ := hd2
  have l2 := hdp x2 m2 y2
  rw [z2] at l2
  have e5 : (dk.sets act (ws w.heap.size ys rs ya ra yc rc lg sf s)).tmps[5]? = some (.agg #[.slice (some ⟨s.g, 0, none⟩) ys.length ys.length, .slice (some ⟨s.h, 0, none⟩) rs.length rs.length]) := dk.sets_on _ (by omega) _ rfl
  have e8 : (dk.sets act (ws w.heap.size ys rs ya ra yc rc lg sf s)).tmps[8]? = some (.string lg) := dk.sets_on _ (by omega) _ rfl
  have e10 : (dk.sets act (ws w.heap.size ys rs ya ra yc rc lg sf s)).tmps[10]? = some (.int .i64 sf) := dk.sets_on _ (by omega) _ rfl
  have hrun : (execOp (dk.sets act (ws w.heap.size ys rs ya ra yc rc lg sf s)).eval o).run Tryz.prog W = .ok (.value (.agg #[.slice (some ⟨s.g, 0, none⟩) ys.length ys.length, .slice (some ⟨s.h, 0, none⟩) rs.length rs.length, .string lg, .int .i64 sf])) W := by
    simp [execOp, hop, e5, e8, e10, go_sem]
  rw [hrun]
  refine ⟨rfl, ?_⟩
  have hC : D w ys rs ya ra yc rc lg sf s (L 2) (L 8) (L 9) W := hC
  rw [h0] at hC
  show D w ys rs ya ra yc rc lg sf _ (dn.more L 8 2) (dn.more L 8 8) (dn.more L 8 9) _
  rw [more_on, more_off L (show 2 ≠ 8 by omega), more_off L (show 9 ≠ 8 by omega)]
  have h9 := no9 hC
  rw [h9] at hC ⊢
  exact ⟨hC.bel, hC.box, hC.res, hC.at2, fun _ => ⟨l2, rfl, rfl⟩, fun e => (by cases e)⟩
theorem st9 (hsz : 11 < act.tmps.size) (hop : o.op = .store 32 (.tmp 2) (.tmp 11)) (hdst : o.dst = none) (ha2 : ∀ s, (dk.sets act (ws w.heap.size ys rs ya ra yc rc lg sf s)).tmps[2]? = some (.pointer (some ⟨w.heap.size + 1, 0, none⟩))) (hd8 : ∃ e ∈ o.after, Region.binds .any e = true ∧ e.on = 8) : gh.Step Tryz.prog (fun s => dk.sets act (ws w.heap.size ys rs ya ra yc rc lg sf s)) (C w ys rs ya ra yc rc lg sf) Q 9 o := by
  refine gh.step_val (by rw [hop]; simp) fun s L W hdp h0 hC => ⟨s, undef, gh.Agree.refl _ _, (fun d hd => by rw [hdst] at hd; cases hd), ?_⟩
  obtain ⟨x8, m8, y8, z8⟩ := hd8
  have l8 := hdp x8 m8 y8
  rw [z8] at l8
  have hC : D w ys rs ya ra yc rc lg sf s (L 2) (L 8) (L 9) W := hC
  rw [h0] at hC
  obtain ⟨l2, hxg, hxh⟩ := hC.at8 l8
  have hr := hC.res
  rw [if_neg (by simp)] at hr
  have e11 : (dk.sets act (ws w.heap.size ys rs ya ra yc rc lg sf s)).tmps[11]? = some (.agg #[.slice (some ⟨s.xg, 0, none⟩) ys.length ys.length, .slice (some ⟨s.xh, 0, none⟩) rs.length rs.length, .string lg, .int .i64 sf]) := dk.sets_on _ (by omega) _ rfl
  have c0 : W.cell? ⟨w.heap.size + 1, 0, none⟩ = some (.slice none 0 0) := bcell hr rfl
  have c1 : W.cell? ⟨w.heap.size + 1, 1, none⟩ = some (.slice none 0 0) := bcell hr rfl
  have c2 : W.cell? ⟨w.heap.size + 1, 2, none⟩ = some (.string ⟨#[]⟩) := bcell hr rfl
  have c3 : W.cell? ⟨w.heap.size + 1, 3, none⟩ = some (.int .i64 0) := bcell hr rfl
  have f0 := bfree hr 0
  have f1 := bfree hr 1
  have f2 := bfree hr 2
  have f3 := bfree hr 3
  have hrun : (execOp (dk.sets act (ws w.heap.size ys rs ya ra yc rc lg sf s)).eval o).run Tryz.prog W = .ok .skip ((((W.setCell ⟨w.heap.size + 1, 0, none⟩ (.slice (some ⟨s.xg, 0, none⟩) ys.length ys.length)).setCell ⟨w.heap.size + 1, 1, none⟩ (.slice (some ⟨s.xh, 0, none⟩) rs.length rs.length)).setCell ⟨w.heap.size + 1, 2, none⟩ (.string lg)).setCell ⟨w.heap.size + 1, 3, none⟩ (.int .i64 sf)) := by
    simp [execOp, hop, ha2, e11, go_sem, c0, c1, c2, c3, f0, f1, f2, f3]
  rw [hrun]
  refine ⟨rfl, ?_⟩
  show D w ys rs ya ra yc rc lg sf _ (dn.more L 9 2) (dn.more L 9 8) (dn.more L 9 9) _
  rw [more_on, more_off L (show 2 ≠ 9 by omega), more_off L (show 8 ≠ 9 by omega)]
  have lt : w.heap.size + 1 < w.heap.size + 2 := by omega
  have le : w.heap.size ≤ w.heap.size + 1 := by omega
  exact ⟨(((hC.bel.setCell le _).setCell le _).setCell le _).setCell le _, boff (boff (boff (boff hC.box _ _ _ (by omega)) _ _ _ (by omega)) _ _ _ (by omega)) _ _ _ (by omega), bset (bset (bset (bset hr 0 _) 1 _) 2 _) 3 _, fun e => ((((hC.at2 e).set lt _ _).set lt _ _).set lt _ _).set lt _ _, hC.at8, fun _ => l8⟩
end

set_option maxRecDepth 100000 in
set_option maxHeartbeats 4000000 in
theorem copy_store (ys : List flP.Pr) (rs : List Rn) (ya ra : Option Addr) (yc rc : Nat) (lg : ByteArray) (sf : Int) (w : World) (F : tb.Fit ys rs) (hlg : lg.size ≤ 1048576) (hY : Row flP.c 3 w w.heap.size ya ys) (hR : VR w w.heap.size ra rs) :
    Calls Tryz.prog 20 #[.agg #[.slice ya ys.length yc, .slice ra rs.length rc, .string lg, .int .i64 sf]] w fun e w' => ∃ g h ks, e = .returned (.agg #[.slice (some ⟨g, 0, none⟩) ys.length ys.length, .slice (some ⟨h, 0, none⟩) rs.length rs.length, .string lg, .int .i64 sf]) ∧ CT w' (w.heap.size + 2) ys rs g h ks ∧ Below w.heap.size w w' := by
  have h0 : D w ys rs ya ra yc rc lg sf ⟨0, 0, [], 0, 0⟩ false false false ((w.alloc (.cells #[.slice ya ys.length yc, .slice ra rs.length rc, .string lg, .int .i64 sf] 32)).alloc (.cells #[.slice none 0 0, .slice none 0 0, .string ⟨#[]⟩, .int .i64 0] 32)).drew := by
    refine ⟨(((Below.refl _ _).alloc (Nat.le_refl _) _).alloc (by simp) _).drew, bold (bnew w _ _) _, ?_, fun e => (by cases e), fun e => (by cases e), fun e => (by cases e)⟩
    have := bnew (w.alloc (.cells #[.slice ya ys.length yc, .slice ra rs.length rc, .string lg, .int .i64 sf] 32)) #[.slice none 0 0, .slice none 0 0, .string ⟨#[]⟩, .int .i64 0] 32
    rw [World.size_alloc] at this
    exact this
  have HF : Hid (tb.Fit ys rs) := F
  have HY : Hid (Row flP.c 3 w w.heap.size ya ys) := hY
  have HR : Hid (VR w w.heap.size ra rs) := hR
  clear hY hR F
  go_enter Tryz.func20, Tryz.ntmps20
  go_wp2
  refine dk.region_gsets (ws w.heap.size ys rs ya ra yc rc lg sf) [3, 4, 5, 6, 7, 8, 9, 10, 11] (C w ys rs ya ra yc rc lg sf) ⟨0, 0, [], 0, 0⟩ (by kernel_rfl) (by kernel_rfl) (fun _ => rfl) (by kernel_rfl) h0 ?each ?fin
  case each =>
    refine ⟨quiet (by decide) (by simp) (.pointer (some ⟨w.heap.size, 0, none⟩)) (by rintro s _ ⟨⟩; exact dk.sets_on _ (by simp) _ rfl) (fun s W h => by simp [execOp, go_sem, Act.eval, dk.sets_get, ws, List.lookup]), ?_⟩
    refine ⟨quiet (by decide) (by simp) (.agg #[.slice ya ys.length yc, .slice ra rs.length rc]) (by rintro s _ ⟨⟩; exact dk.sets_on _ (by simp) _ rfl) (fun s W h => by have c0 : W.cell? ⟨w.heap.size, 0, none⟩ = some (.slice ya ys.length yc) := bcell h rfl; have c1 : W.cell? ⟨w.heap.size, 1, none⟩ = some (.slice ra rs.length rc) := bcell h rfl; simp [execOp, go_sem, Act.eval, dk.sets_get, ws, List.lookup, c0, c1]), ?_⟩
    refine ⟨st2 HF.out HY.out HR.out (by simp) (by simp) rfl (fun s W => by simp [go_sem, Act.eval, dk.sets_get, ws, List.lookup]), ?_⟩
    refine ⟨quiet (by decide) (by simp) (.pointer (some ⟨w.heap.size, 2, none⟩)) (by rintro s _ ⟨⟩; exact dk.sets_on _ (by simp) _ rfl) (fun s W h => by simp [execOp, go_sem, Act.eval, dk.sets_get, ws, List.lookup]), ?_⟩
    refine ⟨quiet (by decide) (by simp) (.string lg) (by rintro s _ ⟨⟩; exact dk.sets_on _ (by simp) _ rfl) (fun s W h => by have c0 : W.cell? ⟨w.heap.size, 2, none⟩ = some (.string lg) := bcell h rfl; simp [execOp, go_sem, Act.eval, dk.sets_get, ws, List.lookup, c0]), ?_⟩
    refine ⟨st5 hlg (by simp) (by simp) rfl (fun s W => by simp [go_sem, Act.eval, dk.sets_get, ws, List.lookup]), ?_⟩
    refine ⟨quiet (by decide) (by simp) (.pointer (some ⟨w.heap.size, 3, none⟩)) (by rintro s _ ⟨⟩; exact dk.sets_on _ (by simp) _ rfl) (fun s W h => by simp [execOp, go_sem, Act.eval, dk.sets_get, ws, List.lookup]), ?_⟩
    refine ⟨quiet (by decide) (by simp) (.int .i64 sf) (by rintro s _ ⟨⟩; exact dk.sets_on _ (by simp) _ rfl) (fun s W h => by have c0 : W.cell? ⟨w.heap.size, 3, none⟩ = some (.int .i64 sf) := bcell h rfl; simp [execOp, go_sem, Act.eval, dk.sets_get, ws, List.lookup, c0]), ?_⟩
    refine ⟨st8 (by simp) rfl rfl ⟨⟨2, .data⟩, by simp, rfl, rfl⟩, ?_⟩
    exact ⟨st9 (by simp) rfl rfl (fun s => by simp [dk.sets_get, ws, List.lookup]) ⟨⟨8, .data⟩, by simp, rfl, rfl⟩, trivial⟩
  case fin =>
    intro g L W hL hC
    have hC' : D w ys rs ya ra yc rc lg sf g true true true W := by
      have h2 := hL 2 (by decide)
      have h8 := hL 8 (by decide)
      have h9 := hL 9 (by decide)
      unfold C at hC
      rw [h2, h8, h9] at hC
      exact hC
    obtain ⟨_, hxg, hxh⟩ := hC'.at8 rfl
    have hr := hC'.res
    rw [if_pos rfl, hxg, hxh] at hr
    have c0 : W.cell? ⟨w.heap.size + 1, 0, none⟩ = some (.slice (some ⟨g.g, 0, none⟩) ys.length ys.length) := bcell hr rfl
    have c1 : W.cell? ⟨w.heap.size + 1, 1, none⟩ = some (.slice (some ⟨g.h, 0, none⟩) rs.length rs.length) := bcell hr rfl
    have c2 : W.cell? ⟨w.heap.size + 1, 2, none⟩ = some (.string lg) := bcell hr rfl
    have c3 : W.cell? ⟨w.heap.size + 1, 3, none⟩ = some (.int .i64 sf) := bcell hr rfl
    simp only [dk.sets, ws]
    go_wp2
    exact bodyPost_ret (v := .agg #[.slice (some ⟨g.g, 0, none⟩) ys.length ys.length, .slice (some ⟨g.h, 0, none⟩) rs.length rs.length, .string lg, .int .i64 sf]) (by simp [results, Tryz.results20, go_sem, c0, c1, c2, c3]) rfl ⟨g.g, g.h, rfl, ⟨g.ks, hC'.at2 rfl⟩, hC'.bel⟩
end Go.Proofs.YtoemkbooomgieaaGreatDoor.scp

/- The text that the laws mark a list with: laws.markText. -/
namespace Go.Proofs.YtoemkbooomgieaaGreatDoor.sm
open Go.ChangeShapes Go.WideShapes Go.ChangeAt Go.RowKit

/-- the k-th mark -/
def mt (k : Nat) : ByteArray := ⟨(109 :: Lib.decDigits k).toArray⟩
end Go.Proofs.YtoemkbooomgieaaGreatDoor.sm
