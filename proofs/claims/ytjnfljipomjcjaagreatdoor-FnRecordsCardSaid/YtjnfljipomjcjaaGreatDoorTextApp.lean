/- out = append(out, []byte(t)...) in one region that draws its order: the row of bytes that it leaves. -/
import Derived.Test.YtjnfljipomjcjaaGreatDoorRegionVar
import Derived.Test.YtjnfljipomjcjaaGreatDoorByteRow
namespace Go.Proofs.YtjnfljipomjcjaaGreatDoor.txa
open Go.ChangeShapes Go.WideShapes Go.ChangeAt Go.RowKit Go.Proofs.YtjnfljipomjcjaaGreatDoor.br
set_option linter.unusedVariables false

/-- what is drawn: the bytes of the text, the row behind the append, the variable -/
structure G where
  cv : Value
  av : Value
  fv : Value
/-- the row lies from B on in the world W0: its value, its bytes; the text -/
structure Pm where
  B : Nat
  W0 : World
  v0 : Value
  so : ByteArray
  tx : ByteArray
def CV (v : Value) (tx : ByteArray) (W : World) : Prop := ∃ b c, v = .slice (some ⟨b, 0, none⟩) tx.size c ∧ b < W.heap.size ∧ ∀ (j : Nat) (x : UInt8), tx.data.toList[j]? = some x → W.cell? ⟨b, j, none⟩ = some (.int .u8 x.toNat)
theorem CV.below {v : Value} {tx : ByteArray} {W W' : World} (h : CV v tx W) (hb : Below W.heap.size W W') : CV v tx W' := by
  obtain ⟨b, c, h1, h2, h3⟩ := h
  exact ⟨b, c, h1, Nat.lt_of_lt_of_le h2 hb.size, fun j x hx => (hb.cell (p := ⟨b, j, none⟩) h2).trans (h3 j x hx)⟩
structure D (p : Pm) (g : G) (c0 c1 c2 : Bool) (W : World) : Prop where
  bel : Below p.B p.W0 W
  bel2 : c1 = false → Below p.W0.heap.size p.W0 W
  cv : c0 = true → c1 = false → CV g.cv p.tx W
  av : c1 = true → c0 = true ∧ BR W p.B g.av (p.so ++ p.tx)
  fv : c2 = true → c1 = true ∧ g.fv = g.av
def C (p : Pm) (j : Nat) (g : G) (L : Nat → Bool) (W : World) : Prop := D p g (L j) (L (j + 1)) (L (j + 2)) W
theorem more_on (L : Nat → Bool) (i : Nat) : dn.more L i i = true := by unfold dn.more; rw [if_pos rfl]
theorem more_off (L : Nat → Bool) {i j : Nat} (h : j ≠ i) : dn.more L i j = L j := by unfold dn.more; rw [if_neg h]
theorem start (p : Pm) (j : Nat) (g : G) (hB : p.B ≤ p.W0.heap.size) : C p j g (fun _ => false) p.W0.drew := by
  refine ⟨(Below.refl _ _).drew, fun _ => (Below.refl _ _).drew, fun h => (by cases h), fun h => (by cases h), fun h => (by cases h)⟩

section
variable {p : Pm} {j d : Nat} {ws : G → List (Nat × Value)} {act : Act} {Q : Exit → Act → World → Prop} {o : Oper}
theorem D.on {g : G} {c0 c1 c2 : Bool} {W W' : World} (h : D p g c0 c1 c2 W) (hB : p.B ≤ p.W0.heap.size) (hb : Below W.heap.size W W') : D p g c0 c1 c2 W' :=
  ⟨h.bel.trans (hb.mono (Nat.le_trans hB (h.bel.size))), fun e => (h.bel2 e).trans (hb.mono (h.bel2 e).size), fun a b => (h.cv a b).below hb, fun a => ⟨(h.av a).1, (h.av a).2.below hb⟩, h.fv⟩
theorem quiet {i : Nat} (hi : i ≠ j ∧ i ≠ j + 1 ∧ i ≠ j + 2) (hsel : ∀ cs b, o.op ≠ .select cs b) (u : Value) (hd : ∀ s d', o.dst = some d' → (dk.sets act ((d, s.fv) :: ws s)).tmps[d']? = some u)
    (hrun : ∀ s W, Below p.B p.W0 W → (execOp (dk.sets act (ws s)).eval o).run Tryz.prog W = .ok (.value u) W) : rv.Step Tryz.prog (fun s => dk.sets act (ws s)) (fun s => dk.sets act ((d, s.fv) :: ws s)) (C p j) Q i o := by
  refine rv.step_val hsel fun s L W hdp h0 hC => ⟨s, u, gh.Agree.refl _ _, hd s, ?_⟩
  have hC' : D p s (L j) (L (j + 1)) (L (j + 2)) W := hC
  rw [hrun s W hC'.bel]
  refine ⟨rfl, ?_⟩
  obtain ⟨i0, i1, i2⟩ := hi
  unfold C
  rw [more_off L i0.symm, more_off L i1.symm, more_off L i2.symm]
  exact hC
theorem call {i : Nat} (hB : p.B ≤ p.W0.heap.size) (hi : i ≠ j ∧ i ≠ j + 1 ∧ i ≠ j + 2) (hsel : ∀ cs b, o.op ≠ .select cs b) (f : FuncId) (args : Array Value) (u : Value) (hd : ∀ s d', o.dst = some d' → (dk.sets act ((d, s.fv) :: ws s)).tmps[d']? = some u)
    (hrun : ∀ s W, Below p.B p.W0 W → (execOp (dk.sets act (ws s)).eval o).run Tryz.prog W = .ok (.enter f args) W) (hcall : ∀ W, Calls Tryz.prog f args W fun e w' => e = .returned u ∧ Below W.heap.size W w') : rv.Step Tryz.prog (fun s => dk.sets act (ws s)) (fun s => dk.sets act ((d, s.fv) :: ws s)) (C p j) Q i o := by
  refine rv.step_val hsel fun s L W hdp h0 hC => ⟨s, u, gh.Agree.refl _ _, hd s, ?_⟩
  have hC' : D p s (L j) (L (j + 1)) (L (j + 2)) W := hC
  rw [hrun s W hC'.bel]
  refine (hcall W).mono fun e w' ⟨h1, h2⟩ => ⟨h1, ?_⟩
  obtain ⟨i0, i1, i2⟩ := hi
  unfold C
  rw [more_off L i0.symm, more_off L i1.symm, more_off L i2.symm]
  exact hC'.on hB h2
theorem lookup_more {ws : List (Nat × Value)} {d t : Nat} {fv : Value} (h : t ≠ d) : ((d, fv) :: ws).lookup t = ws.lookup t := by simp [List.lookup, show (t == d) = false by simpa using h]
theorem st0 (hB : p.B ≤ p.W0.heap.size) (htx : p.tx.size ≤ 1048576) {s1 t idx : Nat} (hop : o.op = .convert 9 22 (.tmp s1)) (hdst : o.dst = some t) (htd : t ≠ d) (hsz : t < act.tmps.size ∧ s1 < act.tmps.size)
    (ld : ∀ g, (ws g).lookup t = some g.cv) (l1 : ∀ g, (ws g).lookup s1 = some (.string p.tx)) (hidx : ∀ g, ((ws g)[idx]?.map (·.1)) = some t) (hset : ∀ g (v : Value), ws { g with cv := v } = (ws g).set idx (t, v)) :
    rv.Step Tryz.prog (fun s => dk.sets act (ws s)) (fun s => dk.sets act ((d, s.fv) :: ws s)) (C p j) Q j o := by
  refine rv.step_val (by rw [hop]; simp) fun s L W hdp h0 hC => ?_
  have hC' : D p s (L j) (L (j + 1)) (L (j + 2)) W := hC
  obtain ⟨W2, C2, hcv, hBR, hcl, hb2, hs2⟩ := conv W p.tx htx
  refine ⟨{ s with cv := .slice (some ⟨W.heap.size, 0, none⟩) p.tx.size C2 }, .slice (some ⟨W.heap.size, 0, none⟩) p.tx.size C2, ?_, ?_, ?_⟩
  · refine dk.agree_sets (idx + 1) t (.slice (some ⟨W.heap.size, 0, none⟩) p.tx.size C2) hdst (by simpa using hidx s) ?_
    rw [hset]
    rfl
  · intro d' hd
    rw [hdst] at hd
    cases hd
    exact dk.sets_on _ hsz.1 _ (by rw [lookup_more htd]; exact ld _)
  · have e1 : (dk.sets act (ws s)).eval (.tmp s1) = .string p.tx := dk.eval_on _ _ hsz.2 (l1 s)
    have hr : (execOp (dk.sets act (ws s)).eval o).run Tryz.prog W = .ok (.value (.slice (some ⟨W.heap.size, 0, none⟩) p.tx.size C2)) W2 := by
      unfold execOp
      simp [hop, e1, hcv, Result.andThen]
    rw [hr]
    refine ⟨rfl, ?_⟩
    unfold C
    rw [more_on, more_off L (show j + 1 ≠ j by omega), more_off L (show j + 2 ≠ j by omega)]
    have n1 : L (j + 1) = false := by
      cases h : L (j + 1) with
      | false => rfl
      | true => have := (hC'.av h).1; rw [h0] at this; cases this
    have n2 : L (j + 2) = false := by
      cases h : L (j + 2) with
      | false => rfl
      | true => have := (hC'.fv h).1; rw [n1] at this; cases this
    rw [n1, n2] at hC' ⊢
    have ho := hC'.on hB hb2
    exact ⟨ho.bel, ho.bel2, fun _ _ => ⟨W.heap.size, C2, rfl, by omega, hcl⟩, fun h => (by cases h), fun h => (by cases h)⟩
theorem st1 (hB : p.B ≤ p.W0.heap.size) (hl : p.so.size + p.tx.size ≤ 1048576) (hrow : BR p.W0 p.B p.v0 p.so) {s1 s2 t idx : Nat} (hop : o.op = .call { callee := .builtin .append, args := #[.tmp s1, .tmp s2], argTypes := #[22, 22] }) (hdst : o.dst = some t) (htd : t ≠ d) (hsz : t < act.tmps.size ∧ s1 < act.tmps.size ∧ s2 < act.tmps.size)
    (ld : ∀ g, (ws g).lookup t = some g.av) (l1 : ∀ g, (ws g).lookup s1 = some p.v0) (l2 : ∀ g, (ws g).lookup s2 = some g.cv) (hidx : ∀ g, ((ws g)[idx]?.map (·.1)) = some t) (hset : ∀ g (v : Value), ws { g with av := v } = (ws g).set idx (t, v))
    (hdep : ∃ e ∈ o.after, Region.binds .any e = true ∧ e.on = j) : rv.Step Tryz.prog (fun s => dk.sets act (ws s)) (fun s => dk.sets act ((d, s.fv) :: ws s)) (C p j) Q (j + 1) o := by
  refine rv.step_val (by rw [hop]; simp) fun s L W hdp h0 hC => ?_
  have hC' : D p s (L j) (L (j + 1)) (L (j + 2)) W := hC
  obtain ⟨xp, mp, yp, zp⟩ := hdep
  have lp := hdp xp mp yp
  rw [zp] at lp
  rw [h0, lp] at hC'
  obtain ⟨b, c, hcv, hb, hcl⟩ := hC'.cv rfl rfl
  have hbel2 := hC'.bel2 rfl
  obtain ⟨v', w', hr, hBR, hb'⟩ := run_app W p.B o.type p.v0 p.so p.tx ⟨b, 0, none⟩ c (hrow.below hbel2) (fun j y hy => by rw [addr_at, Nat.zero_add]; exact hcl j y hy) hl (Nat.le_trans hB hbel2.size)
  refine ⟨{ s with av := v' }, v', ?_, ?_, ?_⟩
  · refine dk.agree_sets (idx + 1) t v' hdst (by simpa using hidx s) ?_
    rw [hset]
    rfl
  · intro d' hd
    rw [hdst] at hd
    cases hd
    exact dk.sets_on _ hsz.1 _ (by rw [lookup_more htd]; exact ld _)
  · have e1 : (dk.sets act (ws s)).eval (.tmp s1) = p.v0 := dk.eval_on _ _ hsz.2.1 (l1 s)
    have e2 : (dk.sets act (ws s)).eval (.tmp s2) = .slice (some ⟨b, 0, none⟩) p.tx.size c := (dk.eval_on _ _ hsz.2.2 (l2 s)).trans hcv
    have hr2 : (execOp (dk.sets act (ws s)).eval o).run Tryz.prog W = .ok (.value v') w' := by
      unfold execOp
      simp only [hop, resolve, invoke, builtin, Sem.run_bind, Sem.run_pure, Result.andThen_ok, List.map_toArray, List.map_cons, List.map_nil, e1, e2, hr]
    rw [hr2]
    refine ⟨rfl, ?_⟩
    unfold C
    rw [more_on, more_off L (show j ≠ j + 1 by omega), more_off L (show j + 2 ≠ j + 1 by omega), lp]
    have n2 : L (j + 2) = false := by
      cases h : L (j + 2) with
      | false => rfl
      | true => rw [h] at hC'; have := (hC'.fv rfl).1; cases this
    rw [n2]
    exact ⟨hC'.bel.trans hb', fun h => (by cases h), fun _ h => (by cases h), fun _ => ⟨rfl, hBR⟩, fun h => (by cases h)⟩
theorem st2 {s1 : Nat} (hop : o.op = .assign (.tmp s1)) (hdst : o.dst = some d) (hsz : d < act.tmps.size ∧ s1 < act.tmps.size) (l1 : ∀ g, (ws g).lookup s1 = some g.av) (hset : ∀ g (v : Value), ws { g with fv := v } = ws g)
    (hdep : ∃ e ∈ o.after, Region.binds .any e = true ∧ e.on = j + 1) : rv.Step Tryz.prog (fun s => dk.sets act (ws s)) (fun s => dk.sets act ((d, s.fv) :: ws s)) (C p j) Q (j + 2) o := by
  refine rv.step_val (by rw [hop]; simp) fun s L W hdp h0 hC => ?_
  have hC' : D p s (L j) (L (j + 1)) (L (j + 2)) W := hC
  obtain ⟨xp, mp, yp, zp⟩ := hdep
  have lp := hdp xp mp yp
  rw [zp] at lp
  refine ⟨{ s with fv := s.av }, s.av, ?_, ?_, ?_⟩
  · refine dk.agree_sets 0 d s.av hdst rfl ?_
    rw [hset]
    rfl
  · intro d' hd
    rw [hdst] at hd
    cases hd
    exact dk.sets_on _ hsz.1 _ (by simp [List.lookup])
  · have e1 : (dk.sets act (ws s)).eval (.tmp s1) = s.av := dk.eval_on _ _ hsz.2 (l1 s)
    have hr2 : (execOp (dk.sets act (ws s)).eval o).run Tryz.prog W = .ok (.value s.av) W := by
      unfold execOp
      simp only [hop, e1, Sem.run_pure]
    rw [hr2]
    refine ⟨rfl, ?_⟩
    unfold C
    rw [more_on, more_off L (show j ≠ j + 2 by omega), more_off L (show j + 1 ≠ j + 2 by omega)]
    rw [lp] at hC' ⊢
    exact ⟨hC'.bel, fun h => (by cases h), fun _ h => (by cases h), hC'.av, fun _ => ⟨rfl, rfl⟩⟩
theorem done {g : G} {L : Nat → Bool} {W : World} {N : Nat} (h : C p j g L W) (hN : j + 2 < N) (hL : ∀ i, i < N → L i = true) : Below p.B p.W0 W ∧ g.fv = g.av ∧ BR W p.B g.av (p.so ++ p.tx) := by
  have h' : D p g (L j) (L (j + 1)) (L (j + 2)) W := h
  rw [hL (j + 1) (by omega), hL (j + 2) (by omega)] at h'
  exact ⟨h'.bel, (h'.fv rfl).2, (h'.av rfl).2⟩
end
end Go.Proofs.YtjnfljipomjcjaaGreatDoor.txa
