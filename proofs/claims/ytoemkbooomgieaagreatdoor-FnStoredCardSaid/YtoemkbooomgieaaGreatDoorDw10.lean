/- StoreStep: the specification. -/
import Derived.Test.YtoemkbooomgieaaGreatDoorDw02
import Derived.Test.YtoemkbooomgieaaGreatDoorDw09
import Derived.Test.YtoemkbooomgieaaGreatDoorDw03
import Derived.Test.YtoemkbooomgieaaGreatDoorDw04

/- The specification's TableMerge: the region of its loop that puts two runs together. -/
namespace Go.Proofs.YtoemkbooomgieaaGreatDoor.smc
open Go.ChangeShapes Go.WideShapes Go.ChangeAt Go.RowKit Go.Proofs.YtoemkbooomgieaaGreatDoor.fl Go.Proofs.YtoemkbooomgieaaGreatDoor.fo Go.Proofs.YtoemkbooomgieaaGreatDoor.rn Go.Proofs.YtoemkbooomgieaaGreatDoor.sct
set_option linter.unusedVariables false

/-- what is drawn: the new run, the one run's place, the runs' row behind the append -/
structure G where
  v1 : Value
  h : Nat
  v2 : Value
structure D (p : Pm) (g : G) (c1 c19 c20 c21 c23 : Bool) (W : World) : Prop where
  tn : Tn p.W0 W (fun b => (c21 = true ∧ p.rv.ownBlock = some b) ∨ (c23 = true ∧ b = p.n3))
  out : W.heap[p.n3]? = some (.cells #[p.f0, if c23 then g.v2 else p.rv] 30 (0, 0))
  at19 : c19 = true → W.ownsRow p.W0.heap.size 61 3 g.v1 p.n p.xs
  at20 : c20 = true → c19 = true ∧ (c21 = false → W.heap[g.h]? = some (.cells #[g.v1] 28 (0, 0)))
  at21 : c21 = true → c20 = true ∧ c1 = true ∧ W.ownsRow p.B 28 1 g.v2 (p.k + 1) (p.ys ++ [g.v1])
  at23 : c23 = true → c21 = true
section
variable {p : Pm} {g : G} {c1 c19 c20 c21 c23 : Bool} {W W' : World} {v : Value}
theorem D.below (h : D p g c1 c19 c20 false false W) : Below p.W0.heap.size p.W0 W := h.tn.below (Nat.le_refl _) (fun k hk => by simp at hk)
theorem D.old (h : D p g c1 c19 c20 c21 c23 W) {b : Nat} {o : Obj} (hb : p.W0.heap[b]? = some o) (hne : b ≠ p.n3) (hr : p.rv.ownBlock ≠ some b) : W.heap[b]? = some o := by
  rw [h.tn.block b (Array.getElem?_eq_some_iff.1 hb).1 (fun e => by rcases e with ⟨_, e⟩ | ⟨_, e⟩ <;> contradiction)]
  exact hb
end
def C (p : Pm) (g : G) (L : Nat → Bool) (W : World) : Prop := D p g (L 1) (L 19) (L 20) (L 21) (L 23) W
theorem C.d {p : Pm} {g : G} {L : Nat → Bool} {W : World} (h : C p g L W) : D p g (L 1) (L 19) (L 20) (L 21) (L 23) W := h
section
variable {p : Pm} {s0 b m rc j l1 l2 c1 c2 : Nat} {a1 a2 : Option Addr} {last : Bool} {act : Act} {Q : Exit → Act → World → Prop} {o : Oper}
variable {i1 : TypeInfo} {z1 : Value}
end
end Go.Proofs.YtoemkbooomgieaaGreatDoor.smc

/- The specification's TableMerge: what stands in its loop. -/
namespace Go.Proofs.YtoemkbooomgieaaGreatDoor.mgk
open Go.ChangeShapes Go.WideShapes Go.ChangeAt Go.RowKit Go.Proofs.YtoemkbooomgieaaGreatDoor.fl Go.Proofs.YtoemkbooomgieaaGreatDoor.fo Go.Proofs.YtoemkbooomgieaaGreatDoor.rn Go.Proofs.YtoemkbooomgieaaGreatDoor.tk Go.Proofs.YtoemkbooomgieaaGreatDoor.tko Go.Proofs.YtoemkbooomgieaaGreatDoor.tan Go.Proofs.YtoemkbooomgieaaGreatDoor.mga Go.Proofs.YtoemkbooomgieaaGreatDoor.mgd Go.Proofs.YtoemkbooomgieaaGreatDoor.sci Go.Proofs.YtoemkbooomgieaaGreatDoor.sct
set_option linter.unusedVariables false

/-- what stands in the loop: the box, the answer's place, the new table's place, its pairs, its runs so far, and what is still to come -/
structure StM (w : World) (ys : List flP.Pr) (rs : List Rn) (a0 yc b rc n3 g1 c1 : Nat) (k : Nat) (va : Option Addr) (vc : Nat) (ks : List Rn) (td M : List (List flP.Pr)) (W : World) : Prop where
  bel : Below w.heap.size w W
  box : W.heap[w.heap.size]? = some (.cells #[.slice (some ⟨a0, 0, none⟩) ys.length yc, .slice (some ⟨b, 0, none⟩) rs.length rc] 30 (0, 0))
  res : W.heap[w.heap.size + 1]? = some (.cells #[.slice none 0 0, .slice none 0 0] 30 (0, 0))
  lo : w.heap.size + 2 ≤ n3
  out : W.heap[n3]? = some (.cells #[.slice (some ⟨g1, 0, none⟩) ys.length c1, .slice va k vc] 30 (0, 0))
  fresh : W.ownsRow (w.heap.size + 2) 61 3 (.slice (some ⟨g1, 0, none⟩) ys.length c1) ys.length (ys.flatMap flP.c)
  runs : W.ownsRow (w.heap.size + 2) 28 1 (.slice va k vc) k (ks.flatMap cR)
  same : ks.map (·.l) ++ td = M
  rows : ∀ r ∈ ks, OwnR W (w.heap.size + 2) r
section
variable {w W W' : World} {ys : List flP.Pr} {rs : List Rn} {a0 yc b rc n3 g1 c1 k : Nat} {va : Option Addr} {vc : Nat} {ks : List Rn} {td M : List (List flP.Pr)}
theorem StM.big (h : StM w ys rs a0 yc b rc n3 g1 c1 k va vc ks td M W) : w.heap.size + 2 ≤ W.heap.size := (Array.getElem?_eq_some_iff.1 h.res).1
theorem StM.on (h : StM w ys rs a0 yc b rc n3 g1 c1 k va vc ks td M W) (hb : Below W.heap.size W W') : StM w ys rs a0 yc b rc n3 g1 c1 k va vc ks td M W' := by
  have hg : W.grownBy W' none := ⟨hb.os, hb.tape, hb.output, hb.size, fun k hk _ => hb.block k hk⟩
  exact ⟨h.bel.trans (hb.mono h.bel.size), bstay h.box hb (Array.getElem?_eq_some_iff.1 h.box).1, bstay h.res hb (Array.getElem?_eq_some_iff.1 h.res).1, h.lo, bstay h.out hb (Array.getElem?_eq_some_iff.1 h.out).1, h.fresh.kept hg (by simp [Value.ownBlock]), h.runs.kept hg (by cases (Value.slice va k vc).ownBlock <;> simp), h.same, fun r hr => (h.rows r hr).kept hg (by cases (Value.slice r.a r.l.length r.c).ownBlock <;> simp)⟩
theorem StM.step (h : StM w ys rs a0 yc b rc n3 g1 c1 k va vc ks td M W) {r : Rn} {td' : List (List flP.Pr)} (hr : td = r.l :: td') {v2 : Value} (ht : Tn W W' (fun x => (Value.slice va k vc).ownBlock = some x ∨ x = n3)) (ho : W'.heap[n3]? = some (.cells #[.slice (some ⟨g1, 0, none⟩) ys.length c1, v2] 30 (0, 0)))
    (o1 : W'.ownsRow W.heap.size 61 3 (.slice r.a r.l.length r.c) r.l.length (r.l.flatMap flP.c)) (o2 : W'.ownsRow (w.heap.size + 2) 28 1 v2 (k + 1) (ks.flatMap cR ++ [.slice r.a r.l.length r.c])) : ∃ va' vc' ks', v2 = .slice va' (k + 1) vc' ∧ StM w ys rs a0 yc b rc n3 g1 c1 (k + 1) va' vc' ks' td' M W' := by
  obtain ⟨va', vc', rfl⟩ : ∃ va' vc', v2 = .slice va' (k + 1) vc' := by
    obtain ⟨_, ⟨e, h0⟩ | ⟨g, cap, cur, e, _⟩⟩ := o2
    · cases h0
    · exact ⟨_, _, e⟩
  have hbig := h.big
  have hlo := h.lo
  have hrb : ∀ x, (Value.slice va k vc).ownBlock = some x → w.heap.size + 2 ≤ x := fun x e => (h.runs.lt x e).1
  have keep : ∀ x, x < w.heap.size + 2 → ¬ ((Value.slice va k vc).ownBlock = some x ∨ x = n3) := fun x hx e => by
    rcases e with e | e
    · have := hrb x e; omega
    · omega
  have kept : ∀ v n xs, W.ownsRow (w.heap.size + 2) 61 3 v n xs → W'.ownsRow (w.heap.size + 2) 61 3 v n xs := fun v n xs hv => own_tn hv ht (fun g e hS => by
    rcases hS with hS | hS
    · exact clash hv h.runs e hS
    · subst hS; exact clash3 hv h.out e)
  refine ⟨va', vc', ks ++ [r], rfl, ⟨⟨ht.os.trans h.bel.os, ht.tape.trans h.bel.tape, ht.output.trans h.bel.output, Nat.le_trans h.bel.size ht.size, fun x hx => (ht.block x (by omega) (keep x (by omega))).trans (h.bel.block x hx)⟩, (ht.block _ (by omega) (keep _ (by omega))).trans h.box, (ht.block _ (by omega) (keep _ (by omega))).trans h.res, h.lo, ho, kept _ _ _ h.fresh, ?_, ?_, ?_⟩⟩
  · rw [List.flatMap_append]
    exact o2
  · rw [← h.same, hr]
    simp
  · intro s hs
    rcases List.mem_append.1 hs with hs | hs
    · exact kept _ _ _ (h.rows s hs)
    · simp at hs
      subst hs
      exact own_low o1 hbig
end
end Go.Proofs.YtoemkbooomgieaaGreatDoor.mgk

/- The specification's TableMerge: what stands in its loop, where the runs' row may be nothing. -/
namespace Go.Proofs.YtoemkbooomgieaaGreatDoor.mgko
open Go.ChangeShapes Go.WideShapes Go.ChangeAt Go.RowKit Go.Proofs.YtoemkbooomgieaaGreatDoor.fl Go.Proofs.YtoemkbooomgieaaGreatDoor.fo Go.Proofs.YtoemkbooomgieaaGreatDoor.rn Go.Proofs.YtoemkbooomgieaaGreatDoor.tk Go.Proofs.YtoemkbooomgieaaGreatDoor.tko Go.Proofs.YtoemkbooomgieaaGreatDoor.tan Go.Proofs.YtoemkbooomgieaaGreatDoor.mga Go.Proofs.YtoemkbooomgieaaGreatDoor.mgd Go.Proofs.YtoemkbooomgieaaGreatDoor.sci Go.Proofs.YtoemkbooomgieaaGreatDoor.sct Go.Proofs.YtoemkbooomgieaaGreatDoor.mgk
set_option linter.unusedVariables false

/-- what stands in the loop: the box, the answer's place, the new table's place, its pairs, its runs so far, and what is still to come -/
structure StMO (w : World) (ys : List flP.Pr) (rs : List Rn) (ya : Option Addr) (yc : Nat) (ra : Option Addr) (rc n3 g1 c1 : Nat) (k : Nat) (va : Option Addr) (vc : Nat) (ks : List Rn) (td M : List (List flP.Pr)) (W : World) : Prop where
  bel : Below w.heap.size w W
  box : W.heap[w.heap.size]? = some (.cells #[.slice ya ys.length yc, .slice ra rs.length rc] 30 (0, 0))
  res : W.heap[w.heap.size + 1]? = some (.cells #[.slice none 0 0, .slice none 0 0] 30 (0, 0))
  lo : w.heap.size + 2 ≤ n3
  out : W.heap[n3]? = some (.cells #[.slice (some ⟨g1, 0, none⟩) ys.length c1, .slice va k vc] 30 (0, 0))
  fresh : W.ownsRow (w.heap.size + 2) 61 3 (.slice (some ⟨g1, 0, none⟩) ys.length c1) ys.length (ys.flatMap flP.c)
  runs : W.ownsRow (w.heap.size + 2) 28 1 (.slice va k vc) k (ks.flatMap cR)
  same : ks.map (·.l) ++ td = M
  rows : ∀ r ∈ ks, OwnR W (w.heap.size + 2) r
  ap : sco.Ap (some ⟨g1, 0, none⟩) ks
section
variable {w W W' : World} {ys : List flP.Pr} {rs : List Rn} {ya : Option Addr} {yc : Nat} {ra : Option Addr} {rc n3 g1 c1 k : Nat} {va : Option Addr} {vc : Nat} {ks : List Rn} {td M : List (List flP.Pr)}
theorem StMO.big (h : StMO w ys rs ya yc ra rc n3 g1 c1 k va vc ks td M W) : w.heap.size + 2 ≤ W.heap.size := (Array.getElem?_eq_some_iff.1 h.res).1
theorem StMO.on (h : StMO w ys rs ya yc ra rc n3 g1 c1 k va vc ks td M W) (hb : Below W.heap.size W W') : StMO w ys rs ya yc ra rc n3 g1 c1 k va vc ks td M W' := by
  have hg : W.grownBy W' none := ⟨hb.os, hb.tape, hb.output, hb.size, fun k hk _ => hb.block k hk⟩
  exact ⟨h.bel.trans (hb.mono h.bel.size), bstay h.box hb (Array.getElem?_eq_some_iff.1 h.box).1, bstay h.res hb (Array.getElem?_eq_some_iff.1 h.res).1, h.lo, bstay h.out hb (Array.getElem?_eq_some_iff.1 h.out).1, h.fresh.kept hg (by simp [Value.ownBlock]), h.runs.kept hg (by cases (Value.slice va k vc).ownBlock <;> simp), h.same, fun r hr => (h.rows r hr).kept hg (by cases (Value.slice r.a r.l.length r.c).ownBlock <;> simp), h.ap⟩
theorem StMO.step (h : StMO w ys rs ya yc ra rc n3 g1 c1 k va vc ks td M W) {r : Rn} {td' : List (List flP.Pr)} (hr : td = r.l :: td') {v2 : Value} (ht : Tn W W' (fun x => (Value.slice va k vc).ownBlock = some x ∨ x = n3)) (ho : W'.heap[n3]? = some (.cells #[.slice (some ⟨g1, 0, none⟩) ys.length c1, v2] 30 (0, 0)))
    (o1 : W'.ownsRow W.heap.size 61 3 (.slice r.a r.l.length r.c) r.l.length (r.l.flatMap flP.c)) (o2 : W'.ownsRow (w.heap.size + 2) 28 1 v2 (k + 1) (ks.flatMap cR ++ [.slice r.a r.l.length r.c])) : ∃ va' vc' ks', v2 = .slice va' (k + 1) vc' ∧ StMO w ys rs ya yc ra rc n3 g1 c1 (k + 1) va' vc' ks' td' M W' := by
  obtain ⟨va', vc', rfl⟩ : ∃ va' vc', v2 = .slice va' (k + 1) vc' := by
    obtain ⟨_, ⟨e, h0⟩ | ⟨g, cap, cur, e, _⟩⟩ := o2
    · cases h0
    · exact ⟨_, _, e⟩
  have hbig := h.big
  have hlo := h.lo
  have hrb : ∀ x, (Value.slice va k vc).ownBlock = some x → w.heap.size + 2 ≤ x := fun x e => (h.runs.lt x e).1
  have keep : ∀ x, x < w.heap.size + 2 → ¬ ((Value.slice va k vc).ownBlock = some x ∨ x = n3) := fun x hx e => by
    rcases e with e | e
    · have := hrb x e; omega
    · omega
  have kept : ∀ v n xs, W.ownsRow (w.heap.size + 2) 61 3 v n xs → W'.ownsRow (w.heap.size + 2) 61 3 v n xs := fun v n xs hv => own_tn hv ht (fun g e hS => by
    rcases hS with hS | hS
    · exact clash hv h.runs e hS
    · subst hS; exact clash3 hv h.out e)
  refine ⟨va', vc', ks ++ [r], rfl, ⟨⟨ht.os.trans h.bel.os, ht.tape.trans h.bel.tape, ht.output.trans h.bel.output, Nat.le_trans h.bel.size ht.size, fun x hx => (ht.block x (by omega) (keep x (by omega))).trans (h.bel.block x hx)⟩, (ht.block _ (by omega) (keep _ (by omega))).trans h.box, (ht.block _ (by omega) (keep _ (by omega))).trans h.res, h.lo, ho, kept _ _ _ h.fresh, ?_, ?_, ?_, ?_⟩⟩
  · rw [List.flatMap_append]
    exact o2
  · rw [← h.same, hr]
    simp
  · intro s hs
    rcases List.mem_append.1 hs with hs | hs
    · exact kept _ _ _ (h.rows s hs)
    · simp at hs
      subst hs
      exact own_low o1 hbig
  · intro s hs x y hx hy
    rcases List.mem_append.1 hs with hs | hs
    · exact h.ap s hs x y hx hy
    · simp at hs
      subst hs
      cases hx
      have q1 := (o1.lt y.block (by rw [hy]; rfl)).1
      have q2 := (h.fresh.lt g1 rfl).2
      show g1 ≠ y.block
      omega
end
end Go.Proofs.YtoemkbooomgieaaGreatDoor.mgko

/- The specification's TableMerge where the runs' row may be nothing. -/
namespace Go.Proofs.YtoemkbooomgieaaGreatDoor.mgco
open Go.ChangeShapes Go.WideShapes Go.ChangeAt Go.RowKit Go.Proofs.YtoemkbooomgieaaGreatDoor.fl Go.Proofs.YtoemkbooomgieaaGreatDoor.fo Go.Proofs.YtoemkbooomgieaaGreatDoor.rn Go.Proofs.YtoemkbooomgieaaGreatDoor.tk Go.Proofs.YtoemkbooomgieaaGreatDoor.tko Go.Proofs.YtoemkbooomgieaaGreatDoor.tan Go.Proofs.YtoemkbooomgieaaGreatDoor.mga Go.Proofs.YtoemkbooomgieaaGreatDoor.mgd Go.Proofs.YtoemkbooomgieaaGreatDoor.sci Go.Proofs.YtoemkbooomgieaaGreatDoor.sct Go.Proofs.YtoemkbooomgieaaGreatDoor.mgk Go.Proofs.YtoemkbooomgieaaGreatDoor.mgko
set_option linter.unusedVariables false

end Go.Proofs.YtoemkbooomgieaaGreatDoor.mgco

/- StoreStep: the specification. -/
namespace Go.Proofs.YtoemkbooomgieaaGreatDoor.sst
open Go.ChangeShapes Go.WideShapes Go.ChangeAt Go.RowKit Go.Proofs.YtoemkbooomgieaaGreatDoor.fl Go.Proofs.YtoemkbooomgieaaGreatDoor.fo Go.Proofs.YtoemkbooomgieaaGreatDoor.rn Go.Proofs.YtoemkbooomgieaaGreatDoor.tan Go.Proofs.YtoemkbooomgieaaGreatDoor.sct Go.Proofs.YtoemkbooomgieaaGreatDoor.scp Go.Proofs.YtoemkbooomgieaaGreatDoor.ssy
set_option linter.unusedVariables false

/-- the table behind a step -/
noncomputable def ansY (ys : List flP.Pr) (R : List (List flP.Pr)) (lg : ByteArray) (sf kd x : Int) : List flP.Pr := if kd = 0 then fls.ansY ys R else ys
noncomputable def ansR (ys : List flP.Pr) (R : List (List flP.Pr)) (lg : ByteArray) (sf kd x : Int) : List (List flP.Pr) := if kd = 0 then fls.ansR ys R else if kd = 1 then mga.ansR ys R x else R
theorem ans_2 {ys : List flP.Pr} {R : List (List flP.Pr)} {lg : ByteArray} {sf kd x : Int} (h0 : kd ≠ 0) (h1 : kd ≠ 1) : ansY ys R lg sf kd x = ys ∧ ansR ys R lg sf kd x = R := by
  unfold ansY ansR
  rw [if_neg h0, if_neg h0, if_neg h1]
  exact ⟨rfl, rfl⟩
end Go.Proofs.YtoemkbooomgieaaGreatDoor.sst
