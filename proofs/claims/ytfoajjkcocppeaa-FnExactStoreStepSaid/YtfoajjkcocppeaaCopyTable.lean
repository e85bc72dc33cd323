/- copyTable: the same table, its pairs and runs in rows of their own; new memory alone. -/
import Derived.Test.YtfoajjkcocppeaaCopyPairs
import Derived.Test.YtfoajjkcocppeaaTabLib
import Derived.Test.YtfoajjkcocppeaaLayers
namespace Go.Proofs.Ytfoajjkcocppeaa.cpt
open Go.ChangeShapes Go.WideShapes Go.ChangeAt Go.RowKit Go.Proofs.Ytfoajjkcocppeaa.fl Go.Proofs.Ytfoajjkcocppeaa.rn
set_option linter.unusedVariables false

/-- where the rows and the answer come to lie, and what the answer is built of -/
structure G where
  gy : Nat
  gr : Nat
  gn : Nat
  xy : Nat
  xr : Nat
def ws (s n m : Nat) (ya ra : Option Addr) (yc rc : Nat) (g : G) : List (Nat × Value) := [(6, .pointer (some ⟨s, 0, none⟩)), (7, .slice ya n yc), (8, .slice (some ⟨g.gy, 0, none⟩) n n), (9, .pointer (some ⟨s, 1, none⟩)), (10, .slice ra m rc), (11, .int .i64 m), (12, .slice (some ⟨g.gr, 0, none⟩) m m), (13, .agg #[.slice (some ⟨g.xy, 0, none⟩) n n, .slice (some ⟨g.xr, 0, none⟩) m m]), (3, .pointer (some ⟨g.gn, 0, none⟩))]
structure D (w : World) (ys : List flP.Pr) (rs : List Rn) (ya ra : Option Addr) (yc rc : Nat) (g : G) (b2 b6 b7 b8 b9 : Bool) (W : World) : Prop where
  bel : Below w.heap.size w W
  box : W.heap[w.heap.size]? = some (.cells #[.slice ya ys.length yc, .slice ra rs.length rc] 32 (0, 0))
  res : W.heap[w.heap.size + 1]? = some (.cells #[.slice none 0 0, .slice none 0 0] 32 (0, 0))
  row2 : b2 = true → Own flP.c 3 63 W g.gy ys ys.length ∧ w.heap.size + 2 ≤ g.gy
  row6 : b6 = true → OR W (w.heap.size + 2) g.gr rs.length [] ∧ w.heap.size + 2 ≤ g.gr
  at7 : b7 = true → b2 = true ∧ b6 = true ∧ g.xy = g.gy ∧ g.xr = g.gr
  at8 : b8 = true → W.heap[g.gn]? = some (.cells (if b9 then #[.slice (some ⟨g.xy, 0, none⟩) ys.length ys.length, .slice (some ⟨g.xr, 0, none⟩) rs.length rs.length] else #[.slice none 0 0, .slice none 0 0]) 32 (0, 0)) ∧ w.heap.size + 2 ≤ g.gn
  at9 : b9 = true → b7 = true ∧ b8 = true
def C (w : World) (ys : List flP.Pr) (rs : List Rn) (ya ra : Option Addr) (yc rc : Nat) (g : G) (L : Nat → Bool) (W : World) : Prop := D w ys rs ya ra yc rc g (L 2) (L 6) (L 7) (L 8) (L 9) W
section
variable {w : World} {ys : List flP.Pr} {rs : List Rn} {ya ra : Option Addr} {yc rc : Nat} {g : G} {b2 b6 b7 b8 b9 : Bool} {W W' : World}
theorem D.on (h : D w ys rs ya ra yc rc g b2 b6 b7 b8 b9 W) (hb : Below W.heap.size W W') : D w ys rs ya ra yc rc g b2 b6 b7 b8 b9 W' :=
  ⟨h.bel.trans (hb.mono h.bel.size), bstay h.box hb (Array.getElem?_eq_some_iff.1 h.box).1, bstay h.res hb (Array.getElem?_eq_some_iff.1 h.res).1, fun e => ⟨(h.row2 e).1.below hb (h.row2 e).1.lt, (h.row2 e).2⟩, fun e => ⟨(h.row6 e).1.on hb, (h.row6 e).2⟩, h.at7, fun e => ⟨bstay (h.at8 e).1 hb (Array.getElem?_eq_some_iff.1 (h.at8 e).1).1, (h.at8 e).2⟩, h.at9⟩
theorem D.size (h : D w ys rs ya ra yc rc g b2 b6 b7 b8 b9 W) : w.heap.size + 2 ≤ W.heap.size := (Array.getElem?_eq_some_iff.1 h.res).1
theorem no72 (h : D w ys rs ya ra yc rc g false b6 b7 b8 b9 W) : b7 = false := by
  cases b7 with
  | false => rfl
  | true => have := (h.at7 rfl).1; cases this
theorem no76 (h : D w ys rs ya ra yc rc g b2 false b7 b8 b9 W) : b7 = false := by
  cases b7 with
  | false => rfl
  | true => have := (h.at7 rfl).2.1; cases this
theorem no97 (h : D w ys rs ya ra yc rc g b2 b6 false b8 b9 W) : b9 = false := by
  cases b9 with
  | false => rfl
  | true => have := (h.at9 rfl).1; cases this
theorem no98 (h : D w ys rs ya ra yc rc g b2 b6 b7 false b9 W) : b9 = false := by
  cases b9 with
  | false => rfl
  | true => have := (h.at9 rfl).2; cases this
end
section
variable {w : World} {ys : List flP.Pr} {rs : List Rn} {ya ra : Option Addr} {yc rc : Nat} {act : Act} {Q : Exit → Act → World → Prop}
theorem more_on (L : Nat → Bool) (i : Nat) : dn.more L i i = true := by unfold dn.more; rw [if_pos rfl]
theorem more_off (L : Nat → Bool) {i j : Nat} (h : j ≠ i) : dn.more L i j = L j := by unfold dn.more; rw [if_neg h]
theorem quiet {i : Nat} {o : Oper} (hi : i < 2 ∨ i = 3 ∨ i = 4 ∨ i = 5) (hsel : ∀ cs b, o.op ≠ .select cs b) (v : Value) (hd : ∀ s d, o.dst = some d → (dk.sets act (ws w.heap.size ys.length rs.length ya ra yc rc s)).tmps[d]? = some v)
    (hrun : ∀ s W, W.heap[w.heap.size]? = some (.cells #[.slice ya ys.length yc, .slice ra rs.length rc] 32 (0, 0)) → (execOp (dk.sets act (ws w.heap.size ys.length rs.length ya ra yc rc s)).eval o).run Try.prog W = .ok (.value v) W) : gh.Step Try.prog (fun s => dk.sets act (ws w.heap.size ys.length rs.length ya ra yc rc s)) (C w ys rs ya ra yc rc) Q i o := by
  refine gh.step_val hsel fun s L W hdp h0 hC => ⟨s, v, gh.Agree.refl _ _, hd s, ?_⟩
  rw [hrun s W hC.box]
  refine ⟨rfl, ?_⟩
  unfold C
  rw [more_off L (show 2 ≠ i by omega), more_off L (show 6 ≠ i by omega), more_off L (show 7 ≠ i by omega), more_off L (show 8 ≠ i by omega), more_off L (show 9 ≠ i by omega)]
  exact hC
theorem st2 {o : Oper} (F : tb.Fit ys rs) (hY : Row flP.c 3 w w.heap.size ya ys) (hsz : 13 < act.tmps.size) (hsel : ∀ cs b, o.op ≠ .select cs b) (hdst : o.dst = some 8) (hrun : ∀ s W, (execOp (dk.sets act (ws w.heap.size ys.length rs.length ya ra yc rc s)).eval o).run Try.prog W = .ok (.enter 66 #[.slice ya ys.length yc]) W) : gh.Step Try.prog (fun s => dk.sets act (ws w.heap.size ys.length rs.length ya ra yc rc s)) (C w ys rs ya ra yc rc) Q 2 o := by
  refine gh.step_val hsel fun s L W hdp h0 hC => ⟨{ s with gy := W.heap.size }, .slice (some ⟨W.heap.size, 0, none⟩) ys.length ys.length, dk.agree_sets 2 8 _ hdst rfl rfl, (fun d hd => by rw [hdst] at hd; cases hd; exact dk.sets_on _ (by omega) _ rfl), ?_⟩
  rw [hrun s W]
  have hC : D w ys rs ya ra yc rc s (L 2) (L 6) (L 7) (L 8) (L 9) W := hC
  rw [h0] at hC
  refine (cpp.copy_pairs ys ya yc W F.yl F.yo (hY.inn hC.bel)).mono ?_
  rintro e w' ⟨rfl, ho, hb⟩
  refine ⟨rfl, ?_⟩
  show D w ys rs ya ra yc rc _ true (L 6) (L 7) (L 8) (L 9) _
  have h7 := no72 hC
  rw [h7] at hC
  have h9 := no97 hC
  rw [h9] at hC
  rw [h7, h9]
  have h1 := hC.on hb
  exact ⟨h1.bel, h1.box, h1.res, fun _ => ⟨ho, hC.size⟩, h1.row6, fun e => (by cases e), h1.at8, fun e => (by cases e)⟩
theorem make_R (W : World) (hl : rs.length ≤ 1048576) : (Instr.makeSlice 30 (.int .i64 (rs.length : Int)) (.int .i64 (rs.length : Int))).run Try.prog W = .ok (.slice (some ⟨W.heap.size, 0, none⟩) rs.length rs.length) (W.alloc (.cells (madeCells #[.slice none 0 0] (rs.length * 1)) 29)) := by
  obtain ⟨i0, hi, hz0, hz1, hz2⟩ := ly.infoR
  have hmk := run_makeSlice (P := Try.prog) W 30 29 i0 _ Try.underlying30 hi hz0 .i64 .i64 (rs.length : Int) (rs.length : Int) (by omega) (Int.le_refl _) (by rw [hz1]; simp; omega) (by rw [hz2]; omega) (by omega)
  rw [hz1, show ((rs.length : Int)).toNat = rs.length by omega] at hmk
  exact hmk
theorem made_R (W : World) (B : Nat) : OR (W.alloc (.cells (madeCells #[.slice none 0 0] (rs.length * 1)) 29)) B W.heap.size rs.length [] := ⟨⟨_, bnew W _ _, by rw [size_madeCells, Nat.mul_one], fun i r hr => by simp at hr⟩, fun i r hr => by simp at hr, fun i j r s _ hr => by simp at hr⟩
theorem st6 {o : Oper} (F : tb.Fit ys rs) (hsz : 13 < act.tmps.size) (hop : o.op = .makeSlice 30 (.tmp 11) (.tmp 11)) (hdst : o.dst = some 12) : gh.Step Try.prog (fun s => dk.sets act (ws w.heap.size ys.length rs.length ya ra yc rc s)) (C w ys rs ya ra yc rc) Q 6 o := by
  refine gh.step_val (by rw [hop]; simp) fun s L W hdp h0 hC => ⟨{ s with gr := W.heap.size }, .slice (some ⟨W.heap.size, 0, none⟩) rs.length rs.length, dk.agree_sets 6 12 _ hdst rfl rfl, (fun d hd => by rw [hdst] at hd; cases hd; exact dk.sets_on _ (by omega) _ rfl), ?_⟩
  have e11 : (dk.sets act (ws w.heap.size ys.length rs.length ya ra yc rc s)).tmps[11]? = some (.int .i64 rs.length) := dk.sets_on _ (by omega) _ rfl
  have hm := make_R (rs := rs) W F.rl
  have hrun : (execOp (dk.sets act (ws w.heap.size ys.length rs.length ya ra yc rc s)).eval o).run Try.prog W = .ok (.value (.slice (some ⟨W.heap.size, 0, none⟩) rs.length rs.length)) (W.alloc (.cells (madeCells #[.slice none 0 0] (rs.length * 1)) 29)) := by
    simp [execOp, hop, Act.eval, e11, hm, Result.andThen]
  rw [hrun]
  refine ⟨rfl, ?_⟩
  have hC : D w ys rs ya ra yc rc s (L 2) (L 6) (L 7) (L 8) (L 9) W := hC
  rw [h0] at hC
  show D w ys rs ya ra yc rc _ (L 2) true (L 7) (L 8) (L 9) _
  have h7 := no76 hC
  rw [h7] at hC
  have h9 := no97 hC
  rw [h9] at hC
  rw [h7, h9]
  have h1 := hC.on ((Below.refl _ _).alloc (Nat.le_refl _) (.cells (madeCells #[.slice none 0 0] (rs.length * 1)) 29))
  exact ⟨h1.bel, h1.box, h1.res, h1.row2, fun _ => ⟨made_R W _, hC.size⟩, fun e => (by cases e), h1.at8, fun e => (by cases e)⟩
theorem st7 {o : Oper} (hsz : 13 < act.tmps.size) (hop : o.op = .build 32 #[(0, .tmp 8), (1, .tmp 12)]) (hdst : o.dst = some 13) (hd2 : ∃ e ∈ o.after, Region.binds .any e = true ∧ e.on = 2) (hd6 : ∃ e ∈ o.after, Region.binds .any e = true ∧ e.on = 6) : gh.Step Try.prog (fun s => dk.sets act (ws w.heap.size ys.length rs.length ya ra yc rc s)) (C w ys rs ya ra yc rc) Q 7 o := by
  refine gh.step_val (by rw [hop]; simp) fun s L W hdp h0 hC => ⟨{ s with xy := s.gy, xr := s.gr }, .agg #[.slice (some ⟨s.gy, 0, none⟩) ys.length ys.length, .slice (some ⟨s.gr, 0, none⟩) rs.length rs.length], dk.agree_sets 7 13 _ hdst rfl rfl, (fun d hd => by rw [hdst] at hd; cases hd; exact dk.sets_on _ (by omega) _ rfl), ?_⟩
  obtain ⟨x2, m2, y2, z2⟩ := hd2
  have l2 := hdp x2 m2 y2
  rw [z2] at l2
  obtain ⟨x6, m6, y6, z6⟩ := hd6
  have l6 := hdp x6 m6 y6
  rw [z6] at l6
  have e8 : (dk.sets act (ws w.heap.size ys.length rs.length ya ra yc rc s)).tmps[8]? = some (.slice (some ⟨s.gy, 0, none⟩) ys.length ys.length) := dk.sets_on _ (by omega) _ rfl
  have e12 : (dk.sets act (ws w.heap.size ys.length rs.length ya ra yc rc s)).tmps[12]? = some (.slice (some ⟨s.gr, 0, none⟩) rs.length rs.length) := dk.sets_on _ (by omega) _ rfl
  have hrun : (execOp (dk.sets act (ws w.heap.size ys.length rs.length ya ra yc rc s)).eval o).run Try.prog W = .ok (.value (.agg #[.slice (some ⟨s.gy, 0, none⟩) ys.length ys.length, .slice (some ⟨s.gr, 0, none⟩) rs.length rs.length])) W := by
    simp [execOp, hop, e8, e12, go_sem]
  rw [hrun]
  refine ⟨rfl, ?_⟩
  have hC : D w ys rs ya ra yc rc s (L 2) (L 6) (L 7) (L 8) (L 9) W := hC
  rw [h0] at hC
  show D w ys rs ya ra yc rc _ (L 2) (L 6) true (L 8) (L 9) _
  have h9 := no97 hC
  rw [h9] at hC ⊢
  exact ⟨hC.bel, hC.box, hC.res, hC.row2, hC.row6, fun _ => ⟨l2, l6, rfl, rfl⟩, hC.at8, fun e => (by cases e)⟩
theorem st8 {o : Oper} (hsz : 13 < act.tmps.size) (hop : o.op = .alloc 32) (hdst : o.dst = some 3) (hrun : ∀ s W, (execOp (dk.sets act (ws w.heap.size ys.length rs.length ya ra yc rc s)).eval o).run Try.prog W = .ok (.value (.pointer (some ⟨W.heap.size, 0, none⟩))) (W.alloc (.cells #[.slice none 0 0, .slice none 0 0] 32))) : gh.Step Try.prog (fun s => dk.sets act (ws w.heap.size ys.length rs.length ya ra yc rc s)) (C w ys rs ya ra yc rc) Q 8 o := by
  refine gh.step_val (by rw [hop]; simp) fun s L W hdp h0 hC => ⟨{ s with gn := W.heap.size }, .pointer (some ⟨W.heap.size, 0, none⟩), dk.agree_sets 8 3 _ hdst rfl rfl, (fun d hd => by rw [hdst] at hd; cases hd; exact dk.sets_on _ (by omega) _ rfl), ?_⟩
  rw [hrun]
  refine ⟨rfl, ?_⟩
  have hC : D w ys rs ya ra yc rc s (L 2) (L 6) (L 7) (L 8) (L 9) W := hC
  rw [h0] at hC
  show D w ys rs ya ra yc rc _ (L 2) (L 6) (L 7) true (L 9) _
  have h9 := no98 hC
  rw [h9] at hC ⊢
  have h1 := hC.on ((Below.refl _ _).alloc (Nat.le_refl _) (.cells #[.slice none 0 0, .slice none 0 0] 32))
  exact ⟨h1.bel, h1.box, h1.res, h1.row2, h1.row6, h1.at7, fun _ => ⟨bnew W _ _, hC.size⟩, fun e => (by cases e)⟩
theorem st9 {o : Oper} (hsz : 13 < act.tmps.size) (hop : o.op = .store 32 (.tmp 3) (.tmp 13)) (hdst : o.dst = none) (hd7 : ∃ e ∈ o.after, Region.binds .any e = true ∧ e.on = 7) (hd8 : ∃ e ∈ o.after, Region.binds .any e = true ∧ e.on = 8) : gh.Step Try.prog (fun s => dk.sets act (ws w.heap.size ys.length rs.length ya ra yc rc s)) (C w ys rs ya ra yc rc) Q 9 o := by
  refine gh.step_val (by rw [hop]; simp) fun s L W hdp h0 hC => ⟨s, undef, gh.Agree.refl _ _, (fun d hd => by rw [hdst] at hd; cases hd), ?_⟩
  obtain ⟨x7, m7, y7, z7⟩ := hd7
  have l7 := hdp x7 m7 y7
  rw [z7] at l7
  obtain ⟨x8, m8, y8, z8⟩ := hd8
  have l8 := hdp x8 m8 y8
  rw [z8] at l8
  have hC : D w ys rs ya ra yc rc s (L 2) (L 6) (L 7) (L 8) (L 9) W := hC
  rw [h0] at hC
  obtain ⟨l2, l6, hxy, hxr⟩ := hC.at7 l7
  obtain ⟨hb8, hg8⟩ := hC.at8 l8
  have e3 : (dk.sets act (ws w.heap.size ys.length rs.length ya ra yc rc s)).tmps[3]? = some (.pointer (some ⟨s.gn, 0, none⟩)) := dk.sets_on _ (by omega) _ rfl
  have e13 : (dk.sets act (ws w.heap.size ys.length rs.length ya ra yc rc s)).tmps[13]? = some (.agg #[.slice (some ⟨s.xy, 0, none⟩) ys.length ys.length, .slice (some ⟨s.xr, 0, none⟩) rs.length rs.length]) := dk.sets_on _ (by omega) _ rfl
  have c0 : W.cell? ⟨s.gn, 0, none⟩ = some (.slice none 0 0) := bcell hb8 rfl
  have c1 : W.cell? ⟨s.gn, 1, none⟩ = some (.slice none 0 0) := bcell hb8 rfl
  have f0 := bfree hb8 0
  have f1 := bfree hb8 1
  have hrun : (execOp (dk.sets act (ws w.heap.size ys.length rs.length ya ra yc rc s)).eval o).run Try.prog W = .ok .skip ((W.setCell ⟨s.gn, 0, none⟩ (.slice (some ⟨s.xy, 0, none⟩) ys.length ys.length)).setCell ⟨s.gn, 1, none⟩ (.slice (some ⟨s.xr, 0, none⟩) rs.length rs.length)) := by
    simp [execOp, hop, e3, e13, go_sem, c0, c1, f0, f1]
  rw [hrun]
  refine ⟨rfl, ?_⟩
  show D w ys rs ya ra yc rc _ (L 2) (L 6) (L 7) (L 8) true _
  have hny : s.gy ≠ s.gn := own_ne (by decide) (hC.row2 l2).1 hb8
  have hnr : s.gr ≠ s.gn := by
    rintro e
    obtain ⟨cur, hcur, _⟩ := (hC.row6 l6).1.blk
    rw [e, hb8] at hcur
    simp at hcur
  refine ⟨(hC.bel.setCell (by show w.heap.size ≤ s.gn; omega) _).setCell (by show w.heap.size ≤ s.gn; omega) _, boff (boff hC.box _ _ _ (by omega)) _ _ _ (by omega), boff (boff hC.res _ _ _ (by omega)) _ _ _ (by omega), fun e => ⟨((hC.row2 e).1.kept (Below.heap_setCell _ _ _ _ hny)).kept (Below.heap_setCell _ _ _ _ hny), (hC.row2 e).2⟩, fun e => ⟨?_, (hC.row6 e).2⟩, hC.at7, fun _ => ⟨bset (bset hb8 0 _) 1 _, hg8⟩, fun _ => ⟨l7, l8⟩⟩
  obtain ⟨cur, h1, h2⟩ := (hC.row6 e).1.blk
  exact ⟨⟨cur, boff (boff h1 _ _ _ hnr) _ _ _ hnr, h2⟩, fun i r hr => by simp at hr, fun i j r s _ hr => by simp at hr⟩
end
/-- what stands in the loop: the first k runs are laid -/
structure I (w : World) (ys : List flP.Pr) (rs : List Rn) (ya ra : Option Addr) (yc rc : Nat) (gy gr gn k : Nat) (ks : List Rn) (W : World) : Prop where
  bel : Below w.heap.size w W
  box : W.heap[w.heap.size]? = some (.cells #[.slice ya ys.length yc, .slice ra rs.length rc] 32 (0, 0))
  res : W.heap[w.heap.size + 1]? = some (.cells #[.slice none 0 0, .slice none 0 0] 32 (0, 0))
  gnb : W.heap[gn]? = some (.cells #[.slice (some ⟨gy, 0, none⟩) ys.length ys.length, .slice (some ⟨gr, 0, none⟩) rs.length rs.length] 32 (0, 0))
  own : Own flP.c 3 63 W gy ys ys.length
  orr : OR W (w.heap.size + 2) gr rs.length ks
  map : ks.map (·.l) = (rs.take k).map (·.l)
  ne : ∀ (i : Nat) r, ks[i]? = some r → r.a ≠ some ⟨gy, 0, none⟩
  hy : w.heap.size + 2 ≤ gy
  hr : w.heap.size + 2 ≤ gr
  hn : w.heap.size + 2 ≤ gn
section
variable {w : World} {ys : List flP.Pr} {rs : List Rn} {ya ra : Option Addr} {yc rc : Nat} {gy gr gn k : Nat} {ks : List Rn} {W W' : World}
theorem I.on (h : I w ys rs ya ra yc rc gy gr gn k ks W) (hb : Below W.heap.size W W') : I w ys rs ya ra yc rc gy gr gn k ks W' :=
  ⟨h.bel.trans (hb.mono h.bel.size), bstay h.box hb (Array.getElem?_eq_some_iff.1 h.box).1, bstay h.res hb (Array.getElem?_eq_some_iff.1 h.res).1, bstay h.gnb hb (Array.getElem?_eq_some_iff.1 h.gnb).1, h.own.below hb h.own.lt, h.orr.on hb, h.map, h.ne, h.hy, h.hr, h.hn⟩
theorem I.gr_ne (h : I w ys rs ya ra yc rc gy gr gn k ks W) : gr ≠ gn ∧ gr ≠ gy ∧ gr < W.heap.size := by
  obtain ⟨cur, hc, _⟩ := h.orr.blk
  refine ⟨?_, ?_, (Array.getElem?_eq_some_iff.1 hc).1⟩
  · rintro rfl
    rw [h.gnb] at hc
    simp at hc
  · rintro rfl
    exact own_ne (by decide) h.own hc rfl
/-- one run more -/
theorem I.more {r : Rn} {W0 : World} (h0 : I w ys rs ya ra yc rc gy gr gn k ks W0) (hb : Below W0.heap.size W0 W) (hk : rs[k]? = some r) (ho : Own flP.c 3 63 W W0.heap.size r.l r.l.length) : I w ys rs ya ra yc rc gy gr gn (k + 1) (ks ++ [⟨some ⟨W0.heap.size, 0, none⟩, r.l.length, r.l⟩]) (W.setCell ⟨gr, k, none⟩ (.slice (some ⟨W0.heap.size, 0, none⟩) r.l.length r.l.length)) := by
  have h := h0.on hb
  obtain ⟨n1, n2, _⟩ := h.gr_ne
  have hlen : ks.length = k := by have h1 := congrArg List.length h.map; have := (List.getElem?_eq_some_iff.1 hk).1; simp at h1; omega
  have hsz : w.heap.size + 2 ≤ W0.heap.size := (Array.getElem?_eq_some_iff.1 h0.res).1
  have hyl := h0.own.lt
  have hr := h.hr
  have hmore := h.orr.more ho hsz (fun i r2 k2 hr2 ha => by
    obtain ⟨h3, e1, _, _, e4⟩ := h0.orr.own i r2 hr2
    rw [e1] at ha
    have := Addr.mk.inj (Option.some.inj ha)
    have := e4.lt
    omega) (by rw [hlen]; exact (List.getElem?_eq_some_iff.1 hk).1)
  rw [hlen] at hmore
  refine ⟨h.bel.setCell (by show w.heap.size ≤ gr; omega) _, boff h.box _ _ _ (by omega), boff h.res _ _ _ (by omega), boff h.gnb _ _ _ (Ne.symm n1), h.own.kept (Below.heap_setCell _ _ _ _ (Ne.symm n2)), hmore, ?_, fun i r2 hr2 => ?_, h.hy, h.hr, h.hn⟩
  · rw [List.map_append, h.map, List.take_add_one, hk]
    simp
  · by_cases e : i < ks.length
    · rw [List.getElem?_append_left e] at hr2
      exact h.ne i r2 hr2
    · have hlt := (List.getElem?_eq_some_iff.1 hr2).1
      rw [List.length_append, List.length_singleton] at hlt
      obtain rfl : i = ks.length := by omega
      rw [List.getElem?_append_right (Nat.le_refl _)] at hr2
      simp at hr2
      subst hr2
      intro e2
      have := Addr.mk.inj (Option.some.inj e2)
      omega
end

set_option maxRecDepth 100000 in
set_option maxHeartbeats 2000000 in
theorem copy_table (ys : List flP.Pr) (rs : List Rn) (ya ra : Option Addr) (yc rc : Nat) (w : World) (F : tb.Fit ys rs) (hY : Row flP.c 3 w w.heap.size ya ys) (hR : VR w w.heap.size ra rs) :
    Calls Try.prog 45 #[.agg #[.slice ya ys.length yc, .slice ra rs.length rc]] w fun e w' => ∃ g h ks, e = .returned (.agg #[.slice (some ⟨g, 0, none⟩) ys.length ys.length, .slice (some ⟨h, 0, none⟩) rs.length rs.length]) ∧ ks.map (·.l) = rs.map (·.l) ∧ w.heap.size + 2 ≤ g ∧ w.heap.size + 2 ≤ h ∧
      Own flP.c 3 63 w' g ys ys.length ∧ OR w' (w.heap.size + 2) h rs.length ks ∧ (∀ (i : Nat) r, ks[i]? = some r → r.a ≠ some ⟨g, 0, none⟩) ∧ Below w.heap.size w w' := by
  have h0 : D w ys rs ya ra yc rc ⟨0, 0, 0, 0, 0⟩ false false false false false ((w.alloc (.cells #[.slice ya ys.length yc, .slice ra rs.length rc] 32)).alloc (.cells #[.slice none 0 0, .slice none 0 0] 32)).drew := by
    refine ⟨(((Below.refl _ _).alloc (Nat.le_refl _) _).alloc (by simp) _).drew, bold (bnew w _ _) _, ?_, by simp, by simp, by simp, by simp, by simp⟩
    have := bnew (w.alloc (.cells #[.slice ya ys.length yc, .slice ra rs.length rc] 32)) #[.slice none 0 0, .slice none 0 0] 32
    rw [World.size_alloc] at this
    exact this
  have HY : Hid (Row flP.c 3 w w.heap.size ya ys) := hY
  have HR : Hid (VR w w.heap.size ra rs) := hR
  have HF : Hid (tb.Fit ys rs) := F
  have hrl := F.rl
  clear hY hR F
  go_enter Try.func45, Try.ntmps45
  go_wp2
  refine dk.region_gsets (ws w.heap.size ys.length rs.length ya ra yc rc) [6, 7, 8, 9, 10, 11, 12, 13, 3] (C w ys rs ya ra yc rc) ⟨0, 0, 0, 0, 0⟩ (by kernel_rfl) (by kernel_rfl) (fun _ => rfl) (by kernel_rfl) h0 ?each ?fin
  case each =>
    refine ⟨quiet (by decide) (by simp) (.pointer (some ⟨w.heap.size, 0, none⟩)) (by rintro s _ ⟨⟩; exact dk.sets_on _ (by simp) _ rfl) (fun s W h => by simp [execOp, go_sem, Act.eval, dk.sets_get, ws, List.lookup]), ?_⟩
    refine ⟨quiet (by decide) (by simp) (.slice ya ys.length yc) (by rintro s _ ⟨⟩; exact dk.sets_on _ (by simp) _ rfl) (fun s W h => by have c : W.cell? ⟨w.heap.size, 0, none⟩ = some (.slice ya ys.length yc) := bcell h rfl; simp [execOp, go_sem, Act.eval, dk.sets_get, ws, List.lookup, c]), ?_⟩
    refine ⟨st2 HF.out HY.out (by simp) (by simp) rfl (fun s W => by simp [go_sem, Act.eval, dk.sets_get, ws, List.lookup]), ?_⟩
    refine ⟨quiet (by decide) (by simp) (.pointer (some ⟨w.heap.size, 1, none⟩)) (by rintro s _ ⟨⟩; exact dk.sets_on _ (by simp) _ rfl) (fun s W h => by simp [execOp, go_sem, Act.eval, dk.sets_get, ws, List.lookup]), ?_⟩
    refine ⟨quiet (by decide) (by simp) (.slice ra rs.length rc) (by rintro s _ ⟨⟩; exact dk.sets_on _ (by simp) _ rfl) (fun s W h => by have c : W.cell? ⟨w.heap.size, 1, none⟩ = some (.slice ra rs.length rc) := bcell h rfl; simp [execOp, go_sem, Act.eval, dk.sets_get, ws, List.lookup, c]), ?_⟩
    refine ⟨quiet (by decide) (by simp) (.int .i64 rs.length) (by rintro s _ ⟨⟩; exact dk.sets_on _ (by simp) _ rfl) (fun s W h => by simp [go_sem, Act.eval, dk.sets_get, ws, List.lookup]), ?_⟩
    exact ⟨st6 HF.out (by simp) rfl rfl, st7 (by simp) rfl rfl ⟨⟨2, .data⟩, by simp, rfl, rfl⟩ ⟨⟨6, .data⟩, by simp, rfl, rfl⟩, st8 (by simp) rfl rfl (fun s W => by simp [execOp, go_sem]), st9 (by simp) rfl rfl ⟨⟨7, .data⟩, by simp, rfl, rfl⟩ ⟨⟨8, .data⟩, by simp, rfl, rfl⟩, trivial⟩
  case fin =>
    intro g L W hL hC
    have hD : D w ys rs ya ra yc rc g true true true true true W := by
      have h : D w ys rs ya ra yc rc g (L 2) (L 6) (L 7) (L 8) (L 9) W := hC
      rw [hL 2 (by decide), hL 6 (by decide), hL 7 (by decide), hL 8 (by decide), hL 9 (by decide)] at h
      exact h
    obtain ⟨_, _, hxy, hxr⟩ := hD.at7 rfl
    obtain ⟨hb8, hg8⟩ := hD.at8 rfl
    obtain ⟨gy, gr, gn, xy, xr⟩ := g
    simp only at hxy hxr
    have hxy' := hxy.symm
    have hxr' := hxr.symm
    subst hxy' hxr'
    have hI : I w ys rs ya ra yc rc gy gr gn 0 [] W := ⟨hD.bel, hD.box, hD.res, hb8, (hD.row2 rfl).1, (hD.row6 rfl).1, by simp, fun i r hr => by simp at hr, (hD.row2 rfl).2, (hD.row6 rfl).2, hg8⟩
    have HI : Hid (I w ys rs ya ra yc rc gy gr gn 0 [] W) := hI
    have x1 : W.cell? ⟨w.heap.size, 1, none⟩ = some (.slice ra rs.length rc) := bcell hI.box rfl
    simp only [dk.sets, ws]
    clear hD hC hL h0 hb8 hg8 hI
    go_wp2
    go_loopw [4, 5, 17] (fun _ _ x wr => ∃ (k : Nat) (ks : List Rn), k ≤ rs.length ∧ x = .int .i64 k ∧ Hid (I w ys rs ya ra yc rc gy gr gn k ks wr)) (fun _ _ x _ => rs.length - (intOf x).toNat)
    case atStart => exact ⟨0, [], Nat.zero_le _, rfl, HI⟩
    case round =>
      obtain ⟨k, ks, hk, rfl, hinv⟩ := hrel
      clear HI x1
      by_cases hkl : k < rs.length
      · have hvr := HR.out.inn hinv.out.bel
        rcases hvr.1 with h0 | ⟨b, off, hra, hlt, hc⟩
        · rw [h0] at hkl; simp at hkl
        subst hra
        have HG : Hid (rs[k]? = some rs[k]) := List.getElem?_eq_getElem hkl
        have hrow := hvr.2 rs[k] (List.getElem_mem hkl)
        have hfr := HF.out.ro rs[k] (List.getElem_mem hkl)
        obtain ⟨⟨qa, qc, ql⟩, he⟩ : ∃ e, rs[k] = e := ⟨_, rfl⟩
        rw [he] at HG hrow hfr
        have c0 : wr.cell? ⟨b, off + k, none⟩ = some (.slice qa ql.length qc) := by have := hc k _ HG.out 0 _ rfl; simpa using this
        have n1 : wr.cell? ⟨gn, 1, none⟩ = some (.slice (some ⟨gr, 0, none⟩) rs.length rs.length) := bcell hinv.out.gnb rfl
        have hone := cpp.copy_pairs ql qa qc wr.drew hfr.1 hfr.2 (hrow.inn (Below.refl _ _).drew)
        have i2 : (k : Int) < (rs.length : Int) := by omega
        clear hvr hc he hrow hfr
        go_wp2
        go_region_with (go_at_call 66; refine hone.mono ?_; rintro e w1 ⟨rfl, ho1, hb1⟩; have hb1' : Below wr.heap.size wr w1 := (Below.refl _ _).drew.trans hb1; have hm := hinv.out.more hb1' HG.out ho1; have n2 : w1.cell? ⟨gn, 1, none⟩ = some (.slice (some ⟨gr, 0, none⟩) rs.length rs.length) := bcell (hinv.out.on hb1').gnb rfl; obtain ⟨cur, a1, a2, _⟩ := (hinv.out.on hb1').orr.blk; have g0 : ∃ v, w1.cell? ⟨gr, k, none⟩ = some v := ⟨_, bcell a1 (Array.getElem?_eq_getElem (by omega))⟩; obtain ⟨v0, g0⟩ := g0; have z0 := bfree a1 k; have HN : Hid (I w ys rs ya (some ⟨b, off, none⟩) yc rc gy gr gn (k + 1) (ks ++ [⟨some ⟨wr.heap.size, 0, none⟩, ql.length, ql⟩]) (w1.setCell ⟨gr, k, none⟩ (.slice (some ⟨wr.heap.size, 0, none⟩) ql.length ql.length))) := hm; clear hm a1 a2 ho1)
        all_goals go_wp2
        all_goals go_roundw
        all_goals first | exact ⟨k + 1, _, by omega, by go_num, HN⟩ | (simp [intOf]; omega)
      · obtain rfl : k = rs.length := by omega
        have u0 : wr.cell? ⟨gn, 0, none⟩ = some (.slice (some ⟨gy, 0, none⟩) ys.length ys.length) := bcell hinv.out.gnb rfl
        have u1 : wr.cell? ⟨gn, 1, none⟩ = some (.slice (some ⟨gr, 0, none⟩) rs.length rs.length) := bcell hinv.out.gnb rfl
        have r0 : wr.cell? ⟨w.heap.size + 1, 0, none⟩ = some (.slice none 0 0) := bcell hinv.out.res rfl
        have r1 : wr.cell? ⟨w.heap.size + 1, 1, none⟩ = some (.slice none 0 0) := bcell hinv.out.res rfl
        have f0 := bfree hinv.out.res 0
        have f1 := bfree hinv.out.res 1
        have hy2 := hinv.out.hy
        have hr2 := hinv.out.hr
        clear hkl hk
        go_wp2
        refine bodyPost_ret (v := .agg #[.slice (some ⟨gy, 0, none⟩) ys.length ys.length, .slice (some ⟨gr, 0, none⟩) rs.length rs.length]) (by simp [results, Try.results45, go_sem, r0, r1]) rfl ⟨gy, gr, ks, rfl, by rw [hinv.out.map, List.take_length], hy2, hr2, ?_, ?_, hinv.out.ne, ?_⟩
        · exact (hinv.out.own.kept (Below.heap_setCell _ _ _ _ (show gy ≠ w.heap.size + 1 by omega))).kept (Below.heap_setCell _ _ _ _ (show gy ≠ w.heap.size + 1 by omega))
        · exact (hinv.out.orr.set (show w.heap.size + 1 < w.heap.size + 2 by omega) (by omega) _ _).set (show w.heap.size + 1 < w.heap.size + 2 by omega) (by omega) _ _
        · exact (hinv.out.bel.setCell (Nat.le_succ _) _).setCell (Nat.le_succ _) _
end Go.Proofs.Ytfoajjkcocppeaa.cpt
