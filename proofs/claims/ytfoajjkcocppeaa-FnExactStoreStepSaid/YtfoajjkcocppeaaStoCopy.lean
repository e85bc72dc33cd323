/- copyStore: the same store, its table in memory of its own. -/
import Derived.Test.YtfoajjkcocppeaaStoLib
import Derived.Test.YtfoajjkcocppeaaCopyTable
import Derived.Test.YtfoajjkcocppeaaStepCall
import Derived.Test.YtfoajjkcocppeaaSpecCopyT
namespace Go.Proofs.Ytfoajjkcocppeaa.scp
open Go.ChangeShapes Go.WideShapes Go.ChangeAt Go.RowKit Go.Proofs.Ytfoajjkcocppeaa.fl Go.Proofs.Ytfoajjkcocppeaa.fo Go.Proofs.Ytfoajjkcocppeaa.rn Go.Proofs.Ytfoajjkcocppeaa.sct
set_option linter.unusedVariables false

theorem or_low {w : World} {B B' g n : Nat} {ks : List Rn} (h : OR w B g n ks) (hb : B' ≤ B) : OR w B' g n ks :=
  ⟨h.blk, fun i r hr => by obtain ⟨h', e, h1, h2, h3⟩ := h.own i r hr; exact ⟨h', e, h1, by omega, h3⟩, h.nd⟩
/-- the copied table, all of it at or above B -/
structure CT (W : World) (B : Nat) (ys : List flP.Pr) (rs : List Rn) (g h : Nat) (ks : List Rn) : Prop where
  own : Own flP.c 3 63 W g ys ys.length
  orr : OR W B h rs.length ks
  map : ks.map (·.l) = rs.map (·.l)
  gB : B ≤ g
  hB : B ≤ h
  ne : ∀ (i : Nat) r, ks[i]? = some r → r.a ≠ some ⟨g, 0, none⟩
theorem CT.on {W W' : World} {B : Nat} {ys : List flP.Pr} {rs : List Rn} {g h : Nat} {ks : List Rn} (c : CT W B ys rs g h ks) (hb : Below W.heap.size W W') : CT W' B ys rs g h ks := ⟨c.own.below hb c.own.lt, c.orr.on hb, c.map, c.gB, c.hB, c.ne⟩
theorem CT.set {W : World} {B : Nat} {ys : List flP.Pr} {rs : List Rn} {g h : Nat} {ks : List Rn} (c : CT W B ys rs g h ks) {b : Nat} (hb : b < B) (o : Nat) (v : Value) : CT (W.setCell ⟨b, o, none⟩ v) B ys rs g h ks :=
  ⟨c.own.kept (Below.heap_setCell _ _ _ _ (by have := c.gB; show g ≠ b; omega)), c.orr.set hb (by have := c.hB; omega) o v, c.map, c.gB, c.hB, c.ne⟩
structure G where
  g : Nat
  h : Nat
  ks : List Rn
  xg : Nat
  xh : Nat
def ws (s : Nat) (ys : List flP.Pr) (rs : List Rn) (ya ra : Option Addr) (yc rc : Nat) (lg : ByteArray) (sf : Int) (g : G) : List (Nat × Value) := [(3, .pointer (some ⟨s, 0, none⟩)), (4, .agg #[.slice ya ys.length yc, .slice ra rs.length rc]), (5, .agg #[.slice (some ⟨g.g, 0, none⟩) ys.length ys.length, .slice (some ⟨g.h, 0, none⟩) rs.length rs.length]), (6, .pointer (some ⟨s, 2, none⟩)), (7, .string lg), (8, .string lg), (9, .pointer (some ⟨s, 3, none⟩)), (10, .int .i64 sf), (11, .agg #[.slice (some ⟨g.xg, 0, none⟩) ys.length ys.length, .slice (some ⟨g.xh, 0, none⟩) rs.length rs.length, .string lg, .int .i64 sf])]
structure D (w : World) (ys : List flP.Pr) (rs : List Rn) (ya ra : Option Addr) (yc rc : Nat) (lg : ByteArray) (sf : Int) (g : G) (c2 c8 c9 : Bool) (W : World) : Prop where
  bel : Below w.heap.size w W
  box : W.heap[w.heap.size]? = some (.cells #[.slice ya ys.length yc, .slice ra rs.length rc, .string lg, .int .i64 sf] 34 (0, 0))
  res : W.heap[w.heap.size + 1]? = some (.cells (if c9 then #[.slice (some ⟨g.xg, 0, none⟩) ys.length ys.length, .slice (some ⟨g.xh, 0, none⟩) rs.length rs.length, .string lg, .int .i64 sf] else #[.slice none 0 0, .slice none 0 0, .string ⟨#[]⟩, .int .i64 0]) 34 (0, 0))
  at2 : c2 = true → CT W (w.heap.size + 2) ys rs g.g g.h g.ks
  at8 : c8 = true → c2 = true ∧ g.xg = g.g ∧ g.xh = g.h
  at9 : c9 = true → c8 = true
def C (w : World) (ys : List flP.Pr) (rs : List Rn) (ya ra : Option Addr) (yc rc : Nat) (lg : ByteArray) (sf : Int) (g : G) (L : Nat → Bool) (W : World) : Prop := D w ys rs ya ra yc rc lg sf g (L 2) (L 8) (L 9) W
section
variable {w : World} {ys : List flP.Pr} {rs : List Rn} {ya ra : Option Addr} {yc rc : Nat} {lg : ByteArray} {sf : Int} {g : G} {c2 c8 c9 : Bool} {W W' : World}
theorem D.on (h : D w ys rs ya ra yc rc lg sf g c2 c8 c9 W) (hb : Below W.heap.size W W') : D w ys rs ya ra yc rc lg sf g c2 c8 c9 W' :=
  ⟨h.bel.trans (hb.mono h.bel.size), bstay h.box hb (Array.getElem?_eq_some_iff.1 h.box).1, bstay h.res hb (Array.getElem?_eq_some_iff.1 h.res).1, fun e => (h.at2 e).on hb, h.at8, h.at9⟩
theorem D.size (h : D w ys rs ya ra yc rc lg sf g c2 c8 c9 W) : w.heap.size + 2 ≤ W.heap.size := (Array.getElem?_eq_some_iff.1 h.res).1
theorem no8 (h : D w ys rs ya ra yc rc lg sf g false c8 c9 W) : c8 = false := by
  cases c8 with
  | false => rfl
  | true => have := (h.at8 rfl).1; cases this
theorem no9 (h : D w ys rs ya ra yc rc lg sf g c2 false c9 W) : c9 = false := by
  cases c9 with
  | false => rfl
  | true => have := h.at9 rfl; cases this
end
section
variable {w : World} {ys : List flP.Pr} {rs : List Rn} {ya ra : Option Addr} {yc rc : Nat} {lg : ByteArray} {sf : Int} {act : Act} {Q : Exit → Act → World → Prop} {o : Oper}
theorem quiet {i : Nat} (hi : i = 0 ∨ i = 1 ∨ i = 3 ∨ i = 4 ∨ i = 6 ∨ i = 7) (hsel : ∀ cs b, o.op ≠ .select cs b) (u : Value) (hd : ∀ s d, o.dst = some d → (dk.sets act (ws w.heap.size ys rs ya ra yc rc lg sf s)).tmps[d]? = some u)
    (hrun : ∀ s W, W.heap[w.heap.size]? = some (.cells #[.slice ya ys.length yc, .slice ra rs.length rc, .string lg, .int .i64 sf] 34 (0, 0)) → (execOp (dk.sets act (ws w.heap.size ys rs ya ra yc rc lg sf s)).eval o).run Try.prog W = .ok (.value u) W) : gh.Step Try.prog (fun s => dk.sets act (ws w.heap.size ys rs ya ra yc rc lg sf s)) (C w ys rs ya ra yc rc lg sf) Q i o := by
  refine gh.step_val hsel fun s L W hdp h0 hC => ⟨s, u, gh.Agree.refl _ _, hd s, ?_⟩
  rw [hrun s W hC.box]
  refine ⟨rfl, ?_⟩
  unfold C
  rw [more_off L (show 2 ≠ i by omega), more_off L (show 8 ≠ i by omega), more_off L (show 9 ≠ i by omega)]
  exact hC
theorem st2 (F : tb.Fit ys rs) (hY : Row flP.c 3 w w.heap.size ya ys) (hR : VR w w.heap.size ra rs) (hsz : 11 < act.tmps.size) (hsel : ∀ cs b, o.op ≠ .select cs b) (hdst : o.dst = some 5) (hrun : ∀ s W, (execOp (dk.sets act (ws w.heap.size ys rs ya ra yc rc lg sf s)).eval o).run Try.prog W = .ok (.enter 45 #[.agg #[.slice ya ys.length yc, .slice ra rs.length rc]]) W) : gh.Step Try.prog (fun s => dk.sets act (ws w.heap.size ys rs ya ra yc rc lg sf s)) (C w ys rs ya ra yc rc lg sf) Q 2 o := by
  refine stc.step_call hsel 45 #[.agg #[.slice ya ys.length yc, .slice ra rs.length rc]] fun s L W hdp h0 hC => ⟨hrun s W, ?_⟩
  have hC : D w ys rs ya ra yc rc lg sf s (L 2) (L 8) (L 9) W := hC
  rw [h0] at hC
  refine (cpt.copy_table ys rs ya ra yc rc W F (hY.inn hC.bel) (hR.inn hC.bel)).mono ?_
  rintro e w' ⟨g, h, ks, rfl, m, hg, hh, ho, hor, hne, hb⟩
  refine ⟨{ s with g := g, h := h, ks := ks }, _, rfl, dk.agree_sets 2 5 _ hdst rfl rfl, (fun d hd => by rw [hdst] at hd; cases hd; exact dk.sets_on _ (by omega) _ rfl), ?_⟩
  show D w ys rs ya ra yc rc lg sf _ (dn.more L 2 2) (dn.more L 2 8) (dn.more L 2 9) _
  rw [more_on, more_off L (show 8 ≠ 2 by omega), more_off L (show 9 ≠ 2 by omega)]
  have h8 := no8 hC
  rw [h8] at hC ⊢
  have h9 := no9 hC
  rw [h9] at hC ⊢
  have h1 := hC.on hb
  have hs := hC.size
  exact ⟨h1.bel, h1.box, h1.res, fun _ => ⟨ho, or_low hor (by omega), m, by show w.heap.size + 2 ≤ g; omega, by show w.heap.size + 2 ≤ h; omega, hne⟩, fun e => (by cases e), fun e => (by cases e)⟩
theorem st5 (hl : lg.size ≤ 1048576) (hsz : 11 < act.tmps.size) (hsel : ∀ cs b, o.op ≠ .select cs b) (hdst : o.dst = some 8) (hrun : ∀ s W, (execOp (dk.sets act (ws w.heap.size ys rs ya ra yc rc lg sf s)).eval o).run Try.prog W = .ok (.enter 33 #[.string lg]) W) : gh.Step Try.prog (fun s => dk.sets act (ws w.heap.size ys rs ya ra yc rc lg sf s)) (C w ys rs ya ra yc rc lg sf) Q 5 o := by
  refine stc.step_call hsel 33 #[.string lg] fun s L W hdp h0 hC => ⟨hrun s W, ?_⟩
  have hC : D w ys rs ya ra yc rc lg sf s (L 2) (L 8) (L 9) W := hC
  refine (cl.clone lg W (by omega)).mono ?_
  rintro e w' ⟨rfl, hb⟩
  refine ⟨s, _, rfl, gh.Agree.refl _ _, (fun d hd => by rw [hdst] at hd; cases hd; exact dk.sets_on _ (by omega) _ rfl), ?_⟩
  show D w ys rs ya ra yc rc lg sf _ (dn.more L 5 2) (dn.more L 5 8) (dn.more L 5 9) _
  rw [more_off L (show 2 ≠ 5 by omega), more_off L (show 8 ≠ 5 by omega), more_off L (show 9 ≠ 5 by omega)]
  exact hC.on hb
theorem st8 (hsz : 11 < act.tmps.size) (hop : o.op = .build 34 #[(0, .tmp 5), (1, .tmp 8), (2, .tmp 10)]) (hdst : o.dst = some 11) (hd2 : ∃ e ∈ o.after, Region.binds .any e = true ∧ e.on = 2) : gh.Step Try.prog (fun s => dk.sets act (ws w.heap.size ys rs ya ra yc rc lg sf s)) (C w ys rs ya ra yc rc lg sf) Q 8 o := by
  refine gh.step_val (by rw [hop]; simp) fun s L W hdp h0 hC => ⟨{ s with xg := s.g, xh := s.h }, .agg #[.slice (some ⟨s.g, 0, none⟩) ys.length ys.length, .slice (some ⟨s.h, 0, none⟩) rs.length rs.length, .string lg, .int .i64 sf], dk.agree_sets 8 11 _ hdst rfl rfl, (fun d hd => by rw [hdst] at hd; cases hd; exact dk.sets_on _ (by omega) _ rfl), ?_⟩
  obtain ⟨x2, m2, y2, z2⟩ := hd2
  have l2 := hdp x2 m2 y2
  rw [z2] at l2
  have e5 : (dk.sets act (ws w.heap.size ys rs ya ra yc rc lg sf s)).tmps[5]? = some (.agg #[.slice (some ⟨s.g, 0, none⟩) ys.length ys.length, .slice (some ⟨s.h, 0, none⟩) rs.length rs.length]) := dk.sets_on _ (by omega) _ rfl
  have e8 : (dk.sets act (ws w.heap.size ys rs ya ra yc rc lg sf s)).tmps[8]? = some (.string lg) := dk.sets_on _ (by omega) _ rfl
  have e10 : (dk.sets act (ws w.heap.size ys rs ya ra yc rc lg sf s)).tmps[10]? = some (.int .i64 sf) := dk.sets_on _ (by omega) _ rfl
  have hrun : (execOp (dk.sets act (ws w.heap.size ys rs ya ra yc rc lg sf s)).eval o).run Try.prog W = .ok (.value (.agg #[.slice (some ⟨s.g, 0, none⟩) ys.length ys.length, .slice (some ⟨s.h, 0, none⟩) rs.length rs.length, .string lg, .int .i64 sf])) W := by
    simp [execOp, hop, e5, e8, e10, go_sem]
  rw [hrun]
  refine ⟨rfl, ?_⟩
  have hC : D w ys rs ya ra yc rc lg sf s (L 2) (L 8) (L 9) W := hC
  rw [h0] at hC
  show D w ys rs ya ra yc rc lg sf _ (dn.more L 8 2) (dn.more L 8 8) (dn.more L 8 9) _
  rw [more_on, more_off L (show 2 ≠ 8 by omega), more_off L (show 9 ≠ 8 by omega)]
  have h9 := no9 hC
  rw [h9] at hC ⊢
  exact ⟨hC.bel, hC.box, hC.res, hC.at2, fun _ => ⟨l2, rfl, rfl⟩, fun e => (by cases e)⟩
theorem st9 (hsz : 11 < act.tmps.size) (hop : o.op = .store 34 (.tmp 2) (.tmp 11)) (hdst : o.dst = none) (ha2 : ∀ s, (dk.sets act (ws w.heap.size ys rs ya ra yc rc lg sf s)).tmps[2]? = some (.pointer (some ⟨w.heap.size + 1, 0, none⟩))) (hd8 : ∃ e ∈ o.after, Region.binds .any e = true ∧ e.on = 8) : gh.Step Try.prog (fun s => dk.sets act (ws w.heap.size ys rs ya ra yc rc lg sf s)) (C w ys rs ya ra yc rc lg sf) Q 9 o := by
  refine gh.step_val (by rw [hop]; simp) fun s L W hdp h0 hC => ⟨s, undef, gh.Agree.refl _ _, (fun d hd => by rw [hdst] at hd; cases hd), ?_⟩
  obtain ⟨x8, m8, y8, z8⟩ := hd8
  have l8 := hdp x8 m8 y8
  rw [z8] at l8
  have hC : D w ys rs ya ra yc rc lg sf s (L 2) (L 8) (L 9) W := hC
  rw [h0] at hC
  obtain ⟨l2, hxg, hxh⟩ := hC.at8 l8
  have hr := hC.res
  rw [if_neg (by simp)] at hr
  have e11 : (dk.sets act (ws w.heap.size ys rs ya ra yc rc lg sf s)).tmps[11]? = some (.agg #[.slice (some ⟨s.xg, 0, none⟩) ys.length ys.length, .slice (some ⟨s.xh, 0, none⟩) rs.length rs.length, .string lg, .int .i64 sf]) := dk.sets_on _ (by omega) _ rfl
  have c0 : W.cell? ⟨w.heap.size + 1, 0, none⟩ = some (.slice none 0 0) := bcell hr rfl
  have c1 : W.cell? ⟨w.heap.size + 1, 1, none⟩ = some (.slice none 0 0) := bcell hr rfl
  have c2 : W.cell? ⟨w.heap.size + 1, 2, none⟩ = some (.string ⟨#[]⟩) := bcell hr rfl
  have c3 : W.cell? ⟨w.heap.size + 1, 3, none⟩ = some (.int .i64 0) := bcell hr rfl
  have f0 := bfree hr 0
  have f1 := bfree hr 1
  have f2 := bfree hr 2
  have f3 := bfree hr 3
  have hrun : (execOp (dk.sets act (ws w.heap.size ys rs ya ra yc rc lg sf s)).eval o).run Try.prog W = .ok .skip ((((W.setCell ⟨w.heap.size + 1, 0, none⟩ (.slice (some ⟨s.xg, 0, none⟩) ys.length ys.length)).setCell ⟨w.heap.size + 1, 1, none⟩ (.slice (some ⟨s.xh, 0, none⟩) rs.length rs.length)).setCell ⟨w.heap.size + 1, 2, none⟩ (.string lg)).setCell ⟨w.heap.size + 1, 3, none⟩ (.int .i64 sf)) := by
    simp [execOp, hop, ha2, e11, go_sem, c0, c1, c2, c3, f0, f1, f2, f3]
  rw [hrun]
  refine ⟨rfl, ?_⟩
  show D w ys rs ya ra yc rc lg sf _ (dn.more L 9 2) (dn.more L 9 8) (dn.more L 9 9) _
  rw [more_on, more_off L (show 2 ≠ 9 by omega), more_off L (show 8 ≠ 9 by omega)]
  have lt : w.heap.size + 1 < w.heap.size + 2 := by omega
  have le : w.heap.size ≤ w.heap.size + 1 := by omega
  exact ⟨(((hC.bel.setCell le _).setCell le _).setCell le _).setCell le _, boff (boff (boff (boff hC.box _ _ _ (by omega)) _ _ _ (by omega)) _ _ _ (by omega)) _ _ _ (by omega), bset (bset (bset (bset hr 0 _) 1 _) 2 _) 3 _, fun e => ((((hC.at2 e).set lt _ _).set lt _ _).set lt _ _).set lt _ _, hC.at8, fun _ => l8⟩
end

set_option maxRecDepth 100000 in
set_option maxHeartbeats 4000000 in
theorem copy_store (ys : List flP.Pr) (rs : List Rn) (ya ra : Option Addr) (yc rc : Nat) (lg : ByteArray) (sf : Int) (w : World) (F : tb.Fit ys rs) (hlg : lg.size ≤ 1048576) (hY : Row flP.c 3 w w.heap.size ya ys) (hR : VR w w.heap.size ra rs) :
    Calls Try.prog 26 #[.agg #[.slice ya ys.length yc, .slice ra rs.length rc, .string lg, .int .i64 sf]] w fun e w' => ∃ g h ks, e = .returned (.agg #[.slice (some ⟨g, 0, none⟩) ys.length ys.length, .slice (some ⟨h, 0, none⟩) rs.length rs.length, .string lg, .int .i64 sf]) ∧ CT w' (w.heap.size + 2) ys rs g h ks ∧ Below w.heap.size w w' := by
  have h0 : D w ys rs ya ra yc rc lg sf ⟨0, 0, [], 0, 0⟩ false false false ((w.alloc (.cells #[.slice ya ys.length yc, .slice ra rs.length rc, .string lg, .int .i64 sf] 34)).alloc (.cells #[.slice none 0 0, .slice none 0 0, .string ⟨#[]⟩, .int .i64 0] 34)).drew := by
    refine ⟨(((Below.refl _ _).alloc (Nat.le_refl _) _).alloc (by simp) _).drew, bold (bnew w _ _) _, ?_, fun e => (by cases e), fun e => (by cases e), fun e => (by cases e)⟩
    have := bnew (w.alloc (.cells #[.slice ya ys.length yc, .slice ra rs.length rc, .string lg, .int .i64 sf] 34)) #[.slice none 0 0, .slice none 0 0, .string ⟨#[]⟩, .int .i64 0] 34
    rw [World.size_alloc] at this
    exact this
  have HF : Hid (tb.Fit ys rs) := F
  have HY : Hid (Row flP.c 3 w w.heap.size ya ys) := hY
  have HR : Hid (VR w w.heap.size ra rs) := hR
  clear hY hR F
  go_enter Try.func26, Try.ntmps26
  go_wp2
  refine dk.region_gsets (ws w.heap.size ys rs ya ra yc rc lg sf) [3, 4, 5, 6, 7, 8, 9, 10, 11] (C w ys rs ya ra yc rc lg sf) ⟨0, 0, [], 0, 0⟩ (by kernel_rfl) (by kernel_rfl) (fun _ => rfl) (by kernel_rfl) h0 ?each ?fin
  case each =>
    refine ⟨quiet (by decide) (by simp) (.pointer (some ⟨w.heap.size, 0, none⟩)) (by rintro s _ ⟨⟩; exact dk.sets_on _ (by simp) _ rfl) (fun s W h => by simp [execOp, go_sem, Act.eval, dk.sets_get, ws, List.lookup]), ?_⟩
    refine ⟨quiet (by decide) (by simp) (.agg #[.slice ya ys.length yc, .slice ra rs.length rc]) (by rintro s _ ⟨⟩; exact dk.sets_on _ (by simp) _ rfl) (fun s W h => by have c0 : W.cell? ⟨w.heap.size, 0, none⟩ = some (.slice ya ys.length yc) := bcell h rfl; have c1 : W.cell? ⟨w.heap.size, 1, none⟩ = some (.slice ra rs.length rc) := bcell h rfl; simp [execOp, go_sem, Act.eval, dk.sets_get, ws, List.lookup, c0, c1]), ?_⟩
    refine ⟨st2 HF.out HY.out HR.out (by simp) (by simp) rfl (fun s W => by simp [go_sem, Act.eval, dk.sets_get, ws, List.lookup]), ?_⟩
    refine ⟨quiet (by decide) (by simp) (.pointer (some ⟨w.heap.size, 2, none⟩)) (by rintro s _ ⟨⟩; exact dk.sets_on _ (by simp) _ rfl) (fun s W h => by simp [execOp, go_sem, Act.eval, dk.sets_get, ws, List.lookup]), ?_⟩
    refine ⟨quiet (by decide) (by simp) (.string lg) (by rintro s _ ⟨⟩; exact dk.sets_on _ (by simp) _ rfl) (fun s W h => by have c0 : W.cell? ⟨w.heap.size, 2, none⟩ = some (.string lg) := bcell h rfl; simp [execOp, go_sem, Act.eval, dk.sets_get, ws, List.lookup, c0]), ?_⟩
    refine ⟨st5 hlg (by simp) (by simp) rfl (fun s W => by simp [go_sem, Act.eval, dk.sets_get, ws, List.lookup]), ?_⟩
    refine ⟨quiet (by decide) (by simp) (.pointer (some ⟨w.heap.size, 3, none⟩)) (by rintro s _ ⟨⟩; exact dk.sets_on _ (by simp) _ rfl) (fun s W h => by simp [execOp, go_sem, Act.eval, dk.sets_get, ws, List.lookup]), ?_⟩
    refine ⟨quiet (by decide) (by simp) (.int .i64 sf) (by rintro s _ ⟨⟩; exact dk.sets_on _ (by simp) _ rfl) (fun s W h => by have c0 : W.cell? ⟨w.heap.size, 3, none⟩ = some (.int .i64 sf) := bcell h rfl; simp [execOp, go_sem, Act.eval, dk.sets_get, ws, List.lookup, c0]), ?_⟩
    refine ⟨st8 (by simp) rfl rfl ⟨⟨2, .data⟩, by simp, rfl, rfl⟩, ?_⟩
    exact ⟨st9 (by simp) rfl rfl (fun s => by simp [dk.sets_get, ws, List.lookup]) ⟨⟨8, .data⟩, by simp, rfl, rfl⟩, trivial⟩
  case fin =>
    intro g L W hL hC
    have hC' : D w ys rs ya ra yc rc lg sf g true true true W := by
      have h2 := hL 2 (by decide)
      have h8 := hL 8 (by decide)
      have h9 := hL 9 (by decide)
      unfold C at hC
      rw [h2, h8, h9] at hC
      exact hC
    obtain ⟨_, hxg, hxh⟩ := hC'.at8 rfl
    have hr := hC'.res
    rw [if_pos rfl, hxg, hxh] at hr
    have c0 : W.cell? ⟨w.heap.size + 1, 0, none⟩ = some (.slice (some ⟨g.g, 0, none⟩) ys.length ys.length) := bcell hr rfl
    have c1 : W.cell? ⟨w.heap.size + 1, 1, none⟩ = some (.slice (some ⟨g.h, 0, none⟩) rs.length rs.length) := bcell hr rfl
    have c2 : W.cell? ⟨w.heap.size + 1, 2, none⟩ = some (.string lg) := bcell hr rfl
    have c3 : W.cell? ⟨w.heap.size + 1, 3, none⟩ = some (.int .i64 sf) := bcell hr rfl
    simp only [dk.sets, ws]
    go_wp2
    exact bodyPost_ret (v := .agg #[.slice (some ⟨g.g, 0, none⟩) ys.length ys.length, .slice (some ⟨g.h, 0, none⟩) rs.length rs.length, .string lg, .int .i64 sf]) (by simp [results, Try.results26, go_sem, c0, c1, c2, c3]) rfl ⟨g.g, g.h, rfl, ⟨g.ks, hC'.at2 rfl⟩, hC'.bel⟩
end Go.Proofs.Ytfoajjkcocppeaa.scp
