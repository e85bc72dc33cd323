/- The specification's l09Copy, and StoreSync on both sides. -/
import Derived.Test.YtfoajjkcocppeaaStoCopy
import Derived.Test.YtfoajjkcocppeaaFlushSpec
namespace Go.Proofs.Ytfoajjkcocppeaa.ssy
open Go.ChangeShapes Go.WideShapes Go.ChangeAt Go.RowKit Go.Proofs.Ytfoajjkcocppeaa.fl Go.Proofs.Ytfoajjkcocppeaa.fo Go.Proofs.Ytfoajjkcocppeaa.rn Go.Proofs.Ytfoajjkcocppeaa.tan Go.Proofs.Ytfoajjkcocppeaa.sct Go.Proofs.Ytfoajjkcocppeaa.scp
set_option linter.unusedVariables false

def ansY (ys : List flP.Pr) (R : List (List flP.Pr)) (lg : ByteArray) (sf : Int) : List flP.Pr := ys
def ansR (ys : List flP.Pr) (R : List (List flP.Pr)) (lg : ByteArray) (sf : Int) : List (List flP.Pr) := R
theorem ans_le (ys : List flP.Pr) (R : List (List flP.Pr)) (lg : ByteArray) (sf : Int) : tot (ansR ys R lg sf) ≤ ys.length + tot R ∧ (ansY ys R lg sf).length ≤ ys.length + 1 ∧ (ansR ys R lg sf).length ≤ R.length + 1 := ⟨by unfold ansR; omega, by unfold ansY; omega, by unfold ansR; omega⟩
theorem CT.ta {W : World} {B : Nat} {ys : List flP.Pr} {rs : List Rn} {g h : Nat} {ks : List Rn} (c : CT W B ys rs g h ks) : TA W B (some ⟨g, 0, none⟩) (some ⟨h, 0, none⟩) ys ks := by
  have hl : ks.length = rs.length := by have := congrArg List.length c.map; simpa using this
  exact of_own_runs (B' := B) c.own (by rw [hl]; exact c.orr) c.gB c.hB (Nat.le_refl _) c.ne
/-- a copy of the specification's: its rows -/
structure SC (W : World) (B : Nat) (ys : List flP.Pr) (rs : List Rn) (g1 c1 : Nat) (va : Option Addr) (vc : Nat) (ks : List Rn) : Prop where
  fresh : W.ownsRow B 63 3 (.slice (some ⟨g1, 0, none⟩) ys.length c1) ys.length (ys.flatMap flP.c)
  runs : W.ownsRow B 29 1 (.slice va rs.length vc) rs.length (ks.flatMap cR)
  map : ks.map (·.l) = rs.map (·.l)
  rows : ∀ r ∈ ks, OwnR W B r
theorem SC.set {W : World} {B : Nat} {ys : List flP.Pr} {rs : List Rn} {g1 c1 : Nat} {va : Option Addr} {vc : Nat} {ks : List Rn} (c : SC W B ys rs g1 c1 va vc ks) {b : Nat} (hb : b < B) (o : Nat) (v : Value) : SC (W.setCell ⟨b, o, none⟩ v) B ys rs g1 c1 va vc ks :=
  ⟨own_set c.fresh hb, own_set c.runs hb, c.map, fun r hr => own_set (c.rows r hr) hb⟩
theorem SC.low {W : World} {B B' : Nat} {ys : List flP.Pr} {rs : List Rn} {g1 c1 : Nat} {va : Option Addr} {vc : Nat} {ks : List Rn} (c : SC W B ys rs g1 c1 va vc ks) (hb : B' ≤ B) : SC W B' ys rs g1 c1 va vc ks :=
  ⟨own_low c.fresh hb, own_low c.runs hb, c.map, fun r hr => own_low (c.rows r hr) hb⟩
theorem SC.on {W W' : World} {B : Nat} {ys : List flP.Pr} {rs : List Rn} {g1 c1 : Nat} {va : Option Addr} {vc : Nat} {ks : List Rn} (c : SC W B ys rs g1 c1 va vc ks) (hb : Below W.heap.size W W') : SC W' B ys rs g1 c1 va vc ks := by
  have hg : W.grownBy W' none := ⟨hb.os, hb.tape, hb.output, hb.size, fun k hk _ => hb.block k hk⟩
  exact ⟨c.fresh.kept hg (by simp [Value.ownBlock]), c.runs.kept hg (by cases (Value.slice va rs.length vc).ownBlock <;> simp), c.map, fun r hr => (c.rows r hr).kept hg (by cases (Value.slice r.a r.l.length r.c).ownBlock <;> simp)⟩
theorem SC.len {W : World} {B : Nat} {ys : List flP.Pr} {rs : List Rn} {g1 c1 : Nat} {va : Option Addr} {vc : Nat} {ks : List Rn} (c : SC W B ys rs g1 c1 va vc ks) : rs.length = ks.length := by have := congrArg List.length c.map; simpa using this.symm
theorem SC.vr {W : World} {B : Nat} {ys : List flP.Pr} {rs : List Rn} {g1 c1 : Nat} {va : Option Addr} {vc : Nat} {ks : List Rn} (c : SC W B ys rs g1 c1 va vc ks) : Row flP.c 3 W W.heap.size (some ⟨g1, 0, none⟩) ys ∧ VR W W.heap.size va ks := fls.rows_of (n := 0) c.len c.fresh c.runs c.rows

set_option maxRecDepth 100000 in
set_option maxHeartbeats 2000000 in
theorem spec_copyS (ys : List flP.Pr) (rs : List Rn) (a0 yc b rc : Nat) (lg : ByteArray) (sf : Int) (w : World) (F : tb.Fit ys rs) (hY : Row flP.c 3 w w.heap.size (some ⟨a0, 0, none⟩) ys) (hR : VR w w.heap.size (some ⟨b, 0, none⟩) rs) (hrs : ∀ r ∈ rs, ∃ h, r.a = some ⟨h, 0, none⟩) :
    Calls Try.prog 24 #[.agg #[.slice (some ⟨a0, 0, none⟩) ys.length yc, .slice (some ⟨b, 0, none⟩) rs.length rc, .string lg, .int .i64 sf]] w fun e w' => ∃ g1 c1 va vc ks, e = .returned (.agg #[.slice (some ⟨g1, 0, none⟩) ys.length c1, .slice va rs.length vc, .string lg, .int .i64 sf]) ∧ SC w' (w.heap.size + 2) ys rs g1 c1 va vc ks ∧ Below w.heap.size w w' := by
  have hb : Below w.heap.size w ((w.alloc (.cells #[.slice (some ⟨a0, 0, none⟩) ys.length yc, .slice (some ⟨b, 0, none⟩) rs.length rc, .string lg, .int .i64 sf] 34)).alloc (.cells #[.slice none 0 0, .slice none 0 0, .string ⟨#[]⟩, .int .i64 0] 34)) := ((Below.refl _ _).alloc (Nat.le_refl _) _).alloc (by simp) _
  have hA := bold (bnew w #[.slice (some ⟨a0, 0, none⟩) ys.length yc, .slice (some ⟨b, 0, none⟩) rs.length rc, .string lg, .int .i64 sf] 34) (.cells #[.slice none 0 0, .slice none 0 0, .string ⟨#[]⟩, .int .i64 0] 34)
  have hRs := bnew (w.alloc (.cells #[.slice (some ⟨a0, 0, none⟩) ys.length yc, .slice (some ⟨b, 0, none⟩) rs.length rc, .string lg, .int .i64 sf] 34)) #[.slice none 0 0, .slice none 0 0, .string ⟨#[]⟩, .int .i64 0] 34
  rw [World.size_alloc] at hRs
  obtain ⟨W, hW⟩ : ∃ W, ((w.alloc (.cells #[.slice (some ⟨a0, 0, none⟩) ys.length yc, .slice (some ⟨b, 0, none⟩) rs.length rc, .string lg, .int .i64 sf] 34)).alloc (.cells #[.slice none 0 0, .slice none 0 0, .string ⟨#[]⟩, .int .i64 0] 34)) = W := ⟨_, rfl⟩
  have hsW : W.heap.size = w.heap.size + 2 := by rw [← hW]; simp
  rw [hW] at hb hA hRs
  have hcp := sct.spec_copy ys rs a0 yc b rc W F (hY.inn hb) (hR.1.inn hb) (fun r hr => ⟨hrs r hr, (hR.2 r hr).inn hb⟩)
  have HA : Hid (W.heap[w.heap.size]? = some (.cells #[.slice (some ⟨a0, 0, none⟩) ys.length yc, .slice (some ⟨b, 0, none⟩) rs.length rc, .string lg, .int .i64 sf] 34 (0, 0))) := hA
  have HRS : Hid (W.heap[w.heap.size + 1]? = some (.cells #[.slice none 0 0, .slice none 0 0, .string ⟨#[]⟩, .int .i64 0] 34 (0, 0))) := hRs
  have p0 : W.cell? ⟨w.heap.size, 0, none⟩ = some (.slice (some ⟨a0, 0, none⟩) ys.length yc) := bcell hA rfl
  have p1 : W.cell? ⟨w.heap.size, 1, none⟩ = some (.slice (some ⟨b, 0, none⟩) rs.length rc) := bcell hA rfl
  clear hY hR hA hRs F hrs
  go_enter Try.func24, Try.ntmps24
  go_wp2_with (go_at_call 42; fail)
  clear hW p0 p1
  refine hcp.mono ?_
  rintro e w2 ⟨g1, c1, va, vc, ks, rfl, of2, or2, m2, rows2, hb2⟩
  have hs2 := hb2.size
  have HS : Hid (SC w2 (w.heap.size + 2) ys rs g1 c1 va vc ks) := SC.low ⟨of2, or2, m2, rows2⟩ (by omega)
  have a2 := bstay HA.out hb2 (by omega)
  have r2 := bstay HRS.out hb2 (by omega)
  have x0 : w2.cell? ⟨w.heap.size, 0, none⟩ = some (.slice (some ⟨a0, 0, none⟩) ys.length yc) := bcell a2 rfl
  have x1 : w2.cell? ⟨w.heap.size, 1, none⟩ = some (.slice (some ⟨b, 0, none⟩) rs.length rc) := bcell a2 rfl
  have x2 : w2.cell? ⟨w.heap.size, 2, none⟩ = some (.string lg) := bcell a2 rfl
  have x3 : w2.cell? ⟨w.heap.size, 3, none⟩ = some (.int .i64 sf) := bcell a2 rfl
  have f0 := bfree a2 0
  have f1 := bfree a2 1
  have r0 : w2.cell? ⟨w.heap.size + 1, 0, none⟩ = some (.slice none 0 0) := bcell r2 rfl
  have r1 : w2.cell? ⟨w.heap.size + 1, 1, none⟩ = some (.slice none 0 0) := bcell r2 rfl
  have r2' : w2.cell? ⟨w.heap.size + 1, 2, none⟩ = some (.string ⟨#[]⟩) := bcell r2 rfl
  have r3 : w2.cell? ⟨w.heap.size + 1, 3, none⟩ = some (.int .i64 0) := bcell r2 rfl
  have q0 := bfree r2 0
  have q1 := bfree r2 1
  have q2 := bfree r2 2
  have q3 := bfree r2 3
  have hBw : Below w.heap.size w w2 := hb.trans (hb2.mono hb.size)
  clear hcp of2 or2 m2 rows2 hb2 a2 r2
  go_wp2
  have lt0 : w.heap.size < w.heap.size + 2 := by omega
  have lt1 : w.heap.size + 1 < w.heap.size + 2 := by omega
  refine bodyPost_ret (v := .agg #[.slice (some ⟨g1, 0, none⟩) ys.length c1, .slice va rs.length vc, .string lg, .int .i64 sf]) (by simp [results, Try.results24, go_sem, r0, r1, r2', r3]) rfl ?_
  exact ⟨g1, c1, va, vc, ks, rfl, (((((HS.out.set lt0 _ _).set lt0 _ _).set lt1 _ _).set lt1 _ _).set lt1 _ _).set lt1 _ _, (((((hBw.setCell (Nat.le_refl _) _).setCell (Nat.le_refl _) _).setCell (Nat.le_succ _) _).setCell (Nat.le_succ _) _).setCell (Nat.le_succ _) _).setCell (Nat.le_succ _) _⟩

set_option maxRecDepth 100000 in
set_option maxHeartbeats 2000000 in
theorem spec_sync (ys : List flP.Pr) (rs : List Rn) (a0 yc b rc : Nat) (lg : ByteArray) (sf : Int) (w : World) (F : tb.Fit ys rs) (hlg : lg.size ≤ 1048576) (hY : Row flP.c 3 w w.heap.size (some ⟨a0, 0, none⟩) ys) (hR : VR w w.heap.size (some ⟨b, 0, none⟩) rs) (hrs : ∀ r ∈ rs, ∃ h, r.a = some ⟨h, 0, none⟩) :
    Calls Try.prog 8 #[.agg #[.slice (some ⟨a0, 0, none⟩) ys.length yc, .slice (some ⟨b, 0, none⟩) rs.length rc, .string lg, .int .i64 sf]] w fun e w' => ∃ sa sc ta tc ks, e = .returned (.agg #[.slice sa (ansY ys (rs.map (·.l)) lg sf).length sc, .slice ta (ansR ys (rs.map (·.l)) lg sf).length tc, .string lg, .int .i64 (lg.size : Int)]) ∧ ks.map (·.l) = ansR ys (rs.map (·.l)) lg sf ∧ Row flP.c 3 w' w'.heap.size sa (ansY ys (rs.map (·.l)) lg sf) ∧ VR w' w'.heap.size ta ks ∧ Below w.heap.size w w' := by
  unfold ansY ansR
  simp only [List.length_map]
  have hb : Below w.heap.size w ((w.alloc (.cells #[.slice (some ⟨a0, 0, none⟩) ys.length yc, .slice (some ⟨b, 0, none⟩) rs.length rc, .string lg, .int .i64 sf] 34)).alloc (.cells #[.slice none 0 0, .slice none 0 0, .string ⟨#[]⟩, .int .i64 0] 34)) := ((Below.refl _ _).alloc (Nat.le_refl _) _).alloc (by simp) _
  have hA := bold (bnew w #[.slice (some ⟨a0, 0, none⟩) ys.length yc, .slice (some ⟨b, 0, none⟩) rs.length rc, .string lg, .int .i64 sf] 34) (.cells #[.slice none 0 0, .slice none 0 0, .string ⟨#[]⟩, .int .i64 0] 34)
  have hRs := bnew (w.alloc (.cells #[.slice (some ⟨a0, 0, none⟩) ys.length yc, .slice (some ⟨b, 0, none⟩) rs.length rc, .string lg, .int .i64 sf] 34)) #[.slice none 0 0, .slice none 0 0, .string ⟨#[]⟩, .int .i64 0] 34
  rw [World.size_alloc] at hRs
  obtain ⟨W, hW⟩ : ∃ W, ((w.alloc (.cells #[.slice (some ⟨a0, 0, none⟩) ys.length yc, .slice (some ⟨b, 0, none⟩) rs.length rc, .string lg, .int .i64 sf] 34)).alloc (.cells #[.slice none 0 0, .slice none 0 0, .string ⟨#[]⟩, .int .i64 0] 34)) = W := ⟨_, rfl⟩
  have hsW : W.heap.size = w.heap.size + 2 := by rw [← hW]; simp
  rw [hW] at hb hA hRs
  have hcp := spec_copyS ys rs a0 yc b rc lg sf W F (hY.inn hb) (hR.inn hb) hrs
  have HA : Hid (W.heap[w.heap.size]? = some (.cells #[.slice (some ⟨a0, 0, none⟩) ys.length yc, .slice (some ⟨b, 0, none⟩) rs.length rc, .string lg, .int .i64 sf] 34 (0, 0))) := hA
  have HRS : Hid (W.heap[w.heap.size + 1]? = some (.cells #[.slice none 0 0, .slice none 0 0, .string ⟨#[]⟩, .int .i64 0] 34 (0, 0))) := hRs
  have p0 : W.cell? ⟨w.heap.size, 0, none⟩ = some (.slice (some ⟨a0, 0, none⟩) ys.length yc) := bcell hA rfl
  have p1 : W.cell? ⟨w.heap.size, 1, none⟩ = some (.slice (some ⟨b, 0, none⟩) rs.length rc) := bcell hA rfl
  have p2 : W.cell? ⟨w.heap.size, 2, none⟩ = some (.string lg) := bcell hA rfl
  have p3 : W.cell? ⟨w.heap.size, 3, none⟩ = some (.int .i64 sf) := bcell hA rfl
  clear hY hR hA hRs F hrs
  go_enter Try.func8, Try.ntmps8
  go_wp2_with (go_at_call 24; fail)
  clear hW p0 p1 p2 p3
  refine hcp.mono ?_
  rintro e w2 ⟨g1, c1, va, vc, ks, rfl, hsc, hb2⟩
  have hs2 := hb2.size
  have HS : Hid (SC w2 (w.heap.size + 2) ys rs g1 c1 va vc ks) := hsc.low (by omega)
  have a2 := bstay HA.out hb2 (by omega)
  have r2 := bstay HRS.out hb2 (by omega)
  have x0 : w2.cell? ⟨w.heap.size, 0, none⟩ = some (.slice (some ⟨a0, 0, none⟩) ys.length yc) := bcell a2 rfl
  have x1 : w2.cell? ⟨w.heap.size, 1, none⟩ = some (.slice (some ⟨b, 0, none⟩) rs.length rc) := bcell a2 rfl
  have x2 : w2.cell? ⟨w.heap.size, 2, none⟩ = some (.string lg) := bcell a2 rfl
  have x3 : w2.cell? ⟨w.heap.size, 3, none⟩ = some (.int .i64 sf) := bcell a2 rfl
  have f0 := bfree a2 0
  have f1 := bfree a2 1
  have f2 := bfree a2 2
  have f3 := bfree a2 3
  have r0 : w2.cell? ⟨w.heap.size + 1, 0, none⟩ = some (.slice none 0 0) := bcell r2 rfl
  have r1 : w2.cell? ⟨w.heap.size + 1, 1, none⟩ = some (.slice none 0 0) := bcell r2 rfl
  have r2' : w2.cell? ⟨w.heap.size + 1, 2, none⟩ = some (.string ⟨#[]⟩) := bcell r2 rfl
  have r3 : w2.cell? ⟨w.heap.size + 1, 3, none⟩ = some (.int .i64 0) := bcell r2 rfl
  have q0 := bfree r2 0
  have q1 := bfree r2 1
  have q2 := bfree r2 2
  have q3 := bfree r2 3
  have hBw : Below w.heap.size w w2 := hb.trans (hb2.mono hb.size)
  have b5 : (((((w2.setCell ⟨w.heap.size, 0, none⟩ (.slice (some ⟨g1, 0, none⟩) ys.length c1)).setCell ⟨w.heap.size, 1, none⟩ (.slice va rs.length vc)).setCell ⟨w.heap.size, 2, none⟩ (.string lg)).setCell ⟨w.heap.size, 3, none⟩ (.int .i64 sf)).setCell ⟨w.heap.size, 3, none⟩ (.int .i64 (lg.size : Int))).heap[w.heap.size]? = some (.cells #[.slice (some ⟨g1, 0, none⟩) ys.length c1, .slice va rs.length vc, .string lg, .int .i64 (lg.size : Int)] 34 (0, 0)) := bset (bset (bset (bset (bset a2 0 _) 1 _) 2 _) 3 _) 3 _
  have y0 : (((((w2.setCell ⟨w.heap.size, 0, none⟩ (.slice (some ⟨g1, 0, none⟩) ys.length c1)).setCell ⟨w.heap.size, 1, none⟩ (.slice va rs.length vc)).setCell ⟨w.heap.size, 2, none⟩ (.string lg)).setCell ⟨w.heap.size, 3, none⟩ (.int .i64 sf)).setCell ⟨w.heap.size, 3, none⟩ (.int .i64 (lg.size : Int))).cell? ⟨w.heap.size, 0, none⟩ = some (.slice (some ⟨g1, 0, none⟩) ys.length c1) := bcell b5 rfl
  have y1 : (((((w2.setCell ⟨w.heap.size, 0, none⟩ (.slice (some ⟨g1, 0, none⟩) ys.length c1)).setCell ⟨w.heap.size, 1, none⟩ (.slice va rs.length vc)).setCell ⟨w.heap.size, 2, none⟩ (.string lg)).setCell ⟨w.heap.size, 3, none⟩ (.int .i64 sf)).setCell ⟨w.heap.size, 3, none⟩ (.int .i64 (lg.size : Int))).cell? ⟨w.heap.size, 1, none⟩ = some (.slice va rs.length vc) := bcell b5 rfl
  have y2 : (((((w2.setCell ⟨w.heap.size, 0, none⟩ (.slice (some ⟨g1, 0, none⟩) ys.length c1)).setCell ⟨w.heap.size, 1, none⟩ (.slice va rs.length vc)).setCell ⟨w.heap.size, 2, none⟩ (.string lg)).setCell ⟨w.heap.size, 3, none⟩ (.int .i64 sf)).setCell ⟨w.heap.size, 3, none⟩ (.int .i64 (lg.size : Int))).cell? ⟨w.heap.size, 2, none⟩ = some (.string lg) := bcell b5 rfl
  have y3 : (((((w2.setCell ⟨w.heap.size, 0, none⟩ (.slice (some ⟨g1, 0, none⟩) ys.length c1)).setCell ⟨w.heap.size, 1, none⟩ (.slice va rs.length vc)).setCell ⟨w.heap.size, 2, none⟩ (.string lg)).setCell ⟨w.heap.size, 3, none⟩ (.int .i64 sf)).setCell ⟨w.heap.size, 3, none⟩ (.int .i64 (lg.size : Int))).cell? ⟨w.heap.size, 3, none⟩ = some (.int .i64 (lg.size : Int)) := bcell b5 rfl
  clear hcp hsc hb2 a2 r2 b5
  go_wp2
  have lt0 : w.heap.size < w.heap.size + 2 := by omega
  have lt1 : w.heap.size + 1 < w.heap.size + 2 := by omega
  have hfin := ((((((((HS.out.set lt0 0 (.slice (some ⟨g1, 0, none⟩) ys.length c1)).set lt0 1 (.slice va rs.length vc)).set lt0 2 (.string lg)).set lt0 3 (.int .i64 sf)).set lt0 3 (.int .i64 (lg.size : Int))).set lt1 0 (.slice (some ⟨g1, 0, none⟩) ys.length c1)).set lt1 1 (.slice va rs.length vc)).set lt1 2 (.string lg)).set lt1 3 (.int .i64 (lg.size : Int))
  exact bodyPost_ret (v := .agg #[.slice (some ⟨g1, 0, none⟩) ys.length c1, .slice va rs.length vc, .string lg, .int .i64 (lg.size : Int)]) (by simp [results, Try.results8, go_sem, r0, r1, r2', r3]) rfl ⟨some ⟨g1, 0, none⟩, c1, va, vc, ks, rfl, HS.out.map, hfin.vr.1, hfin.vr.2, ((((((((hBw.setCell (Nat.le_refl _) _).setCell (Nat.le_refl _) _).setCell (Nat.le_refl _) _).setCell (Nat.le_refl _) _).setCell (Nat.le_refl _) _).setCell (Nat.le_succ _) _).setCell (Nat.le_succ _) _).setCell (Nat.le_succ _) _).setCell (Nat.le_succ _) _⟩

set_option maxRecDepth 100000 in
set_option maxHeartbeats 2000000 in
theorem impl_sync (ys : List flP.Pr) (rs : List Rn) (ya ra : Option Addr) (yc rc : Nat) (lg : ByteArray) (sf : Int) (w : World) (F : tb.Fit ys rs) (hlg : lg.size ≤ 1048576) (hY : Row flP.c 3 w w.heap.size ya ys) (hR : VR w w.heap.size ra rs) :
    Calls Try.prog 10 #[.agg #[.slice ya ys.length yc, .slice ra rs.length rc, .string lg, .int .i64 sf]] w fun e w' => ∃ sa sc ta tc ks, e = .returned (.agg #[.slice sa (ansY ys (rs.map (·.l)) lg sf).length sc, .slice ta (ansR ys (rs.map (·.l)) lg sf).length tc, .string lg, .int .i64 (lg.size : Int)]) ∧ ks.map (·.l) = ansR ys (rs.map (·.l)) lg sf ∧ TA w' w.heap.size sa ta (ansY ys (rs.map (·.l)) lg sf) ks ∧ Below w.heap.size w w' := by
  unfold ansY ansR
  simp only [List.length_map]
  have hb : Below w.heap.size w ((w.alloc (.cells #[.slice ya ys.length yc, .slice ra rs.length rc, .string lg, .int .i64 sf] 34)).alloc (.cells #[.slice none 0 0, .slice none 0 0, .string ⟨#[]⟩, .int .i64 0] 34)) := ((Below.refl _ _).alloc (Nat.le_refl _) _).alloc (by simp) _
  have hA := bold (bnew w #[.slice ya ys.length yc, .slice ra rs.length rc, .string lg, .int .i64 sf] 34) (.cells #[.slice none 0 0, .slice none 0 0, .string ⟨#[]⟩, .int .i64 0] 34)
  have hRs := bnew (w.alloc (.cells #[.slice ya ys.length yc, .slice ra rs.length rc, .string lg, .int .i64 sf] 34)) #[.slice none 0 0, .slice none 0 0, .string ⟨#[]⟩, .int .i64 0] 34
  rw [World.size_alloc] at hRs
  obtain ⟨W, hW⟩ : ∃ W, ((w.alloc (.cells #[.slice ya ys.length yc, .slice ra rs.length rc, .string lg, .int .i64 sf] 34)).alloc (.cells #[.slice none 0 0, .slice none 0 0, .string ⟨#[]⟩, .int .i64 0] 34)) = W := ⟨_, rfl⟩
  have hsW : W.heap.size = w.heap.size + 2 := by rw [← hW]; simp
  rw [hW] at hb hA hRs
  have hcp := copy_store ys rs ya ra yc rc lg sf W F hlg (hY.inn hb) (hR.inn hb)
  have HRS : Hid (W.heap[w.heap.size + 1]? = some (.cells #[.slice none 0 0, .slice none 0 0, .string ⟨#[]⟩, .int .i64 0] 34 (0, 0))) := hRs
  have p0 : W.cell? ⟨w.heap.size, 0, none⟩ = some (.slice ya ys.length yc) := bcell hA rfl
  have p1 : W.cell? ⟨w.heap.size, 1, none⟩ = some (.slice ra rs.length rc) := bcell hA rfl
  have p2 : W.cell? ⟨w.heap.size, 2, none⟩ = some (.string lg) := bcell hA rfl
  have p3 : W.cell? ⟨w.heap.size, 3, none⟩ = some (.int .i64 sf) := bcell hA rfl
  clear hY hR hA hRs F
  go_enter Try.func10, Try.ntmps10
  go_wp2_with (go_at_call 26; fail)
  clear hW p0 p1 p2 p3
  refine hcp.mono ?_
  rintro e w2 ⟨g, h, ks, rfl, hct, hb2⟩
  have hs2 := hb2.size
  have HS : Hid (CT w2 (W.heap.size + 2) ys rs g h ks) := hct
  have r2 := bstay HRS.out hb2 (by omega)
  have hal : Below w2.heap.size w2 (w2.alloc (.cells #[.slice (some ⟨g, 0, none⟩) ys.length ys.length, .slice (some ⟨h, 0, none⟩) rs.length rs.length, .string lg, .int .i64 sf] 34)) := (Below.refl _ _).alloc (Nat.le_refl _) _
  have hN := bnew w2 #[.slice (some ⟨g, 0, none⟩) ys.length ys.length, .slice (some ⟨h, 0, none⟩) rs.length rs.length, .string lg, .int .i64 sf] 34
  have r3 := bold r2 (.cells #[.slice (some ⟨g, 0, none⟩) ys.length ys.length, .slice (some ⟨h, 0, none⟩) rs.length rs.length, .string lg, .int .i64 sf] 34)
  have hct3 := hct.on hal
  have hW3s : w2.heap.size < (w2.alloc (.cells #[.slice (some ⟨g, 0, none⟩) ys.length ys.length, .slice (some ⟨h, 0, none⟩) rs.length rs.length, .string lg, .int .i64 sf] 34)).heap.size := by simp
  obtain ⟨W3, hW3⟩ : ∃ W3, w2.alloc (.cells #[.slice (some ⟨g, 0, none⟩) ys.length ys.length, .slice (some ⟨h, 0, none⟩) rs.length rs.length, .string lg, .int .i64 sf] 34) = W3 := ⟨_, rfl⟩
  rw [hW3] at hal hN r3 hct3 hW3s
  have HC3 : Hid (CT W3 (W.heap.size + 2) ys rs g h ks) := hct3
  have x0 : W3.cell? ⟨w2.heap.size, 0, none⟩ = some (.slice (some ⟨g, 0, none⟩) ys.length ys.length) := bcell hN rfl
  have x1 : W3.cell? ⟨w2.heap.size, 1, none⟩ = some (.slice (some ⟨h, 0, none⟩) rs.length rs.length) := bcell hN rfl
  have x2 : W3.cell? ⟨w2.heap.size, 2, none⟩ = some (.string lg) := bcell hN rfl
  have x3 : W3.cell? ⟨w2.heap.size, 3, none⟩ = some (.int .i64 sf) := bcell hN rfl
  have f3 := bfree hN 3
  have r0 : W3.cell? ⟨w.heap.size + 1, 0, none⟩ = some (.slice none 0 0) := bcell r3 rfl
  have r1 : W3.cell? ⟨w.heap.size + 1, 1, none⟩ = some (.slice none 0 0) := bcell r3 rfl
  have r2' : W3.cell? ⟨w.heap.size + 1, 2, none⟩ = some (.string ⟨#[]⟩) := bcell r3 rfl
  have r3' : W3.cell? ⟨w.heap.size + 1, 3, none⟩ = some (.int .i64 0) := bcell r3 rfl
  have q0 := bfree r3 0
  have q1 := bfree r3 1
  have q2 := bfree r3 2
  have q3 := bfree r3 3
  have hne : w.heap.size + 1 ≠ w2.heap.size := by omega
  have hB3 : Below w.heap.size w W3 := (hb.trans (hb2.mono hb.size)).trans (hal.mono (by have := hb.size; omega))
  have HFT : Hid (∀ W', Tn W3 W' (fun k => k = w.heap.size + 1 ∨ k = w2.heap.size) → TA W' w.heap.size (some ⟨g, 0, none⟩) (some ⟨h, 0, none⟩) ys ks) := fun W' ht => by
    have hng : g < w2.heap.size := hct.own.lt
    have hnh : h < w2.heap.size := hct.orr.lt
    have hgB := hct.gB
    have hhB := hct.hB
    refine (CT.ta (B := W.heap.size + 2) ⟨hct3.own.kept (ht.block g (by omega) (by omega)), sto.or_turn hct3.orr (fun k hk => ht.block k ?_ ?_), hct.map, hct.gB, hct.hB, hct.ne⟩).wide (by omega)
    · rcases hk with rfl | ⟨i, r, hr, e⟩
      · omega
      · obtain ⟨h', e', _, _, ho'⟩ := hct.orr.own i r hr
        rw [e] at e'
        have e2 := congrArg Addr.block (Option.some.inj e')
        simp only at e2
        have := ho'.lt
        omega
    · rcases hk with rfl | ⟨i, r, hr, e⟩
      · omega
      · obtain ⟨h', e', _, hB', ho'⟩ := hct.orr.own i r hr
        rw [e] at e'
        have e2 := congrArg Addr.block (Option.some.inj e')
        simp only at e2
        have := ho'.lt
        omega
  clear hcp hct hct3 hb2 r2 r3 hN
  go_wp2
  have htn : Tn W3 (((((W3.setCell ⟨w2.heap.size, 3, none⟩ (.int .i64 (lg.size : Int))).setCell ⟨w.heap.size + 1, 0, none⟩ (.slice (some ⟨g, 0, none⟩) ys.length ys.length)).setCell ⟨w.heap.size + 1, 1, none⟩ (.slice (some ⟨h, 0, none⟩) rs.length rs.length)).setCell ⟨w.heap.size + 1, 2, none⟩ (.string lg)).setCell ⟨w.heap.size + 1, 3, none⟩ (.int .i64 (lg.size : Int))) (fun k => k = w.heap.size + 1 ∨ k = w2.heap.size) :=
    Tn.set (Tn.set (Tn.set (Tn.set (Tn.set (Tn.refl W3 _) (.inr rfl) 3 _) (.inl rfl) 0 _) (.inl rfl) 1 _) (.inl rfl) 2 _) (.inl rfl) 3 _
  exact bodyPost_ret (v := .agg #[.slice (some ⟨g, 0, none⟩) ys.length ys.length, .slice (some ⟨h, 0, none⟩) rs.length rs.length, .string lg, .int .i64 (lg.size : Int)]) (by simp [results, Try.results10, go_sem, r0, r1, r2', r3']) rfl ⟨some ⟨g, 0, none⟩, ys.length, some ⟨h, 0, none⟩, rs.length, ks, rfl, HS.out.map, HFT.out _ htn, hB3.trans (htn.below (by have := hB3.size; omega) (by rintro k (hk | hk) <;> omega))⟩
end Go.Proofs.Ytfoajjkcocppeaa.ssy
