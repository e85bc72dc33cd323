/- StoreStep: the program. -/
import Derived.Test.YtfoajjkcocppeaaStoSync
import Derived.Test.YtfoajjkcocppeaaGSpec
import Derived.Test.YtfoajjkcocppeaaGImpl
import Derived.Deep.RegionWith

/- StoreStep: the specification. -/
namespace Go.Proofs.Ytfoajjkcocppeaa.sst
open Go.ChangeShapes Go.WideShapes Go.ChangeAt Go.RowKit Go.Proofs.Ytfoajjkcocppeaa.fl Go.Proofs.Ytfoajjkcocppeaa.fo Go.Proofs.Ytfoajjkcocppeaa.rn Go.Proofs.Ytfoajjkcocppeaa.tan Go.Proofs.Ytfoajjkcocppeaa.sct Go.Proofs.Ytfoajjkcocppeaa.scp Go.Proofs.Ytfoajjkcocppeaa.ssy
set_option linter.unusedVariables false

/-- the table behind a step -/
noncomputable def ansY (ys : List flP.Pr) (R : List (List flP.Pr)) (lg : ByteArray) (sf kd x : Int) : List flP.Pr := if kd = 0 then fls.ansY ys R else ys
noncomputable def ansR (ys : List flP.Pr) (R : List (List flP.Pr)) (lg : ByteArray) (sf kd x : Int) : List (List flP.Pr) := if kd = 0 then fls.ansR ys R else if kd = 1 then mga.ansR ys R x else R
theorem ans_0 (ys : List flP.Pr) (R : List (List flP.Pr)) (lg : ByteArray) (sf x : Int) : ansY ys R lg sf 0 x = fls.ansY ys R ∧ ansR ys R lg sf 0 x = fls.ansR ys R := ⟨rfl, rfl⟩
theorem ans_1 (ys : List flP.Pr) (R : List (List flP.Pr)) (lg : ByteArray) (sf x : Int) : ansY ys R lg sf 1 x = ys ∧ ansR ys R lg sf 1 x = mga.ansR ys R x := ⟨rfl, rfl⟩
theorem ans_2 {ys : List flP.Pr} {R : List (List flP.Pr)} {lg : ByteArray} {sf kd x : Int} (h0 : kd ≠ 0) (h1 : kd ≠ 1) : ansY ys R lg sf kd x = ys ∧ ansR ys R lg sf kd x = R := by
  unfold ansY ansR
  rw [if_neg h0, if_neg h0, if_neg h1]
  exact ⟨rfl, rfl⟩
theorem ans_le (ys : List flP.Pr) (R : List (List flP.Pr)) (lg : ByteArray) (sf kd x : Int) : tot (ansR ys R lg sf kd x) ≤ ys.length + tot R ∧ (ansY ys R lg sf kd x).length ≤ ys.length + 1 ∧ (ansR ys R lg sf kd x).length ≤ R.length + 1 := by
  by_cases h0 : kd = 0
  · subst h0
    rw [(ans_0 ys R lg sf x).1, (ans_0 ys R lg sf x).2]
    unfold fls.ansR fls.ansY
    cases fls.can ys R with
    | false => simp
    | true =>
      simp only [if_true]
      rw [mga.tot_cons]
      simp
  · by_cases h1 : kd = 1
    · subst h1
      rw [(ans_1 ys R lg sf x).1, (ans_1 ys R lg sf x).2]
      have := mga.ans_le ys R x
      exact ⟨this.1, by omega, this.2.2⟩
    · rw [(ans_2 h0 h1).1, (ans_2 h0 h1).2]
      omega
set_option maxRecDepth 100000 in
set_option maxHeartbeats 2000000 in
theorem spec_copyA (ys : List flP.Pr) (rs : List Rn) (a0 yc b rc : Nat) (lg : ByteArray) (sf : Int) (w : World) (F : tb.Fit ys rs) (hY : Row flP.c 3 w w.heap.size (some ⟨a0, 0, none⟩) ys) (hR : VR w w.heap.size (some ⟨b, 0, none⟩) rs) (hrs : ∀ r ∈ rs, ∃ h, r.a = some ⟨h, 0, none⟩) :
    Calls Try.prog 24 #[.agg #[.slice (some ⟨a0, 0, none⟩) ys.length yc, .slice (some ⟨b, 0, none⟩) rs.length rc, .string lg, .int .i64 sf]] w fun e w' => ∃ g1 c1 va vc ks, e = .returned (.agg #[.slice (some ⟨g1, 0, none⟩) ys.length c1, .slice va rs.length vc, .string lg, .int .i64 sf]) ∧ SC w' (w.heap.size + 2) ys rs g1 c1 va vc ks ∧ (∀ r ∈ ks, ∃ q, r.a = some ⟨q, 0, none⟩) ∧ Below w.heap.size w w' := by
  have hb : Below w.heap.size w ((w.alloc (.cells #[.slice (some ⟨a0, 0, none⟩) ys.length yc, .slice (some ⟨b, 0, none⟩) rs.length rc, .string lg, .int .i64 sf] 34)).alloc (.cells #[.slice none 0 0, .slice none 0 0, .string ⟨#[]⟩, .int .i64 0] 34)) := ((Below.refl _ _).alloc (Nat.le_refl _) _).alloc (by simp) _
  have hA := bold (bnew w #[.slice (some ⟨a0, 0, none⟩) ys.length yc, .slice (some ⟨b, 0, none⟩) rs.length rc, .string lg, .int .i64 sf] 34) (.cells #[.slice none 0 0, .slice none 0 0, .string ⟨#[]⟩, .int .i64 0] 34)
  have hRs := bnew (w.alloc (.cells #[.slice (some ⟨a0, 0, none⟩) ys.length yc, .slice (some ⟨b, 0, none⟩) rs.length rc, .string lg, .int .i64 sf] 34)) #[.slice none 0 0, .slice none 0 0, .string ⟨#[]⟩, .int .i64 0] 34
  rw [World.size_alloc] at hRs
  obtain ⟨W, hW⟩ : ∃ W, ((w.alloc (.cells #[.slice (some ⟨a0, 0, none⟩) ys.length yc, .slice (some ⟨b, 0, none⟩) rs.length rc, .string lg, .int .i64 sf] 34)).alloc (.cells #[.slice none 0 0, .slice none 0 0, .string ⟨#[]⟩, .int .i64 0] 34)) = W := ⟨_, rfl⟩
  have hsW : W.heap.size = w.heap.size + 2 := by rw [← hW]; simp
  rw [hW] at hb hA hRs
  have hcp := sco.spec_copy ys rs a0 yc (some ⟨b, 0, none⟩) rc W F (hY.inn hb) (hR.1.inn hb) (fun _ => ⟨b, rfl⟩) (fun r hr => ⟨hrs r hr, (hR.2 r hr).inn hb⟩)
  have HA : Hid (W.heap[w.heap.size]? = some (.cells #[.slice (some ⟨a0, 0, none⟩) ys.length yc, .slice (some ⟨b, 0, none⟩) rs.length rc, .string lg, .int .i64 sf] 34 (0, 0))) := hA
  have HRS : Hid (W.heap[w.heap.size + 1]? = some (.cells #[.slice none 0 0, .slice none 0 0, .string ⟨#[]⟩, .int .i64 0] 34 (0, 0))) := hRs
  have p0 : W.cell? ⟨w.heap.size, 0, none⟩ = some (.slice (some ⟨a0, 0, none⟩) ys.length yc) := bcell hA rfl
  have p1 : W.cell? ⟨w.heap.size, 1, none⟩ = some (.slice (some ⟨b, 0, none⟩) rs.length rc) := bcell hA rfl
  clear hY hR hA hRs F hrs
  go_enter Try.func24, Try.ntmps24
  go_wp2_with (go_at_call 42; fail)
  clear hW p0 p1
  refine hcp.mono ?_
  rintro e w2 ⟨g1, c1, va, vc, ks, rfl, of2, or2, m2, rows2, adr2, hb2⟩
  have hs2 := hb2.size
  have HAD : Hid (∀ r ∈ ks, ∃ q, r.a = some ⟨q, 0, none⟩) := adr2
  have HS : Hid (SC w2 (w.heap.size + 2) ys rs g1 c1 va vc ks) := SC.low ⟨of2, or2, m2, rows2⟩ (by omega)
  have a2 := bstay HA.out hb2 (by omega)
  have r2 := bstay HRS.out hb2 (by omega)
  have x0 : w2.cell? ⟨w.heap.size, 0, none⟩ = some (.slice (some ⟨a0, 0, none⟩) ys.length yc) := bcell a2 rfl
  have x1 : w2.cell? ⟨w.heap.size, 1, none⟩ = some (.slice (some ⟨b, 0, none⟩) rs.length rc) := bcell a2 rfl
  have x2 : w2.cell? ⟨w.heap.size, 2, none⟩ = some (.string lg) := bcell a2 rfl
  have x3 : w2.cell? ⟨w.heap.size, 3, none⟩ = some (.int .i64 sf) := bcell a2 rfl
  have f0 := bfree a2 0
  have f1 := bfree a2 1
  have r0 : w2.cell? ⟨w.heap.size + 1, 0, none⟩ = some (.slice none 0 0) := bcell r2 rfl
  have r1 : w2.cell? ⟨w.heap.size + 1, 1, none⟩ = some (.slice none 0 0) := bcell r2 rfl
  have r2' : w2.cell? ⟨w.heap.size + 1, 2, none⟩ = some (.string ⟨#[]⟩) := bcell r2 rfl
  have r3 : w2.cell? ⟨w.heap.size + 1, 3, none⟩ = some (.int .i64 0) := bcell r2 rfl
  have q0 := bfree r2 0
  have q1 := bfree r2 1
  have q2 := bfree r2 2
  have q3 := bfree r2 3
  have hBw : Below w.heap.size w w2 := hb.trans (hb2.mono hb.size)
  clear hcp of2 or2 m2 rows2 adr2 hb2 a2 r2
  go_wp2
  have lt0 : w.heap.size < w.heap.size + 2 := by omega
  have lt1 : w.heap.size + 1 < w.heap.size + 2 := by omega
  refine bodyPost_ret (v := .agg #[.slice (some ⟨g1, 0, none⟩) ys.length c1, .slice va rs.length vc, .string lg, .int .i64 sf]) (by simp [results, Try.results24, go_sem, r0, r1, r2', r3]) rfl ?_
  exact ⟨g1, c1, va, vc, ks, rfl, (((((HS.out.set lt0 _ _).set lt0 _ _).set lt1 _ _).set lt1 _ _).set lt1 _ _).set lt1 _ _, HAD.out, (((((hBw.setCell (Nat.le_refl _) _).setCell (Nat.le_refl _) _).setCell (Nat.le_succ _) _).setCell (Nat.le_succ _) _).setCell (Nat.le_succ _) _).setCell (Nat.le_succ _) _⟩

theorem va_some {W : World} {B n vc : Nat} {va : Option Addr} {xs : List Value} {U : TypeId} (h : W.ownsRow B U 1 (.slice va n vc) n xs) (hn : n ≠ 0) : ∃ b, va = some ⟨b, 0, none⟩ := by
  obtain ⟨_, ⟨e, h0⟩ | ⟨g, cap, cur, e, _⟩⟩ := h
  · exact absurd h0 hn
  · cases e
    exact ⟨g, rfl⟩
set_option maxRecDepth 100000 in
set_option maxHeartbeats 4000000 in
theorem spec_step (ys : List flP.Pr) (rs : List Rn) (a0 yc b rc : Nat) (lg : ByteArray) (sf kd x : Int) (w : World) (F : tb.Fit ys rs) (hlg : lg.size ≤ 1048576) (hk1 : -9223372036854775808 ≤ kd) (hk2 : kd ≤ 9223372036854775807) (hx1 : -9223372036854775808 ≤ x) (hx2 : x ≤ 9223372036854775807) (hY : Row flP.c 3 w w.heap.size (some ⟨a0, 0, none⟩) ys) (hR : VR w w.heap.size (some ⟨b, 0, none⟩) rs) (hrs : ∀ r ∈ rs, ∃ h, r.a = some ⟨h, 0, none⟩) :
    Calls Try.prog 14 #[.agg #[.slice (some ⟨a0, 0, none⟩) ys.length yc, .slice (some ⟨b, 0, none⟩) rs.length rc, .string lg, .int .i64 sf], .int .i64 kd, .int .i64 x] w fun e w' => ∃ sa sc ta tc ks, e = .returned (.agg #[.slice sa (ansY ys (rs.map (·.l)) lg sf kd x).length sc, .slice ta (ansR ys (rs.map (·.l)) lg sf kd x).length tc, .string lg, .int .i64 sf]) ∧ ks.map (·.l) = ansR ys (rs.map (·.l)) lg sf kd x ∧ Row flP.c 3 w' w'.heap.size sa (ansY ys (rs.map (·.l)) lg sf kd x) ∧ VR w' w'.heap.size ta ks ∧ Below w.heap.size w w' := by
  have hb : Below w.heap.size w ((w.alloc (.cells #[.slice (some ⟨a0, 0, none⟩) ys.length yc, .slice (some ⟨b, 0, none⟩) rs.length rc, .string lg, .int .i64 sf] 34)).alloc (.cells #[.slice none 0 0, .slice none 0 0, .string ⟨#[]⟩, .int .i64 0] 34)) := ((Below.refl _ _).alloc (Nat.le_refl _) _).alloc (by simp) _
  have hA := bold (bnew w #[.slice (some ⟨a0, 0, none⟩) ys.length yc, .slice (some ⟨b, 0, none⟩) rs.length rc, .string lg, .int .i64 sf] 34) (.cells #[.slice none 0 0, .slice none 0 0, .string ⟨#[]⟩, .int .i64 0] 34)
  have hRs := bnew (w.alloc (.cells #[.slice (some ⟨a0, 0, none⟩) ys.length yc, .slice (some ⟨b, 0, none⟩) rs.length rc, .string lg, .int .i64 sf] 34)) #[.slice none 0 0, .slice none 0 0, .string ⟨#[]⟩, .int .i64 0] 34
  rw [World.size_alloc] at hRs
  obtain ⟨W, hW⟩ : ∃ W, ((w.alloc (.cells #[.slice (some ⟨a0, 0, none⟩) ys.length yc, .slice (some ⟨b, 0, none⟩) rs.length rc, .string lg, .int .i64 sf] 34)).alloc (.cells #[.slice none 0 0, .slice none 0 0, .string ⟨#[]⟩, .int .i64 0] 34)) = W := ⟨_, rfl⟩
  have hsW : W.heap.size = w.heap.size + 2 := by rw [← hW]; simp
  rw [hW] at hb hA hRs
  have hcp := spec_copyA ys rs a0 yc b rc lg sf W F (hY.inn hb) (hR.inn hb) hrs
  have HF : Hid (tb.Fit ys rs) := F
  have HA : Hid (W.heap[w.heap.size]? = some (.cells #[.slice (some ⟨a0, 0, none⟩) ys.length yc, .slice (some ⟨b, 0, none⟩) rs.length rc, .string lg, .int .i64 sf] 34 (0, 0))) := hA
  have HRS : Hid (W.heap[w.heap.size + 1]? = some (.cells #[.slice none 0 0, .slice none 0 0, .string ⟨#[]⟩, .int .i64 0] 34 (0, 0))) := hRs
  have p0 : W.cell? ⟨w.heap.size, 0, none⟩ = some (.slice (some ⟨a0, 0, none⟩) ys.length yc) := bcell hA rfl
  have p1 : W.cell? ⟨w.heap.size, 1, none⟩ = some (.slice (some ⟨b, 0, none⟩) rs.length rc) := bcell hA rfl
  have p2 : W.cell? ⟨w.heap.size, 2, none⟩ = some (.string lg) := bcell hA rfl
  have p3 : W.cell? ⟨w.heap.size, 3, none⟩ = some (.int .i64 sf) := bcell hA rfl
  clear hY hR hA hRs F hrs
  go_enter Try.func14, Try.ntmps14
  go_wp2_with (go_at_call 24; fail)
  clear hW p0 p1 p2 p3
  refine hcp.mono ?_
  rintro e w2 ⟨g1, c1, va, vc, ks, rfl, hsc, hadr, hb2⟩
  have hs2 := hb2.size
  have hm2 := hsc.map
  have hl2 := hsc.len
  have a2 := bstay HA.out hb2 (by omega)
  have r2 := bstay HRS.out hb2 (by omega)
  have x0 : w2.cell? ⟨w.heap.size, 0, none⟩ = some (.slice (some ⟨a0, 0, none⟩) ys.length yc) := bcell a2 rfl
  have x1 : w2.cell? ⟨w.heap.size, 1, none⟩ = some (.slice (some ⟨b, 0, none⟩) rs.length rc) := bcell a2 rfl
  have x2 : w2.cell? ⟨w.heap.size, 2, none⟩ = some (.string lg) := bcell a2 rfl
  have x3 : w2.cell? ⟨w.heap.size, 3, none⟩ = some (.int .i64 sf) := bcell a2 rfl
  have f0 := bfree a2 0
  have f1 := bfree a2 1
  have f2 := bfree a2 2
  have f3 := bfree a2 3
  have b4 : ((((w2.setCell ⟨w.heap.size, 0, none⟩ (.slice (some ⟨g1, 0, none⟩) ys.length c1)).setCell ⟨w.heap.size, 1, none⟩ (.slice va rs.length vc)).setCell ⟨w.heap.size, 2, none⟩ (.string lg)).setCell ⟨w.heap.size, 3, none⟩ (.int .i64 sf)).heap[w.heap.size]? = some (.cells #[.slice (some ⟨g1, 0, none⟩) ys.length c1, .slice va rs.length vc, .string lg, .int .i64 sf] 34 (0, 0)) := bset (bset (bset (bset a2 0 _) 1 _) 2 _) 3 _
  have r4 : ((((w2.setCell ⟨w.heap.size, 0, none⟩ (.slice (some ⟨g1, 0, none⟩) ys.length c1)).setCell ⟨w.heap.size, 1, none⟩ (.slice va rs.length vc)).setCell ⟨w.heap.size, 2, none⟩ (.string lg)).setCell ⟨w.heap.size, 3, none⟩ (.int .i64 sf)).heap[w.heap.size + 1]? = some (.cells #[.slice none 0 0, .slice none 0 0, .string ⟨#[]⟩, .int .i64 0] 34 (0, 0)) := boff (boff (boff (boff r2 _ _ _ (by omega)) _ _ _ (by omega)) _ _ _ (by omega)) _ _ _ (by omega)
  have hBw : Below w.heap.size w ((((w2.setCell ⟨w.heap.size, 0, none⟩ (.slice (some ⟨g1, 0, none⟩) ys.length c1)).setCell ⟨w.heap.size, 1, none⟩ (.slice va rs.length vc)).setCell ⟨w.heap.size, 2, none⟩ (.string lg)).setCell ⟨w.heap.size, 3, none⟩ (.int .i64 sf)) := ((((hb.trans (hb2.mono hb.size)).setCell (Nat.le_refl _) _).setCell (Nat.le_refl _) _).setCell (Nat.le_refl _) _).setCell (Nat.le_refl _) _
  have lt0 : w.heap.size < W.heap.size + 2 := by omega
  have hsc4 : SC ((((w2.setCell ⟨w.heap.size, 0, none⟩ (.slice (some ⟨g1, 0, none⟩) ys.length c1)).setCell ⟨w.heap.size, 1, none⟩ (.slice va rs.length vc)).setCell ⟨w.heap.size, 2, none⟩ (.string lg)).setCell ⟨w.heap.size, 3, none⟩ (.int .i64 sf)) (W.heap.size + 2) ys rs g1 c1 va vc ks := (((hsc.set lt0 _ _).set lt0 _ _).set lt0 _ _).set lt0 _ _
  have hs4 : ((((w2.setCell ⟨w.heap.size, 0, none⟩ (.slice (some ⟨g1, 0, none⟩) ys.length c1)).setCell ⟨w.heap.size, 1, none⟩ (.slice va rs.length vc)).setCell ⟨w.heap.size, 2, none⟩ (.string lg)).setCell ⟨w.heap.size, 3, none⟩ (.int .i64 sf)).heap.size = w2.heap.size := by simp
  obtain ⟨X4, hX4⟩ : ∃ X4, (((w2.setCell ⟨w.heap.size, 0, none⟩ (.slice (some ⟨g1, 0, none⟩) ys.length c1)).setCell ⟨w.heap.size, 1, none⟩ (.slice va rs.length vc)).setCell ⟨w.heap.size, 2, none⟩ (.string lg)).setCell ⟨w.heap.size, 3, none⟩ (.int .i64 sf) = X4 := ⟨_, rfl⟩
  rw [hX4] at b4 r4 hBw hsc4 hs4
  have y0 : X4.cell? ⟨w.heap.size, 0, none⟩ = some (.slice (some ⟨g1, 0, none⟩) ys.length c1) := bcell b4 rfl
  have y1 : X4.cell? ⟨w.heap.size, 1, none⟩ = some (.slice va rs.length vc) := bcell b4 rfl
  have y2 : X4.cell? ⟨w.heap.size, 2, none⟩ = some (.string lg) := bcell b4 rfl
  have y3 : X4.cell? ⟨w.heap.size, 3, none⟩ = some (.int .i64 sf) := bcell b4 rfl
  have HB4 : Hid (X4.heap[w.heap.size]? = some (.cells #[.slice (some ⟨g1, 0, none⟩) ys.length c1, .slice va rs.length vc, .string lg, .int .i64 sf] 34 (0, 0))) := b4
  have HR4 : Hid (X4.heap[w.heap.size + 1]? = some (.cells #[.slice none 0 0, .slice none 0 0, .string ⟨#[]⟩, .int .i64 0] 34 (0, 0))) := r4
  have HSC : Hid (SC X4 (W.heap.size + 2) ys rs g1 c1 va vc ks) := hsc4
  have HAD : Hid (∀ r ∈ ks, ∃ q, r.a = some ⟨q, 0, none⟩) := hadr
  have HM : Hid (ks.map (·.l) = rs.map (·.l)) := hm2
  have HL : Hid (rs.length = ks.length) := hl2
  have hls4 : w.heap.size + 4 ≤ X4.heap.size + 2 := by omega
  have HVA : Hid (ks ≠ [] → ∃ b, va = some ⟨b, 0, none⟩) := fun h => va_some hsc4.runs (by rw [hl2]; exact fun e => h (List.eq_nil_of_length_eq_zero e))
  clear hcp hsc hb2 a2 r2 b4 r4 hsc4 hadr hm2 hl2 hs4
  by_cases h0 : kd = 0
  · subst h0
    have hcl := flo.spec_flush ys ks g1 c1 va vc X4 (HF.out.of HM.out) HSC.out.vr.1 HSC.out.vr.2 HVA.out HAD.out
    rw [← HL.out, HM.out] at hcl
    obtain ⟨l5, hl5⟩ : ∃ l5, fls.ansY ys (rs.map (·.l)) = l5 := ⟨_, rfl⟩
    obtain ⟨R5, hR5⟩ : ∃ R5, fls.ansR ys (rs.map (·.l)) = R5 := ⟨_, rfl⟩
    obtain ⟨bb, hbb⟩ : ∃ bb, fls.can ys (rs.map (·.l)) = bb := ⟨_, rfl⟩
    rw [hl5, hR5, hbb] at hcl
    have HAN : Hid (ansY ys (rs.map (·.l)) lg sf 0 x = l5 ∧ ansR ys (rs.map (·.l)) lg sf 0 x = R5) := ⟨hl5, hR5⟩
    clear hl5 hR5 hbb hlg hk1 hk2
    go_wp2_with (go_at_call 30; fail)
    clear hX4 y0 y1 y2 y3 x0 x1 x2 x3 f0 f1 f2 f3
    refine hcl.mono ?_
    rintro e w5 ⟨sa, sc, ta, tc, k5, rfl, hm5, hsr, hb5⟩
    have b5 := bstay HB4.out hb5 (Array.getElem?_eq_some_iff.1 HB4.out).1
    have r5 := bstay HR4.out hb5 (Array.getElem?_eq_some_iff.1 HR4.out).1
    have hl5 : R5.length = k5.length := by rw [← hm5, List.length_map]
    have hal : Below w5.heap.size w5 (w5.alloc (.cells #[.slice sa l5.length sc, .slice ta R5.length tc] 32)) := (Below.refl _ _).alloc (Nat.le_refl _) _
    have hN := bnew w5 #[.slice sa l5.length sc, .slice ta R5.length tc] 32
    have b6 := bold b5 (.cells #[.slice sa l5.length sc, .slice ta R5.length tc] 32)
    have r6 := bold r5 (.cells #[.slice sa l5.length sc, .slice ta R5.length tc] 32)
    have HSR : Hid (sco.SR (w5.alloc (.cells #[.slice sa l5.length sc, .slice ta R5.length tc] 32)) (w.heap.size + 2) sa sc ta tc l5 k5) := (hsr.low (by omega)).on hal
    have HBW : Hid (Below w.heap.size w (w5.alloc (.cells #[.slice sa l5.length sc, .slice ta R5.length tc] 32))) := (hBw.trans (hb5.mono hBw.size)).alloc (by have := hBw.size; have := hb5.size; omega) _
    have hnw : w5.heap.size ≠ w.heap.size ∧ w5.heap.size ≠ w.heap.size + 1 := by have := hb5.size; omega
    obtain ⟨W6, hW6⟩ : ∃ W6, w5.alloc (.cells #[.slice sa l5.length sc, .slice ta R5.length tc] 32) = W6 := ⟨_, rfl⟩
    rw [hW6] at hal hN b6 r6 HSR HBW
    have n0 : W6.cell? ⟨w5.heap.size, 0, none⟩ = some (.slice sa l5.length sc) := bcell hN rfl
    have n1 : W6.cell? ⟨w5.heap.size, 1, none⟩ = some (.slice ta R5.length tc) := bcell hN rfl
    have z0 : W6.cell? ⟨w.heap.size, 0, none⟩ = some (.slice (some ⟨g1, 0, none⟩) ys.length c1) := bcell b6 rfl
    have z1 : W6.cell? ⟨w.heap.size, 1, none⟩ = some (.slice va rs.length vc) := bcell b6 rfl
    have z2 : W6.cell? ⟨w.heap.size, 2, none⟩ = some (.string lg) := bcell b6 rfl
    have z3 : W6.cell? ⟨w.heap.size, 3, none⟩ = some (.int .i64 sf) := bcell b6 rfl
    have f0 := bfree b6 0
    have f1 := bfree b6 1
    have r0 : W6.cell? ⟨w.heap.size + 1, 0, none⟩ = some (.slice none 0 0) := bcell r6 rfl
    have r1 : W6.cell? ⟨w.heap.size + 1, 1, none⟩ = some (.slice none 0 0) := bcell r6 rfl
    have r2 : W6.cell? ⟨w.heap.size + 1, 2, none⟩ = some (.string ⟨#[]⟩) := bcell r6 rfl
    have r3 : W6.cell? ⟨w.heap.size + 1, 3, none⟩ = some (.int .i64 0) := bcell r6 rfl
    have q0 := bfree r6 0
    have q1 := bfree r6 1
    have q2 := bfree r6 2
    have q3 := bfree r6 3
    have HM5 : Hid (k5.map (·.l) = R5) := hm5
    have HL5 : Hid (R5.length = k5.length) := hl5
    clear hcl hm5 hsr hb5 b5 r5 hal hN b6 r6 hl5 HB4 HR4 HSC HVA HAD
    go_wp2
    have lt0 : w.heap.size < w.heap.size + 2 := by omega
    have lt1 : w.heap.size + 1 < w.heap.size + 2 := by omega
    have hfin := (((((HSR.out.set lt0 0 (.slice sa l5.length sc)).set lt0 1 (.slice ta R5.length tc)).set lt1 0 (.slice sa l5.length sc)).set lt1 1 (.slice ta R5.length tc)).set lt1 2 (.string lg)).set lt1 3 (.int .i64 sf)
    exact bodyPost_ret (v := .agg #[.slice sa l5.length sc, .slice ta R5.length tc, .string lg, .int .i64 sf]) (by simp [results, Try.results14, go_sem, r0, r1, r2, r3]) rfl ⟨sa, sc, ta, tc, k5, by rw [HAN.out.1, HAN.out.2], by rw [HAN.out.2]; exact HM5.out, by rw [HAN.out.1]; exact fls.row_of flP.c_len rfl hfin.fresh, ⟨fls.row_of cR_len rfl hfin.runs, fun r hr => fls.row_of flP.c_len rfl (hfin.rows r hr)⟩, (((((HBW.out.setCell (Nat.le_refl _) _).setCell (Nat.le_refl _) _).setCell (Nat.le_succ _) _).setCell (Nat.le_succ _) _).setCell (Nat.le_succ _) _).setCell (Nat.le_succ _) _⟩
  · by_cases h1 : kd = 1
    · subst h1
      have hcl := mgco.spec_merge ys ks g1 c1 va vc x X4 (HF.out.of HM.out) hx1 hx2 HSC.out.vr.1 HSC.out.vr.2 HVA.out HAD.out
      rw [← HL.out, HM.out] at hcl
      obtain ⟨R5, hR5⟩ : ∃ R5, mga.ansR ys (rs.map (·.l)) x = R5 := ⟨_, rfl⟩
      obtain ⟨bb, hbb⟩ : ∃ bb, mga.can ys (rs.map (·.l)) x = bb := ⟨_, rfl⟩
      rw [hR5, hbb] at hcl
      have HAN : Hid (ansY ys (rs.map (·.l)) lg sf 1 x = ys ∧ ansR ys (rs.map (·.l)) lg sf 1 x = R5) := ⟨rfl, hR5⟩
      clear hR5 hbb hlg hk1 hk2
      go_wp2_with (go_at_call 31; fail)
      clear hX4 y0 y1 y2 y3 x0 x1 x2 x3 f0 f1 f2 f3
      refine hcl.mono ?_
      rintro e w5 ⟨sa, sc, ta, tc, k5, rfl, hm5, hsr, hb5⟩
      have b5 := bstay HB4.out hb5 (Array.getElem?_eq_some_iff.1 HB4.out).1
      have r5 := bstay HR4.out hb5 (Array.getElem?_eq_some_iff.1 HR4.out).1
      have hl5 : R5.length = k5.length := by rw [← hm5, List.length_map]
      have hal : Below w5.heap.size w5 (w5.alloc (.cells #[.slice sa ys.length sc, .slice ta R5.length tc] 32)) := (Below.refl _ _).alloc (Nat.le_refl _) _
      have hN := bnew w5 #[.slice sa ys.length sc, .slice ta R5.length tc] 32
      have b6 := bold b5 (.cells #[.slice sa ys.length sc, .slice ta R5.length tc] 32)
      have r6 := bold r5 (.cells #[.slice sa ys.length sc, .slice ta R5.length tc] 32)
      have HSR : Hid (sco.SR (w5.alloc (.cells #[.slice sa ys.length sc, .slice ta R5.length tc] 32)) (w.heap.size + 2) sa sc ta tc ys k5) := (hsr.low (by omega)).on hal
      have HBW : Hid (Below w.heap.size w (w5.alloc (.cells #[.slice sa ys.length sc, .slice ta R5.length tc] 32))) := (hBw.trans (hb5.mono hBw.size)).alloc (by have := hBw.size; have := hb5.size; omega) _
      have hnw : w5.heap.size ≠ w.heap.size ∧ w5.heap.size ≠ w.heap.size + 1 := by have := hb5.size; omega
      obtain ⟨W6, hW6⟩ : ∃ W6, w5.alloc (.cells #[.slice sa ys.length sc, .slice ta R5.length tc] 32) = W6 := ⟨_, rfl⟩
      rw [hW6] at hal hN b6 r6 HSR HBW
      have n0 : W6.cell? ⟨w5.heap.size, 0, none⟩ = some (.slice sa ys.length sc) := bcell hN rfl
      have n1 : W6.cell? ⟨w5.heap.size, 1, none⟩ = some (.slice ta R5.length tc) := bcell hN rfl
      have z0 : W6.cell? ⟨w.heap.size, 0, none⟩ = some (.slice (some ⟨g1, 0, none⟩) ys.length c1) := bcell b6 rfl
      have z1 : W6.cell? ⟨w.heap.size, 1, none⟩ = some (.slice va rs.length vc) := bcell b6 rfl
      have z2 : W6.cell? ⟨w.heap.size, 2, none⟩ = some (.string lg) := bcell b6 rfl
      have z3 : W6.cell? ⟨w.heap.size, 3, none⟩ = some (.int .i64 sf) := bcell b6 rfl
      have f0 := bfree b6 0
      have f1 := bfree b6 1
      have r0 : W6.cell? ⟨w.heap.size + 1, 0, none⟩ = some (.slice none 0 0) := bcell r6 rfl
      have r1 : W6.cell? ⟨w.heap.size + 1, 1, none⟩ = some (.slice none 0 0) := bcell r6 rfl
      have r2 : W6.cell? ⟨w.heap.size + 1, 2, none⟩ = some (.string ⟨#[]⟩) := bcell r6 rfl
      have r3 : W6.cell? ⟨w.heap.size + 1, 3, none⟩ = some (.int .i64 0) := bcell r6 rfl
      have q0 := bfree r6 0
      have q1 := bfree r6 1
      have q2 := bfree r6 2
      have q3 := bfree r6 3
      have HM5 : Hid (k5.map (·.l) = R5) := hm5
      have HL5 : Hid (R5.length = k5.length) := hl5
      clear hcl hm5 hsr hb5 b5 r5 hal hN b6 r6 hl5 HB4 HR4 HSC HVA HAD
      go_wp2
      have lt0 : w.heap.size < w.heap.size + 2 := by omega
      have lt1 : w.heap.size + 1 < w.heap.size + 2 := by omega
      have hfin := (((((HSR.out.set lt0 0 (.slice sa ys.length sc)).set lt0 1 (.slice ta R5.length tc)).set lt1 0 (.slice sa ys.length sc)).set lt1 1 (.slice ta R5.length tc)).set lt1 2 (.string lg)).set lt1 3 (.int .i64 sf)
      exact bodyPost_ret (v := .agg #[.slice sa ys.length sc, .slice ta R5.length tc, .string lg, .int .i64 sf]) (by simp [results, Try.results14, go_sem, r0, r1, r2, r3]) rfl ⟨sa, sc, ta, tc, k5, by rw [HAN.out.1, HAN.out.2], by rw [HAN.out.2]; exact HM5.out, by rw [HAN.out.1]; exact fls.row_of flP.c_len rfl hfin.fresh, ⟨fls.row_of cR_len rfl hfin.runs, fun r hr => fls.row_of flP.c_len rfl (hfin.rows r hr)⟩, (((((HBW.out.setCell (Nat.le_refl _) _).setCell (Nat.le_refl _) _).setCell (Nat.le_succ _) _).setCell (Nat.le_succ _) _).setCell (Nat.le_succ _) _).setCell (Nat.le_succ _) _⟩
    · have d0 : (kd == 0) = false := by simp [h0]
      have d1 : (kd == 1) = false := by simp [h1]
      have HAN : Hid (ansY ys (rs.map (·.l)) lg sf kd x = ys ∧ ansR ys (rs.map (·.l)) lg sf kd x = rs.map (·.l)) := ans_2 h0 h1
      have r0 : X4.cell? ⟨w.heap.size + 1, 0, none⟩ = some (.slice none 0 0) := bcell HR4.out rfl
      have r1 : X4.cell? ⟨w.heap.size + 1, 1, none⟩ = some (.slice none 0 0) := bcell HR4.out rfl
      have r2 : X4.cell? ⟨w.heap.size + 1, 2, none⟩ = some (.string ⟨#[]⟩) := bcell HR4.out rfl
      have r3 : X4.cell? ⟨w.heap.size + 1, 3, none⟩ = some (.int .i64 0) := bcell HR4.out rfl
      have q0 := bfree HR4.out 0
      have q1 := bfree HR4.out 1
      have q2 := bfree HR4.out 2
      have q3 := bfree HR4.out 3
      clear hlg hk1 hk2 hx1 hx2 h0 h1
      go_wp2
      have lt1 : w.heap.size + 1 < W.heap.size + 2 := by omega
      have hfin := (((HSC.out.set lt1 0 (.slice (some ⟨g1, 0, none⟩) ys.length c1)).set lt1 1 (.slice va rs.length vc)).set lt1 2 (.string lg)).set lt1 3 (.int .i64 sf)
      exact bodyPost_ret (v := .agg #[.slice (some ⟨g1, 0, none⟩) ys.length c1, .slice va rs.length vc, .string lg, .int .i64 sf]) (by simp [results, Try.results14, go_sem, r0, r1, r2, r3]) rfl ⟨some ⟨g1, 0, none⟩, c1, va, vc, ks, by rw [HAN.out.1, HAN.out.2, List.length_map], by rw [HAN.out.2]; exact HM.out, by rw [HAN.out.1]; exact hfin.vr.1, hfin.vr.2, (((hBw.setCell (Nat.le_succ _) _).setCell (Nat.le_succ _) _).setCell (Nat.le_succ _) _).setCell (Nat.le_succ _) _⟩
end Go.Proofs.Ytfoajjkcocppeaa.sst

/- StoreStep: the program. -/
namespace Go.Proofs.Ytfoajjkcocppeaa.sst
open Go.ChangeShapes Go.WideShapes Go.ChangeAt Go.RowKit Go.Proofs.Ytfoajjkcocppeaa.fl Go.Proofs.Ytfoajjkcocppeaa.fo Go.Proofs.Ytfoajjkcocppeaa.rn Go.Proofs.Ytfoajjkcocppeaa.tan Go.Proofs.Ytfoajjkcocppeaa.sct Go.Proofs.Ytfoajjkcocppeaa.scp Go.Proofs.Ytfoajjkcocppeaa.ssy
set_option linter.unusedVariables false

set_option maxRecDepth 100000 in
set_option maxHeartbeats 2000000 in
theorem flush_step (ys : List flP.Pr) (rs : List Rn) (ya ra : Option Addr) (yc rc : Nat) (x : Int) (w : World) (F : tb.Fit ys rs) (hY : Row flP.c 3 w w.heap.size ya ys) (hR : VR w w.heap.size ra rs) :
    Calls Try.prog 52 #[.agg #[.slice ya ys.length yc, .slice ra rs.length rc], .int .i64 x] w fun e w' => ∃ sa sc ta tc ks, e = .returned (.tuple #[.agg #[.slice sa (fls.ansY ys (rs.map (·.l))).length sc, .slice ta (fls.ansR ys (rs.map (·.l))).length tc], .bool (fls.can ys (rs.map (·.l)))]) ∧ ks.map (·.l) = fls.ansR ys (rs.map (·.l)) ∧ TA w' w.heap.size sa ta (fls.ansY ys (rs.map (·.l))) ks ∧ Below w.heap.size w w' := by
  have hb : Below w.heap.size w ((w.alloc (.cells #[.slice ya ys.length yc, .slice ra rs.length rc] 32)).alloc (.cells #[.slice none 0 0, .slice none 0 0] 32)) := ((Below.refl _ _).alloc (Nat.le_refl _) _).alloc (by simp) _
  have hA := bold (bnew w #[.slice ya ys.length yc, .slice ra rs.length rc] 32) (.cells #[.slice none 0 0, .slice none 0 0] 32)
  have hRs := bnew (w.alloc (.cells #[.slice ya ys.length yc, .slice ra rs.length rc] 32)) #[.slice none 0 0, .slice none 0 0] 32
  rw [World.size_alloc] at hRs
  obtain ⟨W, hW⟩ : ∃ W, ((w.alloc (.cells #[.slice ya ys.length yc, .slice ra rs.length rc] 32)).alloc (.cells #[.slice none 0 0, .slice none 0 0] 32)) = W := ⟨_, rfl⟩
  have hsW : w.heap.size + 2 ≤ W.heap.size := by rw [← hW]; simp
  rw [hW] at hb hA hRs
  have hfl := fli.impl_flush ys rs ya ra yc rc W F (hY.inn hb) (hR.inn hb)
  have HRS : Hid (W.heap[w.heap.size + 1]? = some (.cells #[.slice none 0 0, .slice none 0 0] 32 (0, 0))) := hRs
  have p0 : W.cell? ⟨w.heap.size, 0, none⟩ = some (.slice ya ys.length yc) := bcell hA rfl
  have p1 : W.cell? ⟨w.heap.size, 1, none⟩ = some (.slice ra rs.length rc) := bcell hA rfl
  obtain ⟨l5, hl5⟩ : ∃ l5, fls.ansY ys (rs.map (·.l)) = l5 := ⟨_, rfl⟩
  obtain ⟨R5, hR5⟩ : ∃ R5, fls.ansR ys (rs.map (·.l)) = R5 := ⟨_, rfl⟩
  obtain ⟨bb, hbb⟩ : ∃ bb, fls.can ys (rs.map (·.l)) = bb := ⟨_, rfl⟩
  rw [hl5, hR5, hbb] at hfl ⊢
  clear hY hR hA hRs F hl5 hR5 hbb
  go_enter Try.func52, Try.ntmps52
  go_wp2_with (go_at_call 68; fail)
  clear hW p0 p1
  refine hfl.mono ?_
  rintro e w2 ⟨sa, sc, ta, tc, ks, rfl, hm, hta, hb2⟩
  have r2 := bstay HRS.out hb2 (by omega)
  have r0 : w2.cell? ⟨w.heap.size + 1, 0, none⟩ = some (.slice none 0 0) := bcell r2 rfl
  have r1 : w2.cell? ⟨w.heap.size + 1, 1, none⟩ = some (.slice none 0 0) := bcell r2 rfl
  have f0 := bfree r2 0
  have f1 := bfree r2 1
  have HB : Hid (Below w.heap.size w w2) := hb.trans (hb2.mono hb.size)
  have HTA : Hid (TA w2 W.heap.size sa ta l5 ks) := hta
  have HM : Hid (ks.map (·.l) = R5) := hm
  clear hfl r2 hta hm hb2
  go_wp2
  have htn : Tn w2 ((w2.setCell ⟨w.heap.size + 1, 0, none⟩ (.slice sa l5.length sc)).setCell ⟨w.heap.size + 1, 1, none⟩ (.slice ta R5.length tc)) (fun k => k = w.heap.size + 1) := Tn.set (Tn.set (Tn.refl w2 (fun k => k = w.heap.size + 1)) (S := fun k => k = w.heap.size + 1) rfl 0 _) rfl 1 _
  exact bodyPost_ret (v := .tuple #[.agg #[.slice sa l5.length sc, .slice ta R5.length tc], .bool bb]) (by simp [results, Try.results52, go_sem, r0, r1]) rfl ⟨sa, sc, ta, tc, ks, rfl, HM.out, (HTA.out.turn htn (fun k hk => by omega)).wide (by omega), (HB.out.setCell (Nat.le_succ _) _).setCell (Nat.le_succ _) _⟩

set_option maxRecDepth 100000 in
theorem steps_run (w : World) : Calls Try.prog 32 #[] w fun e w' => e = .returned (.agg #[.func (.func 52) #[] #[], .func (.func 53) #[] #[]]) ∧ Below w.heap.size w w' := by
  have hb : Below w.heap.size w (w.alloc (.cells #[.func (.func 52) #[] #[], .func (.func 53) #[] #[]] 56)) := (Below.refl _ _).alloc (Nat.le_refl _) _
  go_enter Try.func32, Try.ntmps32
  go_wp2
  have hA := bnew w #[.func (.func 52) #[] #[], .func (.func 53) #[] #[]] 56
  have c0 : (w.alloc (.cells #[.func (.func 52) #[] #[], .func (.func 53) #[] #[]] 56)).cell? ⟨w.heap.size, 0, none⟩ = some (.func (.func 52) #[] #[]) := bcell hA rfl
  have c1 : (w.alloc (.cells #[.func (.func 52) #[] #[], .func (.func 53) #[] #[]] 56)).cell? ⟨w.heap.size, 1, none⟩ = some (.func (.func 53) #[] #[]) := bcell hA rfl
  exact bodyPost_ret (v := .agg #[.func (.func 52) #[] #[], .func (.func 53) #[] #[]]) (by simp [results, Try.results32, go_sem, c0, c1]) rfl ⟨rfl, hb⟩

/-- what stands when the step is done and its table lies in a place of its own -/
structure PS (w Y : World) (A : Array Value) (nb : Nat) (V : Array Value) (sa ta : Option Addr) (l : List flP.Pr) (ks : List Rn) : Prop where
  bel : Below w.heap.size w Y
  box : Y.heap[w.heap.size]? = some (.cells A 34 (0, 0))
  res : Y.heap[w.heap.size + 1]? = some (.cells #[.slice none 0 0, .slice none 0 0, .string ⟨#[]⟩, .int .i64 0] 34 (0, 0))
  tab : Y.heap[nb]? = some (.cells V 32 (0, 0))
  ne : nb ≠ w.heap.size + 1
  ta : TA Y (w.heap.size + 2) sa ta l ks
theorem ps_a {w X w5 : World} {A V : Array Value} {sa ta : Option Addr} {l : List flP.Pr} {ks : List Rn} (hX : Below w.heap.size w X) (hA : X.heap[w.heap.size]? = some (.cells A 34 (0, 0))) (hR : X.heap[w.heap.size + 1]? = some (.cells #[.slice none 0 0, .slice none 0 0, .string ⟨#[]⟩, .int .i64 0] 34 (0, 0))) (hta : TA w5 X.drew.heap.size sa ta l ks) (hb : Below X.drew.heap.size X.drew w5) : PS w (w5.alloc (.cells V 32)) A w5.heap.size V sa ta l ks := by
  have hb' : Below X.heap.size X w5 := (Below.refl _ X).drew.trans hb
  have h1 := (Array.getElem?_eq_some_iff.1 hR).1
  have h2 := hb'.size
  have hs : X.drew.heap.size = X.heap.size := rfl
  exact ⟨(hX.trans (hb'.mono hX.size)).alloc (by have := hX.size; omega) _, bold (bstay hA hb' (Array.getElem?_eq_some_iff.1 hA).1) _, bold (bstay hR hb' h1) _, bnew w5 _ _, by omega, (hta.wide (by omega)).on ((Below.refl _ _).alloc (Nat.le_refl _) _)⟩
theorem ps_b {w X w5 : World} {A : Array Value} {v0 v1 : Value} {sa ta : Option Addr} {l : List flP.Pr} {ks : List Rn} (hX : Below w.heap.size w X) (hA : X.heap[w.heap.size]? = some (.cells A 34 (0, 0))) (hR : X.heap[w.heap.size + 1]? = some (.cells #[.slice none 0 0, .slice none 0 0, .string ⟨#[]⟩, .int .i64 0] 34 (0, 0))) (hta : TA w5 (X.drew.alloc (.cells #[.slice none 0 0, .slice none 0 0] 32)).heap.size sa ta l ks) (hb : Below (X.drew.alloc (.cells #[.slice none 0 0, .slice none 0 0] 32)).heap.size (X.drew.alloc (.cells #[.slice none 0 0, .slice none 0 0] 32)) w5) : PS w ((w5.setCell ⟨X.heap.size, 0, none⟩ v0).setCell ⟨X.heap.size, 1, none⟩ v1) A X.heap.size #[v0, v1] sa ta l ks := by
  have hal : Below X.heap.size X (X.drew.alloc (.cells #[.slice none 0 0, .slice none 0 0] 32)) := ((Below.refl _ X).drew).alloc (Nat.le_refl _) _
  have hs : (X.drew.alloc (.cells #[.slice none 0 0, .slice none 0 0] 32)).heap.size = X.heap.size + 1 := by simp
  have hb' : Below X.heap.size X w5 := hal.trans (hb.mono hal.size)
  have h1 := (Array.getElem?_eq_some_iff.1 hR).1
  have h0 := (Array.getElem?_eq_some_iff.1 hA).1
  have hXs := hX.size
  have ht := bstay (bnew X.drew #[.slice none 0 0, .slice none 0 0] 32) hb (by simp)
  have htn : Tn w5 ((w5.setCell ⟨X.heap.size, 0, none⟩ v0).setCell ⟨X.heap.size, 1, none⟩ v1) (fun k => k = X.heap.size) := Tn.set (Tn.set (Tn.refl w5 (fun k => k = X.heap.size)) (S := fun k => k = X.heap.size) rfl 0 _) rfl 1 _
  exact ⟨((hX.trans (hb'.mono hXs)).setCell hXs _).setCell hXs _, boff (boff (bstay hA hb' h0) _ _ _ (by omega)) _ _ _ (by omega), boff (boff (bstay hR hb' h1) _ _ _ (by omega)) _ _ _ (by omega), bset (bset ht 0 v0) 1 v1, by omega, (hta.turn htn (fun k hk => by omega)).wide (by omega)⟩
/-- what stands while the answer is built -/
structure D5 (Y : World) (r : Nat) (V4 : Array Value) (b : Bool) (W : World) : Prop where
  tn : Tn Y W (fun k => b = true ∧ k = r)
  res : W.heap[r]? = some (.cells (if b then V4 else #[.slice none 0 0, .slice none 0 0, .string ⟨#[]⟩, .int .i64 0]) 34 (0, 0))
theorem D5.on {Y W W' : World} {r : Nat} {V4 : Array Value} {b : Bool} (h : D5 Y r V4 b W) (hb : Below W.heap.size W W') : D5 Y r V4 b W' :=
  ⟨⟨hb.os.trans h.tn.os, hb.tape.trans h.tn.tape, hb.output.trans h.tn.output, Nat.le_trans h.tn.size hb.size, fun k hk hS => (hb.block k (Nat.lt_of_lt_of_le hk h.tn.size)).trans (h.tn.block k hk hS)⟩, bstay h.res hb (Array.getElem?_eq_some_iff.1 h.res).1⟩
theorem D5.old {Y W : World} {r : Nat} {V4 : Array Value} {b : Bool} (h : D5 Y r V4 b W) {k : Nat} {o : Obj} (hk : Y.heap[k]? = some o) (hne : k ≠ r) : W.heap[k]? = some o := (h.tn.block k (Array.getElem?_eq_some_iff.1 hk).1 (fun e => hne e.2)).trans hk
def ws5 (s : Nat) (v0 v1 : Value) (lg : ByteArray) (sf : Int) : List (Nat × Value) := [(29, .agg #[v0, v1]), (30, .pointer (some ⟨s, 2, none⟩)), (31, .string lg), (32, .string lg), (33, .pointer (some ⟨s, 3, none⟩)), (34, .int .i64 sf), (35, .agg #[v0, v1, .string lg, .int .i64 sf])]

set_option maxRecDepth 100000 in
set_option maxHeartbeats 4000000 in
theorem impl_step (ys : List flP.Pr) (rs : List Rn) (ya ra : Option Addr) (yc rc : Nat) (lg : ByteArray) (sf kd x : Int) (w : World) (F : tb.Fit ys rs) (hlg : lg.size ≤ 1048576) (hk1 : -9223372036854775808 ≤ kd) (hk2 : kd ≤ 9223372036854775807) (hx1 : -9223372036854775808 ≤ x) (hx2 : x ≤ 9223372036854775807) (hY : Row flP.c 3 w w.heap.size ya ys) (hR : VR w w.heap.size ra rs) :
    Calls Try.prog 15 #[.agg #[.slice ya ys.length yc, .slice ra rs.length rc, .string lg, .int .i64 sf], .int .i64 kd, .int .i64 x] w fun e w' => ∃ sa sc ta tc ks, e = .returned (.agg #[.slice sa (ansY ys (rs.map (·.l)) lg sf kd x).length sc, .slice ta (ansR ys (rs.map (·.l)) lg sf kd x).length tc, .string lg, .int .i64 sf]) ∧ ks.map (·.l) = ansR ys (rs.map (·.l)) lg sf kd x ∧ TA w' w.heap.size sa ta (ansY ys (rs.map (·.l)) lg sf kd x) ks ∧ Below w.heap.size w w' := by
  have hb : Below w.heap.size w ((w.alloc (.cells #[.slice ya ys.length yc, .slice ra rs.length rc, .string lg, .int .i64 sf] 34)).alloc (.cells #[.slice none 0 0, .slice none 0 0, .string ⟨#[]⟩, .int .i64 0] 34)) := ((Below.refl _ _).alloc (Nat.le_refl _) _).alloc (by simp) _
  have hA := bold (bnew w #[.slice ya ys.length yc, .slice ra rs.length rc, .string lg, .int .i64 sf] 34) (.cells #[.slice none 0 0, .slice none 0 0, .string ⟨#[]⟩, .int .i64 0] 34)
  have hRs := bnew (w.alloc (.cells #[.slice ya ys.length yc, .slice ra rs.length rc, .string lg, .int .i64 sf] 34)) #[.slice none 0 0, .slice none 0 0, .string ⟨#[]⟩, .int .i64 0] 34
  rw [World.size_alloc] at hRs
  obtain ⟨W, hW⟩ : ∃ W, ((w.alloc (.cells #[.slice ya ys.length yc, .slice ra rs.length rc, .string lg, .int .i64 sf] 34)).alloc (.cells #[.slice none 0 0, .slice none 0 0, .string ⟨#[]⟩, .int .i64 0] 34)) = W := ⟨_, rfl⟩
  have hsW : w.heap.size + 2 ≤ W.heap.size := by rw [← hW]; simp
  rw [hW] at hb hA hRs
  have HF : Hid (tb.Fit ys rs) := F
  have HY : Hid (Row flP.c 3 w w.heap.size ya ys) := hY
  have HR : Hid (VR w w.heap.size ra rs) := hR
  have HA : Hid (W.heap[w.heap.size]? = some (.cells #[.slice ya ys.length yc, .slice ra rs.length rc, .string lg, .int .i64 sf] 34 (0, 0))) := hA
  have HRS : Hid (W.heap[w.heap.size + 1]? = some (.cells #[.slice none 0 0, .slice none 0 0, .string ⟨#[]⟩, .int .i64 0] 34 (0, 0))) := hRs
  have p0 : W.cell? ⟨w.heap.size, 0, none⟩ = some (.slice ya ys.length yc) := bcell hA rfl
  have p1 : W.cell? ⟨w.heap.size, 1, none⟩ = some (.slice ra rs.length rc) := bcell hA rfl
  have p2 : W.cell? ⟨w.heap.size, 2, none⟩ = some (.string lg) := bcell hA rfl
  have p3 : W.cell? ⟨w.heap.size, 3, none⟩ = some (.int .i64 sf) := bcell hA rfl
  clear hY hR hA hRs F
  by_cases h0 : kd = 0
  · subst h0
    clear hk1 hk2
    obtain ⟨l5, hl5⟩ : ∃ l5, fls.ansY ys (rs.map (·.l)) = l5 := ⟨_, rfl⟩
    obtain ⟨R5, hR5⟩ : ∃ R5, fls.ansR ys (rs.map (·.l)) = R5 := ⟨_, rfl⟩
    obtain ⟨bb, hbb⟩ : ∃ bb, fls.can ys (rs.map (·.l)) = bb := ⟨_, rfl⟩
    have HAN : Hid (ansY ys (rs.map (·.l)) lg sf 0 x = l5 ∧ ansR ys (rs.map (·.l)) lg sf 0 x = R5) := ⟨hl5, hR5⟩
    have FS0 : Hid (∀ W', Row flP.c 3 W' W'.heap.size ya ys → VR W' W'.heap.size ra rs → Calls Try.prog 52 #[.agg #[.slice ya ys.length yc, .slice ra rs.length rc], .int .i64 x] W' fun e w' => ∃ sa sc ta tc ks, e = .returned (.tuple #[.agg #[.slice sa l5.length sc, .slice ta R5.length tc], .bool bb]) ∧ ks.map (·.l) = R5 ∧ TA w' W'.heap.size sa ta l5 ks ∧ Below W'.heap.size W' w') := fun W' h1 h2 => by
      have := flush_step ys rs ya ra yc rc x W' HF.out h1 h2
      rw [hl5, hR5, hbb] at this
      exact this
    generalize hPost : (fun (e : Ending) (w' : World) => ∃ sa sc ta tc ks, e = .returned (.agg #[.slice sa (ansY ys (rs.map (·.l)) lg sf 0 x).length sc, .slice ta (ansR ys (rs.map (·.l)) lg sf 0 x).length tc, .string lg, .int .i64 sf]) ∧ ks.map (·.l) = ansR ys (rs.map (·.l)) lg sf 0 x ∧ TA w' w.heap.size sa ta (ansY ys (rs.map (·.l)) lg sf 0 x) ks ∧ Below w.heap.size w w') = Post
    have HPO : Hid (∀ (e : Ending) (w' : World), (∃ sa sc ta tc ks, e = .returned (.agg #[.slice sa l5.length sc, .slice ta R5.length tc, .string lg, .int .i64 sf]) ∧ ks.map (·.l) = R5 ∧ TA w' w.heap.size sa ta l5 ks ∧ Below w.heap.size w w') → Post e w') := fun e w' h => by
      rw [← hPost]
      simp only [HAN.out.1, HAN.out.2]
      exact h
    clear hPost hl5 hR5 hbb
    have hst := steps_run W
    go_enter Try.func15, Try.ntmps15
    go_wp2_with (go_at_call 32; fail)
    clear hW
    refine hst.mono ?_
    rintro e w1 ⟨rfl, hb1⟩
    clear p0 p1 p2 p3
    have hal : Below w1.heap.size w1 (w1.alloc (.cells #[.func (.func 52) #[] #[], .func (.func 53) #[] #[]] 56)) := (Below.refl _ _).alloc (Nat.le_refl _) _
    have hST := bnew w1 #[.func (.func 52) #[] #[], .func (.func 53) #[] #[]] 56
    have hb1s := hb1.size
    have a1 := bold (bstay HA.out hb1 (by omega)) (.cells #[.func (.func 52) #[] #[], .func (.func 53) #[] #[]] 56)
    have r1 := bold (bstay HRS.out hb1 (by omega)) (.cells #[.func (.func 52) #[] #[], .func (.func 53) #[] #[]] 56)
    have hBX : Below w.heap.size w (w1.alloc (.cells #[.func (.func 52) #[] #[], .func (.func 53) #[] #[]] 56)) := (hb.trans (hb1.mono hb.size)).trans (hal.mono (by have := hb.size; omega))
    have hXs : w1.heap.size < (w1.alloc (.cells #[.func (.func 52) #[] #[], .func (.func 53) #[] #[]] 56)).heap.size := by simp
    obtain ⟨X, hX⟩ : ∃ X, w1.alloc (.cells #[.func (.func 52) #[] #[], .func (.func 53) #[] #[]] 56) = X := ⟨_, rfl⟩
    rw [hX] at hal hST a1 r1 hBX hXs
    have FS : Hid (∀ W', Below X.heap.size X W' → Calls Try.prog 52 #[.agg #[.slice ya ys.length yc, .slice ra rs.length rc], .int .i64 x] W' fun e w' => ∃ sa sc ta tc ks, e = .returned (.tuple #[.agg #[.slice sa l5.length sc, .slice ta R5.length tc], .bool bb]) ∧ ks.map (·.l) = R5 ∧ TA w' W'.heap.size sa ta l5 ks ∧ Below W'.heap.size W' w') := fun W' h => FS0.out W' ((HY.out.inn hBX).inn h) ((HR.out.inn hBX).inn h)
    have s0 : X.cell? ⟨w1.heap.size, 0, none⟩ = some (.func (.func 52) #[] #[]) := bcell hST rfl
    have p0 : X.cell? ⟨w.heap.size, 0, none⟩ = some (.slice ya ys.length yc) := bcell a1 rfl
    have p1 : X.cell? ⟨w.heap.size, 1, none⟩ = some (.slice ra rs.length rc) := bcell a1 rfl
    have HA1 : Hid (X.heap[w.heap.size]? = some (.cells #[.slice ya ys.length yc, .slice ra rs.length rc, .string lg, .int .i64 sf] 34 (0, 0))) := a1
    have HR1 : Hid (X.heap[w.heap.size + 1]? = some (.cells #[.slice none 0 0, .slice none 0 0, .string ⟨#[]⟩, .int .i64 0] 34 (0, 0))) := r1
    have l0 : w.heap.size < X.heap.size := (Array.getElem?_eq_some_iff.1 a1).1
    have l1 : w.heap.size + 1 < X.heap.size := (Array.getElem?_eq_some_iff.1 r1).1
    clear hst hST a1 r1 hal hb1 HA HRS
    go_wp2
    clear hX
    go_region_with (go_at_call 52; first | (refine (FS.out (X.drew.alloc (.cells #[.slice none 0 0, .slice none 0 0] 32)) ?_).mono ?_; (exact ((Below.refl _ _).drew).alloc (Nat.le_refl _) _); rintro e w5 ⟨sa, sc, ta, tc, k5, rfl, hm5, hta5, hb5⟩; have t5 := bstay (bnew X.drew #[.slice none 0 0, .slice none 0 0] 32) hb5 (by simp); have t0 : w5.cell? ⟨X.heap.size, 0, none⟩ = some (.slice none 0 0) := bcell t5 rfl; have t1 : w5.cell? ⟨X.heap.size, 1, none⟩ = some (.slice none 0 0) := bcell t5 rfl; have tf0 : w5.frozen? ⟨X.heap.size, 0, none⟩ = false := bfree t5 0; have tf1 : w5.frozen? ⟨X.heap.size, 1, none⟩ = false := bfree t5 1) | (refine (FS.out X.drew ?_).mono ?_; (exact (Below.refl _ _).drew); rintro e w5 ⟨sa, sc, ta, tc, k5, rfl, hm5, hta5, hb5⟩))
    all_goals
      first
        | (have hps := ps_b (v0 := .slice sa l5.length sc) (v1 := .slice ta R5.length tc) hBX HA1.out HR1.out hta5 hb5
           obtain ⟨Y, hYe⟩ : ∃ Y, (w5.setCell ⟨X.heap.size, 0, none⟩ (.slice sa l5.length sc)).setCell ⟨X.heap.size, 1, none⟩ (.slice ta R5.length tc) = Y := ⟨_, rfl⟩
           obtain ⟨nb, hnb⟩ : ∃ nb, X.heap.size = nb := ⟨_, rfl⟩
           rw [hYe, hnb] at hps
           rw [hYe]
           rw [hnb])
        | (have hps := ps_a (V := #[.slice sa l5.length sc, .slice ta R5.length tc]) hBX HA1.out HR1.out hta5 hb5
           obtain ⟨Y, hYe⟩ : ∃ Y, w5.alloc (.cells #[.slice sa l5.length sc, .slice ta R5.length tc] 32) = Y := ⟨_, rfl⟩
           obtain ⟨nb, hnb⟩ : ∃ nb, w5.heap.size = nb := ⟨_, rfl⟩
           rw [hYe, hnb] at hps
           rw [hYe]
           rw [hnb])
      have HPS : Hid (PS w Y #[.slice ya ys.length yc, .slice ra rs.length rc, .string lg, .int .i64 sf] nb #[.slice sa l5.length sc, .slice ta R5.length tc] sa ta l5 k5) := hps
      have HM5 : Hid (k5.map (·.l) = R5) := hm5
      clear hps hm5 hta5 hb5 hYe hnb
      go_wp2
      have hcl := fun W' => cl.clone lg W' (by omega)
      have h5 : D5 Y (w.heap.size + 1) #[.slice sa l5.length sc, .slice ta R5.length tc, .string lg, .int .i64 sf] false Y.drew := ⟨Tn.of _ (Below.refl _ _).drew, HPS.out.res⟩
      refine dk.region_sets (ws5 w.heap.size (.slice sa l5.length sc) (.slice ta R5.length tc) lg sf) [29, 30, 31, 32, 33, 34, 35] (dk.Cl (D5 Y (w.heap.size + 1) #[.slice sa l5.length sc, .slice ta R5.length tc, .string lg, .int .i64 sf]) 7) (by kernel_rfl) (by kernel_rfl) rfl (by kernel_rfl) h5 ?each ?fin
      case each =>
        refine ⟨dk.q (by decide) (.agg #[.slice sa l5.length sc, .slice ta R5.length tc]) (by rintro _ ⟨⟩; exact dk.sets_on _ (by first | (simp; done) | (simp [Act.put]; done) | decide) _ rfl) (fun b W h => by have hh := h.old HPS.out.tab HPS.out.ne; have c0 : W.cell? ⟨nb, 0, none⟩ = some (.slice sa l5.length sc) := bcell hh rfl; have c1 : W.cell? ⟨nb, 1, none⟩ = some (.slice ta R5.length tc) := bcell hh rfl; simp [execOp, go_sem, Act.eval, dk.sets_get, ws5, List.lookup, c0, c1]), ?_⟩
        refine ⟨dk.q (by decide) (.pointer (some ⟨w.heap.size, 2, none⟩)) (by rintro _ ⟨⟩; exact dk.sets_on _ (by first | (simp; done) | (simp [Act.put]; done) | decide) _ rfl) (fun b W h => by simp [execOp, go_sem, Act.eval, dk.sets_get, ws5, List.lookup]), ?_⟩
        refine ⟨dk.q (by decide) (.string lg) (by rintro _ ⟨⟩; exact dk.sets_on _ (by first | (simp; done) | (simp [Act.put]; done) | decide) _ rfl) (fun b W h => by have hh := h.old HPS.out.box (by omega); have c0 : W.cell? ⟨w.heap.size, 2, none⟩ = some (.string lg) := bcell hh rfl; simp [execOp, go_sem, Act.eval, dk.sets_get, ws5, List.lookup, c0]), ?_⟩
        refine ⟨dk.call (by decide) 33 #[.string lg] (.string lg) (by rintro _ ⟨⟩; exact dk.sets_on _ (by first | (simp; done) | (simp [Act.put]; done) | decide) _ rfl) (fun b W h => by simp [go_sem, Act.eval, dk.sets_get, ws5, List.lookup]) (fun b W h => (hcl W).mono fun e w' ⟨h1, h2⟩ => ⟨h1, h.on h2⟩), ?_⟩
        refine ⟨dk.q (by decide) (.pointer (some ⟨w.heap.size, 3, none⟩)) (by rintro _ ⟨⟩; exact dk.sets_on _ (by first | (simp; done) | (simp [Act.put]; done) | decide) _ rfl) (fun b W h => by simp [execOp, go_sem, Act.eval, dk.sets_get, ws5, List.lookup]), ?_⟩
        refine ⟨dk.q (by decide) (.int .i64 sf) (by rintro _ ⟨⟩; exact dk.sets_on _ (by first | (simp; done) | (simp [Act.put]; done) | decide) _ rfl) (fun b W h => by have hh := h.old HPS.out.box (by omega); have c0 : W.cell? ⟨w.heap.size, 3, none⟩ = some (.int .i64 sf) := bcell hh rfl; simp [execOp, go_sem, Act.eval, dk.sets_get, ws5, List.lookup, c0]), ?_⟩
        refine ⟨dk.q (by decide) (.agg #[.slice sa l5.length sc, .slice ta R5.length tc, .string lg, .int .i64 sf]) (by rintro _ ⟨⟩; exact dk.sets_on _ (by first | (simp; done) | (simp [Act.put]; done) | decide) _ rfl) (fun b W h => by simp [execOp, go_sem, Act.eval, dk.sets_get, ws5, List.lookup]), ?_⟩
        refine ⟨dk.last rfl (fun W h => ?_), trivial⟩
        have hr := h.res
        rw [if_neg (by simp)] at hr
        have c0 : W.cell? ⟨w.heap.size + 1, 0, none⟩ = some (.slice none 0 0) := bcell hr rfl
        have c1 : W.cell? ⟨w.heap.size + 1, 1, none⟩ = some (.slice none 0 0) := bcell hr rfl
        have c2 : W.cell? ⟨w.heap.size + 1, 2, none⟩ = some (.string ⟨#[]⟩) := bcell hr rfl
        have c3 : W.cell? ⟨w.heap.size + 1, 3, none⟩ = some (.int .i64 0) := bcell hr rfl
        have f0 := bfree hr 0
        have f1 := bfree hr 1
        have f2 := bfree hr 2
        have f3 := bfree hr 3
        refine ⟨(((W.setCell ⟨w.heap.size + 1, 0, none⟩ (.slice sa l5.length sc)).setCell ⟨w.heap.size + 1, 1, none⟩ (.slice ta R5.length tc)).setCell ⟨w.heap.size + 1, 2, none⟩ (.string lg)).setCell ⟨w.heap.size + 1, 3, none⟩ (.int .i64 sf), by simp [execOp, go_sem, Act.eval, dk.sets_get, ws5, List.lookup, c0, c1, c2, c3, f0, f1, f2, f3], ?_, bset (bset (bset (bset hr 0 _) 1 _) 2 _) 3 _⟩
        exact Tn.set (Tn.set (Tn.set (Tn.set (h.tn.wide (fun k hk => ⟨rfl, hk.2⟩)) ⟨rfl, rfl⟩ 0 _) ⟨rfl, rfl⟩ 1 _) ⟨rfl, rfl⟩ 2 _) ⟨rfl, rfl⟩ 3 _
      case fin =>
        intro L W8 hL hC
        have hC' : D5 Y (w.heap.size + 1) #[.slice sa l5.length sc, .slice ta R5.length tc, .string lg, .int .i64 sf] true W8 := by
          have h7 := hL 7 (by decide)
          unfold dk.Cl at hC
          rw [h7] at hC
          exact hC
        have hr := hC'.res
        rw [if_pos rfl] at hr
        have c0 : W8.cell? ⟨w.heap.size + 1, 0, none⟩ = some (.slice sa l5.length sc) := bcell hr rfl
        have c1 : W8.cell? ⟨w.heap.size + 1, 1, none⟩ = some (.slice ta R5.length tc) := bcell hr rfl
        have c2 : W8.cell? ⟨w.heap.size + 1, 2, none⟩ = some (.string lg) := bcell hr rfl
        have c3 : W8.cell? ⟨w.heap.size + 1, 3, none⟩ = some (.int .i64 sf) := bcell hr rfl
        have HFA : Hid (TA W8 w.heap.size sa ta l5 k5 ∧ Below w.heap.size w W8) := ⟨(HPS.out.ta.turn hC'.tn (fun k hk => by have := hk.2; omega)).wide (by omega), HPS.out.bel.trans (hC'.tn.below HPS.out.bel.size (fun k hk => by have := hk.2; omega))⟩
        clear hC hC' hL hr
        simp only [dk.sets, ws5]
        go_wp2
        exact bodyPost_ret (v := .agg #[.slice sa l5.length sc, .slice ta R5.length tc, .string lg, .int .i64 sf]) (by simp [results, Try.results15, go_sem, c0, c1, c2, c3]) rfl (HPO.out _ _ ⟨sa, sc, ta, tc, k5, rfl, HM5.out, HFA.out.1, HFA.out.2⟩)
  · by_cases h1 : kd = 1
    · subst h1
      clear hk1 hk2
      obtain ⟨R5, hR5⟩ : ∃ R5, mga.ansR ys (rs.map (·.l)) x = R5 := ⟨_, rfl⟩
      obtain ⟨bb, hbb⟩ : ∃ bb, mga.can ys (rs.map (·.l)) x = bb := ⟨_, rfl⟩
      have HAN : Hid (ansY ys (rs.map (·.l)) lg sf 1 x = ys ∧ ansR ys (rs.map (·.l)) lg sf 1 x = R5) := ⟨rfl, hR5⟩
      have FS0 : Hid (∀ W', Row flP.c 3 W' W'.heap.size ya ys → VR W' W'.heap.size ra rs → Calls Try.prog 53 #[.agg #[.slice ya ys.length yc, .slice ra rs.length rc], .int .i64 x] W' fun e w' => ∃ sa sc ta tc ks, e = .returned (.tuple #[.agg #[.slice sa ys.length sc, .slice ta R5.length tc], .bool bb]) ∧ ks.map (·.l) = R5 ∧ TA w' W'.heap.size sa ta ys ks ∧ Below W'.heap.size W' w') := fun W' h1 h2 => by
        have := mgi.impl_merge ys rs ya ra yc rc x W' HF.out hx1 hx2 h1 h2
        rw [hR5, hbb] at this
        exact this
      generalize hPost : (fun (e : Ending) (w' : World) => ∃ sa sc ta tc ks, e = .returned (.agg #[.slice sa (ansY ys (rs.map (·.l)) lg sf 1 x).length sc, .slice ta (ansR ys (rs.map (·.l)) lg sf 1 x).length tc, .string lg, .int .i64 sf]) ∧ ks.map (·.l) = ansR ys (rs.map (·.l)) lg sf 1 x ∧ TA w' w.heap.size sa ta (ansY ys (rs.map (·.l)) lg sf 1 x) ks ∧ Below w.heap.size w w') = Post
      have HPO : Hid (∀ (e : Ending) (w' : World), (∃ sa sc ta tc ks, e = .returned (.agg #[.slice sa ys.length sc, .slice ta R5.length tc, .string lg, .int .i64 sf]) ∧ ks.map (·.l) = R5 ∧ TA w' w.heap.size sa ta ys ks ∧ Below w.heap.size w w') → Post e w') := fun e w' h => by
        rw [← hPost]
        simp only [HAN.out.1, HAN.out.2]
        exact h
      clear hPost hR5 hbb
      have hst := steps_run W
      go_enter Try.func15, Try.ntmps15
      go_wp2_with (go_at_call 32; fail)
      clear hW
      refine hst.mono ?_
      rintro e w1 ⟨rfl, hb1⟩
      clear p0 p1 p2 p3
      have hal : Below w1.heap.size w1 (w1.alloc (.cells #[.func (.func 52) #[] #[], .func (.func 53) #[] #[]] 56)) := (Below.refl _ _).alloc (Nat.le_refl _) _
      have hST := bnew w1 #[.func (.func 52) #[] #[], .func (.func 53) #[] #[]] 56
      have hb1s := hb1.size
      have a1 := bold (bstay HA.out hb1 (by omega)) (.cells #[.func (.func 52) #[] #[], .func (.func 53) #[] #[]] 56)
      have r1 := bold (bstay HRS.out hb1 (by omega)) (.cells #[.func (.func 52) #[] #[], .func (.func 53) #[] #[]] 56)
      have hBX : Below w.heap.size w (w1.alloc (.cells #[.func (.func 52) #[] #[], .func (.func 53) #[] #[]] 56)) := (hb.trans (hb1.mono hb.size)).trans (hal.mono (by have := hb.size; omega))
      have hXs : w1.heap.size < (w1.alloc (.cells #[.func (.func 52) #[] #[], .func (.func 53) #[] #[]] 56)).heap.size := by simp
      obtain ⟨X, hX⟩ : ∃ X, w1.alloc (.cells #[.func (.func 52) #[] #[], .func (.func 53) #[] #[]] 56) = X := ⟨_, rfl⟩
      rw [hX] at hal hST a1 r1 hBX hXs
      have FS : Hid (∀ W', Below X.heap.size X W' → Calls Try.prog 53 #[.agg #[.slice ya ys.length yc, .slice ra rs.length rc], .int .i64 x] W' fun e w' => ∃ sa sc ta tc ks, e = .returned (.tuple #[.agg #[.slice sa ys.length sc, .slice ta R5.length tc], .bool bb]) ∧ ks.map (·.l) = R5 ∧ TA w' W'.heap.size sa ta ys ks ∧ Below W'.heap.size W' w') := fun W' h => FS0.out W' ((HY.out.inn hBX).inn h) ((HR.out.inn hBX).inn h)
      have s0 : X.cell? ⟨w1.heap.size, 1, none⟩ = some (.func (.func 53) #[] #[]) := bcell hST rfl
      have p0 : X.cell? ⟨w.heap.size, 0, none⟩ = some (.slice ya ys.length yc) := bcell a1 rfl
      have p1 : X.cell? ⟨w.heap.size, 1, none⟩ = some (.slice ra rs.length rc) := bcell a1 rfl
      have HA1 : Hid (X.heap[w.heap.size]? = some (.cells #[.slice ya ys.length yc, .slice ra rs.length rc, .string lg, .int .i64 sf] 34 (0, 0))) := a1
      have HR1 : Hid (X.heap[w.heap.size + 1]? = some (.cells #[.slice none 0 0, .slice none 0 0, .string ⟨#[]⟩, .int .i64 0] 34 (0, 0))) := r1
      have l0 : w.heap.size < X.heap.size := (Array.getElem?_eq_some_iff.1 a1).1
      have l1 : w.heap.size + 1 < X.heap.size := (Array.getElem?_eq_some_iff.1 r1).1
      clear hst hST a1 r1 hal hb1 HA HRS
      go_wp2
      clear hX
      go_region_with (go_at_call 53; first | (refine (FS.out (X.drew.alloc (.cells #[.slice none 0 0, .slice none 0 0] 32)) ?_).mono ?_; (exact ((Below.refl _ _).drew).alloc (Nat.le_refl _) _); rintro e w5 ⟨sa, sc, ta, tc, k5, rfl, hm5, hta5, hb5⟩; have t5 := bstay (bnew X.drew #[.slice none 0 0, .slice none 0 0] 32) hb5 (by simp); have t0 : w5.cell? ⟨X.heap.size, 0, none⟩ = some (.slice none 0 0) := bcell t5 rfl; have t1 : w5.cell? ⟨X.heap.size, 1, none⟩ = some (.slice none 0 0) := bcell t5 rfl; have tf0 : w5.frozen? ⟨X.heap.size, 0, none⟩ = false := bfree t5 0; have tf1 : w5.frozen? ⟨X.heap.size, 1, none⟩ = false := bfree t5 1) | (refine (FS.out X.drew ?_).mono ?_; (exact (Below.refl _ _).drew); rintro e w5 ⟨sa, sc, ta, tc, k5, rfl, hm5, hta5, hb5⟩))
      all_goals
        first
          | (have hps := ps_b (v0 := .slice sa ys.length sc) (v1 := .slice ta R5.length tc) hBX HA1.out HR1.out hta5 hb5
             obtain ⟨Y, hYe⟩ : ∃ Y, (w5.setCell ⟨X.heap.size, 0, none⟩ (.slice sa ys.length sc)).setCell ⟨X.heap.size, 1, none⟩ (.slice ta R5.length tc) = Y := ⟨_, rfl⟩
             obtain ⟨nb, hnb⟩ : ∃ nb, X.heap.size = nb := ⟨_, rfl⟩
             rw [hYe, hnb] at hps
             rw [hYe]
             rw [hnb])
          | (have hps := ps_a (V := #[.slice sa ys.length sc, .slice ta R5.length tc]) hBX HA1.out HR1.out hta5 hb5
             obtain ⟨Y, hYe⟩ : ∃ Y, w5.alloc (.cells #[.slice sa ys.length sc, .slice ta R5.length tc] 32) = Y := ⟨_, rfl⟩
             obtain ⟨nb, hnb⟩ : ∃ nb, w5.heap.size = nb := ⟨_, rfl⟩
             rw [hYe, hnb] at hps
             rw [hYe]
             rw [hnb])
        have HPS : Hid (PS w Y #[.slice ya ys.length yc, .slice ra rs.length rc, .string lg, .int .i64 sf] nb #[.slice sa ys.length sc, .slice ta R5.length tc] sa ta ys k5) := hps
        have HM5 : Hid (k5.map (·.l) = R5) := hm5
        clear hps hm5 hta5 hb5 hYe hnb
        go_wp2
        have hcl := fun W' => cl.clone lg W' (by omega)
        have h5 : D5 Y (w.heap.size + 1) #[.slice sa ys.length sc, .slice ta R5.length tc, .string lg, .int .i64 sf] false Y.drew := ⟨Tn.of _ (Below.refl _ _).drew, HPS.out.res⟩
        refine dk.region_sets (ws5 w.heap.size (.slice sa ys.length sc) (.slice ta R5.length tc) lg sf) [29, 30, 31, 32, 33, 34, 35] (dk.Cl (D5 Y (w.heap.size + 1) #[.slice sa ys.length sc, .slice ta R5.length tc, .string lg, .int .i64 sf]) 7) (by kernel_rfl) (by kernel_rfl) rfl (by kernel_rfl) h5 ?each ?fin
        case each =>
          refine ⟨dk.q (by decide) (.agg #[.slice sa ys.length sc, .slice ta R5.length tc]) (by rintro _ ⟨⟩; exact dk.sets_on _ (by first | (simp; done) | (simp [Act.put]; done) | decide) _ rfl) (fun b W h => by have hh := h.old HPS.out.tab HPS.out.ne; have c0 : W.cell? ⟨nb, 0, none⟩ = some (.slice sa ys.length sc) := bcell hh rfl; have c1 : W.cell? ⟨nb, 1, none⟩ = some (.slice ta R5.length tc) := bcell hh rfl; simp [execOp, go_sem, Act.eval, dk.sets_get, ws5, List.lookup, c0, c1]), ?_⟩
          refine ⟨dk.q (by decide) (.pointer (some ⟨w.heap.size, 2, none⟩)) (by rintro _ ⟨⟩; exact dk.sets_on _ (by first | (simp; done) | (simp [Act.put]; done) | decide) _ rfl) (fun b W h => by simp [execOp, go_sem, Act.eval, dk.sets_get, ws5, List.lookup]), ?_⟩
          refine ⟨dk.q (by decide) (.string lg) (by rintro _ ⟨⟩; exact dk.sets_on _ (by first | (simp; done) | (simp [Act.put]; done) | decide) _ rfl) (fun b W h => by have hh := h.old HPS.out.box (by omega); have c0 : W.cell? ⟨w.heap.size, 2, none⟩ = some (.string lg) := bcell hh rfl; simp [execOp, go_sem, Act.eval, dk.sets_get, ws5, List.lookup, c0]), ?_⟩
          refine ⟨dk.call (by decide) 33 #[.string lg] (.string lg) (by rintro _ ⟨⟩; exact dk.sets_on _ (by first | (simp; done) | (simp [Act.put]; done) | decide) _ rfl) (fun b W h => by simp [go_sem, Act.eval, dk.sets_get, ws5, List.lookup]) (fun b W h => (hcl W).mono fun e w' ⟨h1, h2⟩ => ⟨h1, h.on h2⟩), ?_⟩
          refine ⟨dk.q (by decide) (.pointer (some ⟨w.heap.size, 3, none⟩)) (by rintro _ ⟨⟩; exact dk.sets_on _ (by first | (simp; done) | (simp [Act.put]; done) | decide) _ rfl) (fun b W h => by simp [execOp, go_sem, Act.eval, dk.sets_get, ws5, List.lookup]), ?_⟩
          refine ⟨dk.q (by decide) (.int .i64 sf) (by rintro _ ⟨⟩; exact dk.sets_on _ (by first | (simp; done) | (simp [Act.put]; done) | decide) _ rfl) (fun b W h => by have hh := h.old HPS.out.box (by omega); have c0 : W.cell? ⟨w.heap.size, 3, none⟩ = some (.int .i64 sf) := bcell hh rfl; simp [execOp, go_sem, Act.eval, dk.sets_get, ws5, List.lookup, c0]), ?_⟩
          refine ⟨dk.q (by decide) (.agg #[.slice sa ys.length sc, .slice ta R5.length tc, .string lg, .int .i64 sf]) (by rintro _ ⟨⟩; exact dk.sets_on _ (by first | (simp; done) | (simp [Act.put]; done) | decide) _ rfl) (fun b W h => by simp [execOp, go_sem, Act.eval, dk.sets_get, ws5, List.lookup]), ?_⟩
          refine ⟨dk.last rfl (fun W h => ?_), trivial⟩
          have hr := h.res
          rw [if_neg (by simp)] at hr
          have c0 : W.cell? ⟨w.heap.size + 1, 0, none⟩ = some (.slice none 0 0) := bcell hr rfl
          have c1 : W.cell? ⟨w.heap.size + 1, 1, none⟩ = some (.slice none 0 0) := bcell hr rfl
          have c2 : W.cell? ⟨w.heap.size + 1, 2, none⟩ = some (.string ⟨#[]⟩) := bcell hr rfl
          have c3 : W.cell? ⟨w.heap.size + 1, 3, none⟩ = some (.int .i64 0) := bcell hr rfl
          have f0 := bfree hr 0
          have f1 := bfree hr 1
          have f2 := bfree hr 2
          have f3 := bfree hr 3
          refine ⟨(((W.setCell ⟨w.heap.size + 1, 0, none⟩ (.slice sa ys.length sc)).setCell ⟨w.heap.size + 1, 1, none⟩ (.slice ta R5.length tc)).setCell ⟨w.heap.size + 1, 2, none⟩ (.string lg)).setCell ⟨w.heap.size + 1, 3, none⟩ (.int .i64 sf), by simp [execOp, go_sem, Act.eval, dk.sets_get, ws5, List.lookup, c0, c1, c2, c3, f0, f1, f2, f3], ?_, bset (bset (bset (bset hr 0 _) 1 _) 2 _) 3 _⟩
          exact Tn.set (Tn.set (Tn.set (Tn.set (h.tn.wide (fun k hk => ⟨rfl, hk.2⟩)) ⟨rfl, rfl⟩ 0 _) ⟨rfl, rfl⟩ 1 _) ⟨rfl, rfl⟩ 2 _) ⟨rfl, rfl⟩ 3 _
        case fin =>
          intro L W8 hL hC
          have hC' : D5 Y (w.heap.size + 1) #[.slice sa ys.length sc, .slice ta R5.length tc, .string lg, .int .i64 sf] true W8 := by
            have h7 := hL 7 (by decide)
            unfold dk.Cl at hC
            rw [h7] at hC
            exact hC
          have hr := hC'.res
          rw [if_pos rfl] at hr
          have c0 : W8.cell? ⟨w.heap.size + 1, 0, none⟩ = some (.slice sa ys.length sc) := bcell hr rfl
          have c1 : W8.cell? ⟨w.heap.size + 1, 1, none⟩ = some (.slice ta R5.length tc) := bcell hr rfl
          have c2 : W8.cell? ⟨w.heap.size + 1, 2, none⟩ = some (.string lg) := bcell hr rfl
          have c3 : W8.cell? ⟨w.heap.size + 1, 3, none⟩ = some (.int .i64 sf) := bcell hr rfl
          have HFA : Hid (TA W8 w.heap.size sa ta ys k5 ∧ Below w.heap.size w W8) := ⟨(HPS.out.ta.turn hC'.tn (fun k hk => by have := hk.2; omega)).wide (by omega), HPS.out.bel.trans (hC'.tn.below HPS.out.bel.size (fun k hk => by have := hk.2; omega))⟩
          clear hC hC' hL hr
          simp only [dk.sets, ws5]
          go_wp2
          exact bodyPost_ret (v := .agg #[.slice sa ys.length sc, .slice ta R5.length tc, .string lg, .int .i64 sf]) (by simp [results, Try.results15, go_sem, c0, c1, c2, c3]) rfl (HPO.out _ _ ⟨sa, sc, ta, tc, k5, rfl, HM5.out, HFA.out.1, HFA.out.2⟩)
    · have hst := steps_run W
      have hAN := ans_2 (ys := ys) (R := rs.map (·.l)) (lg := lg) (sf := sf) (x := x) h0 h1
      have HAN : Hid (ansY ys (rs.map (·.l)) lg sf kd x = ys ∧ ansR ys (rs.map (·.l)) lg sf kd x = rs.map (·.l)) := hAN
      have hkd : kd < 0 ∨ (¬ kd < 0 ∧ 2 ≤ kd) := by omega
      clear hAN h0 h1
      rcases hkd with hk | ⟨hk, hk'⟩
      all_goals
        go_enter Try.func15, Try.ntmps15
        go_wp2_with (go_at_call 32; fail)
        clear hW
        refine hst.mono ?_
        rintro e w1 ⟨rfl, hb1⟩
        clear p0 p1 p2 p3
        have hal : Below w1.heap.size w1 (w1.alloc (.cells #[.func (.func 52) #[] #[], .func (.func 53) #[] #[]] 56)) := (Below.refl _ _).alloc (Nat.le_refl _) _
        have hb1s := hb1.size
        have a1 := bold (bstay HA.out hb1 (by omega)) (.cells #[.func (.func 52) #[] #[], .func (.func 53) #[] #[]] 56)
        have r1 := bold (bstay HRS.out hb1 (by omega)) (.cells #[.func (.func 52) #[] #[], .func (.func 53) #[] #[]] 56)
        have hBX : Below w.heap.size w (w1.alloc (.cells #[.func (.func 52) #[] #[], .func (.func 53) #[] #[]] 56)) := (hb.trans (hb1.mono hb.size)).trans (hal.mono (by have := hb.size; omega))
        obtain ⟨X, hX⟩ : ∃ X, w1.alloc (.cells #[.func (.func 52) #[] #[], .func (.func 53) #[] #[]] 56) = X := ⟨_, rfl⟩
        rw [hX] at hal a1 r1 hBX
        have hcp := copy_store ys rs ya ra yc rc lg sf X HF.out hlg (HY.out.inn hBX) (HR.out.inn hBX)
        have p0 : X.cell? ⟨w.heap.size, 0, none⟩ = some (.slice ya ys.length yc) := bcell a1 rfl
        have p1 : X.cell? ⟨w.heap.size, 1, none⟩ = some (.slice ra rs.length rc) := bcell a1 rfl
        have p2 : X.cell? ⟨w.heap.size, 2, none⟩ = some (.string lg) := bcell a1 rfl
        have p3 : X.cell? ⟨w.heap.size, 3, none⟩ = some (.int .i64 sf) := bcell a1 rfl
        have HR1 : Hid (X.heap[w.heap.size + 1]? = some (.cells #[.slice none 0 0, .slice none 0 0, .string ⟨#[]⟩, .int .i64 0] 34 (0, 0))) := r1
        have l1 : w.heap.size + 1 < X.heap.size := (Array.getElem?_eq_some_iff.1 r1).1
        clear hst a1 r1 hal hb1 HA HRS
        go_wp2_with (go_at_call 26; fail)
        clear hX p0 p1 p2 p3
        refine hcp.mono ?_
        rintro e w2 ⟨g, h, ks, rfl, hct, hb2⟩
        have r2 := bstay HR1.out hb2 l1
        have r0 : w2.cell? ⟨w.heap.size + 1, 0, none⟩ = some (.slice none 0 0) := bcell r2 rfl
        have r1 : w2.cell? ⟨w.heap.size + 1, 1, none⟩ = some (.slice none 0 0) := bcell r2 rfl
        have r2' : w2.cell? ⟨w.heap.size + 1, 2, none⟩ = some (.string ⟨#[]⟩) := bcell r2 rfl
        have r3 : w2.cell? ⟨w.heap.size + 1, 3, none⟩ = some (.int .i64 0) := bcell r2 rfl
        have q0 := bfree r2 0
        have q1 := bfree r2 1
        have q2 := bfree r2 2
        have q3 := bfree r2 3
        have HCT : Hid (CT w2 (X.heap.size + 2) ys rs g h ks) := hct
        have HB2 : Hid (Below w.heap.size w w2) := hBX.trans (hb2.mono hBX.size)
        clear hcp hct hb2 r2 HR1
        go_wp2
        have lt1 : w.heap.size + 1 < X.heap.size + 2 := by omega
        have hfin := (((HCT.out.set lt1 0 (.slice (some ⟨g, 0, none⟩) ys.length ys.length)).set lt1 1 (.slice (some ⟨h, 0, none⟩) rs.length rs.length)).set lt1 2 (.string lg)).set lt1 3 (.int .i64 sf)
        refine bodyPost_ret (v := .agg #[.slice (some ⟨g, 0, none⟩) ys.length ys.length, .slice (some ⟨h, 0, none⟩) rs.length rs.length, .string lg, .int .i64 sf]) (by simp [results, Try.results15, go_sem, r0, r1, r2', r3]) rfl ?_
        rw [HAN.out.1, HAN.out.2]
        exact ⟨some ⟨g, 0, none⟩, ys.length, some ⟨h, 0, none⟩, rs.length, ks, by rw [List.length_map], HCT.out.map, (CT.ta hfin).wide (by omega), (((HB2.out.setCell (Nat.le_succ _) _).setCell (Nat.le_succ _) _).setCell (Nat.le_succ _) _).setCell (Nat.le_succ _) _⟩
end Go.Proofs.Ytfoajjkcocppeaa.sst
