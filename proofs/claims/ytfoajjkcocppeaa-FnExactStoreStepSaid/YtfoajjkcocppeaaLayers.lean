/- layersOf: the pairs that are being written and the runs, in one list; slices.Concat and slices.Grow at such lists. -/
import Derived.Test.YtfoajjkcocppeaaTabOk
import Derived.Test.YtfoajjkcocppeaaAppendZeros
import Derived.Test.YtfoajjkcocppeaaCopyRows
import Derived.Maps.AppendAt
import Derived.Deep.DeepAppendWide
namespace Go.Proofs.Ytfoajjkcocppeaa.ly
open Go.ChangeShapes Go.WideShapes Go.ChangeAt Go.RowKit Go.Proofs.Ytfoajjkcocppeaa.fl Go.Proofs.Ytfoajjkcocppeaa.rn
set_option linter.unusedVariables false

theorem run_zeros_nil {P : Program} (w : World) (t u ty e : TypeId) (i : TypeInfo) (z : Value) (ht : P.underlying t = some (.slice e)) (hu : P.underlying u = some (.int .i64)) (hi : P.info? e = some i) (hz : i.zero = some z)
    (n : Nat) (hn0 : n * i.size ≠ 0) (h63 : ((n : Nat) : Int) ≤ 9223372036854775807) (hby : ((n : Int) * (i.bytes : Int)) ≤ 281474976710656) (hfit : Builtin.nextslicecap n 0 * i.bytes ≤ 281474976710656) :
    (Builtin.append_ #[t, u] ty #[.slice none 0 0, .int .i64 n]).run P w =
      .ok (.slice (some ⟨w.heap.size, 0, none⟩) n (grownCap w n 0 e))
        (w.drew.alloc (.cells (Builtin.zeroCells z.cells n ++ Builtin.zeroCells z.cells (grownCap w n 0 e - n)) e)) := by
  have hn : ¬ (n = 0) := fun e => hn0 (by rw [e]; simp)
  have h63' : ¬ (9223372036854775807 < (n : Int)) := by omega
  have h48' : ¬ (281474976710656 < Builtin.nextslicecap n 0 * i.bytes) := by omega
  have hby' : ¬ (281474976710656 < ((n : Int) * (i.bytes : Int))) := by omega
  have hw := az.wrap_nat (n := n) (by omega)
  have hn1 : ¬ ((n : Int) < 0) := by omega
  simp [Builtin.append_, run_underlying ht, run_underlying hu, sizeOf, typeInfo, zeroValue, hi, hz, asInt, asIntOf, hw, hn, hn1, hby', h63', h48', hn0, Question.forced, newRow, grownCap, Builtin.firstCells]
theorem infoR : ∃ i0, Try.prog.info? 29 = some i0 ∧ i0.zero = some (.slice none 0 0) ∧ i0.size = 1 ∧ i0.bytes = 24 := by
  have h := rn.info
  cases hh : Try.prog.info? 29 with
  | none => rw [hh] at h; cases h
  | some i => rw [hh] at h; simp at h; exact ⟨i, rfl, h.1, h.2.1, h.2.2⟩
set_option maxRecDepth 100000 in
theorem grow_nil (n : Nat) (w : World) (h1 : 1 ≤ n) (hn : n ≤ 2000000) :
    Calls Try.prog 85 #[.slice none 0 0, .int .i64 n] w fun e w' => ∃ c, e = .returned (.slice (some ⟨w.heap.size, 0, none⟩) 0 c) ∧ w'.ownsRow w.heap.size 29 1 (.slice (some ⟨w.heap.size, 0, none⟩) 0 c) 0 [] ∧ Below w.heap.size w w' := by
  obtain ⟨i0, hi, hz0, hz1, hz2⟩ := infoR
  have hz := fun ty => run_zeros_nil (P := Try.prog) w 30 3 ty 29 i0 _ Try.underlying30 Try.underlying3 hi hz0 n (by rw [hz1]; omega) (by omega) (by rw [hz2]; omega) (by rw [hz2]; exact growslice_fits_wide (by omega) (by omega))
  have hG1 := grownCap_ge w n 0 29
  have hG2 := grownCap_le_maxLen w n 0 29 (by unfold maxLen; omega)
  obtain ⟨G, hG⟩ : ∃ G, grownCap w n 0 29 = G := ⟨_, rfl⟩
  rw [hG] at hz hG1 hG2
  have i1 : decide ((0 : Int) < (n : Int)) = true := by simp; omega
  have hsz : (Builtin.zeroCells #[Value.slice none 0 0] n ++ Builtin.zeroCells #[Value.slice none 0 0] (G - n)).size = G * 1 := by simp [size_zeroCells]; omega
  have hz : ∀ ty, (Builtin.append_ #[30, 3] ty #[.slice none 0 0, .int .i64 n]).run Try.prog w = .ok (.slice (some ⟨w.heap.size, 0, none⟩) n G) (w.drew.alloc (.cells (Builtin.zeroCells #[Value.slice none 0 0] n ++ Builtin.zeroCells #[Value.slice none 0 0] (G - n)) 29)) := hz
  obtain ⟨zc, hzc⟩ : ∃ zc, Builtin.zeroCells #[Value.slice none 0 0] n ++ Builtin.zeroCells #[Value.slice none 0 0] (G - n) = zc := ⟨_, rfl⟩
  rw [hzc] at hz hsz
  clear hzc hG
  go_enter Try.func85, Try.ntmps85
  go_wp2_with (at_builtin; refine cpr.wpList_append_run rfl _ _ 30 3 rfl _ _ _ rfl rfl (hz _) ?_)
  go_ret
  refine ⟨G, rfl, ⟨by simp, .inr ⟨w.heap.size, G, zc, rfl, Nat.le_refl _, bnew w zc 29, Nat.zero_le _, hG2, hsz, by simp⟩⟩, ?_⟩
  exact ((Below.refl _ _).alloc (Nat.le_refl _) _).drew

theorem newsR {w : World} {q : Addr} {rs : List Rn} (h : Row cR 1 w w.heap.size (some q) rs) : ∀ (j : Nat) (u : Value), (rs.flatMap cR)[j]? = some u → w.cell? (q.add j) = some u := fun j u hu => by
  obtain ⟨i, e, r, h1, h2, rfl⟩ := flat_get cR_len rs j u hu
  rcases h with rfl | ⟨b, off, hq, hlt, hc⟩
  · simp at h1
  · cases hq
    have := hc i e h1 r u h2
    rw [show (⟨b, off, none⟩ : Addr).add (i * 1 + r) = ⟨b, off + i * 1 + r, none⟩ by unfold Addr.add; split <;> simp_all [Nat.add_assoc]]
    exact this
theorem oneR (rs : List Rn) : ∀ u ∈ rs.flatMap cR, u.oneCell' = true := fun u hu => by
  obtain ⟨e, _, he⟩ := List.mem_flatMap.1 hu
  simp [cR] at he
  subst he
  rfl
theorem form_pos {W : World} {B n s : Nat} {U : TypeId} {v : Value} {xs : List Value} (h : W.ownsRow B U s v n xs) (hn : 0 < n) : ∃ g cap, v = .slice (some ⟨g, 0, none⟩) n cap := by
  obtain ⟨_, ⟨_, h0⟩ | ⟨g, cap, cur, rfl, _⟩⟩ := h
  · omega
  · exact ⟨g, cap, rfl⟩
set_option maxRecDepth 100000 in
set_option maxHeartbeats 1000000 in
theorem concat (ys : List flP.Pr) (rs : List Rn) (ya : Option Addr) (q : Addr) (yc rc n5 n8 : Nat) (w : World) (hrl : rs.length ≤ 1048576) (hR : Row cR 1 w w.heap.size (some q) rs) (h5 : w.heap[n5]? = some (.cells #[.slice ya ys.length yc] 29 (0, 0))) (h8 : w.heap[n8]? = some (.cells #[.slice (some ⟨n5, 0, none⟩) 1 1, .slice (some q) rs.length rc] 30 (0, 0))) :
    Calls Try.prog 73 #[.slice (some ⟨n8, 0, none⟩) 2 2] w fun e w' => ∃ g c, e = .returned (.slice (some ⟨g, 0, none⟩) (rs.length + 1) c) ∧ w'.ownsRow w.heap.size 29 1 (.slice (some ⟨g, 0, none⟩) (rs.length + 1) c) (rs.length + 1) ((⟨ya, yc, ys⟩ :: rs : List Rn).flatMap cR) ∧ Below w.heap.size w w' := by
  obtain ⟨i0, hi, hz0, hz1, hz2⟩ := infoR
  have x0 : w.cell? ⟨n8, 0, none⟩ = some (.slice (some ⟨n5, 0, none⟩) 1 1) := bcell h8 rfl
  have x1 : w.cell? ⟨n8, 1, none⟩ = some (.slice (some q) rs.length rc) := bcell h8 rfl
  have hgr := grow_nil (rs.length + 1) w (by omega) (by omega)
  have e1 : ((rs.length + 1 : Nat) : Int) = 1 + (rs.length : Int) := by omega
  rw [e1] at hgr
  clear e1
  have HR : Hid (Row cR 1 w w.heap.size (some q) rs) := hR
  have H5 : Hid (w.heap[n5]? = some (.cells #[.slice ya ys.length yc] 29 (0, 0))) := h5
  have H8 : Hid (w.heap[n8]? = some (.cells #[.slice (some ⟨n5, 0, none⟩) 1 1, .slice (some q) rs.length rc] 30 (0, 0))) := h8
  clear hR h5 h8
  go_enter Try.func73, Try.ntmps73
  go_wp2
  refine wp_loop_rounds 3 ?_
  rw [rounds_succ]
  go_wp2
  rw [rounds_succ]
  go_wp2
  rw [rounds_succ]
  go_wp2_with (go_at_call 85; fail)
  refine hgr.mono ?_
  rintro e w1 ⟨c, rfl, ho1, hb1⟩
  have y0 : w1.cell? ⟨n8, 0, none⟩ = some (.slice (some ⟨n5, 0, none⟩) 1 1) := bcell (bstay H8.out hb1 (Array.getElem?_eq_some_iff.1 H8.out).1) rfl
  have m0 : w1.cell? ⟨n5, 0, none⟩ = some (.slice ya ys.length yc) := bcell (bstay H5.out hb1 (Array.getElem?_eq_some_iff.1 H5.out).1) rfl
  have hn1 : ∀ (j : Nat) (u : Value), [Value.slice ya ys.length yc][j]? = some u → w1.cell? ((⟨n5, 0, none⟩ : Addr).add j) = some u := fun j u hu => by
    match j, hu with
    | 0, hu => cases hu; simpa [Addr.add] using m0
    | j + 1, hu => simp at hu
  have HO1 : Hid (w1.ownsRow w.heap.size 29 1 (.slice (some ⟨w.heap.size, 0, none⟩) 0 c) 0 []) := ho1
  have hs1 := hb1.size
  clear hgr ho1 x0 x1
  go_wp2
  refine wp_loop_rounds 3 ?_
  rw [rounds_succ]
  go_wp2_with (at_builtin; refine wpList_append_own _ rfl _ _ 30 rfl w.heap.size 29 i0 (.slice none 0 0) 1 24 Try.underlying30 hi hz0 hz1 hz2 rfl (by decide) _ 0 [] rfl (by exact HO1.out) ⟨n5, 0, none⟩ 1 1 [Value.slice ya ys.length yc] rfl rfl (by exact hn1) (by intro u hu; simp at hu; subst hu; rfl) (by unfold maxLen; omega) (by omega) (by omega) ?_)
  intro v2 w2 hown2 hgrow2 _
  obtain ⟨g2, c2, rfl⟩ := form_pos hown2 (by omega)
  have hb2 : Below w.heap.size w w2 := hb1.grown hgrow2 hs1 (fun b hb => (HO1.out.lt b hb).1)
  have y1 : w2.cell? ⟨n8, 1, none⟩ = some (.slice (some q) rs.length rc) := bcell (bstay H8.out hb2 (Array.getElem?_eq_some_iff.1 H8.out).1) rfl
  have HO2 : Hid (w2.ownsRow w.heap.size 29 1 (.slice (some ⟨g2, 0, none⟩) 1 c2) 1 [Value.slice ya ys.length yc]) := hown2
  have HN2 : Hid (Row cR 1 w2 w2.heap.size (some q) rs) := HR.out.inn hb2
  have hs2 := hb2.size
  clear hown2 hgrow2 y0 m0 hn1 HO1
  go_wp2
  rw [rounds_succ]
  go_wp2_with (at_builtin; refine wpList_append_own _ rfl _ _ 30 rfl w.heap.size 29 i0 (.slice none 0 0) 1 24 Try.underlying30 hi hz0 hz1 hz2 rfl (by decide) _ 1 [Value.slice ya ys.length yc] rfl (by exact HO2.out) q rs.length rc (rs.flatMap cR) rfl (flat_len cR_len rs) (by exact newsR HN2.out) (oneR rs) (by unfold maxLen; omega) (by omega) (by omega) ?_)
  intro v3 w3 hown3 hgrow3 _
  obtain ⟨g3, c3, rfl⟩ := form_pos hown3 (by omega)
  have hb3 : Below w.heap.size w w3 := hb2.grown hgrow3 hs2 (fun b hb => (HO2.out.lt b hb).1)
  rw [show 1 + rs.length = rs.length + 1 by omega] at hown3 ⊢
  have HO3 : Hid (w3.ownsRow w.heap.size 29 1 (.slice (some ⟨g3, 0, none⟩) (rs.length + 1) c3) (rs.length + 1) ((⟨ya, yc, ys⟩ :: rs : List Rn).flatMap cR)) := hown3
  clear hown3 hgrow3 y1 HO2 HN2
  go_wp2
  rw [rounds_succ]
  go_wp2
  go_ret
  exact ⟨g3, c3, rfl, HO3.out, hb3⟩

set_option maxRecDepth 100000 in
theorem layers (ys : List flP.Pr) (rs : List Rn) (ya : Option Addr) (q : Addr) (yc rc : Nat) (w : World) (F : tb.Fit ys rs) (hY : Row flP.c 3 w w.heap.size ya ys) (hR : VR w w.heap.size (some q) rs) :
    Calls Try.prog 57 #[.agg #[.slice ya ys.length yc, .slice (some q) rs.length rc]] w fun e w' => ∃ g c, e = .returned (.slice (some ⟨g, 0, none⟩) (rs.length + 1) c) ∧ VR w' w'.heap.size (some ⟨g, 0, none⟩) (⟨ya, yc, ys⟩ :: rs) ∧ Below w.heap.size w w' := by
  have hA := bold (bold (bnew w #[.slice ya ys.length yc, .slice (some q) rs.length rc] 32) (.cells #[.slice ya ys.length yc] 29)) (.cells #[.slice (some ⟨w.heap.size + 1, 0, none⟩) 1 1, .slice (some q) rs.length rc] 30)
  have h5 := bold (bnew (w.alloc (.cells #[.slice ya ys.length yc, .slice (some q) rs.length rc] 32)) #[.slice ya ys.length yc] 29) (.cells #[.slice (some ⟨w.heap.size + 1, 0, none⟩) 1 1, .slice (some q) rs.length rc] 30)
  have h8 := bnew ((w.alloc (.cells #[.slice ya ys.length yc, .slice (some q) rs.length rc] 32)).alloc (.cells #[.slice ya ys.length yc] 29)) #[.slice (some ⟨w.heap.size + 1, 0, none⟩) 1 1, .slice (some q) rs.length rc] 30
  have hb : Below w.heap.size w (((w.alloc (.cells #[.slice ya ys.length yc, .slice (some q) rs.length rc] 32)).alloc (.cells #[.slice ya ys.length yc] 29)).alloc (.cells #[.slice (some ⟨w.heap.size + 1, 0, none⟩) 1 1, .slice (some q) rs.length rc] 30)) := (((Below.refl _ _).alloc (Nat.le_refl _) _).alloc (by simp) _).alloc (by simp; omega) _
  rw [World.size_alloc] at h5
  rw [World.size_alloc, World.size_alloc] at h8
  have hc := concat ys rs ya q yc rc (w.heap.size + 1) (w.heap.size + 1 + 1) _ F.rl (hR.1.inn hb) h5 h8
  have HY : Hid (Row flP.c 3 w w.heap.size ya ys) := hY
  have HR : Hid (VR w w.heap.size (some q) rs) := hR
  clear hY hR h5 h8 hA
  go_enter Try.func57, Try.ntmps57
  go_wp2_with (go_at_call 73; fail)
  refine hc.mono ?_
  rintro e w1 ⟨g, c, rfl, ho, hb1⟩
  have hbw : Below w.heap.size w w1 := hb.trans (hb1.mono hb.size)
  have HO : Hid (Row cR 1 w1 w1.heap.size (some ⟨g, 0, none⟩) (⟨ya, yc, ys⟩ :: rs)) := by
    have ho' : w1.ownsRow _ 29 1 (.slice (some ⟨g, 0, none⟩) (rs.length + 1) c) (⟨ya, yc, ys⟩ :: rs : List Rn).length ((⟨ya, yc, ys⟩ :: rs : List Rn).flatMap cR) := ho
    obtain ⟨a, cap, hv, hr⟩ := own_row cR_len ho'
    cases hv
    exact hr
  clear hc ho
  go_wp2
  go_ret
  exact ⟨g, c, rfl, ⟨HO.out, fun r hr => by
    rcases List.mem_cons.1 hr with rfl | hr
    · exact HY.out.inn hbw
    · exact (HR.out.2 r hr).inn hbw⟩, hbw⟩
end Go.Proofs.Ytfoajjkcocppeaa.ly
