/- The specification's StreamPut: one more entry, where that is right; new memory alone. -/
import Derived.Test.YtlfhfcgcfggjcaaDoorStreamWay
namespace Go.Proofs.YtlfhfcgcfggjcaaDoor.sput
open Go.ChangeShapes Go.WideShapes Go.ChangeAt Go.RowKit Go.Proofs.YtlfhfcgcfggjcaaDoor.fl Go.Proofs.YtlfhfcgcfggjcaaDoor.fo Go.Proofs.YtlfhfcgcfggjcaaDoor.rr Go.Proofs.YtlfhfcgcfggjcaaDoor.st Go.Proofs.YtlfhfcgcfggjcaaDoor.srd Go.Proofs.YtlfhfcgcfggjcaaDoor.scp Go.Proofs.YtlfhfcgcfggjcaaDoor.spw
set_option linter.unusedVariables false

noncomputable def fits (sn : ByteArray) (lo nx : Int) (es : List flY.En) (ms : List Ex) (t : Int) (b : ByteArray) : Bool := okB sn lo nx es ms && okB sn lo (nx + 1) (es ++ [⟨nx, t, b⟩]) ms
noncomputable def ansE (sn : ByteArray) (lo nx : Int) (es : List flY.En) (ms : List Ex) (t : Int) (b : ByteArray) : List flY.En := if fits sn lo nx es ms t b = true then es ++ [⟨nx, t, b⟩] else es
noncomputable def ansN (sn : ByteArray) (lo nx : Int) (es : List flY.En) (ms : List Ex) (t : Int) (b : ByteArray) : Int := if fits sn lo nx es ms t b = true then nx + 1 else nx
theorem fit_more {sn : ByteArray} {lo nx t : Int} {es : List flY.En} {ms : List Ex} {b : ByteArray} (F : Fit sn es ms) (hok : OkT sn lo nx es ms) (hb : b.size ≤ 1048576) : Fit sn (es ++ [⟨nx, t, b⟩]) ms :=
  ⟨F.ns, by have := hok.el; simp; omega, F.ml, fun e he => by
    rcases List.mem_append.1 he with h | h
    · exact F.eb e h
    · simp at h; subst h; exact hb, F.mb⟩

set_option maxRecDepth 100000 in
set_option maxHeartbeats 4000000 in
theorem spec_put (sn : ByteArray) (lo nx : Int) (es : List flY.En) (ms : List Ex) (g h cg ch : Nat) (t : Int) (b : ByteArray) (w : World) (F : Fit sn es ms) (hbb : b.size ≤ 1048576) (hY : RY w g es) (hE : RE w h ms) (ga ha : Option Addr) (hga : Hid (apo.NA ga g es.length cg)) (hha : Hid (apo.NA ha h ms.length ch)) :
    Calls Tryd.prog 40 #[.agg #[.string sn, .int .i64 lo, .int .i64 nx, .slice ga es.length cg, .slice ha ms.length ch], .int .i64 t, .string b] w fun e w' => ∃ sa ce sb cb, e = .returned (.tuple #[.agg #[.string sn, .int .i64 lo, .int .i64 (ansN sn lo nx es ms t b), .slice sa (ansE sn lo nx es ms t b).length ce, .slice sb ms.length cb], .bool (fits sn lo nx es ms t b)]) ∧ OR flY.c 3 43 w' w.heap.size sa ce (ansE sn lo nx es ms t b) ∧ OR flK.c 2 45 w' w.heap.size sb cb ms ∧ Below w.heap.size w w' := by
  have hWb : Below w.heap.size w ((w.alloc (.cells #[.string sn, .int .i64 lo, .int .i64 nx, .slice ga es.length cg, .slice ha ms.length ch] 27)).alloc (.cells #[.string ⟨#[]⟩, .int .i64 0, .int .i64 0, .slice none 0 0, .slice none 0 0] 27)) := ((Below.refl _ _).alloc (Nat.le_refl _) _).alloc (by simp) _
  have hcopy := spec_copy sn lo nx es ms g h cg ch ((w.alloc (.cells #[.string sn, .int .i64 lo, .int .i64 nx, .slice ga es.length cg, .slice ha ms.length ch] 27)).alloc (.cells #[.string ⟨#[]⟩, .int .i64 0, .int .i64 0, .slice none 0 0, .slice none 0 0] 27)) F (hY.below hWb) (hE.below hWb) ga ha hga hha
  have HF : Hid (Fit sn es ms) := F
  have HY : Hid (RY w g es) := hY
  have HE : Hid (RE w h ms) := hE
  have HAE : Hid (ansE sn lo nx es ms t b = if fits sn lo nx es ms t b = true then es ++ [⟨nx, t, b⟩] else es) := rfl
  have HAN : Hid (ansN sn lo nx es ms t b = if fits sn lo nx es ms t b = true then nx + 1 else nx) := rfl
  obtain ⟨AE, hAE⟩ : ∃ AE, ansE sn lo nx es ms t b = AE := ⟨_, rfl⟩
  obtain ⟨AN, hAN⟩ : ∃ AN, ansN sn lo nx es ms t b = AN := ⟨_, rfl⟩
  rw [hAE] at HAE
  rw [hAN] at HAN
  simp only [hAE, hAN]
  obtain ⟨ft, hft⟩ : ∃ ft, fits sn lo nx es ms t b = ft := ⟨_, rfl⟩
  rw [hft] at HAE HAN
  simp only [hft]
  have HFT : Hid (fits sn lo nx es ms t b = ft) := hft
  have hel := F.el
  obtain ⟨i0, hi, hz0, hz1, hz2⟩ := infoY
  clear hY hE F hAE hAN hft
  go_enter Tryd.func40, Tryd.ntmps40
  go_wp2_with (go_at_call 29; fail)
  refine hcopy.mono ?_
  rintro e w1 ⟨g1, c1, h1, c2, rfl, oe1, om1, _, hb1⟩
  have hsp := first_out sn lo nx es ms ga ha cg ch w w1 g1 c1 h1 c2 hb1 oe1 om1
  obtain ⟨X, hX⟩ : ∃ X, w1.alloc (.cells #[.string sn, .int .i64 lo, .int .i64 nx, .slice (some ⟨g1, 0, none⟩) es.length c1, .slice (some ⟨h1, 0, none⟩) ms.length c2] 27) = X := ⟨_, rfl⟩
  rw [hX] at hsp
  have HSP : Hid (SP w sn lo nx es ms ga ha cg ch w1.heap.size lo nx g1 c1 h1 c2 es X) := hsp
  have x0 : X.cell? ⟨w.heap.size, 0, none⟩ = some (.string sn) := bcell hsp.box rfl
  have x1 : X.cell? ⟨w.heap.size, 1, none⟩ = some (.int .i64 lo) := bcell hsp.box rfl
  have x2 : X.cell? ⟨w.heap.size, 2, none⟩ = some (.int .i64 nx) := bcell hsp.box rfl
  have x3 : X.cell? ⟨w.heap.size, 3, none⟩ = some (.slice ga es.length cg) := bcell hsp.box rfl
  have x4 : X.cell? ⟨w.heap.size, 4, none⟩ = some (.slice ha ms.length ch) := bcell hsp.box rfl
  have hok := sts.spec_ok sn lo nx es ms g h cg ch X HF.out (HY.out.below hsp.bel) (HE.out.below hsp.bel) ga ha hga.out.at hha.out.at
  clear hcopy oe1 om1 hb1 hWb hsp
  cases hob : okB sn lo nx es ms with
  | false =>
    rw [hob] at hok
    obtain rfl : ft = false := by rw [← HFT.out]; unfold fits; rw [hob]; rfl
    obtain rfl : es = AE := HAE.out.symm
    obtain rfl : nx = AN := HAN.out.symm
    go_wp2_with (go_at_call 30; fail)
    clear hX
    refine hok.mono ?_
    rintro e w2 ⟨rfl, hb2⟩
    have hs2 := HSP.out.on hb2
    have HS2 : Hid (SP w sn lo nx es ms ga ha cg ch w1.heap.size lo nx g1 c1 h1 c2 es w2) := hs2
    have n0 : w2.cell? ⟨w1.heap.size, 0, none⟩ = some (.string sn) := bcell hs2.out rfl
    have n1 : w2.cell? ⟨w1.heap.size, 1, none⟩ = some (.int .i64 lo) := bcell hs2.out rfl
    have n2 : w2.cell? ⟨w1.heap.size, 2, none⟩ = some (.int .i64 nx) := bcell hs2.out rfl
    have n3 : w2.cell? ⟨w1.heap.size, 3, none⟩ = some (.slice (some ⟨g1, 0, none⟩) es.length c1) := bcell hs2.out rfl
    have n4 : w2.cell? ⟨w1.heap.size, 4, none⟩ = some (.slice (some ⟨h1, 0, none⟩) ms.length c2) := bcell hs2.out rfl
    have z0 : w2.cell? ⟨w.heap.size + 1, 0, none⟩ = some (.string ⟨#[]⟩) := bcell hs2.res rfl
    have z1 : w2.cell? ⟨w.heap.size + 1, 1, none⟩ = some (.int .i64 0) := bcell hs2.res rfl
    have z2 : w2.cell? ⟨w.heap.size + 1, 2, none⟩ = some (.int .i64 0) := bcell hs2.res rfl
    have z3 : w2.cell? ⟨w.heap.size + 1, 3, none⟩ = some (.slice none 0 0) := bcell hs2.res rfl
    have z4 : w2.cell? ⟨w.heap.size + 1, 4, none⟩ = some (.slice none 0 0) := bcell hs2.res rfl
    have z0f := bfree hs2.res 0
    have z1f := bfree hs2.res 1
    have z2f := bfree hs2.res 2
    have z3f := bfree hs2.res 3
    have z4f := bfree hs2.res 4
    clear hok hs2 HSP x0 x1 x2 x3 x4
    go_wp2
    refine bodyPost_ret (v := .tuple #[.agg #[.string sn, .int .i64 lo, .int .i64 nx, .slice (some ⟨g1, 0, none⟩) es.length c1, .slice (some ⟨h1, 0, none⟩) ms.length c2], .bool false]) (by simp [results, Tryd.results40, go_sem, z0, z1, z2, z3, z4]) rfl ⟨_, _, _, _, rfl, ?_, ?_, ?_⟩
    · exact fin_row flY.c_len HS2.out.oe
    · exact fin_row flK.c_len HS2.out.om
    · exact fin_below HS2.out.bel (Nat.le_succ _)
  | true =>
    rw [hob] at hok
    have HOK : Hid (OkT sn lo nx es ms) := okB_true.1 hob
    have hnx := HOK.out.nx0
    have hel4 := HOK.out.el
    have i1 : IntKind.i64.wrap (nx + 1) = nx + 1 := by rw [IntKind.wrap_i64]; omega
    go_wp2_with (go_at_call 30; fail)
    clear hX
    refine hok.mono ?_
    rintro e w2 ⟨rfl, hb2⟩
    have hs2 := HSP.out.on hb2
    have HS2 : Hid (SP w sn lo nx es ms ga ha cg ch w1.heap.size lo nx g1 c1 h1 c2 es w2) := hs2
    have y2 : w2.cell? ⟨w.heap.size, 2, none⟩ = some (.int .i64 nx) := bcell hs2.box rfl
    have n3 : w2.cell? ⟨w1.heap.size, 3, none⟩ = some (.slice (some ⟨g1, 0, none⟩) es.length c1) := bcell hs2.out rfl
    have hsz2 := hs2.size
    have hown2 := hs2.oe
    clear hok hs2 HSP x0 x1 x2 x3 x4
    go_wp2_with (at_builtin; refine wpList_append_own _ rfl _ _ 24 rfl (w.heap.size + 2) 43 i0 (.agg #[.int .i64 0, .int .i64 0, .string ByteArray.empty]) 3 32 Tryd.underlying24 hi hz0 hz1 hz2 rfl (by decide) _ _ _ rfl (hown2.alloc _) ⟨w2.heap.size, 0, none⟩ 1 1 [.int .i64 nx, .int .i64 t, .string b] rfl rfl ?c1 ?c2 ?c3 ?c4 ?c5 ?_)
    all_goals try first | exact cells_new w2 ⟨nx, t, b⟩ | exact ⟨rfl, rfl, rfl⟩ | (intro u hu; simp at hu; rcases hu with rfl | rfl | rfl <;> rfl) | (unfold maxLen; omega) | omega | (simp; omega)
    intro v3 w3 hown3 hgrow3 _
    obtain ⟨g3, c3, rfl⟩ := own_form hown3
    have hY3 := grow_sp HS2.out hgrow3 hown3
    have HY3 : Hid (SP w sn lo nx es ms ga ha cg ch w1.heap.size lo (nx + 1) g3 c3 h1 c2 (es ++ [⟨nx, t, b⟩]) ((w3.setCell ⟨w1.heap.size, 3, none⟩ (.slice (some ⟨g3, 0, none⟩) (es.length + 1) c3)).setCell ⟨w1.heap.size, 2, none⟩ (.int .i64 (nx + 1)))) := hY3.2.2
    have k3 : w3.cell? ⟨w1.heap.size, 3, none⟩ = some (.slice (some ⟨g1, 0, none⟩) es.length c1) := hY3.1.1
    have k2 : w3.cell? ⟨w1.heap.size, 2, none⟩ = some (.int .i64 nx) := hY3.1.2.1
    have k2b : w3.cell? ⟨w.heap.size, 2, none⟩ = some (.int .i64 nx) := hY3.1.2.2
    have f3 : w3.frozen? ⟨w1.heap.size, 3, none⟩ = false := hY3.2.1.1
    have f2 : w3.frozen? ⟨w1.heap.size, 2, none⟩ = false := hY3.2.1.2.1
    have hne : w1.heap.size ≠ w.heap.size := hY3.2.1.2.2
    have hne2 : w.heap.size ≠ w1.heap.size := Ne.symm hne
    obtain ⟨Y, hYe⟩ : ∃ Y, (w3.setCell ⟨w1.heap.size, 3, none⟩ (.slice (some ⟨g3, 0, none⟩) (es.length + 1) c3)).setCell ⟨w1.heap.size, 2, none⟩ (.int .i64 (nx + 1)) = Y := ⟨_, rfl⟩
    rw [hYe] at HY3
    have hF3 : Fit sn (es ++ [⟨nx, t, b⟩]) ms := fit_more HF.out HOK.out hbb
    have hok3 := sts.spec_ok sn lo (nx + 1) (es ++ [⟨nx, t, b⟩]) ms g3 h1 c3 c2 Y hF3 (ry_owns HY3.out.oe) (re_owns HY3.out.om) _ _ (fun _ => rfl) (fun _ => rfl)
    rw [List.length_append] at hok3
    have o0 : Y.cell? ⟨w1.heap.size, 0, none⟩ = some (.string sn) := bcell HY3.out.out rfl
    have o1 : Y.cell? ⟨w1.heap.size, 1, none⟩ = some (.int .i64 lo) := bcell HY3.out.out rfl
    have o2 : Y.cell? ⟨w1.heap.size, 2, none⟩ = some (.int .i64 (nx + 1)) := bcell HY3.out.out rfl
    have o3 : Y.cell? ⟨w1.heap.size, 3, none⟩ = some (.slice (some ⟨g3, 0, none⟩) (es ++ [⟨nx, t, b⟩] : List flY.En).length c3) := bcell HY3.out.out rfl
    have o4 : Y.cell? ⟨w1.heap.size, 4, none⟩ = some (.slice (some ⟨h1, 0, none⟩) ms.length c2) := bcell HY3.out.out rfl
    rw [List.length_append] at o3
    have o3 : Y.cell? ⟨w1.heap.size, 3, none⟩ = some (.slice (some ⟨g3, 0, none⟩) (es.length + 1) c3) := o3
    clear hown2 hown3 hgrow3 hY3
    cases hob3 : okB sn lo (nx + 1) (es ++ [⟨nx, t, b⟩]) ms with
    | true =>
      rw [hob3] at hok3
      obtain rfl : ft = true := by rw [← HFT.out]; unfold fits; rw [hob, hob3]; rfl
      obtain rfl : AE = es ++ [⟨nx, t, b⟩] := HAE.out
      obtain rfl : AN = nx + 1 := HAN.out
      go_wp2_with (go_at_call 30; fail)
      clear hYe o0 o1 o2 o3 o4
      refine hok3.mono ?_
      rintro e w4 ⟨rfl, hb4⟩
      have hs4 := HY3.out.on hb4
      have HS4 : Hid (SP w sn lo nx es ms ga ha cg ch w1.heap.size lo (nx + 1) g3 c3 h1 c2 (es ++ [⟨nx, t, b⟩]) w4) := hs4
      have n0 : w4.cell? ⟨w1.heap.size, 0, none⟩ = some (.string sn) := bcell hs4.out rfl
      have n1 : w4.cell? ⟨w1.heap.size, 1, none⟩ = some (.int .i64 lo) := bcell hs4.out rfl
      have n2 : w4.cell? ⟨w1.heap.size, 2, none⟩ = some (.int .i64 (nx + 1)) := bcell hs4.out rfl
      have n3 : w4.cell? ⟨w1.heap.size, 3, none⟩ = some (.slice (some ⟨g3, 0, none⟩) (es ++ [⟨nx, t, b⟩] : List flY.En).length c3) := bcell hs4.out rfl
      have n4 : w4.cell? ⟨w1.heap.size, 4, none⟩ = some (.slice (some ⟨h1, 0, none⟩) ms.length c2) := bcell hs4.out rfl
      have z0 : w4.cell? ⟨w.heap.size + 1, 0, none⟩ = some (.string ⟨#[]⟩) := bcell hs4.res rfl
      have z1 : w4.cell? ⟨w.heap.size + 1, 1, none⟩ = some (.int .i64 0) := bcell hs4.res rfl
      have z2 : w4.cell? ⟨w.heap.size + 1, 2, none⟩ = some (.int .i64 0) := bcell hs4.res rfl
      have z3 : w4.cell? ⟨w.heap.size + 1, 3, none⟩ = some (.slice none 0 0) := bcell hs4.res rfl
      have z4 : w4.cell? ⟨w.heap.size + 1, 4, none⟩ = some (.slice none 0 0) := bcell hs4.res rfl
      have z0f := bfree hs4.res 0
      have z1f := bfree hs4.res 1
      have z2f := bfree hs4.res 2
      have z3f := bfree hs4.res 3
      have z4f := bfree hs4.res 4
      clear hok3 hs4 HY3
      obtain ⟨ln, hln⟩ : ∃ ln, (es ++ [⟨nx, t, b⟩] : List flY.En).length = ln := ⟨_, rfl⟩
      rw [hln] at n3
      have HLN : Hid ((es ++ [⟨nx, t, b⟩] : List flY.En).length = ln) := hln
      clear hln
      go_wp2
      refine bodyPost_ret (v := .tuple #[.agg #[.string sn, .int .i64 lo, .int .i64 (nx + 1), .slice (some ⟨g3, 0, none⟩) ln c3, .slice (some ⟨h1, 0, none⟩) ms.length c2], .bool true]) (by simp [results, Tryd.results40, go_sem, z0, z1, z2, z3, z4]) rfl ⟨some ⟨g3, 0, none⟩, c3, some ⟨h1, 0, none⟩, c2, by rw [HLN.out], ?_, ?_, ?_⟩
      · exact fin_row flY.c_len HS4.out.oe
      · exact fin_row flK.c_len HS4.out.om
      · exact fin_below HS4.out.bel (Nat.le_succ _)
    | false =>
      rw [hob3] at hok3
      obtain rfl : ft = false := by rw [← HFT.out]; unfold fits; rw [hob, hob3]; rfl
      obtain rfl : es = AE := HAE.out.symm
      obtain rfl : nx = AN := HAN.out.symm
      go_wp2_with (go_at_call 30; fail)
      clear hYe o0 o1 o2 o3 o4
      refine hok3.mono ?_
      rintro e w4 ⟨rfl, hb4⟩
      have hs4 := HY3.out.on hb4
      have hc5 := spec_copy sn lo nx es ms g h cg ch w4 HF.out (HY.out.below hs4.bel) (HE.out.below hs4.bel) ga ha hga hha
      have HS4 : Hid (SP w sn lo nx es ms ga ha cg ch w1.heap.size lo (nx + 1) g3 c3 h1 c2 (es ++ [⟨nx, t, b⟩]) w4) := hs4
      have x0 : w4.cell? ⟨w.heap.size, 0, none⟩ = some (.string sn) := bcell hs4.box rfl
      have x1 : w4.cell? ⟨w.heap.size, 1, none⟩ = some (.int .i64 lo) := bcell hs4.box rfl
      have x2 : w4.cell? ⟨w.heap.size, 2, none⟩ = some (.int .i64 nx) := bcell hs4.box rfl
      have x3 : w4.cell? ⟨w.heap.size, 3, none⟩ = some (.slice ga es.length cg) := bcell hs4.box rfl
      have x4 : w4.cell? ⟨w.heap.size, 4, none⟩ = some (.slice ha ms.length ch) := bcell hs4.box rfl
      clear hok3 hs4 HY3
      go_wp2_with (go_at_call 29; fail)
      refine hc5.mono ?_
      rintro e w5 ⟨g5, c5, h5, c6, rfl, oe5, om5, _, hb5⟩
      have hs5 := HS4.out.on hb5
      have hsz5 := HS4.out.size
      have z0 : w5.cell? ⟨w.heap.size + 1, 0, none⟩ = some (.string ⟨#[]⟩) := bcell hs5.res rfl
      have z1 : w5.cell? ⟨w.heap.size + 1, 1, none⟩ = some (.int .i64 0) := bcell hs5.res rfl
      have z2 : w5.cell? ⟨w.heap.size + 1, 2, none⟩ = some (.int .i64 0) := bcell hs5.res rfl
      have z3 : w5.cell? ⟨w.heap.size + 1, 3, none⟩ = some (.slice none 0 0) := bcell hs5.res rfl
      have z4 : w5.cell? ⟨w.heap.size + 1, 4, none⟩ = some (.slice none 0 0) := bcell hs5.res rfl
      have z0f := bfree hs5.res 0
      have z1f := bfree hs5.res 1
      have z2f := bfree hs5.res 2
      have z3f := bfree hs5.res 3
      have z4f := bfree hs5.res 4
      have HB5 : Hid (Below w.heap.size w w5) := hs5.bel
      have HOE5 : Hid (w5.ownsRow (w.heap.size + 2) 43 3 (.slice (some ⟨g5, 0, none⟩) es.length c5) es.length (es.flatMap flY.c)) := own_low oe5 hsz5
      have HOM5 : Hid (w5.ownsRow (w.heap.size + 2) 45 2 (.slice (some ⟨h5, 0, none⟩) ms.length c6) ms.length (ms.flatMap flK.c)) := own_low om5 hsz5
      clear hc5 hs5 oe5 om5 hb5 HS4 x0 x1 x2 x3 x4
      go_wp2
      refine bodyPost_ret (v := .tuple #[.agg #[.string sn, .int .i64 lo, .int .i64 nx, .slice (some ⟨g5, 0, none⟩) es.length c5, .slice (some ⟨h5, 0, none⟩) ms.length c6], .bool false]) (by simp [results, Tryd.results40, go_sem, z0, z1, z2, z3, z4]) rfl ⟨_, _, _, _, rfl, ?_, ?_, ?_⟩
      · exact fin_row flY.c_len HOE5.out
      · exact fin_row flK.c_len HOM5.out
      · exact fin_below HB5.out (Nat.le_succ _)
end Go.Proofs.YtlfhfcgcfggjcaaDoor.sput
