/- The specification's Push: one more message, where that is right; new memory alone. -/
import Derived.Test.YtnlcmheahihlpaaQSpecWay
namespace Go.Proofs.Ytnlcmheahihlpaa.qps
open Go.ChangeShapes Go.WideShapes Go.ChangeAt Go.RowKit Go.Proofs.Ytnlcmheahihlpaa.fl Go.Proofs.Ytnlcmheahihlpaa.qsp
set_option linter.unusedVariables false

noncomputable def fits (sn : ByteArray) (nx : Int) (es : List flM.Ms) (ms : List flH.Hd) (x k b : ByteArray) : Bool := okB sn nx es ms && okB sn (nx + 1) (es ++ [⟨nx, x, k, b, false⟩]) ms
noncomputable def ansE (sn : ByteArray) (nx : Int) (es : List flM.Ms) (ms : List flH.Hd) (x k b : ByteArray) : List flM.Ms := if fits sn nx es ms x k b = true then es ++ [⟨nx, x, k, b, false⟩] else es
noncomputable def ansN (sn : ByteArray) (nx : Int) (es : List flM.Ms) (ms : List flH.Hd) (x k b : ByteArray) : Int := if fits sn nx es ms x k b = true then nx + 1 else nx
theorem fit_more {sn : ByteArray} {nx : Int} {es : List flM.Ms} {ms : List flH.Hd} {x k b : ByteArray} (F : Fit sn es ms) (hok : qk.OkQ sn nx es ms) (hx : x.size ≤ 1048576) (hk : k.size ≤ 1048576) (hb : b.size ≤ 1048576) : Fit sn (es ++ [⟨nx, x, k, b, false⟩]) ms :=
  ⟨F.ns, by have := hok.ln; simp; omega, F.ml, fun e he => by
    rcases List.mem_append.1 he with h | h
    · exact F.eb e h
    · simp at h; subst h; exact ⟨hx, hk, hb⟩, F.mb⟩

set_option maxRecDepth 100000 in
set_option maxHeartbeats 4000000 in
theorem spec_put (sn : ByteArray) (nx : Int) (es : List flM.Ms) (ms : List flH.Hd) (ga ha : Option Addr) (cg ch : Nat) (x k b : ByteArray) (w : World) (F : Fit sn es ms) (hGQ : NZ ga es.length cg) (hHQ : NZ ha ms.length ch) (hxx : x.size ≤ 1048576) (hkk : k.size ≤ 1048576) (hbb : b.size ≤ 1048576) (hY : Row flM.c 5 w w.heap.size ga es) (hE : Row flH.c 7 w w.heap.size ha ms) :
    Calls Try.prog 15 #[.agg #[.string sn, .int .i64 nx, .slice ga es.length cg, .slice ha ms.length ch], .string x, .string k, .string b] w fun e w' => ∃ sa ce sb cb, e = .returned (.tuple #[.agg #[.string sn, .int .i64 (ansN sn nx es ms x k b), .slice sa (ansE sn nx es ms x k b).length ce, .slice sb ms.length cb], .bool (fits sn nx es ms x k b)]) ∧ OL flM.c 5 41 w' (w.heap.size + 2) sa ce (ansE sn nx es ms x k b) ∧ HL w' (w.heap.size + 2) sb cb ms ∧ Below w.heap.size w w' := by
  have hWb : Below w.heap.size w ((w.alloc (.cells #[.string sn, .int .i64 nx, .slice ga es.length cg, .slice ha ms.length ch] 27)).alloc (.cells #[.string ⟨#[]⟩, .int .i64 0, .slice none 0 0, .slice none 0 0] 27)) := ((Below.refl _ _).alloc (Nat.le_refl _) _).alloc (by simp) _
  have hcopy := spec_copy sn nx es ms ga ha cg ch ((w.alloc (.cells #[.string sn, .int .i64 nx, .slice ga es.length cg, .slice ha ms.length ch] 27)).alloc (.cells #[.string ⟨#[]⟩, .int .i64 0, .slice none 0 0, .slice none 0 0] 27)) F hGQ hHQ (hY.inn hWb) (hE.inn hWb)
  have HF : Hid (Fit sn es ms) := F
  have HY : Hid (Row flM.c 5 w w.heap.size ga es) := hY
  have HE : Hid (Row flH.c 7 w w.heap.size ha ms) := hE
  have HAE : Hid (ansE sn nx es ms x k b = if fits sn nx es ms x k b = true then es ++ [⟨nx, x, k, b, false⟩] else es) := rfl
  have HAN : Hid (ansN sn nx es ms x k b = if fits sn nx es ms x k b = true then nx + 1 else nx) := rfl
  obtain ⟨AE, hAE⟩ : ∃ AE, ansE sn nx es ms x k b = AE := ⟨_, rfl⟩
  obtain ⟨AN, hAN⟩ : ∃ AN, ansN sn nx es ms x k b = AN := ⟨_, rfl⟩
  rw [hAE] at HAE
  rw [hAN] at HAN
  simp only [hAE, hAN]
  obtain ⟨ft, hft⟩ : ∃ ft, fits sn nx es ms x k b = ft := ⟨_, rfl⟩
  rw [hft] at HAE HAN
  simp only [hft]
  have HFT : Hid (fits sn nx es ms x k b = ft) := hft
  have hel := F.el
  obtain ⟨i0, hi, hz0, hz1, hz2⟩ := infoY
  clear hY hE F hAE hAN hft
  go_enter Try.func15, Try.ntmps15
  go_wp2_with (go_at_call 26; fail)
  refine hcopy.mono ?_
  rintro e w1 ⟨g1, c1, h1, c2, rfl, oe1, om1, _, hb1⟩
  have hsp := first_out sn nx es ms ga ha cg ch w w1 g1 c1 h1 c2 hb1 oe1 om1
  obtain ⟨X, hX⟩ : ∃ X, w1.alloc (.cells #[.string sn, .int .i64 nx, .slice (some ⟨g1, 0, none⟩) es.length c1, .slice (some ⟨h1, 0, none⟩) ms.length c2] 27) = X := ⟨_, rfl⟩
  rw [hX] at hsp
  have HSP : Hid (SP w sn nx es ms ga ha cg ch w1.heap.size nx g1 c1 h1 c2 es X) := hsp
  have x0 : X.cell? ⟨w.heap.size, 0, none⟩ = some (.string sn) := bcell hsp.box rfl
  have x2 : X.cell? ⟨w.heap.size, 1, none⟩ = some (.int .i64 nx) := bcell hsp.box rfl
  have x3 : X.cell? ⟨w.heap.size, 2, none⟩ = some (.slice ga es.length cg) := bcell hsp.box rfl
  have x4 : X.cell? ⟨w.heap.size, 3, none⟩ = some (.slice ha ms.length ch) := bcell hsp.box rfl
  have hok := spec_okb sn nx es ms ga ha cg ch X HF.out (HY.out.inn hsp.bel) (HE.out.inn hsp.bel)
  clear hcopy oe1 om1 hb1 hWb hsp
  cases hob : okB sn nx es ms with
  | false =>
    rw [hob] at hok
    obtain rfl : ft = false := by rw [← HFT.out]; unfold fits; rw [hob]; rfl
    obtain rfl : es = AE := HAE.out.symm
    obtain rfl : nx = AN := HAN.out.symm
    go_wp2_with (go_at_call 12; fail)
    clear hX
    refine hok.mono ?_
    rintro e w2 ⟨rfl, hb2⟩
    have hs2 := HSP.out.on hb2
    have HS2 : Hid (SP w sn nx es ms ga ha cg ch w1.heap.size nx g1 c1 h1 c2 es w2) := hs2
    have n0 : w2.cell? ⟨w1.heap.size, 0, none⟩ = some (.string sn) := bcell hs2.out rfl
    have n2 : w2.cell? ⟨w1.heap.size, 1, none⟩ = some (.int .i64 nx) := bcell hs2.out rfl
    have n3 : w2.cell? ⟨w1.heap.size, 2, none⟩ = some (.slice (some ⟨g1, 0, none⟩) es.length c1) := bcell hs2.out rfl
    have n4 : w2.cell? ⟨w1.heap.size, 3, none⟩ = some (.slice (some ⟨h1, 0, none⟩) ms.length c2) := bcell hs2.out rfl
    have z0 : w2.cell? ⟨w.heap.size + 1, 0, none⟩ = some (.string ⟨#[]⟩) := bcell hs2.res rfl
    have z2 : w2.cell? ⟨w.heap.size + 1, 1, none⟩ = some (.int .i64 0) := bcell hs2.res rfl
    have z3 : w2.cell? ⟨w.heap.size + 1, 2, none⟩ = some (.slice none 0 0) := bcell hs2.res rfl
    have z4 : w2.cell? ⟨w.heap.size + 1, 3, none⟩ = some (.slice none 0 0) := bcell hs2.res rfl
    have z0f := bfree hs2.res 0
    have z2f := bfree hs2.res 1
    have z3f := bfree hs2.res 2
    have z4f := bfree hs2.res 3
    clear hok hs2 HSP x0 x2 x3 x4
    go_wp2
    refine bodyPost_ret (v := .tuple #[.agg #[.string sn, .int .i64 nx, .slice (some ⟨g1, 0, none⟩) es.length c1, .slice (some ⟨h1, 0, none⟩) ms.length c2], .bool false]) (by simp [results, Try.results15, go_sem, z0, z2, z3, z4]) rfl ⟨_, _, _, _, rfl, ?_, ?_, ?_⟩
    · exact fin_row flM.c_len HS2.out.oe
    · exact .inr ⟨_, rfl, fin_row flH.c_len HS2.out.om⟩
    · exact fin_below HS2.out.bel (Nat.le_succ _)
  | true =>
    rw [hob] at hok
    have HOK : Hid (qk.OkQ sn nx es ms) := okB_true.1 hob
    have hnx := HOK.out.nxo
    have hel4 := HOK.out.ln
    have i1 : IntKind.i64.wrap (nx + 1) = nx + 1 := by rw [IntKind.wrap_i64]; omega
    go_wp2_with (go_at_call 12; fail)
    clear hX
    refine hok.mono ?_
    rintro e w2 ⟨rfl, hb2⟩
    have hs2 := HSP.out.on hb2
    have HS2 : Hid (SP w sn nx es ms ga ha cg ch w1.heap.size nx g1 c1 h1 c2 es w2) := hs2
    have y2 : w2.cell? ⟨w.heap.size, 1, none⟩ = some (.int .i64 nx) := bcell hs2.box rfl
    have n3 : w2.cell? ⟨w1.heap.size, 2, none⟩ = some (.slice (some ⟨g1, 0, none⟩) es.length c1) := bcell hs2.out rfl
    have hsz2 := hs2.size
    have hown2 := hs2.oe
    clear hok hs2 HSP x0 x2 x3 x4
    go_wp2_with (at_builtin; refine wpList_append_own _ rfl _ _ 24 rfl (w.heap.size + 2) 41 i0 (.agg #[.int .i64 0, .string ByteArray.empty, .string ByteArray.empty, .string ByteArray.empty, .bool false]) 5 64 Try.underlying24 hi hz0 hz1 hz2 rfl (by decide) _ _ _ rfl (hown2.alloc _) ⟨w2.heap.size, 0, none⟩ 1 1 [.int .i64 nx, .string x, .string k, .string b, .bool false] rfl rfl ?c1 ?c2 ?c3 ?c4 ?c5 ?_)
    all_goals try first | exact cells_new w2 ⟨nx, x, k, b, false⟩ | exact ⟨rfl, rfl, rfl⟩ | (intro u hu; simp at hu; rcases hu with rfl | rfl | rfl | rfl | rfl <;> rfl) | (unfold maxLen; omega) | omega | (simp; omega)
    intro v3 w3 hown3 hgrow3 _
    obtain ⟨g3, c3, rfl⟩ := own_form hown3
    have hY3 := grow_sp HS2.out hgrow3 hown3
    have HY3 : Hid (SP w sn nx es ms ga ha cg ch w1.heap.size (nx + 1) g3 c3 h1 c2 (es ++ [⟨nx, x, k, b, false⟩]) ((w3.setCell ⟨w1.heap.size, 2, none⟩ (.slice (some ⟨g3, 0, none⟩) (es.length + 1) c3)).setCell ⟨w1.heap.size, 1, none⟩ (.int .i64 (nx + 1)))) := hY3.2.2
    have k3 : w3.cell? ⟨w1.heap.size, 2, none⟩ = some (.slice (some ⟨g1, 0, none⟩) es.length c1) := hY3.1.1
    have k2 : w3.cell? ⟨w1.heap.size, 1, none⟩ = some (.int .i64 nx) := hY3.1.2.1
    have k2b : w3.cell? ⟨w.heap.size, 1, none⟩ = some (.int .i64 nx) := hY3.1.2.2
    have f3 : w3.frozen? ⟨w1.heap.size, 2, none⟩ = false := hY3.2.1.1
    have f2 : w3.frozen? ⟨w1.heap.size, 1, none⟩ = false := hY3.2.1.2.1
    have hne : w1.heap.size ≠ w.heap.size := hY3.2.1.2.2
    have hne2 : w.heap.size ≠ w1.heap.size := Ne.symm hne
    obtain ⟨Y, hYe⟩ : ∃ Y, (w3.setCell ⟨w1.heap.size, 2, none⟩ (.slice (some ⟨g3, 0, none⟩) (es.length + 1) c3)).setCell ⟨w1.heap.size, 1, none⟩ (.int .i64 (nx + 1)) = Y := ⟨_, rfl⟩
    rw [hYe] at HY3
    have hF3 : Fit sn (es ++ [⟨nx, x, k, b, false⟩]) ms := fit_more HF.out HOK.out hxx hkk hbb
    have hok3 := spec_okb sn (nx + 1) (es ++ [⟨nx, x, k, b, false⟩]) ms (some ⟨g3, 0, none⟩) (some ⟨h1, 0, none⟩) c3 c2 Y hF3 (row_owns flM.c_len HY3.out.oe) (row_owns flH.c_len HY3.out.om)
    rw [List.length_append] at hok3
    have o0 : Y.cell? ⟨w1.heap.size, 0, none⟩ = some (.string sn) := bcell HY3.out.out rfl
    have o2 : Y.cell? ⟨w1.heap.size, 1, none⟩ = some (.int .i64 (nx + 1)) := bcell HY3.out.out rfl
    have o3 : Y.cell? ⟨w1.heap.size, 2, none⟩ = some (.slice (some ⟨g3, 0, none⟩) (es ++ [⟨nx, x, k, b, false⟩] : List flM.Ms).length c3) := bcell HY3.out.out rfl
    have o4 : Y.cell? ⟨w1.heap.size, 3, none⟩ = some (.slice (some ⟨h1, 0, none⟩) ms.length c2) := bcell HY3.out.out rfl
    rw [List.length_append] at o3
    have o3 : Y.cell? ⟨w1.heap.size, 2, none⟩ = some (.slice (some ⟨g3, 0, none⟩) (es.length + 1) c3) := o3
    clear hown2 hown3 hgrow3 hY3
    cases hob3 : okB sn (nx + 1) (es ++ [⟨nx, x, k, b, false⟩]) ms with
    | true =>
      rw [hob3] at hok3
      obtain rfl : ft = true := by rw [← HFT.out]; unfold fits; rw [hob, hob3]; rfl
      obtain rfl : AE = es ++ [⟨nx, x, k, b, false⟩] := HAE.out
      obtain rfl : AN = nx + 1 := HAN.out
      go_wp2_with (go_at_call 12; fail)
      clear hYe o0 o2 o3 o4
      refine hok3.mono ?_
      rintro e w4 ⟨rfl, hb4⟩
      have hs4 := HY3.out.on hb4
      have HS4 : Hid (SP w sn nx es ms ga ha cg ch w1.heap.size (nx + 1) g3 c3 h1 c2 (es ++ [⟨nx, x, k, b, false⟩]) w4) := hs4
      have n0 : w4.cell? ⟨w1.heap.size, 0, none⟩ = some (.string sn) := bcell hs4.out rfl
      have n2 : w4.cell? ⟨w1.heap.size, 1, none⟩ = some (.int .i64 (nx + 1)) := bcell hs4.out rfl
      have n3 : w4.cell? ⟨w1.heap.size, 2, none⟩ = some (.slice (some ⟨g3, 0, none⟩) (es ++ [⟨nx, x, k, b, false⟩] : List flM.Ms).length c3) := bcell hs4.out rfl
      have n4 : w4.cell? ⟨w1.heap.size, 3, none⟩ = some (.slice (some ⟨h1, 0, none⟩) ms.length c2) := bcell hs4.out rfl
      have z0 : w4.cell? ⟨w.heap.size + 1, 0, none⟩ = some (.string ⟨#[]⟩) := bcell hs4.res rfl
      have z2 : w4.cell? ⟨w.heap.size + 1, 1, none⟩ = some (.int .i64 0) := bcell hs4.res rfl
      have z3 : w4.cell? ⟨w.heap.size + 1, 2, none⟩ = some (.slice none 0 0) := bcell hs4.res rfl
      have z4 : w4.cell? ⟨w.heap.size + 1, 3, none⟩ = some (.slice none 0 0) := bcell hs4.res rfl
      have z0f := bfree hs4.res 0
      have z2f := bfree hs4.res 1
      have z3f := bfree hs4.res 2
      have z4f := bfree hs4.res 3
      clear hok3 hs4 HY3
      obtain ⟨ln, hln⟩ : ∃ ln, (es ++ [⟨nx, x, k, b, false⟩] : List flM.Ms).length = ln := ⟨_, rfl⟩
      rw [hln] at n3
      have HLN : Hid ((es ++ [⟨nx, x, k, b, false⟩] : List flM.Ms).length = ln) := hln
      clear hln
      go_wp2
      refine bodyPost_ret (v := .tuple #[.agg #[.string sn, .int .i64 (nx + 1), .slice (some ⟨g3, 0, none⟩) ln c3, .slice (some ⟨h1, 0, none⟩) ms.length c2], .bool true]) (by simp [results, Try.results15, go_sem, z0, z2, z3, z4]) rfl ⟨some ⟨g3, 0, none⟩, c3, some ⟨h1, 0, none⟩, c2, by rw [HLN.out], ?_, ?_, ?_⟩
      · exact fin_row flM.c_len HS4.out.oe
      · exact .inr ⟨_, rfl, fin_row flH.c_len HS4.out.om⟩
      · exact fin_below HS4.out.bel (Nat.le_succ _)
    | false =>
      rw [hob3] at hok3
      obtain rfl : ft = false := by rw [← HFT.out]; unfold fits; rw [hob, hob3]; rfl
      obtain rfl : es = AE := HAE.out.symm
      obtain rfl : nx = AN := HAN.out.symm
      go_wp2_with (go_at_call 12; fail)
      clear hYe o0 o2 o3 o4
      refine hok3.mono ?_
      rintro e w4 ⟨rfl, hb4⟩
      have hs4 := HY3.out.on hb4
      have hc5 := spec_copy sn nx es ms ga ha cg ch w4 HF.out hGQ hHQ (HY.out.inn hs4.bel) (HE.out.inn hs4.bel)
      have HS4 : Hid (SP w sn nx es ms ga ha cg ch w1.heap.size (nx + 1) g3 c3 h1 c2 (es ++ [⟨nx, x, k, b, false⟩]) w4) := hs4
      have x0 : w4.cell? ⟨w.heap.size, 0, none⟩ = some (.string sn) := bcell hs4.box rfl
      have x2 : w4.cell? ⟨w.heap.size, 1, none⟩ = some (.int .i64 nx) := bcell hs4.box rfl
      have x3 : w4.cell? ⟨w.heap.size, 2, none⟩ = some (.slice ga es.length cg) := bcell hs4.box rfl
      have x4 : w4.cell? ⟨w.heap.size, 3, none⟩ = some (.slice ha ms.length ch) := bcell hs4.box rfl
      clear hok3 hs4 HY3
      go_wp2_with (go_at_call 26; fail)
      refine hc5.mono ?_
      rintro e w5 ⟨g5, c5, h5, c6, rfl, oe5, om5, _, hb5⟩
      have hs5 := HS4.out.on hb5
      have hsz5 := HS4.out.size
      have z0 : w5.cell? ⟨w.heap.size + 1, 0, none⟩ = some (.string ⟨#[]⟩) := bcell hs5.res rfl
      have z2 : w5.cell? ⟨w.heap.size + 1, 1, none⟩ = some (.int .i64 0) := bcell hs5.res rfl
      have z3 : w5.cell? ⟨w.heap.size + 1, 2, none⟩ = some (.slice none 0 0) := bcell hs5.res rfl
      have z4 : w5.cell? ⟨w.heap.size + 1, 3, none⟩ = some (.slice none 0 0) := bcell hs5.res rfl
      have z0f := bfree hs5.res 0
      have z2f := bfree hs5.res 1
      have z3f := bfree hs5.res 2
      have z4f := bfree hs5.res 3
      have HB5 : Hid (Below w.heap.size w w5) := hs5.bel
      have HOE5 : Hid (w5.ownsRow (w.heap.size + 2) 41 5 (.slice (some ⟨g5, 0, none⟩) es.length c5) es.length (es.flatMap flM.c)) := own_low oe5 hsz5
      have HOM5 : Hid (w5.ownsRow (w.heap.size + 2) 55 7 (.slice (some ⟨h5, 0, none⟩) ms.length c6) ms.length (ms.flatMap flH.c)) := own_low om5 hsz5
      clear hc5 hs5 oe5 om5 hb5 HS4 x0 x2 x3 x4
      go_wp2
      refine bodyPost_ret (v := .tuple #[.agg #[.string sn, .int .i64 nx, .slice (some ⟨g5, 0, none⟩) es.length c5, .slice (some ⟨h5, 0, none⟩) ms.length c6], .bool false]) (by simp [results, Try.results15, go_sem, z0, z2, z3, z4]) rfl ⟨_, _, _, _, rfl, ?_, ?_, ?_⟩
      · exact fin_row flM.c_len HOE5.out
      · exact .inr ⟨_, rfl, fin_row flH.c_len HOM5.out⟩
      · exact fin_below HB5.out (Nat.le_succ _)
end Go.Proofs.Ytnlcmheahihlpaa.qps
