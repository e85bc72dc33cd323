/- The specification's Drop: the held ones that are meant are gone; new memory alone. -/
import Derived.Test.YtnlcmheahihlpaaQTakeSpec
namespace Go.Proofs.Ytnlcmheahihlpaa.qds
open Go.ChangeShapes Go.WideShapes Go.ChangeAt Go.RowKit Go.Proofs.Ytnlcmheahihlpaa.fl Go.Proofs.Ytnlcmheahihlpaa.qsp Go.Proofs.Ytnlcmheahihlpaa.qdp Go.Proofs.Ytnlcmheahihlpaa.qts
set_option linter.unusedVariables false

theorem spec_take (nm : ByteArray) (nx : Int) (ra : Option Addr) (rn rc : Nat) (ms : List flH.Hd) (ha : Option Addr) (bc : Nat) (o t : Int) (a : Bool) (w : World) (hml : ms.length ≤ 1048576) (hB : Row flH.c 7 w w.heap.size ha ms) :
    Calls Try.prog 27 #[.agg #[.string nm, .int .i64 nx, .slice ra rn rc, .slice ha ms.length bc], .int .i64 o, .int .i64 t, .bool a] w fun e w' => ∃ v u, e = .returned (.tuple #[v, u]) ∧ Tk w w.heap.size v u (gone o t a ms) (left o t a ms) w' := by
  cases a
  · exact spec_take_false nm nx ra rn rc ms ha bc o t w hml hB
  · exact spec_take_true nm nx ra rn rc ms ha bc o t w hml hB
theorem all_set {w : World} {B b o : Nat} {v u : Value} {l : List flH.Hd} (h : All w B v l) (hb : b < B) : All (w.setCell ⟨b, o, none⟩ u) B v l := by
  rcases h with h | ⟨g, cap, e, ho⟩
  · exact .inl h
  · exact .inr ⟨g, cap, e, own_set ho b o u hb⟩
theorem fin_allH {w : World} {B B' b : Nat} {ub : Option Addr} {uc : Nat} {x0 x2 x3 x4 : Value} {l : List flH.Hd} (h : All w B (.slice ub l.length uc) l) (hb : b < B) (hB : B' ≤ B) : HL (res5 w b x0 x2 x3 x4) B' ub uc l := by
  rcases all_set (o := 3) (u := x4) (all_set (o := 2) (u := x3) (all_set (o := 1) (u := x2) (all_set (o := 0) (u := x0) h hb) hb) hb) hb with ⟨h1, ao, h2, h3⟩ | ⟨g, cap, e, ho⟩
  · injection h2 with e1 e2 e3
    exact .inl ⟨h1, e3, e1 ▸ h3⟩
  · injection e with e1 e2 e3
    subst e1
    subst e3
    exact .inr ⟨g, rfl, own_low ho hB⟩
set_option maxRecDepth 100000 in
set_option maxHeartbeats 4000000 in
theorem spec_drop (sn : ByteArray) (nx : Int) (es : List flM.Ms) (ms : List flH.Hd) (ga ha : Option Addr) (cg ch : Nat) (o t : Int) (a : Bool) (w : World) (F : Fit sn es ms) (hGQ : NZ ga es.length cg) (hHQ : NZ ha ms.length ch) (hY : Row flM.c 5 w w.heap.size ga es) (hE : Row flH.c 7 w w.heap.size ha ms) :
    Calls Try.prog 9 #[.agg #[.string sn, .int .i64 nx, .slice ga es.length cg, .slice ha ms.length ch], .int .i64 o, .int .i64 t, .bool a] w fun e w' => ∃ sa ce sb cb, e = .returned (.tuple #[.agg #[.string sn, .int .i64 nx, .slice sa es.length ce, .slice sb (ansH sn nx es ms o t a).length cb], .int .i64 (ansC sn nx es ms o t a)]) ∧ OL flM.c 5 41 w' (w.heap.size + 2) sa ce es ∧ HL w' (w.heap.size + 2) sb cb (ansH sn nx es ms o t a) ∧ Below w.heap.size w w' := by
  have hWb : Below w.heap.size w ((w.alloc (.cells #[.string sn, .int .i64 nx, .slice ga es.length cg, .slice ha ms.length ch] 27)).alloc (.cells #[.string ⟨#[]⟩, .int .i64 0, .slice none 0 0, .slice none 0 0] 27)) := ((Below.refl _ _).alloc (Nat.le_refl _) _).alloc (by simp) _
  have hcopy := spec_copy sn nx es ms ga ha cg ch ((w.alloc (.cells #[.string sn, .int .i64 nx, .slice ga es.length cg, .slice ha ms.length ch] 27)).alloc (.cells #[.string ⟨#[]⟩, .int .i64 0, .slice none 0 0, .slice none 0 0] 27)) F hGQ hHQ (hY.inn hWb) (hE.inn hWb)
  have HF : Hid (Fit sn es ms) := F
  have HY : Hid (Row flM.c 5 w w.heap.size ga es) := hY
  have HE : Hid (Row flH.c 7 w w.heap.size ha ms) := hE
  have HAH : Hid (ansH sn nx es ms o t a = if okB sn nx es ms = true then left o t a ms else ms) := rfl
  have HAC : Hid (ansC sn nx es ms o t a = if okB sn nx es ms = true then ((gone o t a ms).length : Int) else 0) := rfl
  obtain ⟨AH, hAH⟩ : ∃ AH, ansH sn nx es ms o t a = AH := ⟨_, rfl⟩
  obtain ⟨AC, hAC⟩ : ∃ AC, ansC sn nx es ms o t a = AC := ⟨_, rfl⟩
  rw [hAH] at HAH
  rw [hAC] at HAC
  simp only [hAH, hAC]
  clear hY hE F hAH hAC
  go_enter Try.func9, Try.ntmps9
  go_wp2_with (go_at_call 26; fail)
  refine hcopy.mono ?_
  rintro e w1 ⟨g1, c1, h1, c2, rfl, oe1, om1, _, hb1⟩
  have hs := first_out sn nx es ms ga ha cg ch w w1 g1 c1 h1 c2 hb1 oe1 om1
  obtain ⟨X, hX⟩ : ∃ X, w1.alloc (.cells #[.string sn, .int .i64 nx, .slice (some ⟨g1, 0, none⟩) es.length c1, .slice (some ⟨h1, 0, none⟩) ms.length c2] 27) = X := ⟨_, rfl⟩
  rw [hX] at hs
  have HSP : Hid (SP w sn nx es ms ga ha cg ch w1.heap.size nx g1 c1 h1 c2 es X) := hs
  have x0 : X.cell? ⟨w.heap.size, 0, none⟩ = some (.string sn) := bcell hs.box rfl
  have x2 : X.cell? ⟨w.heap.size, 1, none⟩ = some (.int .i64 nx) := bcell hs.box rfl
  have x3 : X.cell? ⟨w.heap.size, 2, none⟩ = some (.slice ga es.length cg) := bcell hs.box rfl
  have x4 : X.cell? ⟨w.heap.size, 3, none⟩ = some (.slice ha ms.length ch) := bcell hs.box rfl
  have hok := spec_okb sn nx es ms ga ha cg ch X HF.out (HY.out.inn hs.bel) (HE.out.inn hs.bel)
  clear hcopy oe1 om1 hb1 hWb hs
  cases hob : okB sn nx es ms with
  | false =>
    rw [hob] at hok HAH HAC
    obtain rfl : ms = AH := HAH.out.symm
    obtain rfl : (0 : Int) = AC := HAC.out.symm
    go_wp2_with (go_at_call 12; fail)
    clear hX
    refine hok.mono ?_
    rintro e w2 ⟨rfl, hb2⟩
    have hs := HSP.out.on hb2
    have HS2 : Hid (SP w sn nx es ms ga ha cg ch w1.heap.size nx g1 c1 h1 c2 es w2) := hs
    have n0 : w2.cell? ⟨w1.heap.size, 0, none⟩ = some (.string sn) := bcell hs.out rfl
    have n2 : w2.cell? ⟨w1.heap.size, 1, none⟩ = some (.int .i64 nx) := bcell hs.out rfl
    have n3 : w2.cell? ⟨w1.heap.size, 2, none⟩ = some (.slice (some ⟨g1, 0, none⟩) es.length c1) := bcell hs.out rfl
    have n4 : w2.cell? ⟨w1.heap.size, 3, none⟩ = some (.slice (some ⟨h1, 0, none⟩) ms.length c2) := bcell hs.out rfl
    have z0 : w2.cell? ⟨w.heap.size + 1, 0, none⟩ = some (.string ⟨#[]⟩) := bcell hs.res rfl
    have z2 : w2.cell? ⟨w.heap.size + 1, 1, none⟩ = some (.int .i64 0) := bcell hs.res rfl
    have z3 : w2.cell? ⟨w.heap.size + 1, 2, none⟩ = some (.slice none 0 0) := bcell hs.res rfl
    have z4 : w2.cell? ⟨w.heap.size + 1, 3, none⟩ = some (.slice none 0 0) := bcell hs.res rfl
    have z0f := bfree hs.res 0
    have z2f := bfree hs.res 1
    have z3f := bfree hs.res 2
    have z4f := bfree hs.res 3
    clear hok hs HSP x0 x2 x3 x4
    go_wp2
    refine bodyPost_ret (v := .tuple #[.agg #[.string sn, .int .i64 nx, .slice (some ⟨g1, 0, none⟩) es.length c1, .slice (some ⟨h1, 0, none⟩) ms.length c2], .int .i64 0]) (by simp [results, Try.results9, go_sem, z0, z2, z3, z4]) rfl ⟨_, _, _, _, rfl, ?_, ?_, ?_⟩
    · exact fin_row flM.c_len HS2.out.oe
    · exact .inr ⟨_, rfl, fin_row flH.c_len HS2.out.om⟩
    · exact fin_below HS2.out.bel (Nat.le_succ _)
  | true =>
    rw [hob] at hok HAH HAC
    go_wp2_with (go_at_call 12; fail)
    clear hX
    refine hok.mono ?_
    rintro e w2 ⟨rfl, hb2⟩
    have hs := HSP.out.on hb2
    have HS2 : Hid (SP w sn nx es ms ga ha cg ch w1.heap.size nx g1 c1 h1 c2 es w2) := hs
    clear x0 x2 x3 x4
    have x0 : w2.cell? ⟨w.heap.size, 0, none⟩ = some (.string sn) := bcell hs.box rfl
    have x2 : w2.cell? ⟨w.heap.size, 1, none⟩ = some (.int .i64 nx) := bcell hs.box rfl
    have x3 : w2.cell? ⟨w.heap.size, 2, none⟩ = some (.slice ga es.length cg) := bcell hs.box rfl
    have x4 : w2.cell? ⟨w.heap.size, 3, none⟩ = some (.slice ha ms.length ch) := bcell hs.box rfl
    have htk := spec_take sn nx ga es.length cg ms ha ch o t a w2 HF.out.ml (HE.out.inn hs.bel)
    have hw1 : w1.heap.size < w2.heap.size := (Array.getElem?_eq_some_iff.1 hs.out).1
    have h8 := hs.h8
    clear hok hs HSP
    go_wp2_with (go_at_call 27; fail)
    refine htk.mono ?_
    rintro e w3 ⟨v, u, rfl, hk⟩
    obtain ⟨GL, hGL⟩ : ∃ GL, gone o t a ms = GL := ⟨_, rfl⟩
    obtain ⟨LL, hLL⟩ : ∃ LL, left o t a ms = LL := ⟨_, rfl⟩
    have HAH2 : Hid (AH = left o t a ms) := HAH.out
    have HAC2 : Hid (AC = ((gone o t a ms).length : Int)) := HAC.out
    rw [hLL] at hk HAH2
    rw [hGL] at hk HAC2
    obtain rfl : AH = LL := HAH2.out
    obtain rfl : AC = (GL.length : Int) := HAC2.out
    obtain ⟨vb, vc, rfl⟩ := hk.av.form
    obtain ⟨ub, uc, rfl⟩ := hk.au.form
    have hs := HS2.out.on hk.bel
    have HS3 : Hid (SP w sn nx es ms ga ha cg ch w1.heap.size nx g1 c1 h1 c2 es w3) := hs
    have HAU : Hid (All w3 w2.heap.size (.slice ub AH.length uc) AH) := hk.au
    have n4f := bfree hs.out 3
    have hne1 : w1.heap.size ≠ w.heap.size + 1 := by omega
    have hne2 : w.heap.size + 1 ≠ w1.heap.size := by omega
    have n0 : w3.cell? ⟨w1.heap.size, 0, none⟩ = some (.string sn) := bcell hs.out rfl
    have n2 : w3.cell? ⟨w1.heap.size, 1, none⟩ = some (.int .i64 nx) := bcell hs.out rfl
    have n3 : w3.cell? ⟨w1.heap.size, 2, none⟩ = some (.slice (some ⟨g1, 0, none⟩) es.length c1) := bcell hs.out rfl
    have n4 : w3.cell? ⟨w1.heap.size, 3, none⟩ = some (.slice (some ⟨h1, 0, none⟩) ms.length c2) := bcell hs.out rfl
    have z0 : w3.cell? ⟨w.heap.size + 1, 0, none⟩ = some (.string ⟨#[]⟩) := bcell hs.res rfl
    have z2 : w3.cell? ⟨w.heap.size + 1, 1, none⟩ = some (.int .i64 0) := bcell hs.res rfl
    have z3 : w3.cell? ⟨w.heap.size + 1, 2, none⟩ = some (.slice none 0 0) := bcell hs.res rfl
    have z4 : w3.cell? ⟨w.heap.size + 1, 3, none⟩ = some (.slice none 0 0) := bcell hs.res rfl
    have z0f := bfree hs.res 0
    have z2f := bfree hs.res 1
    have z3f := bfree hs.res 2
    have z4f := bfree hs.res 3
    have hgne : g1 ≠ w1.heap.size := owns_ne (by decide) hs.oe hs.out
    clear htk hk hs x0 x2 x3 x4 hGL hLL HAH HAC HAH2 HAC2
    go_wp2
    refine bodyPost_ret (v := .tuple #[.agg #[.string sn, .int .i64 nx, .slice (some ⟨g1, 0, none⟩) es.length c1, .slice ub AH.length uc], .int .i64 GL.length]) (by simp [results, Try.results9, go_sem, z0, z2, z3, z4]) rfl ⟨_, _, _, _, rfl, ?_, ?_, ?_⟩
    · exact fin_row flM.c_len (owns_set HS3.out.oe hgne _)
    · exact fin_allH (B := w2.heap.size) (all_set HAU.out hw1) (by have := HS2.out.size; omega) (by omega)
    · exact fin_below (HS3.out.bel.setCell (by show w.heap.size ≤ w1.heap.size; omega) _) (Nat.le_succ _)
end Go.Proofs.Ytnlcmheahihlpaa.qds
