/- The specification's Return: what is meant is Ready again, in its place; new memory alone. -/
import Derived.Test.YtdondjnihonacaaQDropSpec
import Derived.Test.YtdondjnihonacaaQBackSpec
namespace Go.Proofs.Ytdondjnihonacaa.qrs
open Go.ChangeShapes Go.WideShapes Go.ChangeAt Go.RowKit Go.Proofs.Ytdondjnihonacaa.fl Go.Proofs.Ytdondjnihonacaa.qsp Go.Proofs.Ytdondjnihonacaa.qdp Go.Proofs.Ytdondjnihonacaa.qds Go.Proofs.Ytdondjnihonacaa.qbk
set_option linter.unusedVariables false

/-- what stands in the loop: the answer so far, its rows, and what is given back -/
structure RT (w : World) (sn : ByteArray) (nx : Int) (n8 B g1 c1 : Nat) (L : List flM.Ms) (vb ub : Option Addr) (vc uc : Nat) (GL LL : List flH.Hd) (X : World) : Prop where
  bel : Below w.heap.size w X
  res : X.heap[w.heap.size + 1]? = some (.cells #[.string ⟨#[]⟩, .int .i64 0, .slice none 0 0, .slice none 0 0] 30 (0, 0))
  out : X.heap[n8]? = some (.cells #[.string sn, .int .i64 nx, .slice (some ⟨g1, 0, none⟩) L.length c1, .slice ub LL.length uc] 30 (0, 0))
  oe : X.ownsRow (w.heap.size + 2) 38 5 (.slice (some ⟨g1, 0, none⟩) L.length c1) L.length (L.flatMap flM.c)
  av : All X B (.slice vb GL.length vc) GL
  au : All X B (.slice ub LL.length uc) LL
  h8 : w.heap.size + 2 ≤ n8
  hB : n8 < B
  hS : B ≤ X.heap.size
section
variable {w : World} {sn : ByteArray} {nx : Int} {n8 B g1 c1 : Nat} {L : List flM.Ms} {vb ub : Option Addr} {vc uc : Nat} {GL LL : List flH.Hd} {X X' : World}
theorem RT.on (h : RT w sn nx n8 B g1 c1 L vb ub vc uc GL LL X) (hb : Below X.heap.size X X') : RT w sn nx n8 B g1 c1 L vb ub vc uc GL LL X' :=
  ⟨h.bel.trans (hb.mono h.bel.size), bstay h.res hb (Array.getElem?_eq_some_iff.1 h.res).1, bstay h.out hb (Array.getElem?_eq_some_iff.1 h.out).1, own_stay h.oe hb, h.av.on hb, h.au.on hb, h.h8, h.hB, Nat.le_trans h.hS hb.size⟩
theorem RT.cap (h : RT w sn nx n8 B g1 c1 L vb ub vc uc GL LL X) : L.length ≤ c1 := by
  obtain ⟨_, ⟨h1, _⟩ | ⟨g', cap, cur, h1, _, _, h4, _⟩⟩ := h.oe
  · cases h1
  · have e2 := (Value.slice.inj h1).2.2
    omega
theorem RT.put {g2 c2 : Nat} {L' : List flM.Ms} {Y : World} (h : RT w sn nx n8 B g1 c1 L vb ub vc uc GL LL Y) (ho : Y.ownsRow X.heap.size 38 5 (.slice (some ⟨g2, 0, none⟩) L'.length c2) L'.length (L'.flatMap flM.c)) (hX : B ≤ X.heap.size) : RT w sn nx n8 B g2 c2 L' vb ub vc uc GL LL (Y.setCell ⟨n8, 2, none⟩ (.slice (some ⟨g2, 0, none⟩) L'.length c2)) := by
  have h8 := h.h8
  have hB := h.hB
  exact ⟨h.bel.setCell (by show w.heap.size ≤ n8; omega) _, boff h.res n8 2 _ (by omega), bset h.out 2 (.slice (some ⟨g2, 0, none⟩) L'.length c2), own_low (own_set ho n8 2 _ (by omega)) (by omega), all_set h.av hB, all_set h.au hB, h8, hB, by simpa using h.hS⟩
end
theorem cells7 {w : World} {B g k : Nat} {l : List flH.Hd} {e : flH.Hd} (h : Row flH.c 7 w B (some ⟨g, 0, none⟩) l) (he : l[k]? = some e) : w.cell? ⟨g, k * 7 + 2, none⟩ = some (.int .i64 e.m.q) ∧ w.cell? ⟨g, k * 7 + 3, none⟩ = some (.string e.m.x) ∧ w.cell? ⟨g, k * 7 + 4, none⟩ = some (.string e.m.k) ∧ w.cell? ⟨g, k * 7 + 5, none⟩ = some (.string e.m.b) ∧ w.cell? ⟨g, k * 7 + 6, none⟩ = some (.bool e.m.a) := by
  rcases h with h0 | ⟨b', off', hh, hlt, hc⟩
  · rw [h0] at he; simp at he
  · cases hh
    have := fun j u (hj : (flH.c e)[j]? = some u) => hc k _ he j u hj
    simp only [Nat.zero_add] at this
    exact ⟨this 2 _ rfl, this 3 _ rfl, this 4 _ rfl, this 5 _ rfl, this 6 _ rfl⟩
theorem all_some {W : World} {B vc : Nat} {vb : Option Addr} {l : List flH.Hd} {e : flH.Hd} {k : Nat} (h : All W B (.slice vb l.length vc) l) (he : l[k]? = some e) : ∃ g, vb = some ⟨g, 0, none⟩ := by
  rcases h with ⟨h1, _⟩ | ⟨g, cap, h1, _⟩
  · rw [h1] at he; simp at he
  · exact ⟨g, (Value.slice.inj h1).1⟩
theorem backs_take {l : List flM.Ms} {GL : List flH.Hd} {k : Nat} {e : flH.Hd} (he : GL[k]? = some e) : backs l (GL.take (k + 1)) = back (backs l (GL.take k)) (again e) := by
  rw [List.take_add_one, he]
  exact backs_snoc _ _ _

set_option maxRecDepth 100000 in
set_option maxHeartbeats 4000000 in
theorem spec_ret (sn : ByteArray) (nx : Int) (es : List flM.Ms) (ms : List flH.Hd) (g h cg ch : Nat) (o t : Int) (a : Bool) (w : World) (F : Fit sn es ms) (hY : Row flM.c 5 w w.heap.size (some ⟨g, 0, none⟩) es) (hE : Row flH.c 7 w w.heap.size (some ⟨h, 0, none⟩) ms) :
    Calls Try.prog 19 #[.agg #[.string sn, .int .i64 nx, .slice (some ⟨g, 0, none⟩) es.length cg, .slice (some ⟨h, 0, none⟩) ms.length ch], .int .i64 o, .int .i64 t, .bool a] w fun e w' => ∃ sa ce sb cb, e = .returned (.tuple #[.agg #[.string sn, .int .i64 nx, .slice sa (ansR sn nx es ms o t a).length ce, .slice sb (ansH sn nx es ms o t a).length cb], .int .i64 (ansC sn nx es ms o t a)]) ∧ Row flM.c 5 w' w'.heap.size sa (ansR sn nx es ms o t a) ∧ Row flH.c 7 w' w'.heap.size sb (ansH sn nx es ms o t a) ∧ Below w.heap.size w w' := by
  have hWb : Below w.heap.size w ((w.alloc (.cells #[.string sn, .int .i64 nx, .slice (some ⟨g, 0, none⟩) es.length cg, .slice (some ⟨h, 0, none⟩) ms.length ch] 30)).alloc (.cells #[.string ⟨#[]⟩, .int .i64 0, .slice none 0 0, .slice none 0 0] 30)) := ((Below.refl _ _).alloc (Nat.le_refl _) _).alloc (by simp) _
  have hcopy := spec_copy sn nx es ms g h cg ch ((w.alloc (.cells #[.string sn, .int .i64 nx, .slice (some ⟨g, 0, none⟩) es.length cg, .slice (some ⟨h, 0, none⟩) ms.length ch] 30)).alloc (.cells #[.string ⟨#[]⟩, .int .i64 0, .slice none 0 0, .slice none 0 0] 30)) F (hY.inn hWb) (hE.inn hWb)
  have HF : Hid (Fit sn es ms) := F
  have HY : Hid (Row flM.c 5 w w.heap.size (some ⟨g, 0, none⟩) es) := hY
  have HE : Hid (Row flH.c 7 w w.heap.size (some ⟨h, 0, none⟩) ms) := hE
  have HAH : Hid (ansH sn nx es ms o t a = if okB sn nx es ms = true then left o t a ms else ms) := rfl
  have HAR : Hid (ansR sn nx es ms o t a = if okB sn nx es ms = true then backs es (gone o t a ms) else es) := rfl
  have HAC : Hid (ansC sn nx es ms o t a = if okB sn nx es ms = true then ((gone o t a ms).length : Int) else 0) := rfl
  obtain ⟨AH, hAH⟩ : ∃ AH, ansH sn nx es ms o t a = AH := ⟨_, rfl⟩
  obtain ⟨AC, hAC⟩ : ∃ AC, ansC sn nx es ms o t a = AC := ⟨_, rfl⟩
  obtain ⟨AR, hAR⟩ : ∃ AR, ansR sn nx es ms o t a = AR := ⟨_, rfl⟩
  rw [hAR] at HAR
  rw [hAH] at HAH
  rw [hAC] at HAC
  simp only [hAH, hAC, hAR]
  clear hY hE F hAH hAC hAR
  go_enter Try.func19, Try.ntmps19
  go_wp2_with (go_at_call 23; fail)
  refine hcopy.mono ?_
  rintro e w1 ⟨g1, c1, h1, c2, rfl, oe1, om1, _, hb1⟩
  have hs := first_out sn nx es ms g h cg ch w w1 g1 c1 h1 c2 hb1 oe1 om1
  obtain ⟨X, hX⟩ : ∃ X, w1.alloc (.cells #[.string sn, .int .i64 nx, .slice (some ⟨g1, 0, none⟩) es.length c1, .slice (some ⟨h1, 0, none⟩) ms.length c2] 30) = X := ⟨_, rfl⟩
  rw [hX] at hs
  have HSP : Hid (SP w sn nx es ms g h cg ch w1.heap.size nx g1 c1 h1 c2 es X) := hs
  have x0 : X.cell? ⟨w.heap.size, 0, none⟩ = some (.string sn) := bcell hs.box rfl
  have x2 : X.cell? ⟨w.heap.size, 1, none⟩ = some (.int .i64 nx) := bcell hs.box rfl
  have x3 : X.cell? ⟨w.heap.size, 2, none⟩ = some (.slice (some ⟨g, 0, none⟩) es.length cg) := bcell hs.box rfl
  have x4 : X.cell? ⟨w.heap.size, 3, none⟩ = some (.slice (some ⟨h, 0, none⟩) ms.length ch) := bcell hs.box rfl
  have hok := spec_okb sn nx es ms g h cg ch X HF.out (HY.out.inn hs.bel) (HE.out.inn hs.bel)
  clear hcopy oe1 om1 hb1 hWb hs
  cases hob : okB sn nx es ms with
  | false =>
    rw [hob] at hok HAH HAC HAR
    obtain rfl : ms = AH := HAH.out.symm
    obtain rfl : es = AR := HAR.out.symm
    obtain rfl : (0 : Int) = AC := HAC.out.symm
    go_wp2_with (go_at_call 24; fail)
    clear hX
    refine hok.mono ?_
    rintro e w2 ⟨rfl, hb2⟩
    have hs := HSP.out.on hb2
    have HS2 : Hid (SP w sn nx es ms g h cg ch w1.heap.size nx g1 c1 h1 c2 es w2) := hs
    have n0 : w2.cell? ⟨w1.heap.size, 0, none⟩ = some (.string sn) := bcell hs.out rfl
    have n2 : w2.cell? ⟨w1.heap.size, 1, none⟩ = some (.int .i64 nx) := bcell hs.out rfl
    have n3 : w2.cell? ⟨w1.heap.size, 2, none⟩ = some (.slice (some ⟨g1, 0, none⟩) es.length c1) := bcell hs.out rfl
    have n4 : w2.cell? ⟨w1.heap.size, 3, none⟩ = some (.slice (some ⟨h1, 0, none⟩) ms.length c2) := bcell hs.out rfl
    have z0 : w2.cell? ⟨w.heap.size + 1, 0, none⟩ = some (.string ⟨#[]⟩) := bcell hs.res rfl
    have z2 : w2.cell? ⟨w.heap.size + 1, 1, none⟩ = some (.int .i64 0) := bcell hs.res rfl
    have z3 : w2.cell? ⟨w.heap.size + 1, 2, none⟩ = some (.slice none 0 0) := bcell hs.res rfl
    have z4 : w2.cell? ⟨w.heap.size + 1, 3, none⟩ = some (.slice none 0 0) := bcell hs.res rfl
    have z0f := bfree hs.res 0
    have z2f := bfree hs.res 1
    have z3f := bfree hs.res 2
    have z4f := bfree hs.res 3
    clear hok hs HSP x0 x2 x3 x4
    go_wp2
    refine bodyPost_ret (v := .tuple #[.agg #[.string sn, .int .i64 nx, .slice (some ⟨g1, 0, none⟩) es.length c1, .slice (some ⟨h1, 0, none⟩) ms.length c2], .int .i64 0]) (by simp [results, Try.results19, go_sem, z0, z2, z3, z4]) rfl ⟨_, _, _, _, rfl, ?_, ?_, ?_⟩
    · exact fin_row flM.c_len HS2.out.oe
    · exact fin_row flH.c_len HS2.out.om
    · exact fin_below HS2.out.bel (Nat.le_succ _)
  | true =>
    rw [hob] at hok HAH HAC HAR
    go_wp2_with (go_at_call 24; fail)
    clear hX
    refine hok.mono ?_
    rintro e w2 ⟨rfl, hb2⟩
    have hs := HSP.out.on hb2
    have HS2 : Hid (SP w sn nx es ms g h cg ch w1.heap.size nx g1 c1 h1 c2 es w2) := hs
    clear x0 x2 x3 x4
    have x0 : w2.cell? ⟨w.heap.size, 0, none⟩ = some (.string sn) := bcell hs.box rfl
    have x2 : w2.cell? ⟨w.heap.size, 1, none⟩ = some (.int .i64 nx) := bcell hs.box rfl
    have x3 : w2.cell? ⟨w.heap.size, 2, none⟩ = some (.slice (some ⟨g, 0, none⟩) es.length cg) := bcell hs.box rfl
    have x4 : w2.cell? ⟨w.heap.size, 3, none⟩ = some (.slice (some ⟨h, 0, none⟩) ms.length ch) := bcell hs.box rfl
    have htk := spec_take sn nx (some ⟨g, 0, none⟩) es.length cg ms h ch o t a w2 HF.out.ml (HE.out.inn hs.bel)
    have hw1 : w1.heap.size < w2.heap.size := (Array.getElem?_eq_some_iff.1 hs.out).1
    have h8 := hs.h8
    clear hok hs HSP
    go_wp2_with (go_at_call 45; fail)
    refine htk.mono ?_
    rintro e w3 ⟨v, u, rfl, hk⟩
    obtain ⟨GL, hGL⟩ : ∃ GL, gone o t a ms = GL := ⟨_, rfl⟩
    obtain ⟨LL, hLL⟩ : ∃ LL, left o t a ms = LL := ⟨_, rfl⟩
    have HAH2 : Hid (AH = left o t a ms) := HAH.out
    have HAC2 : Hid (AC = ((gone o t a ms).length : Int)) := HAC.out
    rw [hLL] at hk HAH2
    rw [hGL] at hk HAC2
    obtain rfl : AH = LL := HAH2.out
    obtain rfl : AC = (GL.length : Int) := HAC2.out
    have HAR2 : Hid (AR = backs es (gone o t a ms)) := HAR.out
    rw [hGL] at HAR2
    have HGLE : Hid (GL.length ≤ ms.length) := by show GL.length ≤ ms.length; rw [← hGL]; exact gone_le o t a ms
    have hln := (okB_true.1 hob).ln
    obtain ⟨vb, vc, rfl⟩ := hk.av.form
    obtain ⟨ub, uc, rfl⟩ := hk.au.form
    have hs := HS2.out.on hk.bel
    have hne1 : w1.heap.size ≠ w.heap.size + 1 := by omega
    have hne2 : w.heap.size + 1 ≠ w1.heap.size := by omega
    have n4 : w3.cell? ⟨w1.heap.size, 3, none⟩ = some (.slice (some ⟨h1, 0, none⟩) ms.length c2) := bcell hs.out rfl
    have n4f := bfree hs.out 3
    have hgne : g1 ≠ w1.heap.size := owns_ne (by decide) hs.oe hs.out
    have HR0 : Hid (RT w sn nx w1.heap.size w2.heap.size g1 c1 (backs es (GL.take 0)) vb ub vc uc GL AH (w3.setCell ⟨w1.heap.size, 3, none⟩ (.slice ub AH.length uc))) := ⟨hs.bel.setCell (by show w.heap.size ≤ w1.heap.size; omega) _, boff hs.res _ _ _ hne2, bset hs.out 3 _, owns_set hs.oe hgne _, all_set hk.av hw1, all_set hk.au hw1, h8, hw1, by simpa using hk.lo⟩
    clear htk hk hs x0 x2 x3 x4 hGL hLL HAH HAC HAR HAH2 HAC2 HS2
    go_wp2
    go_loopw [13] (fun v wr => ∃ k : Nat, k ≤ GL.length ∧ v = .int .i64 k ∧ ∃ g3 c3, Hid (RT w sn nx w1.heap.size w2.heap.size g3 c3 (backs es (GL.take k)) vb ub vc uc GL AH wr)) (fun v _ => GL.length - (intOf v).toNat)
    case atStart => exact ⟨0, Nat.zero_le _, rfl, _, _, HR0⟩
    case round =>
      obtain ⟨k, hk, rfl, g3, c3, hR⟩ := hrel
      clear HR0 n4 n4f
      have hlL : Hid ((backs es (GL.take k)).length = es.length + k) := by show (backs es (GL.take k)).length = es.length + k; rw [backs_len, List.length_take, Nat.min_eq_left hk]
      have hSz := hR.out.hS
      have hgl := HGLE.out
      by_cases hkl : k < GL.length
      · have i2 : (k : Int) < (GL.length : Int) := by omega
        have HG : Hid (GL[k]? = some GL[k]) := List.getElem?_eq_getElem hkl
        obtain ⟨⟨ht, ho, ⟨q, x, y, z, ag⟩⟩, he⟩ : ∃ e, GL[k] = e := ⟨_, rfl⟩
        rw [he] at HG
        obtain ⟨b0, rfl⟩ := all_some hR.out.av HG.out
        obtain ⟨k2, k3, k4, k5, k6⟩ := cells7 hR.out.av.row HG.out
        have HBT : Hid (backs es (GL.take (k + 1)) = back (backs es (GL.take k)) ⟨q, x, y, z, true⟩) := backs_take HG.out
        obtain ⟨LK, hLK⟩ : ∃ LK, backs es (GL.take k) = LK := ⟨_, rfl⟩
        rw [hLK] at hR hlL HBT
        have hst : Below wr.heap.size wr (wr.alloc (.cells #[.int .i64 q, .string x, .string y, .string z, .bool true] 38)) := (Below.refl _ _).alloc (Nat.le_refl _) _
        have hbk := qbs.spec_back LK g3 c3 ⟨q, x, y, z, true⟩ _ (by have := hlL.out; omega) hR.out.cap ((row_owns flM.c_len hR.out.oe).inn hst)
        have HRW : Hid (RT w sn nx w1.heap.size w2.heap.size g3 c3 LK (some ⟨b0, 0, none⟩) ub vc uc GL AH (wr.alloc (.cells #[.int .i64 q, .string x, .string y, .string z, .bool true] 38))) := hR.out.on hst
        have o2 : wr.cell? ⟨w1.heap.size, 2, none⟩ = some (.slice (some ⟨g3, 0, none⟩) LK.length c3) := bcell hR.out.out rfl
        have hw18 : w1.heap.size < wr.heap.size := by omega
        have hne5 : w1.heap.size ≠ wr.heap.size := by omega
        have hne6 : wr.heap.size ≠ w1.heap.size := by omega
        have hBB : b0 < wr.heap.size := by
          rcases hR.out.av with ⟨h1, _⟩ | ⟨g9, cap9, h1, ho9⟩
          · rw [h1] at hkl; simp at hkl
          · have := (Value.slice.inj h1).1
            cases this
            exact (ho9.lt _ rfl).2
        clear he hLK hst
        go_wp2_with (go_at_call 47; fail)
        refine hbk.mono ?_
        rintro e w4 ⟨g4, c4, rfl, how, hb4⟩
        have hR4 := HRW.out.on hb4
        have o3 : w4.cell? ⟨w1.heap.size, 2, none⟩ = some (.slice (some ⟨g3, 0, none⟩) LK.length c3) := bcell hR4.out rfl
        have o3f := bfree hR4.out 2
        have hRN := hR4.put how HRW.out.hS
        rw [← HBT.out] at hRN
        have HRN : Hid (RT w sn nx w1.heap.size w2.heap.size g4 c4 (backs es (GL.take (k + 1))) (some ⟨b0, 0, none⟩) ub vc uc GL AH (w4.setCell ⟨w1.heap.size, 2, none⟩ (.slice (some ⟨g4, 0, none⟩) (backs es (GL.take (k + 1))).length c4))) := hRN
        rw [← HBT.out]
        clear hbk how hR4 hRN o2 k2 k3 k4 k5 k6 HRW hR
        go_wp2
        go_roundw
        case rel => exact ⟨k + 1, by omega, by go_num, _, _, HRN⟩
        case measure => simp [intOf]; omega
      · obtain rfl : k = GL.length := by omega
        rw [List.take_length] at hR hlL
        rw [← HAR2.out] at hR
        have n0 : wr.cell? ⟨w1.heap.size, 0, none⟩ = some (.string sn) := bcell hR.out.out rfl
        have n2 : wr.cell? ⟨w1.heap.size, 1, none⟩ = some (.int .i64 nx) := bcell hR.out.out rfl
        have n3 : wr.cell? ⟨w1.heap.size, 2, none⟩ = some (.slice (some ⟨g3, 0, none⟩) AR.length c3) := bcell hR.out.out rfl
        have n4 : wr.cell? ⟨w1.heap.size, 3, none⟩ = some (.slice ub AH.length uc) := bcell hR.out.out rfl
        have z0 : wr.cell? ⟨w.heap.size + 1, 0, none⟩ = some (.string ⟨#[]⟩) := bcell hR.out.res rfl
        have z2 : wr.cell? ⟨w.heap.size + 1, 1, none⟩ = some (.int .i64 0) := bcell hR.out.res rfl
        have z3 : wr.cell? ⟨w.heap.size + 1, 2, none⟩ = some (.slice none 0 0) := bcell hR.out.res rfl
        have z4 : wr.cell? ⟨w.heap.size + 1, 3, none⟩ = some (.slice none 0 0) := bcell hR.out.res rfl
        have z0f := bfree hR.out.res 0
        have z2f := bfree hR.out.res 1
        have z3f := bfree hR.out.res 2
        have z4f := bfree hR.out.res 3
        clear hlL HAR2
        go_wp2
        refine bodyPost_ret (v := .tuple #[.agg #[.string sn, .int .i64 nx, .slice (some ⟨g3, 0, none⟩) AR.length c3, .slice ub AH.length uc], .int .i64 GL.length]) (by simp [results, Try.results19, go_sem, z0, z2, z3, z4]) rfl ⟨_, _, _, _, rfl, ?_, ?_, ?_⟩
        · exact fin_row flM.c_len hR.out.oe
        · exact fin_all (B := w2.heap.size) hR.out.au (by omega)
        · exact fin_below hR.out.bel (Nat.le_succ _)
end Go.Proofs.Ytdondjnihonacaa.qrs
