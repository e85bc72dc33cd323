/- The program's Drop: as the specification's, its answer in rows of its own. -/
import Derived.Test.YtnlcmheahihlpaaQw17
import Derived.Test.YtnlcmheahihlpaaQw07
import Derived.Test.YtnlcmheahihlpaaQw16
import Derived.Test.YtnlcmheahihlpaaQDropSpec

/- The laws' marks in queues: laid, and held. -/
namespace Go.Proofs.Ytnlcmheahihlpaa.qms
open Go.ChangeShapes Go.WideShapes Go.ChangeAt Go.RowKit Go.Proofs.Ytnlcmheahihlpaa.fl Go.Proofs.Ytnlcmheahihlpaa.fo
set_option linter.unusedVariables false

end Go.Proofs.Ytnlcmheahihlpaa.qms

/- The laws' marks in queues whose held ones may be nothing at all. -/
namespace Go.Proofs.Ytnlcmheahihlpaa.qhn
open Go.ChangeShapes Go.WideShapes Go.ChangeAt Go.RowKit Go.Proofs.Ytnlcmheahihlpaa.fl Go.Proofs.Ytnlcmheahihlpaa.fo
set_option linter.unusedVariables false

/-- held ones of their own, at the block h if there are any -/
def HO (w : World) (h : Nat) (ao : Option Addr) (l : List flH.Hd) : Prop := l = [] ∨ (ao = some ⟨h, 0, none⟩ ∧ OwnO flH.c 7 55 w h 0 l l.length)
theorem HO.below {w w' : World} {h : Nat} {ao : Option Addr} {l : List flH.Hd} (hh : HO w h ao l) (hb : Below w.heap.size w w') : HO w' h ao l := by
  rcases hh with e | ⟨e, ho⟩
  · exact .inl e
  · exact .inr ⟨e, ho.below hb ho.lt⟩
theorem HO.kept {w w' : World} {h : Nat} {ao : Option Addr} {l : List flH.Hd} (hh : HO w h ao l) (hb : h < w.heap.size → w'.heap[h]? = w.heap[h]?) : HO w' h ao l := by
  rcases hh with e | ⟨e, ho⟩
  · exact .inl e
  · exact .inr ⟨e, ho.kept (hb ho.lt)⟩
theorem HO.row {w : World} {h : Nat} {ao : Option Addr} {l : List flH.Hd} (hh : HO w h ao l) : Row flH.c 7 w w.heap.size ao l := by
  rcases hh with e | ⟨e, ho⟩
  · exact .inl e
  · rw [e]; exact ho.row
theorem HO.nil {w : World} {h : Nat} {ao : Option Addr} {l : List flH.Hd} (hl : l = []) : HO w h ao l := .inl hl

end Go.Proofs.Ytnlcmheahihlpaa.qhn

/- The program's Drop: as the specification's, its answer in rows of its own. -/
namespace Go.Proofs.Ytnlcmheahihlpaa.qdi
open Go.ChangeShapes Go.WideShapes Go.ChangeAt Go.RowKit Go.Proofs.Ytnlcmheahihlpaa.fl Go.Proofs.Ytnlcmheahihlpaa.fo Go.Proofs.Ytnlcmheahihlpaa.qit Go.Proofs.Ytnlcmheahihlpaa.qst Go.Proofs.Ytnlcmheahihlpaa.qpu Go.Proofs.Ytnlcmheahihlpaa.qpo Go.Proofs.Ytnlcmheahihlpaa.qop Go.Proofs.Ytnlcmheahihlpaa.qcl Go.Proofs.Ytnlcmheahihlpaa.qsp Go.Proofs.Ytnlcmheahihlpaa.qdp Go.Proofs.Ytnlcmheahihlpaa.qpi Go.Proofs.Ytnlcmheahihlpaa.qhn
set_option linter.unusedVariables false

theorem impl_take (hb : Nat) (v0 : Value) (nm : ByteArray) (nx : Int) (ms : List flH.Hd) (b0 bc : Nat) (o t : Int) (a : Bool) (w : World) (hml : ms.length ≤ 1048576) (hX : w.heap[hb]? = some (.cells #[v0, .string nm, .int .i64 nx, .slice (some ⟨b0, 0, none⟩) ms.length bc] 82 (0, 0))) (hB : Row flH.c 7 w w.heap.size (some ⟨b0, 0, none⟩) ms) :
    Calls Try.prog 23 #[.pointer (some ⟨hb, 0, none⟩), .int .i64 o, .int .i64 t, .bool a] w fun e w' => ∃ v u wr, e = .returned v ∧ Tk w w.heap.size v u (gone o t a ms) (left o t a ms) wr ∧ w' = wr.setCell ⟨hb, 3, none⟩ u := by
  cases a
  · exact qti.impl_take_false hb v0 nm nx ms b0 bc o t w hml hX hB
  · exact qti.impl_take_true hb v0 nm nx ms b0 bc o t w hml hX hB
/-- an open queue, its held ones another row -/
theorem sg_held {W0 w wr : World} {hb g cap : Nat} {nm : ByteArray} {nx : Int} {ha ub : Option Addr} {hn hc un uc : Nat} {L : List flM.Ms} (h : SG W0 hb ⟨nm, nx, ha, hn, hc⟩ g cap L w) (hb' : Below w.heap.size w wr) : SG W0 hb ⟨nm, nx, ub, un, uc⟩ g cap L (wr.setCell ⟨hb, 3, none⟩ (.slice ub un uc)) := by
  have h2 := h.on hb'
  exact ⟨h2.bel.setCell h.hbB _, h.hbB, h.gB, h.ne, bset h2.box 3 (.slice ub un uc), h2.row.below (Below.heap_setCell _ _ _ g (by show g ≠ hb; exact h.ne)), h.fits⟩
theorem all_ho {w : World} {B b : Nat} {ub : Option Addr} {uc gr : Nat} {l : List flH.Hd} (h : All w B (.slice ub l.length uc) l) (hg : w.heap.size ≤ gr) (hb : b < w.heap.size) : ∃ k, (B ≤ k ∨ k = b) ∧ gr ≠ k ∧ HO w k ub l ∧ k < w.heap.size := by
  rcases h with ⟨e, _⟩ | ⟨k, cap, e, ho⟩
  · exact ⟨b, .inr rfl, by omega, .inl e, hb⟩
  · have hlt := ho.lt k rfl
    cases e
    exact ⟨k, .inl hlt.1, by omega, .inr ⟨rfl, owns_ownO flH.c_len ho⟩, hlt.2⟩
/-- the answer -/
def PD (w : World) (nm : ByteArray) (nv : Int) (L : List flM.Ms) (ms : List flH.Hd) (f : Int) (e : Ending) (w' : World) : Prop := ∃ g ce h ao cb, e = .returned (.tuple #[.agg #[.string nm, .int .i64 nv, .slice (some ⟨g, 0, none⟩) L.length ce, .slice ao ms.length cb], .int .i64 f]) ∧ w.heap.size ≤ g ∧ w.heap.size ≤ h ∧ g ≠ h ∧ h < w'.heap.size ∧ OwnO flM.c 5 41 w' g 0 L L.length ∧ HO w' h ao ms ∧ Below w.heap.size w w'

set_option maxRecDepth 100000 in
set_option maxHeartbeats 4000000 in
theorem impl_drop (nm : ByteArray) (nx : Int) (es : List flM.Ms) (ms : List flH.Hd) (a0 b0 : Option Addr) (ec bc : Nat) (o t : Int) (a : Bool) (w : World) (F : Fit nm es ms) (hE : Row flM.c 5 w w.heap.size a0 es) (hB : Row flH.c 7 w w.heap.size b0 ms) :
    Calls Try.prog 8 #[.agg #[.string nm, .int .i64 nx, .slice a0 es.length ec, .slice b0 ms.length bc], .int .i64 o, .int .i64 t, .bool a] w fun e w' => PD w nm nx es (ansH nm nx es ms o t a) (ansC nm nx es ms o t a) e w' := by
  have hWb : Below w.heap.size w ((w.alloc (.cells #[.string nm, .int .i64 nx, .slice a0 es.length ec, .slice b0 ms.length bc] 27)).alloc (.cells #[.string ⟨#[]⟩, .int .i64 0, .slice none 0 0, .slice none 0 0] 27)) := ((Below.refl _ _).alloc (Nat.le_refl _) _).alloc (by simp) _
  have hA := bold (bnew w #[.string nm, .int .i64 nx, .slice a0 es.length ec, .slice b0 ms.length bc] 27) (.cells #[.string ⟨#[]⟩, .int .i64 0, .slice none 0 0, .slice none 0 0] 27)
  have hR := bnew (w.alloc (.cells #[.string nm, .int .i64 nx, .slice a0 es.length ec, .slice b0 ms.length bc] 27)) #[.string ⟨#[]⟩, .int .i64 0, .slice none 0 0, .slice none 0 0] 27
  rw [World.size_alloc] at hR
  obtain ⟨W, hW⟩ : ∃ W, (w.alloc (.cells #[.string nm, .int .i64 nx, .slice a0 es.length ec, .slice b0 ms.length bc] 27)).alloc (.cells #[.string ⟨#[]⟩, .int .i64 0, .slice none 0 0, .slice none 0 0] 27) = W := ⟨_, rfl⟩
  have hWs : W.heap.size = w.heap.size + 2 := by rw [← hW]; simp
  rw [hW] at hWb hA hR
  have HA : Hid (W.heap[w.heap.size]? = some (.cells #[.string nm, .int .i64 nx, .slice a0 es.length ec, .slice b0 ms.length bc] 27 (0, 0))) := hA
  have HR : Hid (W.heap[w.heap.size + 1]? = some (.cells #[.string ⟨#[]⟩, .int .i64 0, .slice none 0 0, .slice none 0 0] 27 (0, 0))) := hR
  have HE : Hid (Row flM.c 5 W W.heap.size a0 es) := hE.inn hWb
  have HB : Hid (Row flH.c 7 W W.heap.size b0 ms) := hB.inn hWb
  have HF : Hid (Fit nm es ms) := F
  have BX : Hid (∀ V, Below W.heap.size W V → (V.cell? ⟨w.heap.size, 0, none⟩ = some (.string nm) ∧ V.cell? ⟨w.heap.size, 1, none⟩ = some (.int .i64 nx) ∧ V.cell? ⟨w.heap.size, 2, none⟩ = some (.slice a0 es.length ec) ∧ V.cell? ⟨w.heap.size, 3, none⟩ = some (.slice b0 ms.length bc)) ∧ (V.cell? ⟨w.heap.size + 1, 0, none⟩ = some (.string ⟨#[]⟩) ∧ V.cell? ⟨w.heap.size + 1, 1, none⟩ = some (.int .i64 0) ∧ V.cell? ⟨w.heap.size + 1, 2, none⟩ = some (.slice none 0 0) ∧ V.cell? ⟨w.heap.size + 1, 3, none⟩ = some (.slice none 0 0)) ∧ V.frozen? ⟨w.heap.size + 1, 0, none⟩ = false ∧ V.frozen? ⟨w.heap.size + 1, 1, none⟩ = false ∧ V.frozen? ⟨w.heap.size + 1, 2, none⟩ = false ∧ V.frozen? ⟨w.heap.size + 1, 3, none⟩ = false) := fun V hV => by
    have a := bstay HA.out hV (by omega)
    have r := bstay HR.out hV (by omega)
    exact ⟨⟨bcell a rfl, bcell a rfl, bcell a rfl, bcell a rfl⟩, ⟨bcell r rfl, bcell r rfl, bcell r rfl, bcell r rfl⟩, bfree r 0, bfree r 1, bfree r 2, bfree r 3⟩
  have hok := impl_okb nm nx es ms _ _ ec bc W F HE.out HB.out
  have CP : Hid (∀ V, Below W.heap.size W V → Calls Try.prog 21 #[.agg #[.string nm, .int .i64 nx, .slice a0 es.length ec, .slice b0 ms.length bc]] V fun r w' => ∃ g h, r = .returned (.agg #[.string nm, .int .i64 nx, .slice (some ⟨g, 0, none⟩) es.length es.length, .slice (some ⟨h, 0, none⟩) ms.length ms.length]) ∧ V.heap.size ≤ g ∧ V.heap.size ≤ h ∧ g ≠ h ∧ Own flM.c 5 41 w' g es es.length ∧ Own flH.c 7 55 w' h ms ms.length ∧ Below V.heap.size V w') := fun V hV => cqu.copy_queue nm nx es ms a0 b0 ec bc V F.ns F.el F.ml F.eb F.mb (HE.out.inn hV) (HB.out.inn hV)
  have HAH : Hid (ansH nm nx es ms o t a = if okB nm nx es ms = true then left o t a ms else ms) := rfl
  have HAC : Hid (ansC nm nx es ms o t a = if okB nm nx es ms = true then ((gone o t a ms).length : Int) else 0) := rfl
  obtain ⟨AH, hAH⟩ : ∃ AH, ansH nm nx es ms o t a = AH := ⟨_, rfl⟩
  obtain ⟨AC, hAC⟩ : ∃ AC, ansC nm nx es ms o t a = AC := ⟨_, rfl⟩
  rw [hAH] at HAH
  rw [hAC] at HAC
  simp only [hAH, hAC]
  obtain ⟨⟨x0, x1, x2, x3⟩, _, _⟩ := BX.out W (Below.refl _ _)
  clear hE hB hA hR F hAH hAC
  go_enter Try.func8, Try.ntmps8
  go_wp2_with (go_at_call 11; fail)
  clear hW
  refine hok.mono ?_
  rintro e w1 ⟨rfl, hb1⟩
  obtain ⟨ob, hob⟩ : ∃ ob, okB nm nx es ms = ob := ⟨_, rfl⟩
  rw [hob]
  obtain ⟨⟨x0, x1, x2, x3⟩, ⟨z0, z1, z2, z3⟩, f0, f1, f2, f3⟩ := BX.out w1 hb1
  rw [hob] at HAH HAC
  cases ob with
  | false =>
    obtain rfl : ms = AH := HAH.out.symm
    obtain rfl : (0 : Int) = AC := HAC.out.symm
    have hcq := CP.out w1 hb1
    clear hok hob HAH HAC
    go_wp2_with (go_at_call 21; fail)
    clear x0 x1 x2 x3 z0 z1 z2 z3 f0 f1 f2 f3
    refine hcq.mono ?_
    rintro e w2 ⟨g, h, rfl, hg, hh, hgh, oe, om, hb2⟩
    have hB2 : Below W.heap.size W w2 := hb1.trans (hb2.mono hb1.size)
    obtain ⟨_, ⟨z0, z1, z2, z3⟩, f0, f1, f2, f3⟩ := BX.out w2 hB2
    have hs1 := hb1.size
    have hgl := oe.lt
    have hhl := om.lt
    have HFN : Hid (OwnO flM.c 5 41 w2 g 0 es es.length ∧ OwnO flH.c 7 55 w2 h 0 ms ms.length ∧ Below w.heap.size w w2) := ⟨of_own oe, of_own om, hWb.trans (hB2.mono hWb.size)⟩
    clear hcq oe om hb2 hB2
    go_wp2
    refine bodyPost_ret (v := .tuple #[.agg #[.string nm, .int .i64 nx, .slice (some ⟨g, 0, none⟩) es.length es.length, .slice (some ⟨h, 0, none⟩) ms.length ms.length], .int .i64 0]) (by simp [results, Try.results8, go_sem, z0, z1, z2, z3]) rfl ⟨g, _, h, _, _, rfl, by omega, by omega, hgh, by simp only [World.size_setCell]; omega, ?_, ?_, ?_⟩
    · exact (((HFN.out.1.kept (Below.heap_setCell _ _ _ _ (by show g ≠ w.heap.size + 1; omega))).kept (Below.heap_setCell _ _ _ _ (by show g ≠ w.heap.size + 1; omega))).kept (Below.heap_setCell _ _ _ _ (by show g ≠ w.heap.size + 1; omega))).kept (Below.heap_setCell _ _ _ _ (by show g ≠ w.heap.size + 1; omega))
    · exact .inr ⟨rfl, (((HFN.out.2.1.kept (Below.heap_setCell _ _ _ _ (by show h ≠ w.heap.size + 1; omega))).kept (Below.heap_setCell _ _ _ _ (by show h ≠ w.heap.size + 1; omega))).kept (Below.heap_setCell _ _ _ _ (by show h ≠ w.heap.size + 1; omega))).kept (Below.heap_setCell _ _ _ _ (by show h ≠ w.heap.size + 1; omega))⟩
    · exact (((HFN.out.2.2.setCell (by show w.heap.size ≤ w.heap.size + 1; omega) _).setCell (by show w.heap.size ≤ w.heap.size + 1; omega) _).setCell (by show w.heap.size ≤ w.heap.size + 1; omega) _).setCell (by show w.heap.size ≤ w.heap.size + 1; omega) _
  | true =>
    have HOK : Hid (qk.OkQ nm nx es ms) := okB_true.1 hob
    have hln := HOK.out.ln
    have hop := open_of nm nx es ms a0 b0 ec bc w1 HF.out.ns HF.out.el HF.out.ml HF.out.eb HF.out.mb (HE.out.inn hb1) (HB.out.inn hb1)
    clear hok
    go_wp2_with (go_at_call 22; fail)
    refine hop.mono ?_
    rintro e w2 ⟨hb, g, h, rfl, hsg, om, hh, hhb⟩
    have hb2 := hsg.bel
    have hB2 : Below W.heap.size W w2 := hb1.trans (hb2.mono hb1.size)
    have HSG : Hid (SG w1 hb ⟨nm, nx, some ⟨h, 0, none⟩, ms.length, ms.length⟩ g es.length es w2) := hsg
    have hhB : w1.heap.size ≤ hb := hsg.hbB
    have hgB : w1.heap.size ≤ g := hsg.gB
    have hbl2 : hb < w2.heap.size := (Array.getElem?_eq_some_iff.1 hsg.box).1
    have hgl2 : g < w2.heap.size := by obtain ⟨cur, h1, _⟩ := hsg.row; exact (Array.getElem?_eq_some_iff.1 h1).1
    have htk := impl_take hb _ nm nx ms h ms.length o t a w2 HF.out.ml hsg.box om.row
    clear hop x0 x1 x2 x3 z0 z1 z2 z3 f0 f1 f2 f3 hsg om
    go_wp2_with (go_at_call 23; fail)
    refine htk.mono ?_
    rintro e w3 ⟨v, u, wr, rfl, hk, hw3⟩
    have HAH2 : Hid (AH = left o t a ms) := HAH.out
    have HAC2 : Hid (AC = ((gone o t a ms).length : Int)) := HAC.out
    obtain ⟨GL, hGL⟩ : ∃ GL, gone o t a ms = GL := ⟨_, rfl⟩
    obtain ⟨LL, hLL⟩ : ∃ LL, left o t a ms = LL := ⟨_, rfl⟩
    rw [hLL] at hk HAH2
    rw [hGL] at hk HAC2
    obtain rfl : AH = LL := HAH2.out
    obtain rfl : AC = (GL.length : Int) := HAC2.out
    obtain ⟨vb, vc, rfl⟩ := hk.av.form
    obtain ⟨ub, uc, rfl⟩ := hk.au.form
    have hsg3 : SG w1 hb ⟨nm, nx, ub, AH.length, uc⟩ g es.length es w3 := by rw [hw3]; exact sg_held HSG.out hk.bel
    have hau : All w3 w2.heap.size (.slice ub AH.length uc) AH := by rw [hw3]; exact qds.all_set hk.au hbl2
    have hcl := closed_run w1 ⟨nm, nx, ub, AH.length, uc⟩ hb g es.length es w3 hsg3 (by omega) (sorted_heap HOK.out.ru)
    have HAU : Hid (All w3 w2.heap.size (.slice ub AH.length uc) AH) := hau
    have hb13 := hsg3.bel
    have hs23 : w2.heap.size ≤ w3.heap.size := by rw [hw3]; simpa using hk.lo
    clear htk hk hw3 hGL hLL HAH HAC HAH2 HAC2 hau hsg3
    go_wp2_with (go_at_call 25; fail)
    refine hcl.mono ?_
    rintro e w6 ⟨R, gr, cr, rfl, hRp, hRs, hRo, hkq⟩
    have hRe : R = es := sort_uniq hRp hRs HOK.out.ru
    obtain rfl := hRe.symm
    have hb16 : Below w1.heap.size w1 w6 := ⟨hkq.os.trans hb13.os, hkq.tape.trans hb13.tape, hkq.output.trans hb13.output, Nat.le_trans hb13.size hkq.size, fun q hq => (hkq.block q (Nat.lt_of_lt_of_le hq hb13.size) (by omega) (by omega)).trans (hb13.block q hq)⟩
    have hgr : w3.heap.size ≤ gr ∧ gr < w6.heap.size := hRo.lt gr rfl
    obtain ⟨h6, hh1, hh2, hho, hh3⟩ := all_ho (b := w.heap.size) HAU.out hgr.1 (by have := hb1.size; have := hb2.size; omega)
    have hs1 := hb1.size
    have hs12 := hb2.size
    have hs36 := hkq.size
    have hB6 : Below W.heap.size W w6 := hb1.trans (hb16.mono hs1)
    have HFN : Hid (OwnO flM.c 5 41 w6 gr 0 es es.length ∧ HO w6 h6 ub AH ∧ Below w.heap.size w w6) := ⟨owns_ownO flM.c_len hRo, hho.kept (fun hlt => hkq.block h6 hlt (by omega) (by omega)), hWb.trans (hB6.mono hWb.size)⟩
    obtain ⟨_, ⟨z0, z1, z2, z3⟩, f0, f1, f2, f3⟩ := BX.out w6 hB6
    clear hcl hRp hRs hRo hkq hho hb16 hb13 hB6 HAU HSG HOK hob
    go_wp2
    refine bodyPost_ret (v := .tuple #[.agg #[.string nm, .int .i64 nx, .slice (some ⟨gr, 0, none⟩) es.length cr, .slice ub AH.length uc], .int .i64 GL.length]) (by simp [results, Try.results8, go_sem, z0, z1, z2, z3]) rfl ⟨gr, _, h6, _, _, rfl, by omega, by omega, hh2, by simp only [World.size_setCell]; omega, ?_, ?_, ?_⟩
    · exact ((((HFN.out.1).kept (Below.heap_setCell _ _ _ _ (by show gr ≠ w.heap.size + 1; omega))).kept (Below.heap_setCell _ _ _ _ (by show gr ≠ w.heap.size + 1; omega))).kept (Below.heap_setCell _ _ _ _ (by show gr ≠ w.heap.size + 1; omega))).kept (Below.heap_setCell _ _ _ _ (by show gr ≠ w.heap.size + 1; omega))
    · exact ((((HFN.out.2.1).kept (fun _ => Below.heap_setCell _ _ _ _ (by show h6 ≠ w.heap.size + 1; omega))).kept (fun _ => Below.heap_setCell _ _ _ _ (by show h6 ≠ w.heap.size + 1; omega))).kept (fun _ => Below.heap_setCell _ _ _ _ (by show h6 ≠ w.heap.size + 1; omega))).kept (fun _ => Below.heap_setCell _ _ _ _ (by show h6 ≠ w.heap.size + 1; omega))
    · exact (((HFN.out.2.2.setCell (by show w.heap.size ≤ w.heap.size + 1; omega) _).setCell (by show w.heap.size ≤ w.heap.size + 1; omega) _).setCell (by show w.heap.size ≤ w.heap.size + 1; omega) _).setCell (by show w.heap.size ≤ w.heap.size + 1; omega) _
end Go.Proofs.Ytnlcmheahihlpaa.qdi
