/- The program's Push: as the specification's, its answer in rows of its own. -/
import Derived.Test.YtfgilmibeeljnaaQClosed
import Derived.Test.YtfgilmibeeljnaaQPushSpec
import Derived.Test.YtfgilmibeeljnaaQueueOkImpl
import Derived.Test.YtfgilmibeeljnaaFlatOff
namespace Go.Proofs.Ytfgilmibeeljnaa.qpi
open Go.ChangeShapes Go.WideShapes Go.ChangeAt Go.RowKit Go.Proofs.Ytfgilmibeeljnaa.fl Go.Proofs.Ytfgilmibeeljnaa.fo Go.Proofs.Ytfgilmibeeljnaa.qit Go.Proofs.Ytfgilmibeeljnaa.qst Go.Proofs.Ytfgilmibeeljnaa.qpu Go.Proofs.Ytfgilmibeeljnaa.qpo Go.Proofs.Ytfgilmibeeljnaa.qop Go.Proofs.Ytfgilmibeeljnaa.qcl Go.Proofs.Ytfgilmibeeljnaa.qsp Go.Proofs.Ytfgilmibeeljnaa.qps
set_option linter.unusedVariables false

theorem impl_okb (sn : ByteArray) (nx : Int) (es : List flM.Ms) (ms : List flH.Hd) (ra ha : Option Addr) (cg ch : Nat) (w : World) (F : Fit sn es ms) (hY : Row flM.c 5 w w.heap.size ra es) (hE : Row flH.c 7 w w.heap.size ha ms) :
    Calls Try.prog 27 #[.agg #[.string sn, .int .i64 nx, .slice ra es.length cg, .slice ha ms.length ch]] w fun e w' => e = .returned (.bool (okB sn nx es ms)) ∧ Below w.heap.size w w' := by
  refine (qki.impl_ok sn nx es ms ra ha cg ch w F.ns F.el F.ml F.eb F.mb hY hE).mono ?_
  rintro e w' ⟨⟨b, rfl, hb⟩, h⟩
  rw [okB_of hb]
  exact ⟨rfl, h⟩
theorem owns_ownO {α : Type} {c : α → List Value} {n B g cap : Nat} {U : TypeId} {w : World} {l : List α} (hn : ∀ e, (c e).length = n) (h : w.ownsRow B U n (.slice (some ⟨g, 0, none⟩) l.length cap) l.length (l.flatMap c)) : OwnO c n U w g 0 l l.length := by
  obtain ⟨_, ⟨h1, _⟩ | ⟨g', cap', cur, h1, h2, h3, h4, h5, h6, h7⟩⟩ := h
  · cases h1
  cases h1
  refine ⟨cur, h3, by rw [h6, Nat.zero_add]; exact Nat.mul_le_mul_right n h4, fun i e hi he j v hv => ?_⟩
  have hf := flat_at hn l i e he j v hv
  rw [← h7] at hf
  have hlt := (List.getElem?_eq_some_iff.1 hf).1
  rw [List.length_take] at hlt
  rw [List.getElem?_take_of_lt (by omega)] at hf
  rw [Nat.zero_add]
  simpa using hf
/-- sorted, and the same as an ascending list -/
theorem sort_uniq {R E : List flM.Ms} (hp : R.Perm E) (hs : R.Pairwise Le) (ha : ∀ (i : Nat) (a c : flM.Ms), E[i]? = some a → E[i + 1]? = some c → a.q < c.q) : R = E := by
  have hE : E.Pairwise fun a c => a.q < c.q := List.pairwise_iff_getElem.2 fun i j hi hj hij => by
    have := asc_lt ha (j - i - 1) i E[i] E[j] (List.getElem?_eq_getElem hi) (by rw [show i + (j - i - 1) + 1 = j by omega]; exact List.getElem?_eq_getElem hj)
    exact this
  refine List.Perm.eq_of_pairwise (le := Le) (fun a c ha' hc' h1 h2 => ?_) hs (hE.imp fun h => Int.le_of_lt h) hp
  have haE := hp.mem_iff.1 ha'
  have heq : a.q = c.q := Int.le_antisymm h1 h2
  obtain ⟨i, hi⟩ := List.mem_iff_getElem?.1 haE
  obtain ⟨j, hj⟩ := List.mem_iff_getElem?.1 hc'
  rcases Nat.lt_trichotomy i j with h | h | h
  · have := asc_lt ha (j - i - 1) i a c hi (by rw [show i + (j - i - 1) + 1 = j by omega]; exact hj)
    omega
  · subst h; rw [hi] at hj; cases hj; rfl
  · have := asc_lt ha (i - j - 1) j c a hj (by rw [show j + (i - j - 1) + 1 = i by omega]; exact hi)
    omega
theorem asc_more {nm : ByteArray} {nx : Int} {es : List flM.Ms} {ms : List flH.Hd} (hok : qk.OkQ nm nx es ms) (x k b : ByteArray) : ∀ (i : Nat) (a c : flM.Ms), (es ++ [⟨nx, x, k, b, false⟩])[i]? = some a → (es ++ [⟨nx, x, k, b, false⟩])[i + 1]? = some c → a.q < c.q := fun i a c ha hc => by
  have hlt := (List.getElem?_eq_some_iff.1 hc).1
  simp at hlt
  rw [List.getElem?_append_left (by omega)] at ha
  rcases Nat.lt_or_ge (i + 1) es.length with h | h
  · rw [List.getElem?_append_left h] at hc
    exact hok.ru i a c ha hc
  · rw [List.getElem?_append_right h, show i + 1 - es.length = 0 by omega] at hc
    simp at hc
    subst hc
    have := hok.rm i a ha
    simp only [qk.mOk, Bool.and_eq_true, decide_eq_true_eq] at this
    show a.q < nx
    omega
/-- the answer -/
def PA (w : World) (nm : ByteArray) (nv : Int) (L : List flM.Ms) (ms : List flH.Hd) (f : Bool) (e : Ending) (w' : World) : Prop := ∃ g ce h cb, e = .returned (.tuple #[.agg #[.string nm, .int .i64 nv, .slice (some ⟨g, 0, none⟩) L.length ce, .slice (some ⟨h, 0, none⟩) ms.length cb], .bool f]) ∧ w.heap.size ≤ g ∧ w.heap.size ≤ h ∧ g ≠ h ∧ OwnO flM.c 5 38 w' g 0 L L.length ∧ OwnO flH.c 7 66 w' h 0 ms ms.length ∧ Below w.heap.size w w'
theorem sn_next {W0 : World} {hb : Nat} {nm : ByteArray} {nx nv : Int} {ha : Option Addr} {hn hc : Nat} {L : List flM.Ms} {w : World} (h : SN W0 hb ⟨nm, nx, ha, hn, hc⟩ L w) : SN W0 hb ⟨nm, nv, ha, hn, hc⟩ L (w.setCell ⟨hb, 2, none⟩ (.int .i64 nv)) := by
  obtain ⟨v, h1, h2, h3⟩ := h.box
  exact ⟨h.bel.setCell h.hbB _, h.hbB, ⟨v, bset h1 2 (.int .i64 nv), own_block h2 (fun g hg => Below.heap_setCell _ _ _ g (fun e => h3 (by rw [hg, show g = hb from e]))), h3⟩, h.fits⟩
theorem own_to {w : World} {g : Nat} {α : Type} {c : α → List Value} {n : Nat} {U : TypeId} {l : List α} (h : Own c n U w g l l.length) : OwnO c n U w g 0 l l.length := of_own h
theorem ownO_kept {w w' : World} {g : Nat} {α : Type} {c : α → List Value} {n : Nat} {U : TypeId} {l : List α} (h : OwnO c n U w g 0 l l.length) (hk : w'.heap[g]? = w.heap[g]?) : OwnO c n U w' g 0 l l.length := h.kept hk

set_option maxRecDepth 100000 in
set_option maxHeartbeats 4000000 in
theorem impl_push (nm : ByteArray) (nx : Int) (es : List flM.Ms) (ms : List flH.Hd) (a0 b0 ec bc : Nat) (x k b : ByteArray) (w : World) (F : Fit nm es ms) (hxx : x.size ≤ 1048576) (hkk : k.size ≤ 1048576) (hbb : b.size ≤ 1048576) (hE : Row flM.c 5 w w.heap.size (some ⟨a0, 0, none⟩) es) (hB : Row flH.c 7 w w.heap.size (some ⟨b0, 0, none⟩) ms) :
    Calls Try.prog 10 #[.agg #[.string nm, .int .i64 nx, .slice (some ⟨a0, 0, none⟩) es.length ec, .slice (some ⟨b0, 0, none⟩) ms.length bc], .string x, .string k, .string b] w fun e w' => PA w nm (ansN nm nx es ms x k b) (ansE nm nx es ms x k b) ms (fits nm nx es ms x k b) e w' := by
  have hWb : Below w.heap.size w ((w.alloc (.cells #[.string nm, .int .i64 nx, .slice (some ⟨a0, 0, none⟩) es.length ec, .slice (some ⟨b0, 0, none⟩) ms.length bc] 30)).alloc (.cells #[.string ⟨#[]⟩, .int .i64 0, .slice none 0 0, .slice none 0 0] 30)) := ((Below.refl _ _).alloc (Nat.le_refl _) _).alloc (by simp) _
  have hA := bold (bnew w #[.string nm, .int .i64 nx, .slice (some ⟨a0, 0, none⟩) es.length ec, .slice (some ⟨b0, 0, none⟩) ms.length bc] 30) (.cells #[.string ⟨#[]⟩, .int .i64 0, .slice none 0 0, .slice none 0 0] 30)
  have hR := bnew (w.alloc (.cells #[.string nm, .int .i64 nx, .slice (some ⟨a0, 0, none⟩) es.length ec, .slice (some ⟨b0, 0, none⟩) ms.length bc] 30)) #[.string ⟨#[]⟩, .int .i64 0, .slice none 0 0, .slice none 0 0] 30
  rw [World.size_alloc] at hR
  obtain ⟨W, hW⟩ : ∃ W, (w.alloc (.cells #[.string nm, .int .i64 nx, .slice (some ⟨a0, 0, none⟩) es.length ec, .slice (some ⟨b0, 0, none⟩) ms.length bc] 30)).alloc (.cells #[.string ⟨#[]⟩, .int .i64 0, .slice none 0 0, .slice none 0 0] 30) = W := ⟨_, rfl⟩
  have hWs : W.heap.size = w.heap.size + 2 := by rw [← hW]; simp
  rw [hW] at hWb hA hR
  have HA : Hid (W.heap[w.heap.size]? = some (.cells #[.string nm, .int .i64 nx, .slice (some ⟨a0, 0, none⟩) es.length ec, .slice (some ⟨b0, 0, none⟩) ms.length bc] 30 (0, 0))) := hA
  have HR : Hid (W.heap[w.heap.size + 1]? = some (.cells #[.string ⟨#[]⟩, .int .i64 0, .slice none 0 0, .slice none 0 0] 30 (0, 0))) := hR
  have HE : Hid (Row flM.c 5 W W.heap.size (some ⟨a0, 0, none⟩) es) := hE.inn hWb
  have HB : Hid (Row flH.c 7 W W.heap.size (some ⟨b0, 0, none⟩) ms) := hB.inn hWb
  have HF : Hid (Fit nm es ms) := F
  have BX : Hid (∀ V, Below W.heap.size W V → (V.cell? ⟨w.heap.size, 0, none⟩ = some (.string nm) ∧ V.cell? ⟨w.heap.size, 1, none⟩ = some (.int .i64 nx) ∧ V.cell? ⟨w.heap.size, 2, none⟩ = some (.slice (some ⟨a0, 0, none⟩) es.length ec) ∧ V.cell? ⟨w.heap.size, 3, none⟩ = some (.slice (some ⟨b0, 0, none⟩) ms.length bc)) ∧ (V.cell? ⟨w.heap.size + 1, 0, none⟩ = some (.string ⟨#[]⟩) ∧ V.cell? ⟨w.heap.size + 1, 1, none⟩ = some (.int .i64 0) ∧ V.cell? ⟨w.heap.size + 1, 2, none⟩ = some (.slice none 0 0) ∧ V.cell? ⟨w.heap.size + 1, 3, none⟩ = some (.slice none 0 0)) ∧ V.frozen? ⟨w.heap.size + 1, 0, none⟩ = false ∧ V.frozen? ⟨w.heap.size + 1, 1, none⟩ = false ∧ V.frozen? ⟨w.heap.size + 1, 2, none⟩ = false ∧ V.frozen? ⟨w.heap.size + 1, 3, none⟩ = false) := fun V hV => by
    have a := bstay HA.out hV (by omega)
    have r := bstay HR.out hV (by omega)
    exact ⟨⟨bcell a rfl, bcell a rfl, bcell a rfl, bcell a rfl⟩, ⟨bcell r rfl, bcell r rfl, bcell r rfl, bcell r rfl⟩, bfree r 0, bfree r 1, bfree r 2, bfree r 3⟩
  have hok := impl_okb nm nx es ms _ _ ec bc W F HE.out HB.out
  have CP : Hid (∀ V, Below W.heap.size W V → Calls Try.prog 28 #[.agg #[.string nm, .int .i64 nx, .slice (some ⟨a0, 0, none⟩) es.length ec, .slice (some ⟨b0, 0, none⟩) ms.length bc]] V fun r w' => ∃ g h, r = .returned (.agg #[.string nm, .int .i64 nx, .slice (some ⟨g, 0, none⟩) es.length es.length, .slice (some ⟨h, 0, none⟩) ms.length ms.length]) ∧ V.heap.size ≤ g ∧ V.heap.size ≤ h ∧ g ≠ h ∧ Own flM.c 5 38 w' g es es.length ∧ Own flH.c 7 66 w' h ms ms.length ∧ Below V.heap.size V w') := fun V hV => cqu.copy_queue nm nx es ms a0 b0 ec bc V F.ns F.el F.ml F.eb F.mb (HE.out.inn hV) (HB.out.inn hV)
  have HAE : Hid (ansE nm nx es ms x k b = if fits nm nx es ms x k b = true then es ++ [⟨nx, x, k, b, false⟩] else es) := rfl
  have HAN : Hid (ansN nm nx es ms x k b = if fits nm nx es ms x k b = true then nx + 1 else nx) := rfl
  obtain ⟨AE, hAE⟩ : ∃ AE, ansE nm nx es ms x k b = AE := ⟨_, rfl⟩
  obtain ⟨AN, hAN⟩ : ∃ AN, ansN nm nx es ms x k b = AN := ⟨_, rfl⟩
  rw [hAE] at HAE
  rw [hAN] at HAN
  simp only [hAE, hAN]
  obtain ⟨ft, hft⟩ : ∃ ft, fits nm nx es ms x k b = ft := ⟨_, rfl⟩
  rw [hft] at HAE HAN
  simp only [hft]
  have HFT : Hid (fits nm nx es ms x k b = ft) := hft
  obtain ⟨⟨x0, x1, x2, x3⟩, _, _⟩ := BX.out W (Below.refl _ _)
  clear hE hB hA hR F hAE hAN hft
  go_enter Try.func10, Try.ntmps10
  go_wp2_with (go_at_call 27; fail)
  clear hW
  refine hok.mono ?_
  rintro e w1 ⟨rfl, hb1⟩
  obtain ⟨ob, hob⟩ : ∃ ob, okB nm nx es ms = ob := ⟨_, rfl⟩
  rw [hob]
  obtain ⟨⟨x0, x1, x2, x3⟩, ⟨z0, z1, z2, z3⟩, f0, f1, f2, f3⟩ := BX.out w1 hb1
  cases ob with
  | false =>
    obtain rfl : ft = false := by rw [← HFT.out]; unfold fits; rw [hob]; rfl
    obtain rfl : es = AE := HAE.out.symm
    obtain rfl : nx = AN := HAN.out.symm
    have hcq := CP.out w1 hb1
    clear hok hob HAE HAN HFT
    go_wp2_with (go_at_call 28; fail)
    clear x0 x1 x2 x3 z0 z1 z2 z3 f0 f1 f2 f3
    refine hcq.mono ?_
    rintro e w2 ⟨g, h, rfl, hg, hh, hgh, oe, om, hb2⟩
    have hB2 : Below W.heap.size W w2 := hb1.trans (hb2.mono hb1.size)
    obtain ⟨_, ⟨z0, z1, z2, z3⟩, f0, f1, f2, f3⟩ := BX.out w2 hB2
    have hs1 := hb1.size
    have hgl := oe.lt
    have HFN : Hid (OwnO flM.c 5 38 w2 g 0 es es.length ∧ OwnO flH.c 7 66 w2 h 0 ms ms.length ∧ Below w.heap.size w w2) := ⟨of_own oe, of_own om, hWb.trans (hB2.mono hWb.size)⟩
    clear hcq oe om hb2 hB2
    go_wp2
    refine bodyPost_ret (v := .tuple #[.agg #[.string nm, .int .i64 nx, .slice (some ⟨g, 0, none⟩) es.length es.length, .slice (some ⟨h, 0, none⟩) ms.length ms.length], .bool false]) (by simp [results, Try.results10, go_sem, z0, z1, z2, z3]) rfl ⟨g, _, h, _, rfl, by omega, by omega, hgh, ?_, ?_, ?_⟩
    · exact (((HFN.out.1.kept (Below.heap_setCell _ _ _ _ (by show g ≠ w.heap.size + 1; omega))).kept (Below.heap_setCell _ _ _ _ (by show g ≠ w.heap.size + 1; omega))).kept (Below.heap_setCell _ _ _ _ (by show g ≠ w.heap.size + 1; omega))).kept (Below.heap_setCell _ _ _ _ (by show g ≠ w.heap.size + 1; omega))
    · exact (((HFN.out.2.1.kept (Below.heap_setCell _ _ _ _ (by show h ≠ w.heap.size + 1; omega))).kept (Below.heap_setCell _ _ _ _ (by show h ≠ w.heap.size + 1; omega))).kept (Below.heap_setCell _ _ _ _ (by show h ≠ w.heap.size + 1; omega))).kept (Below.heap_setCell _ _ _ _ (by show h ≠ w.heap.size + 1; omega))
    · exact (((HFN.out.2.2.setCell (by show w.heap.size ≤ w.heap.size + 1; omega) _).setCell (by show w.heap.size ≤ w.heap.size + 1; omega) _).setCell (by show w.heap.size ≤ w.heap.size + 1; omega) _).setCell (by show w.heap.size ≤ w.heap.size + 1; omega) _
  | true =>
    have HOK : Hid (qk.OkQ nm nx es ms) := okB_true.1 hob
    have hnx := HOK.out.nxo
    have hln := HOK.out.ln
    have i1 : IntKind.i64.wrap (nx + 1) = nx + 1 := by rw [IntKind.wrap_i64]; omega
    have hop := open_of nm nx es ms a0 b0 ec bc w1 HF.out.ns HF.out.el HF.out.ml HF.out.eb HF.out.mb (HE.out.inn hb1) (HB.out.inn hb1)
    clear hok
    go_wp2_with (go_at_call 29; fail)
    refine hop.mono ?_
    rintro e w2 ⟨hb, g, h, rfl, hsg, om, hh, hhb⟩
    have hb2 := hsg.bel
    have hB2 : Below W.heap.size W w2 := hb1.trans (hb2.mono hb1.size)
    have hhl := om.lt
    have hcm := fun V => cmg.copy_msg ⟨nx, x, k, b, false⟩ V ⟨hxx, hkk, hbb⟩
    have HSG : Hid (SG w1 hb ⟨nm, nx, some ⟨h, 0, none⟩, ms.length, ms.length⟩ g es.length es w2) := hsg
    have HOM : Hid (Own flH.c 7 66 w2 h ms ms.length) := om
    have hhB : w1.heap.size ≤ hb := hsg.hbB
    have hbl2 : hb < w2.heap.size := (Array.getElem?_eq_some_iff.1 hsg.box).1
    clear hop x0 x1 x2 x3 z0 z1 z2 z3 f0 f1 f2 f3 hsg om
    obtain ⟨⟨x0, x1, x2, x3⟩, _, _⟩ := BX.out w2 hB2
    go_wp2_with (go_at_call 31; fail)
    refine (hcm _).mono ?_
    rintro e w3 ⟨rfl, hb3⟩
    have hs2 := hb2.size
    have hs1 := hb1.size
    have hpt := put_run w1 ⟨nm, nx, some ⟨h, 0, none⟩, ms.length, ms.length⟩ hb es ⟨nx, x, k, b, false⟩ w3 (SN.of (HSG.out.on hb3)) (sorted_heap HOK.out.ru) (by omega)
    have om3 := HOM.out.below hb3 hhl
    have HOM3 : Hid (Own flH.c 7 66 w3 h ms ms.length) := om3
    clear hcm x0 x1 x2 x3 om3 HOM HSG
    go_wp2_with (go_at_call 30; fail)
    refine hpt.mono ?_
    rintro e w4 ⟨rfl, M, hMp, hMh, hsn, hkt⟩
    obtain ⟨v4, hv4, _, _⟩ := hsn.box
    have c2 : w4.cell? ⟨hb, 2, none⟩ = some (.int .i64 nx) := bcell hv4 rfl
    have c2f := bfree hv4 2
    have hsn5 := sn_next (nv := nx + 1) hsn
    have om4 : Own flH.c 7 66 w4 h ms ms.length := by
      obtain ⟨cur, hc1, hc2⟩ := HOM3.out
      exact ⟨cur, (hkt.2 h cur 66 hc1 (by decide) hhb).trans hc1, hc2⟩
    have om5 : Own flH.c 7 66 (w4.setCell ⟨hb, 2, none⟩ (.int .i64 (nx + 1))) h ms ms.length := om4.kept (Below.heap_setCell _ _ _ h (by show h ≠ hb; exact hhb))
    have hMne : M ≠ [] := by rintro rfl; have := hMp.length_eq; simp at this
    obtain ⟨g5, cap5, hsg5⟩ := hsn5.sg hMne
    obtain ⟨w5, hw5⟩ : ∃ w5, w4.setCell ⟨hb, 2, none⟩ (.int .i64 (nx + 1)) = w5 := ⟨_, rfl⟩
    rw [hw5] at hsg5 om5
    have hMl : M.length = es.length + 1 := by rw [hMp.length_eq]; simp
    have hcl := closed_run w1 ⟨nm, nx + 1, some ⟨h, 0, none⟩, ms.length, ms.length⟩ hb g5 cap5 M w5 hsg5 (by omega) hMh
    have HMP : Hid (M.Perm (es ++ [⟨nx, x, k, b, false⟩])) := hMp
    have HSG5 : Hid (SG w1 hb ⟨nm, nx + 1, some ⟨h, 0, none⟩, ms.length, ms.length⟩ g5 cap5 M w5) := hsg5
    have HOM5 : Hid (Own flH.c 7 66 w5 h ms ms.length) := om5
    clear hpt hMp hMh hsn hkt hv4 hsn5 om4 om5 hsg5 HOM3
    go_wp2_with (go_at_call 32; fail)
    clear hw5 c2 c2f
    refine hcl.mono ?_
    rintro e w6 ⟨R, gr, cr, rfl, hRp, hRs, hRo, hkq⟩
    have hRe : R = es ++ [⟨nx, x, k, b, false⟩] := sort_uniq (hRp.trans HMP.out) hRs (asc_more HOK.out x k b)
    have hFit : Fit nm R ms := by rw [hRe]; exact fit_more HF.out HOK.out hxx hkk hbb
    have HLL : Hid (∀ _ : Unit, es ++ [⟨nx, x, k, b, false⟩] = R) := fun _ => hRe.symm
    clear hRe
    have hg5B := HSG5.out.gB
    have hne5 := HSG5.out.ne
    have hh5 : h ≠ g5 := by
      obtain ⟨cur, hc1, _⟩ := HOM5.out
      obtain ⟨cur', hc2, _⟩ := HSG5.out.row
      rintro rfl
      rw [hc1] at hc2
      simp at hc2
    have hb15 := HSG5.out.bel
    have hb16 : Below w1.heap.size w1 w6 := ⟨hkq.os.trans hb15.os, hkq.tape.trans hb15.tape, hkq.output.trans hb15.output, Nat.le_trans hb15.size hkq.size, fun q hq => (hkq.block q (Nat.lt_of_lt_of_le hq hb15.size) (by omega) (by omega)).trans (hb15.block q hq)⟩
    have om6 := HOM5.out.kept (hkq.block h HOM5.out.lt hh5 hhb)
    have hgr : w5.heap.size ≤ gr ∧ gr < w6.heap.size := hRo.lt gr rfl
    have hh6 := om6.lt
    have hgrh : gr ≠ h := by have := HOM5.out.lt; omega
    have hs15 := hb15.size
    have hal : Below w6.heap.size w6 (w6.alloc (.cells #[.string nm, .int .i64 (nx + 1), .slice (some ⟨gr, 0, none⟩) R.length cr, .slice (some ⟨h, 0, none⟩) ms.length ms.length] 30)) := (Below.refl _ _).alloc (Nat.le_refl _) _
    have hN := bnew w6 #[.string nm, .int .i64 (nx + 1), .slice (some ⟨gr, 0, none⟩) R.length cr, .slice (some ⟨h, 0, none⟩) ms.length ms.length] 30
    obtain ⟨X, hX⟩ : ∃ X, w6.alloc (.cells #[.string nm, .int .i64 (nx + 1), .slice (some ⟨gr, 0, none⟩) R.length cr, .slice (some ⟨h, 0, none⟩) ms.length ms.length] 30) = X := ⟨_, rfl⟩
    rw [hX] at hal hN
    have hXl : w6.heap.size < X.heap.size := (Array.getElem?_eq_some_iff.1 hN).1
    have hRow := (row_owns flM.c_len hRo).inn hal
    have omX := om6.below hal hh6
    have hok3 := impl_okb nm (nx + 1) R ms (some ⟨gr, 0, none⟩) (some ⟨h, 0, none⟩) cr ms.length X hFit hRow omX.row
    have HRO : Hid (OwnO flM.c 5 38 X gr 0 R R.length) := (owns_ownO flM.c_len hRo).below hal hgr.2
    have HOMX : Hid (OwnO flH.c 7 66 X h 0 ms ms.length) := of_own omX
    have HN : Hid (X.heap[w6.heap.size]? = some (.cells #[.string nm, .int .i64 (nx + 1), .slice (some ⟨gr, 0, none⟩) R.length cr, .slice (some ⟨h, 0, none⟩) ms.length ms.length] 30 (0, 0))) := hN
    have hBX : Below W.heap.size W X := (hb1.trans (hb16.mono hs1)).trans (hal.mono (by have := hb16.size; omega))
    clear hcl hRp hRs hRo hkq om6 hRow omX hal hb16 hb15 HMP HSG5 HOM5
    have n0 : X.cell? ⟨w6.heap.size, 0, none⟩ = some (.string nm) := bcell hN rfl
    have n1 : X.cell? ⟨w6.heap.size, 1, none⟩ = some (.int .i64 (nx + 1)) := bcell hN rfl
    have n2 : X.cell? ⟨w6.heap.size, 2, none⟩ = some (.slice (some ⟨gr, 0, none⟩) R.length cr) := bcell hN rfl
    have n3 : X.cell? ⟨w6.heap.size, 3, none⟩ = some (.slice (some ⟨h, 0, none⟩) ms.length ms.length) := bcell hN rfl
    obtain ⟨ob3, hob3⟩ : ∃ ob3, okB nm (nx + 1) R ms = ob3 := ⟨_, rfl⟩
    rw [hob3] at hok3
    clear hN hFit
    go_wp2_with (go_at_call 27; fail)
    clear hX n0 n1 n2 n3
    refine hok3.mono ?_
    rintro e w7 ⟨rfl, hb7⟩
    have hB7 : Below W.heap.size W w7 := hBX.trans (hb7.mono hBX.size)
    obtain ⟨⟨x0, x1, x2, x3⟩, ⟨z0, z1, z2, z3⟩, f0, f1, f2, f3⟩ := BX.out w7 hB7
    have hN7 := bstay HN.out hb7 hXl
    have n0 : w7.cell? ⟨w6.heap.size, 0, none⟩ = some (.string nm) := bcell hN7 rfl
    have n1 : w7.cell? ⟨w6.heap.size, 1, none⟩ = some (.int .i64 (nx + 1)) := bcell hN7 rfl
    have n2 : w7.cell? ⟨w6.heap.size, 2, none⟩ = some (.slice (some ⟨gr, 0, none⟩) R.length cr) := bcell hN7 rfl
    have n3 : w7.cell? ⟨w6.heap.size, 3, none⟩ = some (.slice (some ⟨h, 0, none⟩) ms.length ms.length) := bcell hN7 rfl
    cases ob3 with
    | true =>
      obtain rfl : ft = true := by rw [← HFT.out]; unfold fits; rw [hob, HLL.out (), hob3]; rfl
      obtain rfl : AE = R := by rw [← HLL.out ()]; exact HAE.out
      obtain rfl : AN = nx + 1 := HAN.out
      have HFN : Hid (OwnO flM.c 5 38 w7 gr 0 AE AE.length ∧ OwnO flH.c 7 66 w7 h 0 ms ms.length ∧ Below w.heap.size w w7) := ⟨HRO.out.below hb7 HRO.out.lt, HOMX.out.below hb7 HOMX.out.lt, hWb.trans (hB7.mono hWb.size)⟩
      have hg1 : w.heap.size + 2 ≤ gr ∧ w.heap.size + 2 ≤ h := by omega
      clear hok3 hb7 hB7 hN7 HRO HOMX x0 x1 x2 x3 hob hob3 HFT HAE HAN HLL HOK HN BX CP HE HB HF HA HR
      go_wp2
      refine bodyPost_ret (v := .tuple #[.agg #[.string nm, .int .i64 (nx + 1), .slice (some ⟨gr, 0, none⟩) AE.length cr, .slice (some ⟨h, 0, none⟩) ms.length ms.length], .bool true]) (by simp [results, Try.results10, go_sem, z0, z1, z2, z3]) rfl ⟨gr, _, h, _, rfl, by omega, by omega, hgrh, ?_, ?_, ?_⟩
      · exact (((HFN.out.1.kept (Below.heap_setCell _ _ _ _ (by show gr ≠ w.heap.size + 1; omega))).kept (Below.heap_setCell _ _ _ _ (by show gr ≠ w.heap.size + 1; omega))).kept (Below.heap_setCell _ _ _ _ (by show gr ≠ w.heap.size + 1; omega))).kept (Below.heap_setCell _ _ _ _ (by show gr ≠ w.heap.size + 1; omega))
      · exact (((HFN.out.2.1.kept (Below.heap_setCell _ _ _ _ (by show h ≠ w.heap.size + 1; omega))).kept (Below.heap_setCell _ _ _ _ (by show h ≠ w.heap.size + 1; omega))).kept (Below.heap_setCell _ _ _ _ (by show h ≠ w.heap.size + 1; omega))).kept (Below.heap_setCell _ _ _ _ (by show h ≠ w.heap.size + 1; omega))
      · exact (((HFN.out.2.2.setCell (by show w.heap.size ≤ w.heap.size + 1; omega) _).setCell (by show w.heap.size ≤ w.heap.size + 1; omega) _).setCell (by show w.heap.size ≤ w.heap.size + 1; omega) _).setCell (by show w.heap.size ≤ w.heap.size + 1; omega) _
    | false =>
      obtain rfl : ft = false := by rw [← HFT.out]; unfold fits; rw [hob, HLL.out (), hob3]; rfl
      obtain rfl : es = AE := HAE.out.symm
      obtain rfl : nx = AN := HAN.out.symm
      have hcq := CP.out w7 hB7
      clear hok3 n0 n1 n2 n3 hN7 HRO HOMX hob hob3 HFT HAE HAN HLL HOK HN
      go_wp2_with (go_at_call 28; fail)
      clear x0 x1 x2 x3 z0 z1 z2 z3 f0 f1 f2 f3
      refine hcq.mono ?_
      rintro e w8 ⟨g8, h8, rfl, hg8, hh8, hgh8, oe8, om8, hb8⟩
      have hB8 : Below W.heap.size W w8 := hB7.trans (hb8.mono hB7.size)
      obtain ⟨_, ⟨z0, z1, z2, z3⟩, f0, f1, f2, f3⟩ := BX.out w8 hB8
      have hs7 := hB7.size
      have HFN : Hid (OwnO flM.c 5 38 w8 g8 0 es es.length ∧ OwnO flH.c 7 66 w8 h8 0 ms ms.length ∧ Below w.heap.size w w8) := ⟨of_own oe8, of_own om8, hWb.trans (hB8.mono hWb.size)⟩
      clear hcq oe8 om8 hb8 hB8
      go_wp2
      refine bodyPost_ret (v := .tuple #[.agg #[.string nm, .int .i64 nx, .slice (some ⟨g8, 0, none⟩) es.length es.length, .slice (some ⟨h8, 0, none⟩) ms.length ms.length], .bool false]) (by simp [results, Try.results10, go_sem, z0, z1, z2, z3]) rfl ⟨g8, _, h8, _, rfl, by omega, by omega, hgh8, ?_, ?_, ?_⟩
      · exact (((HFN.out.1.kept (Below.heap_setCell _ _ _ _ (by show g8 ≠ w.heap.size + 1; omega))).kept (Below.heap_setCell _ _ _ _ (by show g8 ≠ w.heap.size + 1; omega))).kept (Below.heap_setCell _ _ _ _ (by show g8 ≠ w.heap.size + 1; omega))).kept (Below.heap_setCell _ _ _ _ (by show g8 ≠ w.heap.size + 1; omega))
      · exact (((HFN.out.2.1.kept (Below.heap_setCell _ _ _ _ (by show h8 ≠ w.heap.size + 1; omega))).kept (Below.heap_setCell _ _ _ _ (by show h8 ≠ w.heap.size + 1; omega))).kept (Below.heap_setCell _ _ _ _ (by show h8 ≠ w.heap.size + 1; omega))).kept (Below.heap_setCell _ _ _ _ (by show h8 ≠ w.heap.size + 1; omega))
      · exact (((HFN.out.2.2.setCell (by show w.heap.size ≤ w.heap.size + 1; omega) _).setCell (by show w.heap.size ≤ w.heap.size + 1; omega) _).setCell (by show w.heap.size ≤ w.heap.size + 1; omega) _).setCell (by show w.heap.size ≤ w.heap.size + 1; omega) _
end Go.Proofs.Ytfgilmibeeljnaa.qpi
