/- The program's Pop: as the specification's, its answer in rows of its own. -/
import Derived.Test.YtnlcmheahihlpaaQw19

/- The program's Pop where it can be and the new one stands ahead of another. -/
namespace Go.Proofs.Ytnlcmheahihlpaa.qoi
open Go.ChangeShapes Go.WideShapes Go.ChangeAt Go.RowKit Go.Proofs.Ytnlcmheahihlpaa.fl Go.Proofs.Ytnlcmheahihlpaa.fo Go.Proofs.Ytnlcmheahihlpaa.qit Go.Proofs.Ytnlcmheahihlpaa.qst Go.Proofs.Ytnlcmheahihlpaa.qpu Go.Proofs.Ytnlcmheahihlpaa.qpo Go.Proofs.Ytnlcmheahihlpaa.qop Go.Proofs.Ytnlcmheahihlpaa.qcl Go.Proofs.Ytnlcmheahihlpaa.qsp Go.Proofs.Ytnlcmheahihlpaa.qpi
set_option linter.unusedVariables false

set_option maxRecDepth 100000 in
set_option maxHeartbeats 4000000 in
theorem impl_pop_mid (nm : ByteArray) (nx : Int) (es : List flM.Ms) (ms : List flH.Hd) (a0 b0 : Option Addr) (ec bc : Nat) (o t : Int) (w : World) (F : Fit nm es ms) (hgd : qpp.good nm nx es ms o t = true) (hat : qpp.atO o ms ms.length < ms.length) (hE : Row flM.c 5 w w.heap.size a0 es) (hB : Row flH.c 7 w w.heap.size b0 ms) :
    Calls Try.prog 17 #[.agg #[.string nm, .int .i64 nx, .slice a0 es.length ec, .slice b0 ms.length bc], .int .i64 o, .int .i64 t] w fun e w' => PP w nm nx (qpp.ansR nm nx es ms o t) (qpp.ansH nm nx es ms o t) (qpp.ansM nm nx es ms o t) (qpp.good nm nx es ms o t) e w' := by
  have hWb : Below w.heap.size w (((w.alloc (.cells #[.string nm, .int .i64 nx, .slice a0 es.length ec, .slice b0 ms.length bc] 27)).alloc (.cells #[.string ⟨#[]⟩, .int .i64 0, .slice none 0 0, .slice none 0 0] 27)).alloc (.cells #[.int .i64 0, .string ⟨#[]⟩, .string ⟨#[]⟩, .string ⟨#[]⟩, .bool false] 41)) := (((Below.refl _ _).alloc (Nat.le_refl _) _).alloc (by simp) _).alloc (by simp; omega) _
  have hA := bold (bold (bnew w #[.string nm, .int .i64 nx, .slice a0 es.length ec, .slice b0 ms.length bc] 27) (.cells #[.string ⟨#[]⟩, .int .i64 0, .slice none 0 0, .slice none 0 0] 27)) (.cells #[.int .i64 0, .string ⟨#[]⟩, .string ⟨#[]⟩, .string ⟨#[]⟩, .bool false] 41)
  have hR := bold (bnew (w.alloc (.cells #[.string nm, .int .i64 nx, .slice a0 es.length ec, .slice b0 ms.length bc] 27)) #[.string ⟨#[]⟩, .int .i64 0, .slice none 0 0, .slice none 0 0] 27) (.cells #[.int .i64 0, .string ⟨#[]⟩, .string ⟨#[]⟩, .string ⟨#[]⟩, .bool false] 41)
  have hM := bnew ((w.alloc (.cells #[.string nm, .int .i64 nx, .slice a0 es.length ec, .slice b0 ms.length bc] 27)).alloc (.cells #[.string ⟨#[]⟩, .int .i64 0, .slice none 0 0, .slice none 0 0] 27)) #[.int .i64 0, .string ⟨#[]⟩, .string ⟨#[]⟩, .string ⟨#[]⟩, .bool false] 41
  have hsz2 : ((w.alloc (.cells #[.string nm, .int .i64 nx, .slice a0 es.length ec, .slice b0 ms.length bc] 27)).alloc (.cells #[.string ⟨#[]⟩, .int .i64 0, .slice none 0 0, .slice none 0 0] 27)).heap.size = w.heap.size + 2 := by simp
  rw [World.size_alloc] at hR
  rw [hsz2] at hM
  obtain ⟨W, hW⟩ : ∃ W, ((w.alloc (.cells #[.string nm, .int .i64 nx, .slice a0 es.length ec, .slice b0 ms.length bc] 27)).alloc (.cells #[.string ⟨#[]⟩, .int .i64 0, .slice none 0 0, .slice none 0 0] 27)).alloc (.cells #[.int .i64 0, .string ⟨#[]⟩, .string ⟨#[]⟩, .string ⟨#[]⟩, .bool false] 41) = W := ⟨_, rfl⟩
  have hWs : W.heap.size = w.heap.size + 3 := by rw [← hW]; simp
  rw [hW] at hWb hA hR hM
  have HE : Hid (Row flM.c 5 W W.heap.size a0 es) := hE.inn hWb
  have HRS : Hid (W.heap[w.heap.size + 1]? = some (.cells #[.string ⟨#[]⟩, .int .i64 0, .slice none 0 0, .slice none 0 0] 27 (0, 0)) ∧ W.heap[w.heap.size + 2]? = some (.cells #[.int .i64 0, .string ⟨#[]⟩, .string ⟨#[]⟩, .string ⟨#[]⟩, .bool false] 41 (0, 0))) := ⟨hR, hM⟩
  have HB : Hid (Row flH.c 7 W W.heap.size b0 ms) := hB.inn hWb
  have HF : Hid (Fit nm es ms) := F
  have BX : Hid (∀ V, Below W.heap.size W V → (V.cell? ⟨w.heap.size, 0, none⟩ = some (.string nm) ∧ V.cell? ⟨w.heap.size, 1, none⟩ = some (.int .i64 nx) ∧ V.cell? ⟨w.heap.size, 2, none⟩ = some (.slice a0 es.length ec) ∧ V.cell? ⟨w.heap.size, 3, none⟩ = some (.slice b0 ms.length bc)) ∧ (V.cell? ⟨w.heap.size + 1, 0, none⟩ = some (.string ⟨#[]⟩) ∧ V.cell? ⟨w.heap.size + 1, 1, none⟩ = some (.int .i64 0) ∧ V.cell? ⟨w.heap.size + 1, 2, none⟩ = some (.slice none 0 0) ∧ V.cell? ⟨w.heap.size + 1, 3, none⟩ = some (.slice none 0 0)) ∧ (V.cell? ⟨w.heap.size + 2, 0, none⟩ = some (.int .i64 0) ∧ V.cell? ⟨w.heap.size + 2, 1, none⟩ = some (.string ⟨#[]⟩) ∧ V.cell? ⟨w.heap.size + 2, 2, none⟩ = some (.string ⟨#[]⟩) ∧ V.cell? ⟨w.heap.size + 2, 3, none⟩ = some (.string ⟨#[]⟩) ∧ V.cell? ⟨w.heap.size + 2, 4, none⟩ = some (.bool false)) ∧ (V.frozen? ⟨w.heap.size + 1, 0, none⟩ = false ∧ V.frozen? ⟨w.heap.size + 1, 1, none⟩ = false ∧ V.frozen? ⟨w.heap.size + 1, 2, none⟩ = false ∧ V.frozen? ⟨w.heap.size + 1, 3, none⟩ = false) ∧ V.frozen? ⟨w.heap.size + 2, 0, none⟩ = false ∧ V.frozen? ⟨w.heap.size + 2, 1, none⟩ = false ∧ V.frozen? ⟨w.heap.size + 2, 2, none⟩ = false ∧ V.frozen? ⟨w.heap.size + 2, 3, none⟩ = false ∧ V.frozen? ⟨w.heap.size + 2, 4, none⟩ = false) := fun V hV => by
    have a := bstay hA hV (by omega)
    have r := bstay hR hV (by omega)
    have m := bstay hM hV (by omega)
    exact ⟨⟨bcell a rfl, bcell a rfl, bcell a rfl, bcell a rfl⟩, ⟨bcell r rfl, bcell r rfl, bcell r rfl, bcell r rfl⟩, ⟨bcell m rfl, bcell m rfl, bcell m rfl, bcell m rfl, bcell m rfl⟩, ⟨bfree r 0, bfree r 1, bfree r 2, bfree r 3⟩, bfree m 0, bfree m 1, bfree m 2, bfree m 3, bfree m 4⟩
  have hok := impl_okb nm nx es ms _ _ ec bc W F HE.out HB.out
  have CP : Hid (∀ V, Below W.heap.size W V → Calls Try.prog 21 #[.agg #[.string nm, .int .i64 nx, .slice a0 es.length ec, .slice b0 ms.length bc]] V fun r w' => ∃ g h, r = .returned (.agg #[.string nm, .int .i64 nx, .slice (some ⟨g, 0, none⟩) es.length es.length, .slice (some ⟨h, 0, none⟩) ms.length ms.length]) ∧ V.heap.size ≤ g ∧ V.heap.size ≤ h ∧ g ≠ h ∧ Own flM.c 5 41 w' g es es.length ∧ Own flH.c 7 55 w' h ms ms.length ∧ Below V.heap.size V w') := fun V hV => cqu.copy_queue nm nx es ms a0 b0 ec bc V F.ns F.el F.ml F.eb F.mb (HE.out.inn hV) (HB.out.inn hV)
  have HAT : Hid (qpp.atO o ms ms.length < ms.length) := hat
  clear hat
  have HAR : Hid (qpp.ansR nm nx es ms o t = if qpp.good nm nx es ms o t = true then es.tail else es) := rfl
  have HAH : Hid (qpp.ansH nm nx es ms o t = if qpp.good nm nx es ms o t = true then ms.take (qpp.atO o ms ms.length) ++ ⟨t, o, qpp.headM es⟩ :: ms.drop (qpp.atO o ms ms.length) else ms) := rfl
  have HAM : Hid (qpp.ansM nm nx es ms o t = if qpp.good nm nx es ms o t = true then qpp.headM es else qpp.headM []) := rfl
  have HGD : Hid (qpp.good nm nx es ms o t = (okB nm nx es ms && qpp.hand o t && !es.isEmpty && !ms.any (qpp.late o t))) := rfl
  obtain ⟨AR, hAR⟩ : ∃ y, qpp.ansR nm nx es ms o t = y := ⟨_, rfl⟩
  obtain ⟨AH, hAH⟩ : ∃ y, qpp.ansH nm nx es ms o t = y := ⟨_, rfl⟩
  obtain ⟨AM, hAM⟩ : ∃ y, qpp.ansM nm nx es ms o t = y := ⟨_, rfl⟩
  obtain ⟨GD, hGD⟩ : ∃ y, qpp.good nm nx es ms o t = y := ⟨_, rfl⟩
  rw [hAR, hGD] at HAR
  rw [hAH, hGD] at HAH
  rw [hAM, hGD] at HAM
  rw [hGD] at HGD
  have HGD : Hid ((okB nm nx es ms && qpp.hand o t && !es.isEmpty && !ms.any (qpp.late o t)) = GD) := HGD.out.symm
  have HGT : Hid (GD = true) := hGD.symm.trans hgd
  simp only [hAR, hAH, hAM, hGD]
  obtain ⟨⟨x0, x1, x2, x3⟩, _⟩ := BX.out W (Below.refl _ _)
  clear hgd hE hB hA hR hM F hAR hAH hAM hGD
  go_enter Try.func17, Try.ntmps17
  go_wp2_with (go_at_call 11; fail)
  clear hW x0 x1 x2 x3
  refine hok.mono ?_
  rintro e w1 ⟨rfl, hb1⟩
  obtain ⟨ob, hob⟩ : ∃ ob, okB nm nx es ms = ob := ⟨_, rfl⟩
  rw [hob] at HGD ⊢
  clear hok
  cases ob with
  | false =>
    exact absurd (HGT.out.symm.trans HGD.out.symm) (by simp)
  | true =>
    have hhd := qhd.impl_hand o t w1
    obtain ⟨hn, hhn⟩ : ∃ hn, qpp.hand o t = hn := ⟨_, rfl⟩
    rw [hhn] at HGD hhd
    go_wp2_with (go_at_call 36; fail)
    refine hhd.mono ?_
    rintro e wh ⟨rfl, hwh⟩
    obtain rfl := hwh.symm
    clear hhd
    cases hn with
    | false =>
      exact absurd (HGT.out.symm.trans HGD.out.symm) (by simp)
    | true =>
      obtain ⟨⟨x0, x1, x2, x3⟩, _⟩ := BX.out w1 hb1
      by_cases hes : es = []
      · have hl0 : ((es.length : Int) == 0) = true := by simp [hes]
        have hie : es.isEmpty = true := by simp [hes]
        clear hes
        exact absurd (HGT.out.symm.trans HGD.out.symm) (by simp [hie])
      · have hl0 : ((es.length : Int) == 0) = false := by simp [hes]
        have hie : es.isEmpty = false := by simp [hes]
        obtain ⟨⟨q, x, y, z, ag⟩, h0, hr0, hrt⟩ : ∃ r0, es[0]? = some r0 ∧ qpp.headM es = r0 ∧ es = r0 :: es.tail := by
          cases es with
          | nil => exact absurd rfl hes
          | cons r l => exact ⟨r, rfl, rfl, rfl⟩
        have HH0 : Hid (es[0]? = some ⟨q, x, y, z, ag⟩ ∧ qpp.headM es = ⟨q, x, y, z, ag⟩ ∧ es = ⟨q, x, y, z, ag⟩ :: es.tail) := ⟨h0, hr0, hrt⟩
        clear hes h0 hr0 hrt
        have HOK : Hid (qk.OkQ nm nx es ms) := okB_true.1 hob
        have hln := HOK.out.ln
        have hop := open_of nm nx es ms a0 b0 ec bc w1 HF.out.ns HF.out.el HF.out.ml HF.out.eb HF.out.mb (HE.out.inn hb1) (HB.out.inn hb1)
        go_wp2_with (go_at_call 22; fail)
        refine hop.mono ?_
        rintro e w2 ⟨hb, g, h, rfl, hsg, om, hh, hhb⟩
        have hb2 := hsg.bel
        have hB2 : Below W.heap.size W w2 := hb1.trans (hb2.mono hb1.size)
        have HOM : Hid (Own flH.c 7 55 w2 h ms ms.length) := om
        have hhB : w1.heap.size ≤ hb := hsg.hbB
        have hgB : w1.heap.size ≤ g := hsg.gB
        have hbl2 : hb < w2.heap.size := (Array.getElem?_eq_some_iff.1 hsg.box).1
        have hhl2 := om.lt
        have hhw1 : w1.heap.size ≤ h := hh
        have hgh : h ≠ g := by
          obtain ⟨cur, hc1, _⟩ := om
          obtain ⟨cur', hc2, _⟩ := hsg.row
          rintro rfl
          rw [hc1] at hc2
          simp at hc2
        have hfr := first_run w1 ⟨nm, nx, some ⟨h, 0, none⟩, ms.length, ms.length⟩ hb g es.length es ⟨q, x, y, z, ag⟩ w2 hsg HH0.out.1 (by omega) (sorted_heap HOK.out.ru)
        clear hop x0 x1 x2 x3 hsg om hl0
        go_wp2_with (go_at_call 53; fail)
        refine hfr.mono ?_
        rintro e w3 ⟨rfl, M, hMp, hMh, hsg3, hkq3⟩
        have om3 : Own flH.c 7 55 w3 h ms ms.length := HOM.out.kept (hkq3.block h hhl2 hgh hhb)
        have hs23 := hkq3.size
        have hal : Below w3.heap.size w3 (w3.alloc (.cells #[.int .i64 t, .int .i64 o, .int .i64 q, .string x, .string y, .string z, .bool ag] 55)) := (Below.refl _ _).alloc (Nat.le_refl _) _
        have hN := bnew w3 #[.int .i64 t, .int .i64 o, .int .i64 q, .string x, .string y, .string z, .bool ag] 55
        have omV := om3.below hal om3.lt
        have sgV := hsg3.on hal
        obtain ⟨V, hV⟩ : ∃ V, w3.alloc (.cells #[.int .i64 t, .int .i64 o, .int .i64 q, .string x, .string y, .string z, .bool ag] 55) = V := ⟨_, rfl⟩
        have hVs : V.heap.size = w3.heap.size + 1 := by rw [← hV]; simp
        rw [hV] at hal hN omV sgV
        have HN : Hid (V.heap[w3.heap.size]? = some (.cells #[.int .i64 t, .int .i64 o, .int .i64 q, .string x, .string y, .string z, .bool ag] 55 (0, 0))) := hN
        have HOMV : Hid (Own flH.c 7 55 V h ms ms.length) := omV
        have HSGV : Hid (SG w1 hb ⟨nm, nx, some ⟨h, 0, none⟩, ms.length, ms.length⟩ g es.length M V) := sgV
        have HMP : Hid ((⟨q, x, y, z, ag⟩ :: M).Perm es) := hMp
        have HMH : Hid (hp.Heap less M M.length) := hMh
        have hse := sch.search_held ms h ms.length t o q x y z ag V.drew HF.out.ml ((sch.rh_of omV.lt omV.row).below ((Below.refl _ _).drew)) (qpp.mon_ok HOK.out _)
        have v3 : V.cell? ⟨hb, 3, none⟩ = some (.slice (some ⟨h, 0, none⟩) ms.length ms.length) := bcell sgV.box rfl
        have m0 : V.cell? ⟨w3.heap.size, 0, none⟩ = some (.int .i64 t) := bcell hN rfl
        have m1 : V.cell? ⟨w3.heap.size, 1, none⟩ = some (.int .i64 o) := bcell hN rfl
        have m2 : V.cell? ⟨w3.heap.size, 2, none⟩ = some (.int .i64 q) := bcell hN rfl
        have m3 : V.cell? ⟨w3.heap.size, 3, none⟩ = some (.string x) := bcell hN rfl
        have m4 : V.cell? ⟨w3.heap.size, 4, none⟩ = some (.string y) := bcell hN rfl
        have m5 : V.cell? ⟨w3.heap.size, 5, none⟩ = some (.string z) := bcell hN rfl
        have m6 : V.cell? ⟨w3.heap.size, 6, none⟩ = some (.bool ag) := bcell hN rfl
        have hb13 : Below w1.heap.size w1 V := sgV.bel
        clear hfr hMp hMh hsg3 hkq3 om3 hN omV sgV HOM
        go_wp2
        clear hV
        go_region_with (go_at_call 54; refine hse.mono ?_; rintro e w4 ⟨⟨p, bf, rfl, hpos, hbf⟩, hb4⟩)
        all_goals
          replace hb4 : Below V.heap.size V w4 := (Below.drew (Below.refl _ V)).trans hb4
          clear hbf
          have HPS : Hid (sch.PosH ms ⟨t, o, ⟨q, x, y, z, ag⟩⟩ p) := hpos
          have hple := hpos.le
          have hsg4 := HSGV.out.on hb4
          have om4 := HOMV.out.below hb4 HOMV.out.lt
          have hN4 := bstay HN.out hb4 (by omega)
          have hB4 : Below W.heap.size W w4 := (hb1.trans (hb13.mono hb1.size)).trans (hb4.mono (by have := hb13.size; have := hb1.size; omega))
          have u3 : w4.cell? ⟨hb, 3, none⟩ = some (.slice (some ⟨h, 0, none⟩) ms.length ms.length) := bcell hsg4.box rfl
          have HS4 : Hid (SG w1 hb ⟨nm, nx, some ⟨h, 0, none⟩, ms.length, ms.length⟩ g es.length M w4) := hsg4
          have HO4 : Hid (Own flH.c 7 55 w4 h ms ms.length) := om4
          have HN4 : Hid (w4.heap[w3.heap.size]? = some (.cells #[.int .i64 t, .int .i64 o, .int .i64 q, .string x, .string y, .string z, .bool ag] 55 (0, 0))) := hN4
          clear hse v3 m0 m1 m2 m3 m4 m5 m6 hpos HSGV HOMV HN hsg4
          have m0 : w4.cell? ⟨w3.heap.size, 0, none⟩ = some (.int .i64 t) := bcell hN4 rfl
          have m1 : w4.cell? ⟨w3.heap.size, 1, none⟩ = some (.int .i64 o) := bcell hN4 rfl
          have m2 : w4.cell? ⟨w3.heap.size, 2, none⟩ = some (.int .i64 q) := bcell hN4 rfl
          have m3 : w4.cell? ⟨w3.heap.size, 3, none⟩ = some (.string x) := bcell hN4 rfl
          have m4 : w4.cell? ⟨w3.heap.size, 4, none⟩ = some (.string y) := bcell hN4 rfl
          have m5 : w4.cell? ⟨w3.heap.size, 5, none⟩ = some (.string z) := bcell hN4 rfl
          have m6 : w4.cell? ⟨w3.heap.size, 6, none⟩ = some (.bool ag) := bcell hN4 rfl
          by_cases hpl : p < ms.length
          · have i2 : (p : Int) < (ms.length : Int) := by omega
            have d2 : decide ((p : Int) < (ms.length : Int)) = true := by simpa using i2
            have HG : Hid (ms[p]? = some ms[p]) := List.getElem?_eq_getElem hpl
            obtain ⟨hd, he⟩ : ∃ e, ms[p] = e := ⟨_, rfl⟩
            rw [he] at HG
            obtain ⟨_, c1, _⟩ := (sch.rh_of om4.lt om4.row).2 p hd HG.out
            clear he om4 hN4
            by_cases hoo : hd.o = o
            · have q1 : (hd.o == o) = true := by simpa using hoo
              have hla : ms.any (qpp.late o t) = true := (qpp.late_iff HOK.out HPS.out).2 ⟨hd, HG.out, hoo⟩
              clear hoo
              exact absurd (HGT.out.symm.trans HGD.out.symm) (by simp [hie, hla])
            · have q1 : (hd.o == o) = false := by simpa using hoo
              have hla : ms.any (qpp.late o t) = false := by
                cases hh : ms.any (qpp.late o t) with
                | false => rfl
                | true => obtain ⟨a, h1, h2⟩ := (qpp.late_iff HOK.out HPS.out).1 hh; rw [HG.out] at h1; cases h1; exact absurd h2 hoo
              clear hoo
              have HAP : Hid (qpp.atO o ms ms.length = p) := qpp.atO_pos HOK.out HPS.out hla
              have HSET : Hid (ms.take p ++ ⟨t, o, ⟨q, x, y, z, ag⟩⟩ :: ms.drop p = AH) := by have := HAH.out; rw [HGT.out, if_pos rfl, HH0.out.2.1, HAP.out] at this; exact this.symm
              have HLA : Hid (AH.length = ms.length + 1) := by show AH.length = ms.length + 1; rw [← HSET.out]; simp; omega
              have HTA : Hid (es.tail = AR) := by have := HAR.out; rw [HGT.out, if_pos rfl] at this; exact this.symm
              obtain rfl : (⟨q, x, y, z, ag⟩ : flM.Ms) = AM := by have := HAM.out; rw [HGT.out, if_pos rfl, HH0.out.2.1] at this; exact this.symm
              obtain rfl : GD = true := HGT.out
              have hmb : x.size ≤ 1048576 ∧ y.size ≤ 1048576 ∧ z.size ≤ 1048576 := HF.out.eb ⟨q, x, y, z, ag⟩ (List.mem_of_getElem? HH0.out.1)
              clear HAR HAH HAM HGD HGT HAT
              have hU : Below w4.heap.size w4 (w4.drew.alloc (.cells #[.int .i64 t, .int .i64 o, .int .i64 q, .string x, .string y, .string z, .bool ag] 55)) := ((Below.refl _ _).drew).alloc (Nat.le_refl _) _
              have omU := HO4.out.below hU HO4.out.lt
              have hgU : (w4.drew.alloc (.cells #[.int .i64 t, .int .i64 o, .int .i64 q, .string x, .string y, .string z, .bool ag] 55)).heap[w4.heap.size]? = some (.cells #[.int .i64 t, .int .i64 o, .int .i64 q, .string x, .string y, .string z, .bool ag] 55 (0, 0)) := bnew w4.drew _ _
              have hsU := HS4.out.on hU
              have hml5 := HF.out.ml
              have hin := inh.insert_held ms h p w1.heap.size t o q x y z ag w4.heap.size (w4.drew.alloc (.cells #[.int .i64 t, .int .i64 o, .int .i64 q, .string x, .string y, .string z, .bool ag] 55)) hple hml5 (Nat.le_trans (HS4.out.bel.size) hU.size) (own_owns flH.c_len omU hhw1 (by unfold maxLen; omega)) hgU
              have HSU : Hid (SG w1 hb ⟨nm, nx, some ⟨h, 0, none⟩, ms.length, ms.length⟩ g es.length M (w4.drew.alloc (.cells #[.int .i64 t, .int .i64 o, .int .i64 q, .string x, .string y, .string z, .bool ag] 55))) := hsU
              have HMU : Hid ((w4.drew.alloc (.cells #[.int .i64 t, .int .i64 o, .int .i64 q, .string x, .string y, .string z, .bool ag] 55)).heap[w3.heap.size]? = some (.cells #[.int .i64 t, .int .i64 o, .int .i64 q, .string x, .string y, .string z, .bool ag] 55 (0, 0))) := bstay HN4.out hU (Array.getElem?_eq_some_iff.1 HN4.out).1
              have hm4 : w3.heap.size < w4.heap.size := (Array.getElem?_eq_some_iff.1 HN4.out).1
              have hb4l : hb < w4.heap.size := (Array.getElem?_eq_some_iff.1 HS4.out.box).1
              have hm3 : w3.heap.size ≠ hb := by omega
              have hm2 : w3.heap.size ≠ h := by omega
              have hm1 : w3.heap.size ≠ g := by
                obtain ⟨cur, hc1, _⟩ := HS4.out.row
                intro e
                rw [← e, HN4.out] at hc1
                simp at hc1
              have hs0 := HS4.out.on ((Below.refl _ _).drew)
              have c30 : w4.drew.cell? ⟨hb, 3, none⟩ = some (.slice (some ⟨h, 0, none⟩) ms.length ms.length) := bcell hs0.box rfl
              have c31 : (w4.drew.alloc (.cells #[.int .i64 t, .int .i64 o, .int .i64 q, .string x, .string y, .string z, .bool ag] 55)).cell? ⟨hb, 3, none⟩ = some (.slice (some ⟨h, 0, none⟩) ms.length ms.length) := bcell hsU.box rfl
              have hM0 : w4.drew.heap[w3.heap.size]? = some (.cells #[.int .i64 t, .int .i64 o, .int .i64 q, .string x, .string y, .string z, .bool ag] 55 (0, 0)) := HN4.out
              obtain ⟨q0, q1, q2, q3, q4, q5, q6⟩ := box7 hM0
              have HSU : Hid (SG w1 hb ⟨nm, nx, some ⟨h, 0, none⟩, ms.length, ms.length⟩ g es.length M (w4.drew.alloc (.cells #[.int .i64 t, .int .i64 o, .int .i64 q, .string x, .string y, .string z, .bool ag] 55))) := hsU
              clear omU hgU hsU hU hs0 hM0
              go_wp2
              refine chn.region (ws := ws8 hb w4.heap.size h ms.length p #[.int .i64 t, .int .i64 o, .int .i64 q, .string x, .string y, .string z, .bool ag]) (js := [7, 8, 11]) (S := S8 w1 w4.drew hb g es.length h w3.heap.size ms.length nm nx M ((ms.take p ++ ⟨t, o, ⟨q, x, y, z, ag⟩⟩ :: ms.drop p).flatMap flH.c) #[.int .i64 t, .int .i64 o, .int .i64 q, .string x, .string y, .string z, .bool ag]) [69, 70, 71, 72, 73, 74, 75, 76, 77, 78, 79] undef (by kernel_rfl) (by kernel_rfl) (fun _ => rfl) (by kernel_rfl) (by decide) rfl ?each ?fin
              case each =>
                refine ⟨chn.quiet 3 rfl (by decide) (.inl rfl) (by simp) (fun _ => .pointer (some ⟨hb, 0, none⟩)) (by rintro s _ ⟨⟩; exact dk.sets_on _ (by simp) _ rfl) (fun s k W hk hS => by simp [execOp, go_sem, Act.eval, dk.sets_get, ws8, List.lookup]), ?_⟩
                refine ⟨chn.quiet 3 rfl (by decide) (.inl rfl) (by simp) (fun _ => .pointer (some ⟨hb, 0, none⟩)) (by rintro s _ ⟨⟩; exact dk.sets_on _ (by simp) _ rfl) (fun s k W hk hS => by simp [execOp, go_sem, Act.eval, dk.sets_get, ws8, List.lookup]), ?_⟩
                refine ⟨chn.quiet 3 rfl (by decide) (.inl rfl) (by simp) (fun _ => .pointer (some ⟨hb, 0, none⟩)) (by rintro s _ ⟨⟩; exact dk.sets_on _ (by simp) _ rfl) (fun s k W hk hS => by simp [execOp, go_sem, Act.eval, dk.sets_get, ws8, List.lookup]), ?_⟩
                refine ⟨chn.quiet 3 rfl (by decide) (.inl rfl) (by simp) (fun _ => .pointer (some ⟨hb, 3, none⟩)) (by rintro s _ ⟨⟩; exact dk.sets_on _ (by simp) _ rfl) (fun s k W hk hS => by simp [execOp, go_sem, Act.eval, dk.sets_get, ws8, List.lookup]), ?_⟩
                refine ⟨chn.quiet 1 rfl (by decide) (.inr ⟨8, _, rfl, rfl, ⟨4, .data⟩, by simp, rfl, rfl⟩) (by simp) (fun _ => .slice (some ⟨h, 0, none⟩) ms.length ms.length) (by rintro s _ ⟨⟩; exact dk.sets_on _ (by simp) _ rfl) (fun s k W hk hS => by have c : W.cell? ⟨hb, 3, none⟩ = some (.slice (some ⟨h, 0, none⟩) ms.length ms.length) := (by match k, hk, hS with | 0, _, hS => (rw [show W = w4.drew from hS]; exact c30) | 1, _, hS => (rw [show W = w4.drew.alloc (.cells #[.int .i64 t, .int .i64 o, .int .i64 q, .string x, .string y, .string z, .bool ag] 55) from hS]; exact c31)); simp [execOp, go_sem, Act.eval, dk.sets_get, ws8, List.lookup, c]), ?_⟩
                refine ⟨chn.quiet 3 rfl (by decide) (.inl rfl) (by simp) (fun _ => .int .i64 p) (by rintro s _ ⟨⟩; exact dk.sets_on _ (by simp) _ rfl) (fun s k W hk hS => by simp [execOp, go_sem, Act.eval, dk.sets_get, ws8, List.lookup]), ?_⟩
                refine ⟨chn.quiet 0 rfl (by decide) (.inr ⟨7, _, rfl, rfl, ⟨6, .data⟩, by simp, rfl, rfl⟩) (by simp) (fun _ => .agg #[.int .i64 t, .int .i64 o, .int .i64 q, .string x, .string y, .string z, .bool ag]) (by rintro s _ ⟨⟩; exact dk.sets_on _ (by simp) _ rfl) (fun s k W hk hS => by match k, hk, hS with | 0, _, hS => (obtain rfl : W = w4.drew := hS; simp [execOp, go_sem, Act.eval, dk.sets_get, ws8, List.lookup, q0, q1, q2, q3, q4, q5, q6])), ?_⟩
                refine ⟨chn.eff 0 rfl (by decide) rfl (.inl rfl) (by simp) (fun s W hS => ⟨s, .slice (some ⟨w4.heap.size, 0, none⟩) 1 1, gh.Agree.refl _ _, (by rintro _ ⟨⟩; exact dk.sets_on _ (by simp) _ rfl), by obtain rfl : W = w4.drew := hS; exact chn.val (w' := w4.drew.alloc (.cells #[.int .i64 t, .int .i64 o, .int .i64 q, .string x, .string y, .string z, .bool ag] 55)) (by simp [execOp, go_sem, Act.eval, dk.sets_get, ws8, List.lookup]) rfl⟩), ?_⟩
                refine ⟨chn.call 1 rfl (by decide) rfl (.inr ⟨⟨7, .data⟩, by simp, rfl, rfl⟩) (by simp) 55 #[.slice (some ⟨h, 0, none⟩) ms.length ms.length, .int .i64 p, .slice (some ⟨w4.heap.size, 0, none⟩) 1 1] (fun s W hS => ⟨by simp [go_sem, Act.eval, dk.sets_get, ws8, List.lookup], by obtain rfl : W = w4.drew.alloc (.cells #[.int .i64 t, .int .i64 o, .int .i64 q, .string x, .string y, .string z, .bool ag] 55) := hS; exact hin.mono fun e w5 hh => by obtain ⟨g2, d2, he, ho5, hg5⟩ := hh; exact ⟨.slice (some ⟨g2, 0, none⟩) (ms.length + 1) d2, _, he, dk.agree_sets 8 77 _ rfl rfl rfl, (by rintro _ ⟨⟩; exact dk.sets_on _ (by simp) _ rfl), s8_mid g2 d2 ho5 (sg_grown HSU.out hg5 hgh hhb hhw1) (grown_at hg5 HMU.out (by simp; omega))⟩⟩), ?_⟩
                refine ⟨chn.quiet 3 rfl (by decide) (.inl rfl) (by simp) (fun _ => .pointer (some ⟨hb, 0, none⟩)) (by rintro s _ ⟨⟩; exact dk.sets_on _ (by simp) _ rfl) (fun s k W hk hS => by simp [execOp, go_sem, Act.eval, dk.sets_get, ws8, List.lookup]), ?_⟩
                refine ⟨chn.quiet 3 rfl (by decide) (.inl rfl) (by simp) (fun _ => .pointer (some ⟨hb, 3, none⟩)) (by rintro s _ ⟨⟩; exact dk.sets_on _ (by simp) _ rfl) (fun s k W hk hS => by simp [execOp, go_sem, Act.eval, dk.sets_get, ws8, List.lookup]), ?_⟩
                refine ⟨chn.sto 2 rfl (by decide) rfl (.inr ⟨⟨8, .data⟩, by simp, rfl, rfl⟩) (by simp) rfl ?st, trivial⟩
                case st =>
                  intro s W hS
                  obtain ⟨g2, d2, hs, ho, hsg, hm⟩ := s8_2 hS
                  have c : W.cell? ⟨hb, 3, none⟩ = some (.slice (some ⟨h, 0, none⟩) ms.length ms.length) := bcell hsg.box rfl
                  have f := bfree hsg.box 3
                  have hend := s8_end (U := w4.drew) (h := h) (h3 := w3.heap.size) (W := W.setCell ⟨hb, 3, none⟩ (.slice (some ⟨g2, 0, none⟩) (ms.length + 1) d2)) (xs := (ms.take p ++ ⟨t, o, ⟨q, x, y, z, ag⟩⟩ :: ms.drop p).flatMap flH.c) (H := #[.int .i64 t, .int .i64 o, .int .i64 q, .string x, .string y, .string z, .bool ag]) g2 d2 (owns_set (o := 3) (hs ▸ ho) (owns_ne (by decide) (hs ▸ ho) hsg.box) _) (qdi.sg_held hsg (Below.refl _ _)) (boff hm _ _ _ hm3)
                  rw [← hs] at hend
                  refine ⟨W.setCell ⟨hb, 3, none⟩ s, ?_, hend⟩
                  rw [hs]
                  simp [execOp, go_sem, Act.eval, dk.sets_get, ws8, List.lookup, c, f]
              case fin =>
                intro v Y hS9
                obtain ⟨g2, d2, hv, hoY, hsY, hMY⟩ := s8_3 hS9
                subst hv
                simp only [dk.sets, ws8]
                have hsD := hsY.on ((Below.refl _ _).drew)
                have HSY : Hid (SG w1 hb ⟨nm, nx, some ⟨g2, 0, none⟩, ms.length + 1, d2⟩ g es.length M Y.drew) := hsD
                have HOY : Hid (Y.drew.ownsRow w1.heap.size 55 7 (.slice (some ⟨g2, 0, none⟩) (ms.length + 1) d2) (ms.length + 1) ((ms.take p ++ ⟨t, o, ⟨q, x, y, z, ag⟩⟩ :: ms.drop p).flatMap flH.c)) := own_stay hoY ((Below.refl _ _).drew)
                have HMY : Hid (Y.drew.heap[w3.heap.size]? = some (.cells #[.int .i64 t, .int .i64 o, .int .i64 q, .string x, .string y, .string z, .bool ag] 55 (0, 0))) := hMY
                have hcl := closed_run w1 ⟨nm, nx, some ⟨g2, 0, none⟩, ms.length + 1, d2⟩ hb g es.length M Y.drew hsD (by have := HMP.out.length_eq; simp at this; omega) HMH.out
                have CL : Hid (Calls Try.prog 25 #[.pointer (some ⟨hb, 0, none⟩)] Y.drew fun e w' => ∃ gr cr, e = .returned (.agg (XQ nm nx AR.length (ms.length + 1) g2 d2 (gr, cr))) ∧ F9 w AR AH g2 w3.heap.size #[.string ⟨#[]⟩, .int .i64 0, .slice none 0 0, .slice none 0 0] #[.int .i64 0, .string ⟨#[]⟩, .string ⟨#[]⟩, .string ⟨#[]⟩, .bool false] #[.int .i64 t, .int .i64 o, .int .i64 q, .string x, .string y, .string z, .bool ag] (gr, cr) w') := hcl.mono fun e w6 hh => by
                  obtain ⟨R, gr, cr, rfl, hRp, hRs, hRo, hkq⟩ := hh
                  have hRe : R = AR := by rw [← HTA.out]; exact sort_uniq (hRp.trans (perm_tail HMP.out HH0.out.2.2)) hRs (asc_tail HOK.out.ru)
                  subst hRe
                  have hbY := HSY.out.bel
                  have hb16 : Below w1.heap.size w1 w6 := ⟨hkq.os.trans hbY.os, hkq.tape.trans hbY.tape, hkq.output.trans hbY.output, Nat.le_trans hbY.size hkq.size, fun q hq => (hkq.block q (Nat.lt_of_lt_of_le hq hbY.size) (by omega) (by omega)).trans (hbY.block q hq)⟩
                  have h36 : w3.heap.size < Y.drew.heap.size := (Array.getElem?_eq_some_iff.1 HMY.out).1
                  have hgr : Y.drew.heap.size ≤ gr ∧ gr < w6.heap.size := hRo.lt gr rfl
                  have hg2 : w1.heap.size ≤ g2 := (owns_at HOY.out).1
                  have hg2l : g2 < Y.drew.heap.size := by obtain ⟨_, cur, hc⟩ := owns_at HOY.out; exact (Array.getElem?_eq_some_iff.1 hc).1
                  have hg2b : g2 ≠ hb := owns_ne (by decide) HOY.out HSY.out.box
                  have hg2g : g2 ≠ g := by obtain ⟨cur, hc, _⟩ := HSY.out.row; exact owns_ne (by decide) HOY.out hc
                  have hoH : OwnO flH.c 7 55 Y.drew g2 0 AH AH.length := owns_ownO flH.c_len (B := w1.heap.size) (cap := d2) (by rw [HLA.out, ← HSET.out]; exact HOY.out)
                  have hs1 := hb1.size
                  have hsY1 := hbY.size
                  have hB6 : Below W.heap.size W w6 := hb1.trans (hb16.mono hs1)
                  exact ⟨gr, cr, rfl, owns_ownO flM.c_len hRo, hoH.kept (hkq.block g2 hg2l hg2g hg2b), hWb.trans (hB6.mono hWb.size), bstay HRS.out.1 hB6 (by omega), bstay HRS.out.2 hB6 (by omega), (hkq.block _ h36 hm1 hm3).trans HMY.out, by show w.heap.size + 3 ≤ gr; omega, by omega, by show gr ≠ g2; omega⟩
                have hcm := fun V => cmg.copy_msg ⟨q, x, y, z, ag⟩ V hmb
                obtain ⟨k0, k1, k2, k3, k4, k5, k6⟩ := box7 HMY.out
                clear hcl hsD hoY hsY hMY c30 c31 q0 q1 q2 q3 q4 q5 q6
                go_wp2
                refine chn.region (ws := ws9 hb w3.heap.size g2 d2 nm nx AR.length (ms.length + 1) #[.int .i64 q, .string x, .string y, .string z, .bool ag]) (js := [1, 4, 5, 6]) (S := S9 w Y.drew AR AH g2 d2 w3.heap.size nm nx (ms.length + 1) #[.int .i64 t, .int .i64 o, .int .i64 q, .string x, .string y, .string z, .bool ag] #[.int .i64 q, .string x, .string y, .string z, .bool ag]) [80, 81, 82, 83, 84, 8] (0, 0) (by kernel_rfl) (by kernel_rfl) (fun _ => rfl) (by kernel_rfl) (by decide) rfl ?each9 ?fin9
                case each9 =>
                  refine ⟨chn.quiet 4 rfl (by decide) (.inl rfl) (by simp) (fun _ => .pointer (some ⟨hb, 0, none⟩)) (by rintro s _ ⟨⟩; exact dk.sets_on _ (by simp) _ rfl) (fun s k W hk hS => by simp [execOp, go_sem, Act.eval, dk.sets_get, ws9, List.lookup]), ?_⟩
                  refine ⟨chn.call 0 rfl (by decide) rfl (.inl rfl) (by simp) 25 #[.pointer (some ⟨hb, 0, none⟩)] (fun s W hS => ⟨by simp [go_sem, Act.eval, dk.sets_get, ws9, List.lookup], by obtain rfl : W = Y.drew := hS; exact CL.out.mono fun e w6 hh => by obtain ⟨gr, cr, he, hf⟩ := hh; exact ⟨(gr, cr), _, he, dk.agree_sets 1 81 _ rfl rfl rfl, (by rintro _ ⟨⟩; exact dk.sets_on _ (by simp) _ rfl), hf⟩⟩), ?_⟩
                  refine ⟨chn.quiet 4 rfl (by decide) (.inl rfl) (by simp) (fun _ => .pointer (some ⟨w3.heap.size, 2, none⟩)) (by rintro s _ ⟨⟩; exact dk.sets_on _ (by simp) _ rfl) (fun s k W hk hS => by simp [execOp, go_sem, Act.eval, dk.sets_get, ws9, List.lookup]), ?_⟩
                  refine ⟨chn.quiet 1 rfl (by decide) (.inr ⟨4, _, rfl, rfl, ⟨3, .data⟩, by simp, rfl, rfl⟩) (by simp) (fun _ => .agg #[.int .i64 q, .string x, .string y, .string z, .bool ag]) (by rintro s _ ⟨⟩; exact dk.sets_on _ (by simp) _ rfl) (fun s k W hk hS => by obtain ⟨_, _, j2, j3, j4, j5, j6⟩ := box7 (s9_more hk HMY.out hS); simp [execOp, go_sem, Act.eval, dk.sets_get, ws9, List.lookup, j2, j3, j4, j5, j6]), ?_⟩
                  refine ⟨chn.call 1 rfl (by decide) rfl (.inr ⟨⟨1, .chain⟩, by simp, rfl, rfl⟩) (by simp) 51 #[.agg #[.int .i64 q, .string x, .string y, .string z, .bool ag]] (fun s W hS => ⟨by simp [go_sem, Act.eval, dk.sets_get, ws9, List.lookup], (hcm W).mono fun e w7 hh => by obtain ⟨he, hb7⟩ := hh; exact ⟨s, _, he, gh.Agree.refl _ _, (by rintro _ ⟨⟩; exact dk.sets_on _ (by simp) _ rfl), F9.on hS hb7⟩⟩), ?_⟩
                  refine ⟨chn.sto 2 rfl (by decide) rfl (.inr ⟨⟨4, .chain⟩, by simp, rfl, rfl⟩) (by simp) rfl ?s5, ?_⟩
                  case s5 =>
                    intro s W hS
                    obtain ⟨z0, z1, z2, z3⟩ := box4 (s9_2 hS).res
                    have f0 := bfree (s9_2 hS).res 0
                    have f1 := bfree (s9_2 hS).res 1
                    have f2 := bfree (s9_2 hS).res 2
                    have f3 := bfree (s9_2 hS).res 3
                    refine ⟨_, ?_, (s9_2 hS).put4⟩
                    simp [execOp, go_sem, Act.eval, dk.sets_get, ws9, List.lookup, XQ, z0, z1, z2, z3, f0, f1, f2, f3]
                  refine ⟨chn.sto 3 rfl (by decide) rfl (.inr ⟨⟨5, .chain⟩, by simp, rfl, rfl⟩) (by simp) rfl ?s6, ?_⟩
                  case s6 =>
                    intro s W hS
                    obtain ⟨z0, z1, z2, z3, z4⟩ := box5 (s9_3 hS).rem
                    have f0 := bfree (s9_3 hS).rem 0
                    have f1 := bfree (s9_3 hS).rem 1
                    have f2 := bfree (s9_3 hS).rem 2
                    have f3 := bfree (s9_3 hS).rem 3
                    have f4 := bfree (s9_3 hS).rem 4
                    refine ⟨_, ?_, (s9_3 hS).put5⟩
                    simp [execOp, go_sem, Act.eval, dk.sets_get, ws9, List.lookup, z0, z1, z2, z3, z4, f0, f1, f2, f3, f4]
                  exact ⟨chn.quiet 4 rfl (by decide) (.inl rfl) (by simp) (fun _ => .bool true) (by rintro s _ ⟨⟩; exact dk.sets_on _ (by simp) _ rfl) (fun s k W hk hS => by simp [execOp, go_sem, Act.eval]), trivial⟩
                case fin9 =>
                  intro s W hS
                  have hF := s9_4 hS
                  obtain ⟨z0, z1, z2, z3⟩ := box4 hF.res
                  obtain ⟨y0, y1, y2, y3, y4⟩ := box5 hF.rem
                  have HFN : Hid (F9 w AR AH g2 w3.heap.size (XQ nm nx AR.length (ms.length + 1) g2 d2 s) #[.int .i64 q, .string x, .string y, .string z, .bool ag] #[.int .i64 t, .int .i64 o, .int .i64 q, .string x, .string y, .string z, .bool ag] s W) := hF
                  clear hF hS
                  simp only [dk.sets, ws9]
                  go_wp2
                  refine bodyPost_ret (v := .tuple #[.agg #[.string nm, .int .i64 nx, .slice (some ⟨s.1, 0, none⟩) AR.length s.2, .slice (some ⟨g2, 0, none⟩) (ms.length + 1) d2], .agg #[.int .i64 q, .string x, .string y, .string z, .bool ag], .bool true]) (by simp [results, Try.results17, go_sem, z0, z1, z2, z3, y0, y1, y2, y3, y4]) rfl ⟨s.1, s.2, g2, d2, by rw [HLA.out], by have := HFN.out.b1; omega, by have := HFN.out.b2; omega, HFN.out.ne, HFN.out.oe, HFN.out.oh, HFN.out.bel⟩
          · have hpe : p = ms.length := by omega
            have i2 : ¬ (p : Int) < (ms.length : Int) := by omega
            have d2 : decide ((p : Int) < (ms.length : Int)) = false := by simpa using i2
            have hla : ms.any (qpp.late o t) = false := by
              cases hh : ms.any (qpp.late o t) with
              | false => rfl
              | true => obtain ⟨a, h1, h2⟩ := (qpp.late_iff HOK.out HPS.out).1 hh; have := (List.getElem?_eq_some_iff.1 h1).1; omega
            clear om4 hN4
            exact absurd (qpp.atO_pos HOK.out HPS.out hla) (by have := HAT.out; omega)
end Go.Proofs.Ytnlcmheahihlpaa.qoi

/- The program's Pop where it can be and the new one stands last. -/
namespace Go.Proofs.Ytnlcmheahihlpaa.qoi
open Go.ChangeShapes Go.WideShapes Go.ChangeAt Go.RowKit Go.Proofs.Ytnlcmheahihlpaa.fl Go.Proofs.Ytnlcmheahihlpaa.fo Go.Proofs.Ytnlcmheahihlpaa.qit Go.Proofs.Ytnlcmheahihlpaa.qst Go.Proofs.Ytnlcmheahihlpaa.qpu Go.Proofs.Ytnlcmheahihlpaa.qpo Go.Proofs.Ytnlcmheahihlpaa.qop Go.Proofs.Ytnlcmheahihlpaa.qcl Go.Proofs.Ytnlcmheahihlpaa.qsp Go.Proofs.Ytnlcmheahihlpaa.qpi
set_option linter.unusedVariables false

set_option maxRecDepth 100000 in
set_option maxHeartbeats 4000000 in
theorem impl_pop_end (nm : ByteArray) (nx : Int) (es : List flM.Ms) (ms : List flH.Hd) (a0 b0 : Option Addr) (ec bc : Nat) (o t : Int) (w : World) (F : Fit nm es ms) (hgd : qpp.good nm nx es ms o t = true) (hat : qpp.atO o ms ms.length = ms.length) (hE : Row flM.c 5 w w.heap.size a0 es) (hB : Row flH.c 7 w w.heap.size b0 ms) :
    Calls Try.prog 17 #[.agg #[.string nm, .int .i64 nx, .slice a0 es.length ec, .slice b0 ms.length bc], .int .i64 o, .int .i64 t] w fun e w' => PP w nm nx (qpp.ansR nm nx es ms o t) (qpp.ansH nm nx es ms o t) (qpp.ansM nm nx es ms o t) (qpp.good nm nx es ms o t) e w' := by
  have hWb : Below w.heap.size w (((w.alloc (.cells #[.string nm, .int .i64 nx, .slice a0 es.length ec, .slice b0 ms.length bc] 27)).alloc (.cells #[.string ⟨#[]⟩, .int .i64 0, .slice none 0 0, .slice none 0 0] 27)).alloc (.cells #[.int .i64 0, .string ⟨#[]⟩, .string ⟨#[]⟩, .string ⟨#[]⟩, .bool false] 41)) := (((Below.refl _ _).alloc (Nat.le_refl _) _).alloc (by simp) _).alloc (by simp; omega) _
  have hA := bold (bold (bnew w #[.string nm, .int .i64 nx, .slice a0 es.length ec, .slice b0 ms.length bc] 27) (.cells #[.string ⟨#[]⟩, .int .i64 0, .slice none 0 0, .slice none 0 0] 27)) (.cells #[.int .i64 0, .string ⟨#[]⟩, .string ⟨#[]⟩, .string ⟨#[]⟩, .bool false] 41)
  have hR := bold (bnew (w.alloc (.cells #[.string nm, .int .i64 nx, .slice a0 es.length ec, .slice b0 ms.length bc] 27)) #[.string ⟨#[]⟩, .int .i64 0, .slice none 0 0, .slice none 0 0] 27) (.cells #[.int .i64 0, .string ⟨#[]⟩, .string ⟨#[]⟩, .string ⟨#[]⟩, .bool false] 41)
  have hM := bnew ((w.alloc (.cells #[.string nm, .int .i64 nx, .slice a0 es.length ec, .slice b0 ms.length bc] 27)).alloc (.cells #[.string ⟨#[]⟩, .int .i64 0, .slice none 0 0, .slice none 0 0] 27)) #[.int .i64 0, .string ⟨#[]⟩, .string ⟨#[]⟩, .string ⟨#[]⟩, .bool false] 41
  have hsz2 : ((w.alloc (.cells #[.string nm, .int .i64 nx, .slice a0 es.length ec, .slice b0 ms.length bc] 27)).alloc (.cells #[.string ⟨#[]⟩, .int .i64 0, .slice none 0 0, .slice none 0 0] 27)).heap.size = w.heap.size + 2 := by simp
  rw [World.size_alloc] at hR
  rw [hsz2] at hM
  obtain ⟨W, hW⟩ : ∃ W, ((w.alloc (.cells #[.string nm, .int .i64 nx, .slice a0 es.length ec, .slice b0 ms.length bc] 27)).alloc (.cells #[.string ⟨#[]⟩, .int .i64 0, .slice none 0 0, .slice none 0 0] 27)).alloc (.cells #[.int .i64 0, .string ⟨#[]⟩, .string ⟨#[]⟩, .string ⟨#[]⟩, .bool false] 41) = W := ⟨_, rfl⟩
  have hWs : W.heap.size = w.heap.size + 3 := by rw [← hW]; simp
  rw [hW] at hWb hA hR hM
  have HE : Hid (Row flM.c 5 W W.heap.size a0 es) := hE.inn hWb
  have HRS : Hid (W.heap[w.heap.size + 1]? = some (.cells #[.string ⟨#[]⟩, .int .i64 0, .slice none 0 0, .slice none 0 0] 27 (0, 0)) ∧ W.heap[w.heap.size + 2]? = some (.cells #[.int .i64 0, .string ⟨#[]⟩, .string ⟨#[]⟩, .string ⟨#[]⟩, .bool false] 41 (0, 0))) := ⟨hR, hM⟩
  have HB : Hid (Row flH.c 7 W W.heap.size b0 ms) := hB.inn hWb
  have HF : Hid (Fit nm es ms) := F
  have BX : Hid (∀ V, Below W.heap.size W V → (V.cell? ⟨w.heap.size, 0, none⟩ = some (.string nm) ∧ V.cell? ⟨w.heap.size, 1, none⟩ = some (.int .i64 nx) ∧ V.cell? ⟨w.heap.size, 2, none⟩ = some (.slice a0 es.length ec) ∧ V.cell? ⟨w.heap.size, 3, none⟩ = some (.slice b0 ms.length bc)) ∧ (V.cell? ⟨w.heap.size + 1, 0, none⟩ = some (.string ⟨#[]⟩) ∧ V.cell? ⟨w.heap.size + 1, 1, none⟩ = some (.int .i64 0) ∧ V.cell? ⟨w.heap.size + 1, 2, none⟩ = some (.slice none 0 0) ∧ V.cell? ⟨w.heap.size + 1, 3, none⟩ = some (.slice none 0 0)) ∧ (V.cell? ⟨w.heap.size + 2, 0, none⟩ = some (.int .i64 0) ∧ V.cell? ⟨w.heap.size + 2, 1, none⟩ = some (.string ⟨#[]⟩) ∧ V.cell? ⟨w.heap.size + 2, 2, none⟩ = some (.string ⟨#[]⟩) ∧ V.cell? ⟨w.heap.size + 2, 3, none⟩ = some (.string ⟨#[]⟩) ∧ V.cell? ⟨w.heap.size + 2, 4, none⟩ = some (.bool false)) ∧ (V.frozen? ⟨w.heap.size + 1, 0, none⟩ = false ∧ V.frozen? ⟨w.heap.size + 1, 1, none⟩ = false ∧ V.frozen? ⟨w.heap.size + 1, 2, none⟩ = false ∧ V.frozen? ⟨w.heap.size + 1, 3, none⟩ = false) ∧ V.frozen? ⟨w.heap.size + 2, 0, none⟩ = false ∧ V.frozen? ⟨w.heap.size + 2, 1, none⟩ = false ∧ V.frozen? ⟨w.heap.size + 2, 2, none⟩ = false ∧ V.frozen? ⟨w.heap.size + 2, 3, none⟩ = false ∧ V.frozen? ⟨w.heap.size + 2, 4, none⟩ = false) := fun V hV => by
    have a := bstay hA hV (by omega)
    have r := bstay hR hV (by omega)
    have m := bstay hM hV (by omega)
    exact ⟨⟨bcell a rfl, bcell a rfl, bcell a rfl, bcell a rfl⟩, ⟨bcell r rfl, bcell r rfl, bcell r rfl, bcell r rfl⟩, ⟨bcell m rfl, bcell m rfl, bcell m rfl, bcell m rfl, bcell m rfl⟩, ⟨bfree r 0, bfree r 1, bfree r 2, bfree r 3⟩, bfree m 0, bfree m 1, bfree m 2, bfree m 3, bfree m 4⟩
  have hok := impl_okb nm nx es ms _ _ ec bc W F HE.out HB.out
  have CP : Hid (∀ V, Below W.heap.size W V → Calls Try.prog 21 #[.agg #[.string nm, .int .i64 nx, .slice a0 es.length ec, .slice b0 ms.length bc]] V fun r w' => ∃ g h, r = .returned (.agg #[.string nm, .int .i64 nx, .slice (some ⟨g, 0, none⟩) es.length es.length, .slice (some ⟨h, 0, none⟩) ms.length ms.length]) ∧ V.heap.size ≤ g ∧ V.heap.size ≤ h ∧ g ≠ h ∧ Own flM.c 5 41 w' g es es.length ∧ Own flH.c 7 55 w' h ms ms.length ∧ Below V.heap.size V w') := fun V hV => cqu.copy_queue nm nx es ms a0 b0 ec bc V F.ns F.el F.ml F.eb F.mb (HE.out.inn hV) (HB.out.inn hV)
  have HAT : Hid (qpp.atO o ms ms.length = ms.length) := hat
  clear hat
  have HAR : Hid (qpp.ansR nm nx es ms o t = if qpp.good nm nx es ms o t = true then es.tail else es) := rfl
  have HAH : Hid (qpp.ansH nm nx es ms o t = if qpp.good nm nx es ms o t = true then ms.take (qpp.atO o ms ms.length) ++ ⟨t, o, qpp.headM es⟩ :: ms.drop (qpp.atO o ms ms.length) else ms) := rfl
  have HAM : Hid (qpp.ansM nm nx es ms o t = if qpp.good nm nx es ms o t = true then qpp.headM es else qpp.headM []) := rfl
  have HGD : Hid (qpp.good nm nx es ms o t = (okB nm nx es ms && qpp.hand o t && !es.isEmpty && !ms.any (qpp.late o t))) := rfl
  obtain ⟨AR, hAR⟩ : ∃ y, qpp.ansR nm nx es ms o t = y := ⟨_, rfl⟩
  obtain ⟨AH, hAH⟩ : ∃ y, qpp.ansH nm nx es ms o t = y := ⟨_, rfl⟩
  obtain ⟨AM, hAM⟩ : ∃ y, qpp.ansM nm nx es ms o t = y := ⟨_, rfl⟩
  obtain ⟨GD, hGD⟩ : ∃ y, qpp.good nm nx es ms o t = y := ⟨_, rfl⟩
  rw [hAR, hGD] at HAR
  rw [hAH, hGD] at HAH
  rw [hAM, hGD] at HAM
  rw [hGD] at HGD
  have HGD : Hid ((okB nm nx es ms && qpp.hand o t && !es.isEmpty && !ms.any (qpp.late o t)) = GD) := HGD.out.symm
  have HGT : Hid (GD = true) := hGD.symm.trans hgd
  simp only [hAR, hAH, hAM, hGD]
  obtain ⟨⟨x0, x1, x2, x3⟩, _⟩ := BX.out W (Below.refl _ _)
  clear hgd hE hB hA hR hM F hAR hAH hAM hGD
  go_enter Try.func17, Try.ntmps17
  go_wp2_with (go_at_call 11; fail)
  clear hW x0 x1 x2 x3
  refine hok.mono ?_
  rintro e w1 ⟨rfl, hb1⟩
  obtain ⟨ob, hob⟩ : ∃ ob, okB nm nx es ms = ob := ⟨_, rfl⟩
  rw [hob] at HGD ⊢
  clear hok
  cases ob with
  | false =>
    exact absurd (HGT.out.symm.trans HGD.out.symm) (by simp)
  | true =>
    have hhd := qhd.impl_hand o t w1
    obtain ⟨hn, hhn⟩ : ∃ hn, qpp.hand o t = hn := ⟨_, rfl⟩
    rw [hhn] at HGD hhd
    go_wp2_with (go_at_call 36; fail)
    refine hhd.mono ?_
    rintro e wh ⟨rfl, hwh⟩
    obtain rfl := hwh.symm
    clear hhd
    cases hn with
    | false =>
      exact absurd (HGT.out.symm.trans HGD.out.symm) (by simp)
    | true =>
      obtain ⟨⟨x0, x1, x2, x3⟩, _⟩ := BX.out w1 hb1
      by_cases hes : es = []
      · have hl0 : ((es.length : Int) == 0) = true := by simp [hes]
        have hie : es.isEmpty = true := by simp [hes]
        clear hes
        exact absurd (HGT.out.symm.trans HGD.out.symm) (by simp [hie])
      · have hl0 : ((es.length : Int) == 0) = false := by simp [hes]
        have hie : es.isEmpty = false := by simp [hes]
        obtain ⟨⟨q, x, y, z, ag⟩, h0, hr0, hrt⟩ : ∃ r0, es[0]? = some r0 ∧ qpp.headM es = r0 ∧ es = r0 :: es.tail := by
          cases es with
          | nil => exact absurd rfl hes
          | cons r l => exact ⟨r, rfl, rfl, rfl⟩
        have HH0 : Hid (es[0]? = some ⟨q, x, y, z, ag⟩ ∧ qpp.headM es = ⟨q, x, y, z, ag⟩ ∧ es = ⟨q, x, y, z, ag⟩ :: es.tail) := ⟨h0, hr0, hrt⟩
        clear hes h0 hr0 hrt
        have HOK : Hid (qk.OkQ nm nx es ms) := okB_true.1 hob
        have hln := HOK.out.ln
        have hop := open_of nm nx es ms a0 b0 ec bc w1 HF.out.ns HF.out.el HF.out.ml HF.out.eb HF.out.mb (HE.out.inn hb1) (HB.out.inn hb1)
        go_wp2_with (go_at_call 22; fail)
        refine hop.mono ?_
        rintro e w2 ⟨hb, g, h, rfl, hsg, om, hh, hhb⟩
        have hb2 := hsg.bel
        have hB2 : Below W.heap.size W w2 := hb1.trans (hb2.mono hb1.size)
        have HOM : Hid (Own flH.c 7 55 w2 h ms ms.length) := om
        have hhB : w1.heap.size ≤ hb := hsg.hbB
        have hgB : w1.heap.size ≤ g := hsg.gB
        have hbl2 : hb < w2.heap.size := (Array.getElem?_eq_some_iff.1 hsg.box).1
        have hhl2 := om.lt
        have hhw1 : w1.heap.size ≤ h := hh
        have hgh : h ≠ g := by
          obtain ⟨cur, hc1, _⟩ := om
          obtain ⟨cur', hc2, _⟩ := hsg.row
          rintro rfl
          rw [hc1] at hc2
          simp at hc2
        have hfr := first_run w1 ⟨nm, nx, some ⟨h, 0, none⟩, ms.length, ms.length⟩ hb g es.length es ⟨q, x, y, z, ag⟩ w2 hsg HH0.out.1 (by omega) (sorted_heap HOK.out.ru)
        clear hop x0 x1 x2 x3 hsg om hl0
        go_wp2_with (go_at_call 53; fail)
        refine hfr.mono ?_
        rintro e w3 ⟨rfl, M, hMp, hMh, hsg3, hkq3⟩
        have om3 : Own flH.c 7 55 w3 h ms ms.length := HOM.out.kept (hkq3.block h hhl2 hgh hhb)
        have hs23 := hkq3.size
        have hal : Below w3.heap.size w3 (w3.alloc (.cells #[.int .i64 t, .int .i64 o, .int .i64 q, .string x, .string y, .string z, .bool ag] 55)) := (Below.refl _ _).alloc (Nat.le_refl _) _
        have hN := bnew w3 #[.int .i64 t, .int .i64 o, .int .i64 q, .string x, .string y, .string z, .bool ag] 55
        have omV := om3.below hal om3.lt
        have sgV := hsg3.on hal
        obtain ⟨V, hV⟩ : ∃ V, w3.alloc (.cells #[.int .i64 t, .int .i64 o, .int .i64 q, .string x, .string y, .string z, .bool ag] 55) = V := ⟨_, rfl⟩
        have hVs : V.heap.size = w3.heap.size + 1 := by rw [← hV]; simp
        rw [hV] at hal hN omV sgV
        have HN : Hid (V.heap[w3.heap.size]? = some (.cells #[.int .i64 t, .int .i64 o, .int .i64 q, .string x, .string y, .string z, .bool ag] 55 (0, 0))) := hN
        have HOMV : Hid (Own flH.c 7 55 V h ms ms.length) := omV
        have HSGV : Hid (SG w1 hb ⟨nm, nx, some ⟨h, 0, none⟩, ms.length, ms.length⟩ g es.length M V) := sgV
        have HMP : Hid ((⟨q, x, y, z, ag⟩ :: M).Perm es) := hMp
        have HMH : Hid (hp.Heap less M M.length) := hMh
        have hse := sch.search_held ms h ms.length t o q x y z ag V.drew HF.out.ml ((sch.rh_of omV.lt omV.row).below ((Below.refl _ _).drew)) (qpp.mon_ok HOK.out _)
        have v3 : V.cell? ⟨hb, 3, none⟩ = some (.slice (some ⟨h, 0, none⟩) ms.length ms.length) := bcell sgV.box rfl
        have m0 : V.cell? ⟨w3.heap.size, 0, none⟩ = some (.int .i64 t) := bcell hN rfl
        have m1 : V.cell? ⟨w3.heap.size, 1, none⟩ = some (.int .i64 o) := bcell hN rfl
        have m2 : V.cell? ⟨w3.heap.size, 2, none⟩ = some (.int .i64 q) := bcell hN rfl
        have m3 : V.cell? ⟨w3.heap.size, 3, none⟩ = some (.string x) := bcell hN rfl
        have m4 : V.cell? ⟨w3.heap.size, 4, none⟩ = some (.string y) := bcell hN rfl
        have m5 : V.cell? ⟨w3.heap.size, 5, none⟩ = some (.string z) := bcell hN rfl
        have m6 : V.cell? ⟨w3.heap.size, 6, none⟩ = some (.bool ag) := bcell hN rfl
        have hb13 : Below w1.heap.size w1 V := sgV.bel
        clear hfr hMp hMh hsg3 hkq3 om3 hN omV sgV HOM
        go_wp2
        clear hV
        go_region_with (go_at_call 54; refine hse.mono ?_; rintro e w4 ⟨⟨p, bf, rfl, hpos, hbf⟩, hb4⟩)
        all_goals
          replace hb4 : Below V.heap.size V w4 := (Below.drew (Below.refl _ V)).trans hb4
          clear hbf
          have HPS : Hid (sch.PosH ms ⟨t, o, ⟨q, x, y, z, ag⟩⟩ p) := hpos
          have hple := hpos.le
          have hsg4 := HSGV.out.on hb4
          have om4 := HOMV.out.below hb4 HOMV.out.lt
          have hN4 := bstay HN.out hb4 (by omega)
          have hB4 : Below W.heap.size W w4 := (hb1.trans (hb13.mono hb1.size)).trans (hb4.mono (by have := hb13.size; have := hb1.size; omega))
          have u3 : w4.cell? ⟨hb, 3, none⟩ = some (.slice (some ⟨h, 0, none⟩) ms.length ms.length) := bcell hsg4.box rfl
          have HS4 : Hid (SG w1 hb ⟨nm, nx, some ⟨h, 0, none⟩, ms.length, ms.length⟩ g es.length M w4) := hsg4
          have HO4 : Hid (Own flH.c 7 55 w4 h ms ms.length) := om4
          have HN4 : Hid (w4.heap[w3.heap.size]? = some (.cells #[.int .i64 t, .int .i64 o, .int .i64 q, .string x, .string y, .string z, .bool ag] 55 (0, 0))) := hN4
          clear hse v3 m0 m1 m2 m3 m4 m5 m6 hpos HSGV HOMV HN hsg4
          have m0 : w4.cell? ⟨w3.heap.size, 0, none⟩ = some (.int .i64 t) := bcell hN4 rfl
          have m1 : w4.cell? ⟨w3.heap.size, 1, none⟩ = some (.int .i64 o) := bcell hN4 rfl
          have m2 : w4.cell? ⟨w3.heap.size, 2, none⟩ = some (.int .i64 q) := bcell hN4 rfl
          have m3 : w4.cell? ⟨w3.heap.size, 3, none⟩ = some (.string x) := bcell hN4 rfl
          have m4 : w4.cell? ⟨w3.heap.size, 4, none⟩ = some (.string y) := bcell hN4 rfl
          have m5 : w4.cell? ⟨w3.heap.size, 5, none⟩ = some (.string z) := bcell hN4 rfl
          have m6 : w4.cell? ⟨w3.heap.size, 6, none⟩ = some (.bool ag) := bcell hN4 rfl
          by_cases hpl : p < ms.length
          · have i2 : (p : Int) < (ms.length : Int) := by omega
            have d2 : decide ((p : Int) < (ms.length : Int)) = true := by simpa using i2
            have HG : Hid (ms[p]? = some ms[p]) := List.getElem?_eq_getElem hpl
            obtain ⟨hd, he⟩ : ∃ e, ms[p] = e := ⟨_, rfl⟩
            rw [he] at HG
            obtain ⟨_, c1, _⟩ := (sch.rh_of om4.lt om4.row).2 p hd HG.out
            clear he om4 hN4
            by_cases hoo : hd.o = o
            · have q1 : (hd.o == o) = true := by simpa using hoo
              have hla : ms.any (qpp.late o t) = true := (qpp.late_iff HOK.out HPS.out).2 ⟨hd, HG.out, hoo⟩
              clear hoo
              exact absurd (HGT.out.symm.trans HGD.out.symm) (by simp [hie, hla])
            · have q1 : (hd.o == o) = false := by simpa using hoo
              have hla : ms.any (qpp.late o t) = false := by
                cases hh : ms.any (qpp.late o t) with
                | false => rfl
                | true => obtain ⟨a, h1, h2⟩ := (qpp.late_iff HOK.out HPS.out).1 hh; rw [HG.out] at h1; cases h1; exact absurd h2 hoo
              clear hoo
              exact absurd (qpp.atO_pos HOK.out HPS.out hla) (by have := HAT.out; omega)
          · have hpe : p = ms.length := by omega
            have i2 : ¬ (p : Int) < (ms.length : Int) := by omega
            have d2 : decide ((p : Int) < (ms.length : Int)) = false := by simpa using i2
            have hla : ms.any (qpp.late o t) = false := by
              cases hh : ms.any (qpp.late o t) with
              | false => rfl
              | true => obtain ⟨a, h1, h2⟩ := (qpp.late_iff HOK.out HPS.out).1 hh; have := (List.getElem?_eq_some_iff.1 h1).1; omega
            clear om4 hN4
            clear hpe
            have HAP : Hid (qpp.atO o ms ms.length = p) := qpp.atO_pos HOK.out HPS.out hla
            have HSET : Hid (ms.take p ++ ⟨t, o, ⟨q, x, y, z, ag⟩⟩ :: ms.drop p = AH) := by have := HAH.out; rw [HGT.out, if_pos rfl, HH0.out.2.1, HAP.out] at this; exact this.symm
            have HLA : Hid (AH.length = ms.length + 1) := by show AH.length = ms.length + 1; rw [← HSET.out]; simp; omega
            have HTA : Hid (es.tail = AR) := by have := HAR.out; rw [HGT.out, if_pos rfl] at this; exact this.symm
            obtain rfl : (⟨q, x, y, z, ag⟩ : flM.Ms) = AM := by have := HAM.out; rw [HGT.out, if_pos rfl, HH0.out.2.1] at this; exact this.symm
            obtain rfl : GD = true := HGT.out
            have hmb : x.size ≤ 1048576 ∧ y.size ≤ 1048576 ∧ z.size ≤ 1048576 := HF.out.eb ⟨q, x, y, z, ag⟩ (List.mem_of_getElem? HH0.out.1)
            clear HAR HAH HAM HGD HGT HAT
            have hU : Below w4.heap.size w4 (w4.drew.alloc (.cells #[.int .i64 t, .int .i64 o, .int .i64 q, .string x, .string y, .string z, .bool ag] 55)) := ((Below.refl _ _).drew).alloc (Nat.le_refl _) _
            have omU := HO4.out.below hU HO4.out.lt
            have hgU : (w4.drew.alloc (.cells #[.int .i64 t, .int .i64 o, .int .i64 q, .string x, .string y, .string z, .bool ag] 55)).heap[w4.heap.size]? = some (.cells #[.int .i64 t, .int .i64 o, .int .i64 q, .string x, .string y, .string z, .bool ag] 55 (0, 0)) := bnew w4.drew _ _
            have hsU := HS4.out.on hU
            have hml5 := HF.out.ml
            have hin := inh.insert_held ms h p w1.heap.size t o q x y z ag w4.heap.size (w4.drew.alloc (.cells #[.int .i64 t, .int .i64 o, .int .i64 q, .string x, .string y, .string z, .bool ag] 55)) hple hml5 (Nat.le_trans (HS4.out.bel.size) hU.size) (own_owns flH.c_len omU hhw1 (by unfold maxLen; omega)) hgU
            have HSU : Hid (SG w1 hb ⟨nm, nx, some ⟨h, 0, none⟩, ms.length, ms.length⟩ g es.length M (w4.drew.alloc (.cells #[.int .i64 t, .int .i64 o, .int .i64 q, .string x, .string y, .string z, .bool ag] 55))) := hsU
            have HMU : Hid ((w4.drew.alloc (.cells #[.int .i64 t, .int .i64 o, .int .i64 q, .string x, .string y, .string z, .bool ag] 55)).heap[w3.heap.size]? = some (.cells #[.int .i64 t, .int .i64 o, .int .i64 q, .string x, .string y, .string z, .bool ag] 55 (0, 0))) := bstay HN4.out hU (Array.getElem?_eq_some_iff.1 HN4.out).1
            have hm4 : w3.heap.size < w4.heap.size := (Array.getElem?_eq_some_iff.1 HN4.out).1
            have hb4l : hb < w4.heap.size := (Array.getElem?_eq_some_iff.1 HS4.out.box).1
            have hm3 : w3.heap.size ≠ hb := by omega
            have hm2 : w3.heap.size ≠ h := by omega
            have hm1 : w3.heap.size ≠ g := by
              obtain ⟨cur, hc1, _⟩ := HS4.out.row
              intro e
              rw [← e, HN4.out] at hc1
              simp at hc1
            have hs0 := HS4.out.on ((Below.refl _ _).drew)
            have c30 : w4.drew.cell? ⟨hb, 3, none⟩ = some (.slice (some ⟨h, 0, none⟩) ms.length ms.length) := bcell hs0.box rfl
            have c31 : (w4.drew.alloc (.cells #[.int .i64 t, .int .i64 o, .int .i64 q, .string x, .string y, .string z, .bool ag] 55)).cell? ⟨hb, 3, none⟩ = some (.slice (some ⟨h, 0, none⟩) ms.length ms.length) := bcell hsU.box rfl
            have hM0 : w4.drew.heap[w3.heap.size]? = some (.cells #[.int .i64 t, .int .i64 o, .int .i64 q, .string x, .string y, .string z, .bool ag] 55 (0, 0)) := HN4.out
            obtain ⟨q0, q1, q2, q3, q4, q5, q6⟩ := box7 hM0
            have HSU : Hid (SG w1 hb ⟨nm, nx, some ⟨h, 0, none⟩, ms.length, ms.length⟩ g es.length M (w4.drew.alloc (.cells #[.int .i64 t, .int .i64 o, .int .i64 q, .string x, .string y, .string z, .bool ag] 55))) := hsU
            clear omU hgU hsU hU hs0 hM0
            go_wp2
            refine chn.region (ws := ws8 hb w4.heap.size h ms.length p #[.int .i64 t, .int .i64 o, .int .i64 q, .string x, .string y, .string z, .bool ag]) (js := [7, 8, 11]) (S := S8 w1 w4.drew hb g es.length h w3.heap.size ms.length nm nx M ((ms.take p ++ ⟨t, o, ⟨q, x, y, z, ag⟩⟩ :: ms.drop p).flatMap flH.c) #[.int .i64 t, .int .i64 o, .int .i64 q, .string x, .string y, .string z, .bool ag]) [69, 70, 71, 72, 73, 74, 75, 76, 77, 78, 79] undef (by kernel_rfl) (by kernel_rfl) (fun _ => rfl) (by kernel_rfl) (by decide) rfl ?each ?fin
            case each =>
              refine ⟨chn.quiet 3 rfl (by decide) (.inl rfl) (by simp) (fun _ => .pointer (some ⟨hb, 0, none⟩)) (by rintro s _ ⟨⟩; exact dk.sets_on _ (by simp) _ rfl) (fun s k W hk hS => by simp [execOp, go_sem, Act.eval, dk.sets_get, ws8, List.lookup]), ?_⟩
              refine ⟨chn.quiet 3 rfl (by decide) (.inl rfl) (by simp) (fun _ => .pointer (some ⟨hb, 0, none⟩)) (by rintro s _ ⟨⟩; exact dk.sets_on _ (by simp) _ rfl) (fun s k W hk hS => by simp [execOp, go_sem, Act.eval, dk.sets_get, ws8, List.lookup]), ?_⟩
              refine ⟨chn.quiet 3 rfl (by decide) (.inl rfl) (by simp) (fun _ => .pointer (some ⟨hb, 0, none⟩)) (by rintro s _ ⟨⟩; exact dk.sets_on _ (by simp) _ rfl) (fun s k W hk hS => by simp [execOp, go_sem, Act.eval, dk.sets_get, ws8, List.lookup]), ?_⟩
              refine ⟨chn.quiet 3 rfl (by decide) (.inl rfl) (by simp) (fun _ => .pointer (some ⟨hb, 3, none⟩)) (by rintro s _ ⟨⟩; exact dk.sets_on _ (by simp) _ rfl) (fun s k W hk hS => by simp [execOp, go_sem, Act.eval, dk.sets_get, ws8, List.lookup]), ?_⟩
              refine ⟨chn.quiet 1 rfl (by decide) (.inr ⟨8, _, rfl, rfl, ⟨4, .data⟩, by simp, rfl, rfl⟩) (by simp) (fun _ => .slice (some ⟨h, 0, none⟩) ms.length ms.length) (by rintro s _ ⟨⟩; exact dk.sets_on _ (by simp) _ rfl) (fun s k W hk hS => by have c : W.cell? ⟨hb, 3, none⟩ = some (.slice (some ⟨h, 0, none⟩) ms.length ms.length) := (by match k, hk, hS with | 0, _, hS => (rw [show W = w4.drew from hS]; exact c30) | 1, _, hS => (rw [show W = w4.drew.alloc (.cells #[.int .i64 t, .int .i64 o, .int .i64 q, .string x, .string y, .string z, .bool ag] 55) from hS]; exact c31)); simp [execOp, go_sem, Act.eval, dk.sets_get, ws8, List.lookup, c]), ?_⟩
              refine ⟨chn.quiet 3 rfl (by decide) (.inl rfl) (by simp) (fun _ => .int .i64 p) (by rintro s _ ⟨⟩; exact dk.sets_on _ (by simp) _ rfl) (fun s k W hk hS => by simp [execOp, go_sem, Act.eval, dk.sets_get, ws8, List.lookup]), ?_⟩
              refine ⟨chn.quiet 0 rfl (by decide) (.inr ⟨7, _, rfl, rfl, ⟨6, .data⟩, by simp, rfl, rfl⟩) (by simp) (fun _ => .agg #[.int .i64 t, .int .i64 o, .int .i64 q, .string x, .string y, .string z, .bool ag]) (by rintro s _ ⟨⟩; exact dk.sets_on _ (by simp) _ rfl) (fun s k W hk hS => by match k, hk, hS with | 0, _, hS => (obtain rfl : W = w4.drew := hS; simp [execOp, go_sem, Act.eval, dk.sets_get, ws8, List.lookup, q0, q1, q2, q3, q4, q5, q6])), ?_⟩
              refine ⟨chn.eff 0 rfl (by decide) rfl (.inl rfl) (by simp) (fun s W hS => ⟨s, .slice (some ⟨w4.heap.size, 0, none⟩) 1 1, gh.Agree.refl _ _, (by rintro _ ⟨⟩; exact dk.sets_on _ (by simp) _ rfl), by obtain rfl : W = w4.drew := hS; exact chn.val (w' := w4.drew.alloc (.cells #[.int .i64 t, .int .i64 o, .int .i64 q, .string x, .string y, .string z, .bool ag] 55)) (by simp [execOp, go_sem, Act.eval, dk.sets_get, ws8, List.lookup]) rfl⟩), ?_⟩
              refine ⟨chn.call 1 rfl (by decide) rfl (.inr ⟨⟨7, .data⟩, by simp, rfl, rfl⟩) (by simp) 55 #[.slice (some ⟨h, 0, none⟩) ms.length ms.length, .int .i64 p, .slice (some ⟨w4.heap.size, 0, none⟩) 1 1] (fun s W hS => ⟨by simp [go_sem, Act.eval, dk.sets_get, ws8, List.lookup], by obtain rfl : W = w4.drew.alloc (.cells #[.int .i64 t, .int .i64 o, .int .i64 q, .string x, .string y, .string z, .bool ag] 55) := hS; exact hin.mono fun e w5 hh => by obtain ⟨g2, d2, he, ho5, hg5⟩ := hh; exact ⟨.slice (some ⟨g2, 0, none⟩) (ms.length + 1) d2, _, he, dk.agree_sets 8 77 _ rfl rfl rfl, (by rintro _ ⟨⟩; exact dk.sets_on _ (by simp) _ rfl), s8_mid g2 d2 ho5 (sg_grown HSU.out hg5 hgh hhb hhw1) (grown_at hg5 HMU.out (by simp; omega))⟩⟩), ?_⟩
              refine ⟨chn.quiet 3 rfl (by decide) (.inl rfl) (by simp) (fun _ => .pointer (some ⟨hb, 0, none⟩)) (by rintro s _ ⟨⟩; exact dk.sets_on _ (by simp) _ rfl) (fun s k W hk hS => by simp [execOp, go_sem, Act.eval, dk.sets_get, ws8, List.lookup]), ?_⟩
              refine ⟨chn.quiet 3 rfl (by decide) (.inl rfl) (by simp) (fun _ => .pointer (some ⟨hb, 3, none⟩)) (by rintro s _ ⟨⟩; exact dk.sets_on _ (by simp) _ rfl) (fun s k W hk hS => by simp [execOp, go_sem, Act.eval, dk.sets_get, ws8, List.lookup]), ?_⟩
              refine ⟨chn.sto 2 rfl (by decide) rfl (.inr ⟨⟨8, .data⟩, by simp, rfl, rfl⟩) (by simp) rfl ?st, trivial⟩
              case st =>
                intro s W hS
                obtain ⟨g2, d2, hs, ho, hsg, hm⟩ := s8_2 hS
                have c : W.cell? ⟨hb, 3, none⟩ = some (.slice (some ⟨h, 0, none⟩) ms.length ms.length) := bcell hsg.box rfl
                have f := bfree hsg.box 3
                have hend := s8_end (U := w4.drew) (h := h) (h3 := w3.heap.size) (W := W.setCell ⟨hb, 3, none⟩ (.slice (some ⟨g2, 0, none⟩) (ms.length + 1) d2)) (xs := (ms.take p ++ ⟨t, o, ⟨q, x, y, z, ag⟩⟩ :: ms.drop p).flatMap flH.c) (H := #[.int .i64 t, .int .i64 o, .int .i64 q, .string x, .string y, .string z, .bool ag]) g2 d2 (owns_set (o := 3) (hs ▸ ho) (owns_ne (by decide) (hs ▸ ho) hsg.box) _) (qdi.sg_held hsg (Below.refl _ _)) (boff hm _ _ _ hm3)
                rw [← hs] at hend
                refine ⟨W.setCell ⟨hb, 3, none⟩ s, ?_, hend⟩
                rw [hs]
                simp [execOp, go_sem, Act.eval, dk.sets_get, ws8, List.lookup, c, f]
            case fin =>
              intro v Y hS9
              obtain ⟨g2, d2, hv, hoY, hsY, hMY⟩ := s8_3 hS9
              subst hv
              simp only [dk.sets, ws8]
              have hsD := hsY.on ((Below.refl _ _).drew)
              have HSY : Hid (SG w1 hb ⟨nm, nx, some ⟨g2, 0, none⟩, ms.length + 1, d2⟩ g es.length M Y.drew) := hsD
              have HOY : Hid (Y.drew.ownsRow w1.heap.size 55 7 (.slice (some ⟨g2, 0, none⟩) (ms.length + 1) d2) (ms.length + 1) ((ms.take p ++ ⟨t, o, ⟨q, x, y, z, ag⟩⟩ :: ms.drop p).flatMap flH.c)) := own_stay hoY ((Below.refl _ _).drew)
              have HMY : Hid (Y.drew.heap[w3.heap.size]? = some (.cells #[.int .i64 t, .int .i64 o, .int .i64 q, .string x, .string y, .string z, .bool ag] 55 (0, 0))) := hMY
              have hcl := closed_run w1 ⟨nm, nx, some ⟨g2, 0, none⟩, ms.length + 1, d2⟩ hb g es.length M Y.drew hsD (by have := HMP.out.length_eq; simp at this; omega) HMH.out
              have CL : Hid (Calls Try.prog 25 #[.pointer (some ⟨hb, 0, none⟩)] Y.drew fun e w' => ∃ gr cr, e = .returned (.agg (XQ nm nx AR.length (ms.length + 1) g2 d2 (gr, cr))) ∧ F9 w AR AH g2 w3.heap.size #[.string ⟨#[]⟩, .int .i64 0, .slice none 0 0, .slice none 0 0] #[.int .i64 0, .string ⟨#[]⟩, .string ⟨#[]⟩, .string ⟨#[]⟩, .bool false] #[.int .i64 t, .int .i64 o, .int .i64 q, .string x, .string y, .string z, .bool ag] (gr, cr) w') := hcl.mono fun e w6 hh => by
                obtain ⟨R, gr, cr, rfl, hRp, hRs, hRo, hkq⟩ := hh
                have hRe : R = AR := by rw [← HTA.out]; exact sort_uniq (hRp.trans (perm_tail HMP.out HH0.out.2.2)) hRs (asc_tail HOK.out.ru)
                subst hRe
                have hbY := HSY.out.bel
                have hb16 : Below w1.heap.size w1 w6 := ⟨hkq.os.trans hbY.os, hkq.tape.trans hbY.tape, hkq.output.trans hbY.output, Nat.le_trans hbY.size hkq.size, fun q hq => (hkq.block q (Nat.lt_of_lt_of_le hq hbY.size) (by omega) (by omega)).trans (hbY.block q hq)⟩
                have h36 : w3.heap.size < Y.drew.heap.size := (Array.getElem?_eq_some_iff.1 HMY.out).1
                have hgr : Y.drew.heap.size ≤ gr ∧ gr < w6.heap.size := hRo.lt gr rfl
                have hg2 : w1.heap.size ≤ g2 := (owns_at HOY.out).1
                have hg2l : g2 < Y.drew.heap.size := by obtain ⟨_, cur, hc⟩ := owns_at HOY.out; exact (Array.getElem?_eq_some_iff.1 hc).1
                have hg2b : g2 ≠ hb := owns_ne (by decide) HOY.out HSY.out.box
                have hg2g : g2 ≠ g := by obtain ⟨cur, hc, _⟩ := HSY.out.row; exact owns_ne (by decide) HOY.out hc
                have hoH : OwnO flH.c 7 55 Y.drew g2 0 AH AH.length := owns_ownO flH.c_len (B := w1.heap.size) (cap := d2) (by rw [HLA.out, ← HSET.out]; exact HOY.out)
                have hs1 := hb1.size
                have hsY1 := hbY.size
                have hB6 : Below W.heap.size W w6 := hb1.trans (hb16.mono hs1)
                exact ⟨gr, cr, rfl, owns_ownO flM.c_len hRo, hoH.kept (hkq.block g2 hg2l hg2g hg2b), hWb.trans (hB6.mono hWb.size), bstay HRS.out.1 hB6 (by omega), bstay HRS.out.2 hB6 (by omega), (hkq.block _ h36 hm1 hm3).trans HMY.out, by show w.heap.size + 3 ≤ gr; omega, by omega, by show gr ≠ g2; omega⟩
              have hcm := fun V => cmg.copy_msg ⟨q, x, y, z, ag⟩ V hmb
              obtain ⟨k0, k1, k2, k3, k4, k5, k6⟩ := box7 HMY.out
              clear hcl hsD hoY hsY hMY c30 c31 q0 q1 q2 q3 q4 q5 q6
              go_wp2
              refine chn.region (ws := ws9 hb w3.heap.size g2 d2 nm nx AR.length (ms.length + 1) #[.int .i64 q, .string x, .string y, .string z, .bool ag]) (js := [1, 4, 5, 6]) (S := S9 w Y.drew AR AH g2 d2 w3.heap.size nm nx (ms.length + 1) #[.int .i64 t, .int .i64 o, .int .i64 q, .string x, .string y, .string z, .bool ag] #[.int .i64 q, .string x, .string y, .string z, .bool ag]) [80, 81, 82, 83, 84, 8] (0, 0) (by kernel_rfl) (by kernel_rfl) (fun _ => rfl) (by kernel_rfl) (by decide) rfl ?each9 ?fin9
              case each9 =>
                refine ⟨chn.quiet 4 rfl (by decide) (.inl rfl) (by simp) (fun _ => .pointer (some ⟨hb, 0, none⟩)) (by rintro s _ ⟨⟩; exact dk.sets_on _ (by simp) _ rfl) (fun s k W hk hS => by simp [execOp, go_sem, Act.eval, dk.sets_get, ws9, List.lookup]), ?_⟩
                refine ⟨chn.call 0 rfl (by decide) rfl (.inl rfl) (by simp) 25 #[.pointer (some ⟨hb, 0, none⟩)] (fun s W hS => ⟨by simp [go_sem, Act.eval, dk.sets_get, ws9, List.lookup], by obtain rfl : W = Y.drew := hS; exact CL.out.mono fun e w6 hh => by obtain ⟨gr, cr, he, hf⟩ := hh; exact ⟨(gr, cr), _, he, dk.agree_sets 1 81 _ rfl rfl rfl, (by rintro _ ⟨⟩; exact dk.sets_on _ (by simp) _ rfl), hf⟩⟩), ?_⟩
                refine ⟨chn.quiet 4 rfl (by decide) (.inl rfl) (by simp) (fun _ => .pointer (some ⟨w3.heap.size, 2, none⟩)) (by rintro s _ ⟨⟩; exact dk.sets_on _ (by simp) _ rfl) (fun s k W hk hS => by simp [execOp, go_sem, Act.eval, dk.sets_get, ws9, List.lookup]), ?_⟩
                refine ⟨chn.quiet 1 rfl (by decide) (.inr ⟨4, _, rfl, rfl, ⟨3, .data⟩, by simp, rfl, rfl⟩) (by simp) (fun _ => .agg #[.int .i64 q, .string x, .string y, .string z, .bool ag]) (by rintro s _ ⟨⟩; exact dk.sets_on _ (by simp) _ rfl) (fun s k W hk hS => by obtain ⟨_, _, j2, j3, j4, j5, j6⟩ := box7 (s9_more hk HMY.out hS); simp [execOp, go_sem, Act.eval, dk.sets_get, ws9, List.lookup, j2, j3, j4, j5, j6]), ?_⟩
                refine ⟨chn.call 1 rfl (by decide) rfl (.inr ⟨⟨1, .chain⟩, by simp, rfl, rfl⟩) (by simp) 51 #[.agg #[.int .i64 q, .string x, .string y, .string z, .bool ag]] (fun s W hS => ⟨by simp [go_sem, Act.eval, dk.sets_get, ws9, List.lookup], (hcm W).mono fun e w7 hh => by obtain ⟨he, hb7⟩ := hh; exact ⟨s, _, he, gh.Agree.refl _ _, (by rintro _ ⟨⟩; exact dk.sets_on _ (by simp) _ rfl), F9.on hS hb7⟩⟩), ?_⟩
                refine ⟨chn.sto 2 rfl (by decide) rfl (.inr ⟨⟨4, .chain⟩, by simp, rfl, rfl⟩) (by simp) rfl ?s5, ?_⟩
                case s5 =>
                  intro s W hS
                  obtain ⟨z0, z1, z2, z3⟩ := box4 (s9_2 hS).res
                  have f0 := bfree (s9_2 hS).res 0
                  have f1 := bfree (s9_2 hS).res 1
                  have f2 := bfree (s9_2 hS).res 2
                  have f3 := bfree (s9_2 hS).res 3
                  refine ⟨_, ?_, (s9_2 hS).put4⟩
                  simp [execOp, go_sem, Act.eval, dk.sets_get, ws9, List.lookup, XQ, z0, z1, z2, z3, f0, f1, f2, f3]
                refine ⟨chn.sto 3 rfl (by decide) rfl (.inr ⟨⟨5, .chain⟩, by simp, rfl, rfl⟩) (by simp) rfl ?s6, ?_⟩
                case s6 =>
                  intro s W hS
                  obtain ⟨z0, z1, z2, z3, z4⟩ := box5 (s9_3 hS).rem
                  have f0 := bfree (s9_3 hS).rem 0
                  have f1 := bfree (s9_3 hS).rem 1
                  have f2 := bfree (s9_3 hS).rem 2
                  have f3 := bfree (s9_3 hS).rem 3
                  have f4 := bfree (s9_3 hS).rem 4
                  refine ⟨_, ?_, (s9_3 hS).put5⟩
                  simp [execOp, go_sem, Act.eval, dk.sets_get, ws9, List.lookup, z0, z1, z2, z3, z4, f0, f1, f2, f3, f4]
                exact ⟨chn.quiet 4 rfl (by decide) (.inl rfl) (by simp) (fun _ => .bool true) (by rintro s _ ⟨⟩; exact dk.sets_on _ (by simp) _ rfl) (fun s k W hk hS => by simp [execOp, go_sem, Act.eval]), trivial⟩
              case fin9 =>
                intro s W hS
                have hF := s9_4 hS
                obtain ⟨z0, z1, z2, z3⟩ := box4 hF.res
                obtain ⟨y0, y1, y2, y3, y4⟩ := box5 hF.rem
                have HFN : Hid (F9 w AR AH g2 w3.heap.size (XQ nm nx AR.length (ms.length + 1) g2 d2 s) #[.int .i64 q, .string x, .string y, .string z, .bool ag] #[.int .i64 t, .int .i64 o, .int .i64 q, .string x, .string y, .string z, .bool ag] s W) := hF
                clear hF hS
                simp only [dk.sets, ws9]
                go_wp2
                refine bodyPost_ret (v := .tuple #[.agg #[.string nm, .int .i64 nx, .slice (some ⟨s.1, 0, none⟩) AR.length s.2, .slice (some ⟨g2, 0, none⟩) (ms.length + 1) d2], .agg #[.int .i64 q, .string x, .string y, .string z, .bool ag], .bool true]) (by simp [results, Try.results17, go_sem, z0, z1, z2, z3, y0, y1, y2, y3, y4]) rfl ⟨s.1, s.2, g2, d2, by rw [HLA.out], by have := HFN.out.b1; omega, by have := HFN.out.b2; omega, HFN.out.ne, HFN.out.oe, HFN.out.oh, HFN.out.bel⟩
end Go.Proofs.Ytnlcmheahihlpaa.qoi

/- The program's Pop: as the specification's, its answer in rows of its own. -/
namespace Go.Proofs.Ytnlcmheahihlpaa.qoi
open Go.ChangeShapes Go.WideShapes Go.ChangeAt Go.RowKit Go.Proofs.Ytnlcmheahihlpaa.fl Go.Proofs.Ytnlcmheahihlpaa.fo Go.Proofs.Ytnlcmheahihlpaa.qsp

theorem impl_pop (nm : ByteArray) (nx : Int) (es : List flM.Ms) (ms : List flH.Hd) (a0 b0 : Option Addr) (ec bc : Nat) (o t : Int) (w : World) (F : Fit nm es ms) (hE : Row flM.c 5 w w.heap.size a0 es) (hB : Row flH.c 7 w w.heap.size b0 ms) :
    Calls Try.prog 17 #[.agg #[.string nm, .int .i64 nx, .slice a0 es.length ec, .slice b0 ms.length bc], .int .i64 o, .int .i64 t] w fun e w' => PP w nm nx (qpp.ansR nm nx es ms o t) (qpp.ansH nm nx es ms o t) (qpp.ansM nm nx es ms o t) (qpp.good nm nx es ms o t) e w' := by
  cases hg : qpp.good nm nx es ms o t with
  | false => exact hg ▸ impl_pop_no nm nx es ms a0 b0 ec bc o t w F hg hE hB
  | true =>
    rcases Nat.lt_or_ge (qpp.atO o ms ms.length) ms.length with h | h
    · exact hg ▸ impl_pop_mid nm nx es ms a0 b0 ec bc o t w F hg h hE hB
    · exact hg ▸ impl_pop_end nm nx es ms a0 b0 ec bc o t w F hg (Nat.le_antisymm (qpp.atO_le _ _ _) h) hE hB
end Go.Proofs.Ytnlcmheahihlpaa.qoi
