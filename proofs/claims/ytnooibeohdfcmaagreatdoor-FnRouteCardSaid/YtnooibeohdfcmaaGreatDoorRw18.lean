/- Two routes of one content held beside each other: the laws' sameRoutes. -/
import Derived.Test.YtnooibeohdfcmaaGreatDoorRw17
import Derived.Test.YtnooibeohdfcmaaGreatDoorRw03
import Derived.Test.YtnooibeohdfcmaaGreatDoorDelBind
import Derived.Test.YtnooibeohdfcmaaGreatDoorRw02
import Derived.Laws.StructEq
import Derived.Lib.Strings
import Derived.Deep.QuietTactic
import Derived.BigQuiet

/- The program's Bind: one binding more, where that is right, in rows of its own; new memory alone. -/
namespace Go.Proofs.YtnooibeohdfcmaaGreatDoor.bim
open Go.ChangeShapes Go.WideShapes Go.ChangeAt Go.RowKit Go.Proofs.YtnooibeohdfcmaaGreatDoor.rc Go.Proofs.YtnooibeohdfcmaaGreatDoor.rr Go.Proofs.YtnooibeohdfcmaaGreatDoor.ra Go.Proofs.YtnooibeohdfcmaaGreatDoor.rt Go.Proofs.YtnooibeohdfcmaaGreatDoor.rs Go.Proofs.YtnooibeohdfcmaaGreatDoor.ro Go.Proofs.YtnooibeohdfcmaaGreatDoor.fl Go.Proofs.YtnooibeohdfcmaaGreatDoor.su Go.Proofs.YtnooibeohdfcmaaGreatDoor.bp Go.Proofs.YtnooibeohdfcmaaGreatDoor.rwy Go.Proofs.YtnooibeohdfcmaaGreatDoor.cr Go.Proofs.YtnooibeohdfcmaaGreatDoor.rgn
set_option linter.unusedVariables false

set_option maxRecDepth 100000 in
set_option maxHeartbeats 4000000 in
theorem impl_bind (es : List Ex) (bs : List Bi) (a0 b0 : Option Addr) (ec bc : Nat) (bx bk bq : ByteArray) (w : World) (hel : es.length ≤ 1048576) (hbl : bs.length ≤ 1048576) (hes : ∀ e ∈ es, e.n.size ≤ 1048576) (hbs : ∀ b ∈ bs, b.x.size ≤ 1048576 ∧ b.k.size ≤ 1048576 ∧ b.q.size ≤ 1048576) (hx : bx.size ≤ 1048576) (hk : bk.size ≤ 1048576) (hq : bq.size ≤ 1048576) {ka kb : Nat} (hE : RE w ka es) (hB : RB w kb bs) (hna : Hid (apa.NQ a0 ⟨ka, 0, none⟩ es.length ec)) (hnb : Hid (apa.NQ b0 ⟨kb, 0, none⟩ bs.length bc)) :
    Calls Tryz.prog 9 #[.agg #[.slice a0 es.length ec, .slice b0 bs.length bc], .string bx, .string bk, .string bq] w fun r w' => ∃ ga ca gb cb, r = .returned (.tuple #[.agg #[.slice (some ⟨ga, 0, none⟩) es.length ca, .slice (some ⟨gb, 0, none⟩) (ansB es bs ⟨bx, bk, bq⟩).length cb], .bool (retB es bs ⟨bx, bk, bq⟩)]) ∧ w.heap.size ≤ ga ∧ w.heap.size ≤ gb ∧ ga ≠ gb ∧ FE w' ga es es.length ∧ FB w' gb (ansB es bs ⟨bx, bk, bq⟩) (ansB es bs ⟨bx, bk, bq⟩).length ∧ Below w.heap.size w w' := by
  have hr0 : R0 w es bs a0 b0 ec bc ((w.alloc (.cells #[.slice a0 es.length ec, .slice b0 bs.length bc] 27)).alloc (.cells #[.slice none 0 0, .slice none 0 0] 27)) := ⟨first_below w es bs a0 b0 _ _, first_box w es bs a0 b0 _ _, first_res w es bs a0 b0 _ _⟩
  have hokc := ri.impl_routes es bs ka ec kb bc _ hel hbl hes hbs (hE.below hr0.bel) (hB.below hr0.bel) a0 b0 hna hnb
  have HE : Hid (RE w ka es) := hE
  have HB : Hid (RB w kb bs) := hB
  have HES : Hid (∀ e ∈ es, e.n.size ≤ 1048576) := hes
  have HBS : Hid (∀ b ∈ bs, b.x.size ≤ 1048576 ∧ b.k.size ≤ 1048576 ∧ b.q.size ≤ 1048576) := hbs
  obtain ⟨AN, hAN⟩ : ∃ AN, ansB es bs ⟨bx, bk, bq⟩ = AN := ⟨_, rfl⟩
  obtain ⟨rt, hrt⟩ : ∃ rt, retB es bs ⟨bx, bk, bq⟩ = rt := ⟨_, rfl⟩
  have HAN : Hid (ansB es bs ⟨bx, bk, bq⟩ = AN) := hAN
  have HRT : Hid (retB es bs ⟨bx, bk, bq⟩ = rt) := hrt
  simp only [hAN, hrt]
  obtain ⟨W, hW⟩ : ∃ W, (w.alloc (.cells #[.slice a0 es.length ec, .slice b0 bs.length bc] 27)).alloc (.cells #[.slice none 0 0, .slice none 0 0] 27) = W := ⟨_, rfl⟩
  rw [hW] at hr0 hokc
  have HR0 : Hid (R0 w es bs a0 b0 ec bc W) := hr0
  have x0 : W.cell? ⟨w.heap.size, 0, none⟩ = some (.slice a0 es.length ec) := bcell hr0.box rfl
  have x1 : W.cell? ⟨w.heap.size, 1, none⟩ = some (.slice b0 bs.length bc) := bcell hr0.box rfl
  clear hE hB hes hbs hAN hrt hr0
  go_enter Tryz.func9, Tryz.ntmps9
  go_wp2_with (go_at_call 16; fail)
  clear hW x0 x1
  refine hokc.mono ?_
  rintro e w1 ⟨⟨bo, rfl, hbo⟩, hb1⟩
  have HR1 : Hid (R0 w es bs a0 b0 ec bc w1) := HR0.out.on hb1
  have hcp := fun (X : World) (h : Below w.heap.size w X) => cr.copy_own es bs a0 b0 ec bc X hel hbl HES.out HBS.out (HE.out.below h) (HB.out.below h) hna hnb
  clear hokc hb1 HR0
  by_cases hok : OkR es bs
  case neg =>
    obtain rfl : bo = false := by
      cases bo with
      | false => rfl
      | true => exact absurd (hbo.1 rfl) hok
    have HA : Hid (bs = AN) := (bad hok).1.symm.trans HAN.out
    have HR : Hid (false = rt) := (bad hok).2.symm.trans HRT.out
    have hc1 := hcp w1 HR1.out.bel
    have x0 : w1.cell? ⟨w.heap.size, 0, none⟩ = some (.slice a0 es.length ec) := bcell HR1.out.box rfl
    have x1 : w1.cell? ⟨w.heap.size, 1, none⟩ = some (.slice b0 bs.length bc) := bcell HR1.out.box rfl
    clear hbo hok hcp
    go_wp2_with (go_at_call 37; fail)
    refine hc1.mono ?_
    rintro e w2 ⟨g1, h1, rfl, hg1, hh1, hne, fe, fb, hb2⟩
    have hsz := HR1.out.size
    have HR2 : Hid (R0 w es bs a0 b0 ec bc w2) := HR1.out.on hb2
    have PE2 : Hid (PE w w2 g1 es) := ⟨by omega, fe.f⟩
    have PB2 : Hid (PB w w2 h1 bs) := ⟨by omega, fb.f⟩
    clear hc1 fe fb hb2 x0 x1
    have z0 : w2.cell? ⟨w.heap.size + 1, 0, none⟩ = some (.slice none 0 0) := bcell HR2.out.res rfl
    have z1 : w2.cell? ⟨w.heap.size + 1, 1, none⟩ = some (.slice none 0 0) := bcell HR2.out.res rfl
    have z0f := bfree HR2.out.res 0
    have z1f := bfree HR2.out.res 1
    have hge2 := PE2.out.1
    have hgb2 := PB2.out.1
    go_wp2
    refine bodyPost_ret (v := .tuple #[.agg #[.slice (some ⟨g1, 0, none⟩) es.length es.length, .slice (some ⟨h1, 0, none⟩) bs.length bs.length], .bool false]) (by simp [results, Tryz.results9, go_sem, z0, z1]) rfl ⟨g1, es.length, h1, bs.length, by rw [← HA.out, HR.out], by omega, by omega, hne, ?_, ?_, ?_⟩
    · exact fin_FE PE2.out
    · rw [← HA.out]; exact fin_FB PB2.out
    · exact fin_below HR2.out.bel
  case pos =>
    obtain rfl : bo = true := hbo.2 hok
    have HOK : Hid (OkR es bs) := hok
    have hbl4 := hok.bl
    have hcb := cb.copy_binding ⟨bx, bk, bq⟩ w1 ⟨hx, hk, hq⟩
    clear hbo hok
    go_wp2_with (go_at_call 38; fail)
    refine hcb.mono ?_
    rintro e w2 ⟨rfl, hb2⟩
    have hal : Below w2.heap.size w2 (w2.alloc (.cells #[.string bx, .string bk, .string bq] 45)) := (Below.refl _ _).alloc (Nat.le_refl _) _
    have hr2 := (HR1.out.on hb2).on hal
    have hbx := bnew w2 #[.string bx, .string bk, .string bq] 45
    obtain ⟨n9, hn9⟩ : ∃ n9, w2.heap.size = n9 := ⟨_, rfl⟩
    rw [hn9] at hbx
    obtain ⟨W2, hW2⟩ : ∃ W2, w2.alloc (.cells #[.string bx, .string bk, .string bq] 45) = W2 := ⟨_, rfl⟩
    rw [hW2] at hr2 hbx
    have HR2 : Hid (R0 w es bs a0 b0 ec bc W2) := hr2
    have HBX : Hid (W2.heap[n9]? = some (.cells #[.string bx, .string bk, .string bq] 45 (0, 0))) := hbx
    have x1 : W2.cell? ⟨w.heap.size, 1, none⟩ = some (.slice b0 bs.length bc) := bcell hr2.box rfl
    have m0 : W2.cell? ⟨n9, 0, none⟩ = some (.string bx) := bcell hbx rfl
    have m1 : W2.cell? ⟨n9, 1, none⟩ = some (.string bk) := bcell hbx rfl
    have m2 : W2.cell? ⟨n9, 2, none⟩ = some (.string bq) := bcell hbx rfl
    have hsr := sbi.search_bi bs kb bc bx bk bq W2 hbl (HB.out.below hr2.bel) (up_monB HOK.out.bu ⟨bx, bk, bq⟩) b0 hnb
    clear hcb hb2 hal hr2 hbx HR1
    go_wp2_with (go_at_call 39; fail)
    clear hW2 hn9 x1 m0 m1 m2
    refine hsr.mono ?_
    rintro e w3 ⟨⟨p, bt, rfl, hp, hbt⟩, hb3⟩
    have HR3 : Hid (R0 w es bs a0 b0 ec bc w3) := HR2.out.on hb3
    have HX3 : Hid (w3.heap[n9]? = some (.cells #[.string bx, .string bk, .string bq] 45 (0, 0))) := bstay HBX.out hb3 (Array.getElem?_eq_some_iff.1 HBX.out).1
    have x0 : w3.cell? ⟨w.heap.size, 0, none⟩ = some (.slice a0 es.length ec) := bcell HR3.out.box rfl
    have x1 : w3.cell? ⟨w.heap.size, 1, none⟩ = some (.slice b0 bs.length bc) := bcell HR3.out.box rfl
    have hp0 : p ≤ bs.length := hp.1
    have HP : Hid (posB bs ⟨bx, bk, bq⟩ = p) := posB_of hp
    have HBT : Hid (bt = true ↔ hasB bs ⟨bx, bk, bq⟩) := hbt.trans (foundB HOK.out.bu hp)
    have hc3 := hcp w3 HR3.out.bel
    have hsz := HR3.out.size
    clear hsr hb3 hp hbt HR2 HBX
    cases bt with
    | true =>
      have HA : Hid (bs = AN) := (there HOK.out (HBT.out.1 rfl)).1.symm.trans HAN.out
      have HR : Hid (true = rt) := (there HOK.out (HBT.out.1 rfl)).2.symm.trans HRT.out
      clear hcp HBT
      go_wp2_with (go_at_call 37; fail)
      refine hc3.mono ?_
      rintro e w4 ⟨g1, h1, rfl, hg1, hh1, hne, fe, fb, hb4⟩
      have HR4 : Hid (R0 w es bs a0 b0 ec bc w4) := HR3.out.on hb4
      have PE4 : Hid (PE w w4 g1 es) := ⟨by omega, fe.f⟩
      have PB4 : Hid (PB w w4 h1 bs) := ⟨by omega, fb.f⟩
      clear hc3 fe fb hb4 x0 x1
      have z0 : w4.cell? ⟨w.heap.size + 1, 0, none⟩ = some (.slice none 0 0) := bcell HR4.out.res rfl
      have z1 : w4.cell? ⟨w.heap.size + 1, 1, none⟩ = some (.slice none 0 0) := bcell HR4.out.res rfl
      have z0f := bfree HR4.out.res 0
      have z1f := bfree HR4.out.res 1
      have hge2 := PE4.out.1
      have hgb2 := PB4.out.1
      go_wp2
      refine bodyPost_ret (v := .tuple #[.agg #[.slice (some ⟨g1, 0, none⟩) es.length es.length, .slice (some ⟨h1, 0, none⟩) bs.length bs.length], .bool true]) (by simp [results, Tryz.results9, go_sem, z0, z1]) rfl ⟨g1, es.length, h1, bs.length, by rw [← HA.out, HR.out], by omega, by omega, hne, ?_, ?_, ?_⟩
      · exact fin_FE PE4.out
      · rw [← HA.out]; exact fin_FB PB4.out
      · exact fin_below HR4.out.bel
    | false =>
      have HNO : Hid (¬ hasB bs ⟨bx, bk, bq⟩) := fun hh => by have := HBT.out.2 hh; cases this
      clear HBT
      go_wp2_with (go_at_call 37; fail)
      refine hc3.mono ?_
      rintro e w4 ⟨g1, h1, rfl, hg1, hh1, hne, fe, fb, hb4⟩
      have hs4 := hb4.size
      have HR4 := HR3.out.on hb4
      have RXa : RX w es bs a0 b0 ec bc w4.heap.size (.slice (some ⟨g1, 0, none⟩) es.length es.length) (.slice (some ⟨h1, 0, none⟩) bs.length bs.length) (w4.alloc (.cells #[.slice (some ⟨g1, 0, none⟩) es.length es.length, .slice (some ⟨h1, 0, none⟩) bs.length bs.length] 27)) := ⟨HR4.bel.alloc (by omega) _, bold HR4.box _, bold HR4.res _, bnew w4 _ _, by omega⟩
      have OEa : OE w (w4.alloc (.cells #[.slice (some ⟨g1, 0, none⟩) es.length es.length, .slice (some ⟨h1, 0, none⟩) bs.length bs.length] 27)) g1 es.length es := (own_E fe (by omega) hel).on ((Below.refl _ _).alloc (Nat.le_refl _) _)
      have OBa : OB w (w4.alloc (.cells #[.slice (some ⟨g1, 0, none⟩) es.length es.length, .slice (some ⟨h1, 0, none⟩) bs.length bs.length] 27)) h1 bs.length bs := (own_B fb (by omega) hbl).on ((Below.refl _ _).alloc (Nat.le_refl _) _)
      have hx4 := bold (bstay HX3.out hb4 (Array.getElem?_eq_some_iff.1 HX3.out).1) (.cells #[.slice (some ⟨g1, 0, none⟩) es.length es.length, .slice (some ⟨h1, 0, none⟩) bs.length bs.length] 27)
      obtain ⟨X, hX⟩ : ∃ X, w4.alloc (.cells #[.slice (some ⟨g1, 0, none⟩) es.length es.length, .slice (some ⟨h1, 0, none⟩) bs.length bs.length] 27) = X := ⟨_, rfl⟩
      rw [hX] at RXa OEa OBa hx4
      obtain ⟨n8, hn8⟩ : ∃ n8, w4.heap.size = n8 := ⟨_, rfl⟩
      rw [hn8] at RXa
      have hal5 : Below X.heap.size X (X.alloc (.cells #[.string bx, .string bk, .string bq] 45)) := (Below.refl _ _).alloc (Nat.le_refl _) _
      have hrx5 := RXa.on hal5
      have hoe5 := OEa.on hal5
      have hob5 := OBa.on hal5
      have hin := insb.insert_binding bs h1 p (w.heap.size + 2) bx bk bq X.heap.size (X.alloc (.cells #[.string bx, .string bk, .string bq] 45)) hp0 hbl hrx5.size hob5 (bnew X _ _)
      have n1 : X.cell? ⟨n8, 1, none⟩ = some (.slice (some ⟨h1, 0, none⟩) bs.length bs.length) := bcell RXa.out rfl
      have m0 : X.cell? ⟨n9, 0, none⟩ = some (.string bx) := bcell hx4 rfl
      have m1 : X.cell? ⟨n9, 1, none⟩ = some (.string bk) := bcell hx4 rfl
      have m2 : X.cell? ⟨n9, 2, none⟩ = some (.string bq) := bcell hx4 rfl
      obtain ⟨V, hV⟩ : ∃ V, X.alloc (.cells #[.string bx, .string bk, .string bq] 45) = V := ⟨_, rfl⟩
      rw [hV] at hrx5 hoe5 hob5 hin
      have RX5 : Hid (RX w es bs a0 b0 ec bc n8 (.slice (some ⟨g1, 0, none⟩) es.length es.length) (.slice (some ⟨h1, 0, none⟩) bs.length bs.length) V) := hrx5
      have OE5 : Hid (OE w V g1 es.length es) := hoe5
      have OB5 : Hid (OB w V h1 bs.length bs) := hob5
      clear hc3 fe fb hb4 x0 x1 HR3 HR4 RXa OEa OBa hx4 HX3 hal5 hrx5 hoe5 hob5
      go_wp2_with (go_at_call 41; fail)
      clear hX hV hn8 n1 m0 m1 m2
      refine hin.mono ?_
      rintro e w5 ⟨g6, c6, rfl, ho5, hg5⟩
      have hset : bs.take p ++ ⟨bx, bk, bq⟩ :: bs.drop p = insB bs ⟨bx, bk, bq⟩ := by unfold insB; rw [HP.out]
      have ho8 : w5.ownsRow (w.heap.size + 2) 45 3 (.slice (some ⟨g6, 0, none⟩) (bs.length + 1) c6) (bs.length + 1) ((bs.take p ++ ⟨bx, bk, bq⟩ :: bs.drop p).flatMap cB) := ho5
      rw [hset] at ho8
      have hrx7 := RX5.out.grown (by decide) hg5 OB5.out
      have hoe7 := OE5.out.grown hg5 OB5.out
      have n1 : w5.cell? ⟨n8, 1, none⟩ = some (.slice (some ⟨h1, 0, none⟩) bs.length bs.length) := bcell hrx7.out rfl
      have n1f := bfree hrx7.out 1
      have RX8 : Hid (RX w es bs a0 b0 ec bc n8 (.slice (some ⟨g1, 0, none⟩) es.length es.length) (.slice (some ⟨g6, 0, none⟩) (bs.length + 1) c6) (w5.setCell ⟨n8, 1, none⟩ (.slice (some ⟨g6, 0, none⟩) (bs.length + 1) c6))) := hrx7.put1 _
      have OE8 : Hid (OE w (w5.setCell ⟨n8, 1, none⟩ (.slice (some ⟨g6, 0, none⟩) (bs.length + 1) c6)) g1 es.length es) := hoe7.put hrx7 1 _
      have ho9 := owns_set (o := 1) ho8 (owns_ne (by decide) ho8 hrx7.out) (.slice (some ⟨g6, 0, none⟩) (bs.length + 1) c6)
      obtain ⟨Y, hY⟩ : ∃ Y, w5.setCell ⟨n8, 1, none⟩ (.slice (some ⟨g6, 0, none⟩) (bs.length + 1) c6) = Y := ⟨_, rfl⟩
      rw [hY] at RX8 OE8 ho9
      have OB8 : Hid (OB w Y g6 c6 (insB bs ⟨bx, bk, bq⟩)) := by unfold Hid OB; rw [insB_len]; exact ho9
      have hok8 := ri.impl_routes es (insB bs ⟨bx, bk, bq⟩) g1 es.length g6 c6 Y hel (by rw [insB_len]; omega) HES.out (ins_small HBS.out ⟨hx, hk, hq⟩) OE8.out.re OB8.out.rb _ _ (own_nq _ _ _) (own_nq _ _ _)
      rw [insB_len] at hok8
      have o0 : Y.cell? ⟨n8, 0, none⟩ = some (.slice (some ⟨g1, 0, none⟩) es.length es.length) := bcell RX8.out.out rfl
      have o1 : Y.cell? ⟨n8, 1, none⟩ = some (.slice (some ⟨g6, 0, none⟩) (bs.length + 1) c6) := bcell RX8.out.out rfl
      clear ho5 hg5 ho8 ho9 hrx7 hoe7 RX5 OE5 OB5 hset hin
      go_wp2_with (go_at_call 16; fail)
      clear hY o0 o1 n1 n1f
      refine hok8.mono ?_
      rintro e w6 ⟨⟨bo, rfl, hbo⟩, hb6⟩
      have RX9 : Hid (RX w es bs a0 b0 ec bc n8 (.slice (some ⟨g1, 0, none⟩) es.length es.length) (.slice (some ⟨g6, 0, none⟩) (bs.length + 1) c6) w6) := RX8.out.on hb6
      have PE9 : Hid (PE w w6 g1 es) := rgn.OE.p (OE8.out.on hb6)
      have PB9 : Hid (PB w w6 g6 (insB bs ⟨bx, bk, bq⟩)) := rgn.OB.p (OB8.out.on hb6)
      clear hok8 RX8 OE8 OB8 hb6
      by_cases hok2 : OkR es (insB bs ⟨bx, bk, bq⟩)
      case pos =>
        obtain rfl : bo = true := hbo.2 hok2
        have HA : Hid (insB bs ⟨bx, bk, bq⟩ = AN) := (put HOK.out HNO.out hok2).1.symm.trans HAN.out
        have HR : Hid (true = rt) := (put HOK.out HNO.out hok2).2.symm.trans HRT.out
        clear hbo hok2 hcp
        have n0 : w6.cell? ⟨n8, 0, none⟩ = some (.slice (some ⟨g1, 0, none⟩) es.length es.length) := bcell RX9.out.out rfl
        have n1 : w6.cell? ⟨n8, 1, none⟩ = some (.slice (some ⟨g6, 0, none⟩) (bs.length + 1) c6) := bcell RX9.out.out rfl
        have z0 : w6.cell? ⟨w.heap.size + 1, 0, none⟩ = some (.slice none 0 0) := bcell RX9.out.res rfl
        have z1 : w6.cell? ⟨w.heap.size + 1, 1, none⟩ = some (.slice none 0 0) := bcell RX9.out.res rfl
        have z0f := bfree RX9.out.res 0
        have z1f := bfree RX9.out.res 1
        have hge2 := PE9.out.1
        have hgb2 := PB9.out.1
        go_wp2
        refine bodyPost_ret (v := .tuple #[.agg #[.slice (some ⟨g1, 0, none⟩) es.length es.length, .slice (some ⟨g6, 0, none⟩) (bs.length + 1) c6], .bool true]) (by simp [results, Tryz.results9, go_sem, z0, z1]) rfl ⟨g1, es.length, g6, c6, by rw [← HA.out, insB_len, HR.out], by omega, by omega, PE9.out.ne PB9.out, ?_, ?_, ?_⟩
        · exact fin_FE PE9.out
        · rw [← HA.out]; exact fin_FB PB9.out
        · exact fin_below RX9.out.bel
      case neg =>
        obtain rfl : bo = false := by
          cases bo with
          | false => rfl
          | true => exact absurd (hbo.1 rfl) hok2
        have HA : Hid (bs = AN) := (over HOK.out HNO.out hok2).1.symm.trans HAN.out
        have HR : Hid (false = rt) := (over HOK.out HNO.out hok2).2.symm.trans HRT.out
        have hc6 := hcp w6 RX9.out.bel
        have x0 : w6.cell? ⟨w.heap.size, 0, none⟩ = some (.slice a0 es.length ec) := bcell RX9.out.box rfl
        have x1 : w6.cell? ⟨w.heap.size, 1, none⟩ = some (.slice b0 bs.length bc) := bcell RX9.out.box rfl
        clear hbo hok2 hcp
        go_wp2_with (go_at_call 37; fail)
        refine hc6.mono ?_
        rintro e w7 ⟨g7, h7, rfl, hg7, hh7, hne7, fe7, fb7, hb7⟩
        have hsz6 := RX9.out.size
        have RX10 : Hid (RX w es bs a0 b0 ec bc n8 (.slice (some ⟨g1, 0, none⟩) es.length es.length) (.slice (some ⟨g6, 0, none⟩) (bs.length + 1) c6) w7) := RX9.out.on hb7
        have PE10 : Hid (PE w w7 g7 es) := ⟨by omega, fe7.f⟩
        have PB10 : Hid (PB w w7 h7 bs) := ⟨by omega, fb7.f⟩
        clear hc6 fe7 fb7 hb7 x0 x1
        have z0 : w7.cell? ⟨w.heap.size + 1, 0, none⟩ = some (.slice none 0 0) := bcell RX10.out.res rfl
        have z1 : w7.cell? ⟨w.heap.size + 1, 1, none⟩ = some (.slice none 0 0) := bcell RX10.out.res rfl
        have z0f := bfree RX10.out.res 0
        have z1f := bfree RX10.out.res 1
        have hge2 := PE10.out.1
        have hgb2 := PB10.out.1
        go_wp2
        refine bodyPost_ret (v := .tuple #[.agg #[.slice (some ⟨g7, 0, none⟩) es.length es.length, .slice (some ⟨h7, 0, none⟩) bs.length bs.length], .bool false]) (by simp [results, Tryz.results9, go_sem, z0, z1]) rfl ⟨g7, es.length, h7, bs.length, by rw [← HA.out, HR.out], by omega, by omega, hne7, ?_, ?_, ?_⟩
        · exact fin_FE PE10.out
        · rw [← HA.out]; exact fin_FB PB10.out
        · exact fin_below RX10.out.bel
end Go.Proofs.YtnooibeohdfcmaaGreatDoor.bim

/- The program's Unbind: the exchanges as they are, and the bindings but for one queue's, in rows of their own. -/
namespace Go.Proofs.YtnooibeohdfcmaaGreatDoor.iu
open Go.ChangeShapes Go.WideShapes Go.ChangeAt Go.RowKit Go.Proofs.YtnooibeohdfcmaaGreatDoor.rr Go.Proofs.YtnooibeohdfcmaaGreatDoor.ra Go.Proofs.YtnooibeohdfcmaaGreatDoor.rt Go.Proofs.YtnooibeohdfcmaaGreatDoor.fl Go.Proofs.YtnooibeohdfcmaaGreatDoor.db
set_option linter.unusedVariables false

set_option maxRecDepth 100000 in
set_option maxHeartbeats 2000000 in
theorem impl_unbind (q : ByteArray) (es : List Ex) (bs : List Bi) (a0 b0 : Option Addr) (ec bc : Nat) (w : World) (hel : es.length ≤ 1048576) (hbl : bs.length ≤ 1048576) (hes : ∀ e ∈ es, e.n.size ≤ 1048576) (hbs : ∀ b ∈ bs, b.x.size ≤ 1048576 ∧ b.k.size ≤ 1048576 ∧ b.q.size ≤ 1048576) {ka kb : Nat} (hE : RE w ka es) (hB : RB w kb bs) (hna : Hid (apa.NQ a0 ⟨ka, 0, none⟩ es.length ec)) (hnb : Hid (apa.NQ b0 ⟨kb, 0, none⟩ bs.length bc)) :
    Calls Tryz.prog 18 #[.agg #[.slice a0 es.length ec, .slice b0 bs.length bc], .string q] w fun r w' => ∃ g h, r = .returned (.agg #[.slice (some ⟨g, 0, none⟩) es.length es.length, .slice (some ⟨h, 0, none⟩) (bs.filter fun b => !mine q b).length bs.length]) ∧ w.heap.size ≤ g ∧ w.heap.size ≤ h ∧ g ≠ h ∧ FE w' g es es.length ∧ FB w' h (bs.filter fun b => !mine q b) (bs.filter fun b => !mine q b).length ∧ Below w.heap.size w w' := by
  have hb0 : Below w.heap.size w (((w.alloc (.cells #[.slice a0 es.length ec, .slice b0 bs.length bc] 27)).alloc (.cells #[.string q] 9)).alloc (.cells #[.slice none 0 0, .slice none 0 0] 27)) := (((Below.refl _ _).alloc (Nat.le_refl _) _).alloc (by simp) _).alloc (by simp; omega) _
  have hbox := bold (bold (bnew w #[.slice a0 es.length ec, .slice b0 bs.length bc] 27) (.cells #[.string q] 9)) (.cells #[.slice none 0 0, .slice none 0 0] 27)
  have hqb := bold (bnew (w.alloc (.cells #[.slice a0 es.length ec, .slice b0 bs.length bc] 27)) #[.string q] 9) (.cells #[.slice none 0 0, .slice none 0 0] 27)
  have hres := bnew ((w.alloc (.cells #[.slice a0 es.length ec, .slice b0 bs.length bc] 27)).alloc (.cells #[.string q] 9)) #[.slice none 0 0, .slice none 0 0] 27
  rw [World.size_alloc] at hqb
  rw [World.size_alloc, World.size_alloc] at hres
  obtain ⟨W, hW⟩ : ∃ W, ((w.alloc (.cells #[.slice a0 es.length ec, .slice b0 bs.length bc] 27)).alloc (.cells #[.string q] 9)).alloc (.cells #[.slice none 0 0, .slice none 0 0] 27) = W := ⟨_, rfl⟩
  rw [hW] at hb0 hbox hqb hres
  have hsz := (Array.getElem?_eq_some_iff.1 hres).1
  have hcr := cr.copy_routes es bs a0 b0 ec bc W hel hbl hes hbs (hE.below hb0) (hB.below hb0) hna hnb
  have x0 : W.cell? ⟨w.heap.size, 0, none⟩ = some (.slice a0 es.length ec) := bcell hbox rfl
  have x1 : W.cell? ⟨w.heap.size, 1, none⟩ = some (.slice b0 bs.length bc) := bcell hbox rfl
  have HQ : Hid (W.heap[w.heap.size + 1]? = some (.cells #[.string q] 9 (0, 0))) := hqb
  have HR : Hid (W.heap[w.heap.size + 1 + 1]? = some (.cells #[.slice none 0 0, .slice none 0 0] 27 (0, 0))) := hres
  clear hbox hqb hres hE hB hes hbs
  go_enter Tryz.func18, Tryz.ntmps18
  go_wp2_with (go_at_call 37; fail)
  clear hW
  refine hcr.mono ?_
  rintro e w1 ⟨g, h, rfl, hg, hh, hgh, fe, fb, hb1⟩
  have hs1 := hb1.size
  have hal : Below w1.heap.size w1 (w1.alloc (.cells #[.slice (some ⟨g, 0, none⟩) es.length es.length, .slice (some ⟨h, 0, none⟩) bs.length bs.length] 27)) := (Below.refl _ _).alloc (Nat.le_refl _) _
  have hn := bnew w1 #[.slice (some ⟨g, 0, none⟩) es.length es.length, .slice (some ⟨h, 0, none⟩) bs.length bs.length] 27
  have hq2 := bold (bstay HQ.out hb1 (by omega)) (.cells #[.slice (some ⟨g, 0, none⟩) es.length es.length, .slice (some ⟨h, 0, none⟩) bs.length bs.length] 27)
  have hr2 := bold (bstay HR.out hb1 (by omega)) (.cells #[.slice (some ⟨g, 0, none⟩) es.length es.length, .slice (some ⟨h, 0, none⟩) bs.length bs.length] 27)
  have fe2 := fe.below hal fe.lt
  have fb2 := fb.below hal fb.lt
  have hdf := delete_func q bs h bs.length (w.heap.size + 1) _ hbl (Nat.le_refl _) (bcell hq2 rfl) (by omega) fb2
  have hfl := fe.lt
  have hhl := fb.lt
  obtain ⟨W2, hW2⟩ : ∃ W2, w1.alloc (.cells #[.slice (some ⟨g, 0, none⟩) es.length es.length, .slice (some ⟨h, 0, none⟩) bs.length bs.length] 27) = W2 := ⟨_, rfl⟩
  rw [hW2] at hal hn hr2 fe2 hdf
  have y1 : W2.cell? ⟨w1.heap.size, 1, none⟩ = some (.slice (some ⟨h, 0, none⟩) bs.length bs.length) := bcell hn rfl
  have HN : Hid (W2.heap[w1.heap.size]? = some (.cells #[.slice (some ⟨g, 0, none⟩) es.length es.length, .slice (some ⟨h, 0, none⟩) bs.length bs.length] 27 (0, 0))) := hn
  have HR2 : Hid (W2.heap[w.heap.size + 1 + 1]? = some (.cells #[.slice none 0 0, .slice none 0 0] 27 (0, 0))) := hr2
  have HFE : Hid (FE W2 g es es.length) := fe2
  have hbw : Below w.heap.size w W2 := (hb0.trans (hb1.mono hb0.size)).trans (hal.mono (by omega))
  have hln := (Array.getElem?_eq_some_iff.1 hn).1
  clear hcr x0 x1 hn hr2 hq2 fe fb fe2 fb2
  go_wp2_with (go_at_call 54; fail)
  clear hW2
  refine hdf.mono ?_
  rintro e w3 ⟨rfl, hf3, hg3⟩
  have hb3 : Below w.heap.size w w3 := hbw.grown hg3 hbw.size fun b hb => by simp at hb; omega
  have n3 : w3.heap[w1.heap.size]? = some (.cells #[.slice (some ⟨g, 0, none⟩) es.length es.length, .slice (some ⟨h, 0, none⟩) bs.length bs.length] 27 (0, 0)) := by
    rw [hg3.block _ hln (by simp; omega)]; exact HN.out
  have r3 : w3.heap[w.heap.size + 1 + 1]? = some (.cells #[.slice none 0 0, .slice none 0 0] 27 (0, 0)) := by
    rw [hg3.block _ (by omega) (by simp; omega)]; exact HR2.out
  have fe3 : FE w3 g es es.length := cr.FE.keptE HFE.out (hg3.block g (by omega) (by simpa using hgh))
  have n30 : w3.cell? ⟨w1.heap.size, 0, none⟩ = some (.slice (some ⟨g, 0, none⟩) es.length es.length) := bcell n3 rfl
  have n31 : w3.cell? ⟨w1.heap.size, 1, none⟩ = some (.slice (some ⟨h, 0, none⟩) bs.length bs.length) := bcell n3 rfl
  have n3f := bfree n3 1
  have r30 : w3.cell? ⟨w.heap.size + 1 + 1, 0, none⟩ = some (.slice none 0 0) := bcell r3 rfl
  have r31 : w3.cell? ⟨w.heap.size + 1 + 1, 1, none⟩ = some (.slice none 0 0) := bcell r3 rfl
  have rf0 := bfree r3 0
  have rf1 := bfree r3 1
  have hne : w1.heap.size ≠ w.heap.size + 1 + 1 := by omega
  obtain ⟨F, hF⟩ : ∃ F, (bs.filter fun b => !mine q b) = F := ⟨_, rfl⟩
  have HF : Hid ((bs.filter fun b => !mine q b) = F) := hF
  rw [hF] at hf3 ⊢
  have HF3 : Hid (FB w3 h F F.length) := hf3
  have HFE3 : Hid (FE w3 g es es.length) := fe3
  clear hF hdf y1 n3 r3 hf3 fe3
  go_wp2
  refine bodyPost_ret (v := .agg #[.slice (some ⟨g, 0, none⟩) es.length es.length, .slice (some ⟨h, 0, none⟩) F.length bs.length]) (by simp [results, Tryz.results18, go_sem, r30, r31]) rfl ?_
  rw [HF.out]
  refine ⟨g, h, rfl, by omega, by omega, hgh, ?_, ?_, ?_⟩
  · exact cr.FE.keptE (cr.FE.keptE (cr.FE.keptE HFE3.out (Below.heap_setCell _ _ _ _ (by show g ≠ w1.heap.size; omega))) (Below.heap_setCell _ _ _ _ (by show g ≠ w.heap.size + 1 + 1; omega))) (Below.heap_setCell _ _ _ _ (by show g ≠ w.heap.size + 1 + 1; omega))
  · exact cr.FB.keptB (cr.FB.keptB (cr.FB.keptB HF3.out (Below.heap_setCell _ _ _ _ (by show h ≠ w1.heap.size; omega))) (Below.heap_setCell _ _ _ _ (by show h ≠ w.heap.size + 1 + 1; omega))) (Below.heap_setCell _ _ _ _ (by show h ≠ w.heap.size + 1 + 1; omega))
  · exact ((hb3.setCell (by show w.heap.size ≤ w1.heap.size; omega) _).setCell (by show w.heap.size ≤ w.heap.size + 1 + 1; omega) _).setCell (by show w.heap.size ≤ w.heap.size + 1 + 1; omega) _
end Go.Proofs.YtnooibeohdfcmaaGreatDoor.iu

/- Two routes of one content held beside each other: the laws' sameRoutes. -/
namespace Go.Proofs.YtnooibeohdfcmaaGreatDoor.srt
open Go.ChangeShapes Go.WideShapes Go.ChangeAt Go.RowKit Go.Proofs.YtnooibeohdfcmaaGreatDoor.rr Go.Proofs.YtnooibeohdfcmaaGreatDoor.fl Go.Proofs.YtnooibeohdfcmaaGreatDoor.su
set_option linter.unusedVariables false

theorem efields : ∃ f0 f1 : Field, Tryz.prog.fieldsOf 75 = #[f0, f1] ∧ (f0.name ≠ "_" ∧ f0.type = 9 ∧ f0.offset = 0) ∧ (f1.name ≠ "_" ∧ f1.type = 3 ∧ f1.offset = 1) := by
  refine ⟨_, _, (by kernel_rfl : Tryz.prog.fieldsOf 75 = #[(Tryz.prog.fieldsOf 75).getD 0 default, (Tryz.prog.fieldsOf 75).getD 1 default]), ⟨by decide +kernel, by kernel_rfl, by kernel_rfl⟩, ⟨by decide +kernel, by kernel_rfl, by kernel_rfl⟩⟩
theorem eund : Tryz.prog.underlying 75 = some (.struct (Tryz.prog.fieldsOf 75)) := by kernel_rfl
theorem eheld : Tryz.prog.stoodInHeld 75 = false := by kernel_rfl
theorem eguard : Tryz.prog.eqGuardType Tryz.prog.depth 75 = false := by kernel_rfl
theorem eeq_in (n : ByteArray) (k : Int) (w : World) : (Op.equalIn 10000 75 (.agg #[.string n, .int .i64 k]) (.agg #[.string n, .int .i64 k])).run Tryz.prog w = .ok true w := by
  obtain ⟨f0, f1, hf, ⟨a0, b0, c0⟩, ⟨a1, b1, c1⟩⟩ := efields
  rw [show (10000 : Nat) = 9999 + 1 from rfl, run_equalIn_agg w 9999 _ _ _ eund eheld, hf]
  simp [Op.eqFields, a0, a1, b0, b1, c0, c1, go_sem, part, Tryz.underlying3, Tryz.underlying9]
theorem eneq (n : ByteArray) (k : Int) (w : World) : (binOp .neq 75 (.agg #[.string n, .int .i64 k]) (.agg #[.string n, .int .i64 k])).run Tryz.prog w = .ok (.bool false) w := by
  rw [run_neq_struct, eeq_in n k w]
  rfl
theorem eguard_run (x y : Operand) (xs ys : Array Value) (w : World) : (eqGuard .neq 75 x y (.agg xs) (.agg ys)).run Tryz.prog w = .ok () w := run_eqGuard_agg w .neq _ x y xs ys eguard
theorem bfields : ∃ f0 f1 f2 : Field, Tryz.prog.fieldsOf 45 = #[f0, f1, f2] ∧ (f0.name ≠ "_" ∧ f0.type = 9 ∧ f0.offset = 0) ∧ (f1.name ≠ "_" ∧ f1.type = 9 ∧ f1.offset = 1) ∧ (f2.name ≠ "_" ∧ f2.type = 9 ∧ f2.offset = 2) := by
  refine ⟨_, _, _, (by kernel_rfl : Tryz.prog.fieldsOf 45 = #[(Tryz.prog.fieldsOf 45).getD 0 default, (Tryz.prog.fieldsOf 45).getD 1 default, (Tryz.prog.fieldsOf 45).getD 2 default]), ⟨by decide +kernel, by kernel_rfl, by kernel_rfl⟩, ⟨by decide +kernel, by kernel_rfl, by kernel_rfl⟩, ⟨by decide +kernel, by kernel_rfl, by kernel_rfl⟩⟩
theorem bund : Tryz.prog.underlying 45 = some (.struct (Tryz.prog.fieldsOf 45)) := by kernel_rfl
theorem bheld : Tryz.prog.stoodInHeld 45 = false := by kernel_rfl
theorem bguard : Tryz.prog.eqGuardType Tryz.prog.depth 45 = false := by kernel_rfl
theorem beq_in (x : ByteArray) (y : ByteArray) (z : ByteArray) (w : World) : (Op.equalIn 10000 45 (.agg #[.string x, .string y, .string z]) (.agg #[.string x, .string y, .string z])).run Tryz.prog w = .ok true w := by
  obtain ⟨f0, f1, f2, hf, ⟨a0, b0, c0⟩, ⟨a1, b1, c1⟩, ⟨a2, b2, c2⟩⟩ := bfields
  rw [show (10000 : Nat) = 9999 + 1 from rfl, run_equalIn_agg w 9999 _ _ _ bund bheld, hf]
  simp [Op.eqFields, a0, a1, a2, b0, b1, b2, c0, c1, c2, go_sem, part, Tryz.underlying9]
theorem bneq (x : ByteArray) (y : ByteArray) (z : ByteArray) (w : World) : (binOp .neq 45 (.agg #[.string x, .string y, .string z]) (.agg #[.string x, .string y, .string z])).run Tryz.prog w = .ok (.bool false) w := by
  rw [run_neq_struct, beq_in x y z w]
  rfl
theorem bguard_run (x y : Operand) (xs ys : Array Value) (w : World) : (eqGuard .neq 45 x y (.agg xs) (.agg ys)).run Tryz.prog w = .ok () w := run_eqGuard_agg w .neq _ x y xs ys bguard
theorem bdrewN {B : Nat} {a w : World} (h : Below B a w) (n : Nat) : Below B a (w.drewN n) := ⟨h.os, h.tape, h.output, h.size, h.block⟩
set_option maxRecDepth 100000 in
set_option maxHeartbeats 4000000 in
theorem same_routes (es : List Ex) (bs : List Bi) (a1 b1 a2 b2 : Option Addr) (c1 d1 c2 d2 : Nat) (w : World) (hel : es.length ≤ 1048576) (hbl : bs.length ≤ 1048576) (hE1 : Row cE 2 w w.heap.size a1 es) (hE2 : Row cE 2 w w.heap.size a2 es) (hB1 : Row cB 3 w w.heap.size b1 bs) (hB2 : Row cB 3 w w.heap.size b2 bs) :
    Calls Tryz.prog 15 #[.agg #[.slice a1 es.length c1, .slice b1 bs.length d1], .agg #[.slice a2 es.length c2, .slice b2 bs.length d2]] w fun e w' => e = .returned (.bool true) ∧ Below w.heap.size w w' := by
  have hb : Below w.heap.size w ((w.alloc (.cells #[.slice a1 es.length c1, .slice b1 bs.length d1] 27)).alloc (.cells #[.slice a2 es.length c2, .slice b2 bs.length d2] 27)) := ((Below.refl _ _).alloc (Nat.le_refl _) _).alloc (by simp) _
  have hX := bold (bnew w #[.slice a1 es.length c1, .slice b1 bs.length d1] 27) (.cells #[.slice a2 es.length c2, .slice b2 bs.length d2] 27)
  have hY := bnew (w.alloc (.cells #[.slice a1 es.length c1, .slice b1 bs.length d1] 27)) #[.slice a2 es.length c2, .slice b2 bs.length d2] 27
  rw [World.size_alloc] at hY
  obtain ⟨W, hW⟩ : ∃ W, ((w.alloc (.cells #[.slice a1 es.length c1, .slice b1 bs.length d1] 27)).alloc (.cells #[.slice a2 es.length c2, .slice b2 bs.length d2] 27)) = W := ⟨_, rfl⟩
  rw [hW] at hb hX hY
  have x0 : W.cell? ⟨w.heap.size, 0, none⟩ = some (.slice a1 es.length c1) := bcell hX rfl
  have x1 : W.cell? ⟨w.heap.size, 1, none⟩ = some (.slice b1 bs.length d1) := bcell hX rfl
  have y0 : W.cell? ⟨w.heap.size + 1, 0, none⟩ = some (.slice a2 es.length c2) := bcell hY rfl
  have y1 : W.cell? ⟨w.heap.size + 1, 1, none⟩ = some (.slice b2 bs.length d2) := bcell hY rfl
  have HX : Hid (W.heap[w.heap.size]? = some (.cells #[.slice a1 es.length c1, .slice b1 bs.length d1] 27 (0, 0))) := hX
  have HY : Hid (W.heap[w.heap.size + 1]? = some (.cells #[.slice a2 es.length c2, .slice b2 bs.length d2] 27 (0, 0))) := hY
  have HB : Hid (Below w.heap.size w W) := hb
  have HE1 : Hid (Row cE 2 w w.heap.size a1 es) := hE1
  have HE2 : Hid (Row cE 2 w w.heap.size a2 es) := hE2
  have HB1 : Hid (Row cB 3 w w.heap.size b1 bs) := hB1
  have HB2 : Hid (Row cB 3 w w.heap.size b2 bs) := hB2
  clear hb hX hY hE1 hE2 hB1 hB2
  go_enter Tryz.func15, Tryz.ntmps15
  go_wp2
  clear hW x0 x1 y0 y1
  go_loopw [5] (fun x wr => ∃ k : Nat, k ≤ es.length ∧ x = .int .i64 k ∧ Hid (Below W.heap.size W wr)) (fun x _ => es.length - (intOf x).toNat)
  case atStart => exact ⟨0, Nat.zero_le _, rfl, by first | exact Below.refl _ _ | exact (Below.refl _ _).drew⟩
  case round =>
    obtain ⟨k, hk, rfl, hbr⟩ := hrel
    have x0 : wr.cell? ⟨w.heap.size, 0, none⟩ = some (.slice a1 es.length c1) := bcell (bstay HX.out hbr.out (Array.getElem?_eq_some_iff.1 HX.out).1) rfl
    have y0 : wr.cell? ⟨w.heap.size + 1, 0, none⟩ = some (.slice a2 es.length c2) := bcell (bstay HY.out hbr.out (Array.getElem?_eq_some_iff.1 HY.out).1) rfl
    by_cases hkl : k < es.length
    · have i2 : (k : Int) < (es.length : Int) := by omega
      have HG : Hid (es[k]? = some es[k]) := List.getElem?_eq_getElem hkl
      obtain ⟨⟨en, ek⟩, he⟩ : ∃ e, es[k] = e := ⟨_, rfl⟩
      rw [he] at HG
      have hbw : Below w.heap.size w wr := HB.out.trans (Below.mono hbr.out (Below.size HB.out))
      obtain ⟨g1, o1, rfl, hlt1, hc1⟩ := (HE1.out.inn hbw).resolve_left (by rintro rfl; simp at hkl)
      obtain ⟨g2, o2, rfl, hlt2, hc2⟩ := (HE2.out.inn hbw).resolve_left (by rintro rfl; simp at hkl)
      have p0 := hc1 k _ HG.out 0 _ rfl
      have p1 := hc1 k _ HG.out 1 _ rfl
      have q0 := hc2 k _ HG.out 0 _ rfl
      have q1 := hc2 k _ HG.out 1 _ rfl
      rw [Nat.add_zero] at p0 q0
      have hgd := @eguard_run
      have hrn := eneq en ek
      have HBR : Hid (Below W.heap.size W wr) := hbr
      clear he hc1 hc2 hlt1 hlt2 hbw hbr
      go_wp2
      go_quiet (fail)
      have HBN : Hid (Below W.heap.size W (wr.drewN nq)) := bdrewN HBR.out nq
      go_wp2
      go_roundw
      case rel => exact ⟨k + 1, by omega, by go_num, HBN⟩
      case measure => simp [intOf]; omega
    · obtain rfl : k = es.length := by omega
      have i2 : ¬ (es.length : Int) < (es.length : Int) := by omega
      have HBW : Hid (Below W.heap.size W wr) := hbr
      clear hbr
      go_wp2
      clear x0 y0
      go_loopw [6] (fun x wq => ∃ k : Nat, k ≤ bs.length ∧ x = .int .i64 k ∧ Hid (Below W.heap.size W wq)) (fun x _ => bs.length - (intOf x).toNat)
      case atStart => exact ⟨0, Nat.zero_le _, rfl, HBW⟩
      case round =>
        obtain ⟨k, hk, rfl, hbr⟩ := hrel
        have x1 : wr.cell? ⟨w.heap.size, 1, none⟩ = some (.slice b1 bs.length d1) := bcell (bstay HX.out hbr.out (Array.getElem?_eq_some_iff.1 HX.out).1) rfl
        have y1 : wr.cell? ⟨w.heap.size + 1, 1, none⟩ = some (.slice b2 bs.length d2) := bcell (bstay HY.out hbr.out (Array.getElem?_eq_some_iff.1 HY.out).1) rfl
        by_cases hkl : k < bs.length
        · have i2 : (k : Int) < (bs.length : Int) := by omega
          have HG : Hid (bs[k]? = some bs[k]) := List.getElem?_eq_getElem hkl
          obtain ⟨⟨bx, bk, bq⟩, he⟩ : ∃ e, bs[k] = e := ⟨_, rfl⟩
          rw [he] at HG
          have hbw : Below w.heap.size w wr := HB.out.trans (Below.mono hbr.out (Below.size HB.out))
          obtain ⟨g1, o1, rfl, hlt1, hc1⟩ := (HB1.out.inn hbw).resolve_left (by rintro rfl; simp at hkl)
          obtain ⟨g2, o2, rfl, hlt2, hc2⟩ := (HB2.out.inn hbw).resolve_left (by rintro rfl; simp at hkl)
          have p0 := hc1 k _ HG.out 0 _ rfl
          have p1 := hc1 k _ HG.out 1 _ rfl
          have p2 := hc1 k _ HG.out 2 _ rfl
          have q0 := hc2 k _ HG.out 0 _ rfl
          have q1 := hc2 k _ HG.out 1 _ rfl
          have q2 := hc2 k _ HG.out 2 _ rfl
          rw [Nat.add_zero] at p0 q0
          have hgd := @bguard_run
          have hrn := bneq bx bk bq
          have HBR : Hid (Below W.heap.size W wr) := hbr
          clear he hc1 hc2 hlt1 hlt2 hbw hbr
          go_wp2
          go_quiet (fail)
          have HBN : Hid (Below W.heap.size W (wr.drewN nq)) := bdrewN HBR.out nq
          go_wp2
          go_roundw
          case rel => exact ⟨k + 1, by omega, by go_num, HBN⟩
          case measure => simp [intOf]; omega
        · obtain rfl : k = bs.length := by omega
          have i2 : ¬ (bs.length : Int) < (bs.length : Int) := by omega
          have HBF : Hid (Below w.heap.size w wr) := HB.out.trans (Below.mono hbr.out (Below.size HB.out))
          clear hbr
          go_wp2
          go_ret
          exact ⟨rfl, HBF.out⟩
end Go.Proofs.YtnooibeohdfcmaaGreatDoor.srt
