/- The program's Bind: one binding more, where that is right, in rows of its own; new memory alone. -/
import Derived.Test.YtgfifjiidmfojaaRouteGen
import Derived.Test.YtgfifjiidmfojaaBindPure
import Derived.Test.YtgfifjiidmfojaaSearchBind
import Derived.Test.YtgfifjiidmfojaaInsertBinding
namespace Go.Proofs.Ytgfifjiidmfojaa.bim
open Go.ChangeShapes Go.WideShapes Go.ChangeAt Go.RowKit Go.Proofs.Ytgfifjiidmfojaa.rc Go.Proofs.Ytgfifjiidmfojaa.rr Go.Proofs.Ytgfifjiidmfojaa.ra Go.Proofs.Ytgfifjiidmfojaa.rt Go.Proofs.Ytgfifjiidmfojaa.rs Go.Proofs.Ytgfifjiidmfojaa.ro Go.Proofs.Ytgfifjiidmfojaa.fl Go.Proofs.Ytgfifjiidmfojaa.su Go.Proofs.Ytgfifjiidmfojaa.bp Go.Proofs.Ytgfifjiidmfojaa.rwy Go.Proofs.Ytgfifjiidmfojaa.cr Go.Proofs.Ytgfifjiidmfojaa.rgn
set_option linter.unusedVariables false

set_option maxRecDepth 100000 in
set_option maxHeartbeats 4000000 in
theorem impl_bind (es : List Ex) (bs : List Bi) (a0 b0 : Nat) (bx bk bq : ByteArray) (w : World) (hel : es.length ≤ 1048576) (hbl : bs.length ≤ 1048576) (hes : ∀ e ∈ es, e.n.size ≤ 1048576) (hbs : ∀ b ∈ bs, b.x.size ≤ 1048576 ∧ b.k.size ≤ 1048576 ∧ b.q.size ≤ 1048576) (hx : bx.size ≤ 1048576) (hk : bk.size ≤ 1048576) (hq : bq.size ≤ 1048576) (hE : RE w a0 es) (hB : RB w b0 bs) :
    Calls Try.prog 14 #[.agg #[.slice (some ⟨a0, 0, none⟩) es.length es.length, .slice (some ⟨b0, 0, none⟩) bs.length bs.length], .string bx, .string bk, .string bq] w fun r w' => ∃ ga ca gb cb, r = .returned (.tuple #[.agg #[.slice (some ⟨ga, 0, none⟩) es.length ca, .slice (some ⟨gb, 0, none⟩) (ansB es bs ⟨bx, bk, bq⟩).length cb], .bool (retB es bs ⟨bx, bk, bq⟩)]) ∧ w.heap.size ≤ ga ∧ w.heap.size ≤ gb ∧ ga ≠ gb ∧ FE w' ga es es.length ∧ FB w' gb (ansB es bs ⟨bx, bk, bq⟩) (ansB es bs ⟨bx, bk, bq⟩).length ∧ Below w.heap.size w w' := by
  have hr0 : R0 w es bs a0 b0 ((w.alloc (.cells #[.slice (some ⟨a0, 0, none⟩) es.length es.length, .slice (some ⟨b0, 0, none⟩) bs.length bs.length] 30)).alloc (.cells #[.slice none 0 0, .slice none 0 0] 30)) := ⟨first_below w es bs a0 b0 _ _, first_box w es bs a0 b0 _ _, first_res w es bs a0 b0 _ _⟩
  have hokc := ri.impl_routes es bs a0 es.length b0 bs.length _ hel hbl hes hbs (hE.below hr0.bel) (hB.below hr0.bel)
  have HE : Hid (RE w a0 es) := hE
  have HB : Hid (RB w b0 bs) := hB
  have HES : Hid (∀ e ∈ es, e.n.size ≤ 1048576) := hes
  have HBS : Hid (∀ b ∈ bs, b.x.size ≤ 1048576 ∧ b.k.size ≤ 1048576 ∧ b.q.size ≤ 1048576) := hbs
  obtain ⟨AN, hAN⟩ : ∃ AN, ansB es bs ⟨bx, bk, bq⟩ = AN := ⟨_, rfl⟩
  obtain ⟨rt, hrt⟩ : ∃ rt, retB es bs ⟨bx, bk, bq⟩ = rt := ⟨_, rfl⟩
  have HAN : Hid (ansB es bs ⟨bx, bk, bq⟩ = AN) := hAN
  have HRT : Hid (retB es bs ⟨bx, bk, bq⟩ = rt) := hrt
  simp only [hAN, hrt]
  obtain ⟨W, hW⟩ : ∃ W, (w.alloc (.cells #[.slice (some ⟨a0, 0, none⟩) es.length es.length, .slice (some ⟨b0, 0, none⟩) bs.length bs.length] 30)).alloc (.cells #[.slice none 0 0, .slice none 0 0] 30) = W := ⟨_, rfl⟩
  rw [hW] at hr0 hokc
  have HR0 : Hid (R0 w es bs a0 b0 W) := hr0
  have x0 : W.cell? ⟨w.heap.size, 0, none⟩ = some (.slice (some ⟨a0, 0, none⟩) es.length es.length) := bcell hr0.box rfl
  have x1 : W.cell? ⟨w.heap.size, 1, none⟩ = some (.slice (some ⟨b0, 0, none⟩) bs.length bs.length) := bcell hr0.box rfl
  clear hE hB hes hbs hAN hrt hr0
  go_enter Try.func14, Try.ntmps14
  go_wp2_with (go_at_call 26; fail)
  clear hW x0 x1
  refine hokc.mono ?_
  rintro e w1 ⟨⟨bo, rfl, hbo⟩, hb1⟩
  have HR1 : Hid (R0 w es bs a0 b0 w1) := HR0.out.on hb1
  have hcp := fun (X : World) (h : Below w.heap.size w X) => cr.copy_own es bs a0 b0 es.length bs.length X hel hbl HES.out HBS.out (HE.out.below h) (HB.out.below h)
  clear hokc hb1 HR0
  by_cases hok : OkR es bs
  case neg =>
    obtain rfl : bo = false := by
      cases bo with
      | false => rfl
      | true => exact absurd (hbo.1 rfl) hok
    have HA : Hid (bs = AN) := (bad hok).1.symm.trans HAN.out
    have HR : Hid (false = rt) := (bad hok).2.symm.trans HRT.out
    have hc1 := hcp w1 HR1.out.bel
    have x0 : w1.cell? ⟨w.heap.size, 0, none⟩ = some (.slice (some ⟨a0, 0, none⟩) es.length es.length) := bcell HR1.out.box rfl
    have x1 : w1.cell? ⟨w.heap.size, 1, none⟩ = some (.slice (some ⟨b0, 0, none⟩) bs.length bs.length) := bcell HR1.out.box rfl
    clear hbo hok hcp
    go_wp2_with (go_at_call 27; fail)
    refine hc1.mono ?_
    rintro e w2 ⟨g1, h1, rfl, hg1, hh1, hne, fe, fb, hb2⟩
    have hsz := HR1.out.size
    have HR2 : Hid (R0 w es bs a0 b0 w2) := HR1.out.on hb2
    have PE2 : Hid (PE w w2 g1 es) := ⟨by omega, fe.f⟩
    have PB2 : Hid (PB w w2 h1 bs) := ⟨by omega, fb.f⟩
    clear hc1 fe fb hb2 x0 x1
    have z0 : w2.cell? ⟨w.heap.size + 1, 0, none⟩ = some (.slice none 0 0) := bcell HR2.out.res rfl
    have z1 : w2.cell? ⟨w.heap.size + 1, 1, none⟩ = some (.slice none 0 0) := bcell HR2.out.res rfl
    have z0f := bfree HR2.out.res 0
    have z1f := bfree HR2.out.res 1
    have hge2 := PE2.out.1
    have hgb2 := PB2.out.1
    go_wp2
    refine bodyPost_ret (v := .tuple #[.agg #[.slice (some ⟨g1, 0, none⟩) es.length es.length, .slice (some ⟨h1, 0, none⟩) bs.length bs.length], .bool false]) (by simp [results, Try.results14, go_sem, z0, z1]) rfl ⟨g1, es.length, h1, bs.length, by rw [← HA.out, HR.out], by omega, by omega, hne, ?_, ?_, ?_⟩
    · exact fin_FE PE2.out
    · rw [← HA.out]; exact fin_FB PB2.out
    · exact fin_below HR2.out.bel
  case pos =>
    obtain rfl : bo = true := hbo.2 hok
    have HOK : Hid (OkR es bs) := hok
    have hbl4 := hok.bl
    have hcb := cb.copy_binding ⟨bx, bk, bq⟩ w1 ⟨hx, hk, hq⟩
    clear hbo hok
    go_wp2_with (go_at_call 39; fail)
    refine hcb.mono ?_
    rintro e w2 ⟨rfl, hb2⟩
    have hal : Below w2.heap.size w2 (w2.alloc (.cells #[.string bx, .string bk, .string bq] 61)) := (Below.refl _ _).alloc (Nat.le_refl _) _
    have hr2 := (HR1.out.on hb2).on hal
    have hbx := bnew w2 #[.string bx, .string bk, .string bq] 61
    obtain ⟨n9, hn9⟩ : ∃ n9, w2.heap.size = n9 := ⟨_, rfl⟩
    rw [hn9] at hbx
    obtain ⟨W2, hW2⟩ : ∃ W2, w2.alloc (.cells #[.string bx, .string bk, .string bq] 61) = W2 := ⟨_, rfl⟩
    rw [hW2] at hr2 hbx
    have HR2 : Hid (R0 w es bs a0 b0 W2) := hr2
    have HBX : Hid (W2.heap[n9]? = some (.cells #[.string bx, .string bk, .string bq] 61 (0, 0))) := hbx
    have x1 : W2.cell? ⟨w.heap.size, 1, none⟩ = some (.slice (some ⟨b0, 0, none⟩) bs.length bs.length) := bcell hr2.box rfl
    have m0 : W2.cell? ⟨n9, 0, none⟩ = some (.string bx) := bcell hbx rfl
    have m1 : W2.cell? ⟨n9, 1, none⟩ = some (.string bk) := bcell hbx rfl
    have m2 : W2.cell? ⟨n9, 2, none⟩ = some (.string bq) := bcell hbx rfl
    have hsr := sbi.search_bi bs b0 bs.length bx bk bq W2 hbl (HB.out.below hr2.bel) (up_monB HOK.out.bu ⟨bx, bk, bq⟩)
    clear hcb hb2 hal hr2 hbx HR1
    go_wp2_with (go_at_call 40; fail)
    clear hW2 hn9 x1 m0 m1 m2
    refine hsr.mono ?_
    rintro e w3 ⟨⟨p, bt, rfl, hp, hbt⟩, hb3⟩
    have HR3 : Hid (R0 w es bs a0 b0 w3) := HR2.out.on hb3
    have HX3 : Hid (w3.heap[n9]? = some (.cells #[.string bx, .string bk, .string bq] 61 (0, 0))) := bstay HBX.out hb3 (Array.getElem?_eq_some_iff.1 HBX.out).1
    have x0 : w3.cell? ⟨w.heap.size, 0, none⟩ = some (.slice (some ⟨a0, 0, none⟩) es.length es.length) := bcell HR3.out.box rfl
    have x1 : w3.cell? ⟨w.heap.size, 1, none⟩ = some (.slice (some ⟨b0, 0, none⟩) bs.length bs.length) := bcell HR3.out.box rfl
    have hp0 : p ≤ bs.length := hp.1
    have HP : Hid (posB bs ⟨bx, bk, bq⟩ = p) := posB_of hp
    have HBT : Hid (bt = true ↔ hasB bs ⟨bx, bk, bq⟩) := hbt.trans (foundB HOK.out.bu hp)
    have hc3 := hcp w3 HR3.out.bel
    have hsz := HR3.out.size
    clear hsr hb3 hp hbt HR2 HBX
    cases bt with
    | true =>
      have HA : Hid (bs = AN) := (there HOK.out (HBT.out.1 rfl)).1.symm.trans HAN.out
      have HR : Hid (true = rt) := (there HOK.out (HBT.out.1 rfl)).2.symm.trans HRT.out
      clear hcp HBT
      go_wp2_with (go_at_call 27; fail)
      refine hc3.mono ?_
      rintro e w4 ⟨g1, h1, rfl, hg1, hh1, hne, fe, fb, hb4⟩
      have HR4 : Hid (R0 w es bs a0 b0 w4) := HR3.out.on hb4
      have PE4 : Hid (PE w w4 g1 es) := ⟨by omega, fe.f⟩
      have PB4 : Hid (PB w w4 h1 bs) := ⟨by omega, fb.f⟩
      clear hc3 fe fb hb4 x0 x1
      have z0 : w4.cell? ⟨w.heap.size + 1, 0, none⟩ = some (.slice none 0 0) := bcell HR4.out.res rfl
      have z1 : w4.cell? ⟨w.heap.size + 1, 1, none⟩ = some (.slice none 0 0) := bcell HR4.out.res rfl
      have z0f := bfree HR4.out.res 0
      have z1f := bfree HR4.out.res 1
      have hge2 := PE4.out.1
      have hgb2 := PB4.out.1
      go_wp2
      refine bodyPost_ret (v := .tuple #[.agg #[.slice (some ⟨g1, 0, none⟩) es.length es.length, .slice (some ⟨h1, 0, none⟩) bs.length bs.length], .bool true]) (by simp [results, Try.results14, go_sem, z0, z1]) rfl ⟨g1, es.length, h1, bs.length, by rw [← HA.out, HR.out], by omega, by omega, hne, ?_, ?_, ?_⟩
      · exact fin_FE PE4.out
      · rw [← HA.out]; exact fin_FB PB4.out
      · exact fin_below HR4.out.bel
    | false =>
      have HNO : Hid (¬ hasB bs ⟨bx, bk, bq⟩) := fun hh => by have := HBT.out.2 hh; cases this
      clear HBT
      go_wp2_with (go_at_call 27; fail)
      refine hc3.mono ?_
      rintro e w4 ⟨g1, h1, rfl, hg1, hh1, hne, fe, fb, hb4⟩
      have hs4 := hb4.size
      have HR4 := HR3.out.on hb4
      have RXa : RX w es bs a0 b0 es.length bs.length w4.heap.size (.slice (some ⟨g1, 0, none⟩) es.length es.length) (.slice (some ⟨h1, 0, none⟩) bs.length bs.length) (w4.alloc (.cells #[.slice (some ⟨g1, 0, none⟩) es.length es.length, .slice (some ⟨h1, 0, none⟩) bs.length bs.length] 30)) := ⟨HR4.bel.alloc (by omega) _, bold HR4.box _, bold HR4.res _, bnew w4 _ _, by omega⟩
      have OEa : OE w (w4.alloc (.cells #[.slice (some ⟨g1, 0, none⟩) es.length es.length, .slice (some ⟨h1, 0, none⟩) bs.length bs.length] 30)) g1 es.length es := (own_E fe (by omega) hel).on ((Below.refl _ _).alloc (Nat.le_refl _) _)
      have OBa : OB w (w4.alloc (.cells #[.slice (some ⟨g1, 0, none⟩) es.length es.length, .slice (some ⟨h1, 0, none⟩) bs.length bs.length] 30)) h1 bs.length bs := (own_B fb (by omega) hbl).on ((Below.refl _ _).alloc (Nat.le_refl _) _)
      have hx4 := bold (bstay HX3.out hb4 (Array.getElem?_eq_some_iff.1 HX3.out).1) (.cells #[.slice (some ⟨g1, 0, none⟩) es.length es.length, .slice (some ⟨h1, 0, none⟩) bs.length bs.length] 30)
      obtain ⟨X, hX⟩ : ∃ X, w4.alloc (.cells #[.slice (some ⟨g1, 0, none⟩) es.length es.length, .slice (some ⟨h1, 0, none⟩) bs.length bs.length] 30) = X := ⟨_, rfl⟩
      rw [hX] at RXa OEa OBa hx4
      obtain ⟨n8, hn8⟩ : ∃ n8, w4.heap.size = n8 := ⟨_, rfl⟩
      rw [hn8] at RXa
      have hal5 : Below X.heap.size X (X.alloc (.cells #[.string bx, .string bk, .string bq] 61)) := (Below.refl _ _).alloc (Nat.le_refl _) _
      have hrx5 := RXa.on hal5
      have hoe5 := OEa.on hal5
      have hob5 := OBa.on hal5
      have hin := insb.insert_binding bs h1 p (w.heap.size + 2) bx bk bq X.heap.size (X.alloc (.cells #[.string bx, .string bk, .string bq] 61)) hp0 hbl hrx5.size hob5 (bnew X _ _)
      have n1 : X.cell? ⟨n8, 1, none⟩ = some (.slice (some ⟨h1, 0, none⟩) bs.length bs.length) := bcell RXa.out rfl
      have m0 : X.cell? ⟨n9, 0, none⟩ = some (.string bx) := bcell hx4 rfl
      have m1 : X.cell? ⟨n9, 1, none⟩ = some (.string bk) := bcell hx4 rfl
      have m2 : X.cell? ⟨n9, 2, none⟩ = some (.string bq) := bcell hx4 rfl
      obtain ⟨V, hV⟩ : ∃ V, X.alloc (.cells #[.string bx, .string bk, .string bq] 61) = V := ⟨_, rfl⟩
      rw [hV] at hrx5 hoe5 hob5 hin
      have RX5 : Hid (RX w es bs a0 b0 es.length bs.length n8 (.slice (some ⟨g1, 0, none⟩) es.length es.length) (.slice (some ⟨h1, 0, none⟩) bs.length bs.length) V) := hrx5
      have OE5 : Hid (OE w V g1 es.length es) := hoe5
      have OB5 : Hid (OB w V h1 bs.length bs) := hob5
      clear hc3 fe fb hb4 x0 x1 HR3 HR4 RXa OEa OBa hx4 HX3 hal5 hrx5 hoe5 hob5
      go_wp2_with (go_at_call 42; fail)
      clear hX hV hn8 n1 m0 m1 m2
      refine hin.mono ?_
      rintro e w5 ⟨g6, c6, rfl, ho5, hg5⟩
      have hset : bs.take p ++ ⟨bx, bk, bq⟩ :: bs.drop p = insB bs ⟨bx, bk, bq⟩ := by unfold insB; rw [HP.out]
      have ho8 : w5.ownsRow (w.heap.size + 2) 61 3 (.slice (some ⟨g6, 0, none⟩) (bs.length + 1) c6) (bs.length + 1) ((bs.take p ++ ⟨bx, bk, bq⟩ :: bs.drop p).flatMap cB) := ho5
      rw [hset] at ho8
      have hrx7 := RX5.out.grown (by decide) hg5 OB5.out
      have hoe7 := OE5.out.grown hg5 OB5.out
      have n1 : w5.cell? ⟨n8, 1, none⟩ = some (.slice (some ⟨h1, 0, none⟩) bs.length bs.length) := bcell hrx7.out rfl
      have n1f := bfree hrx7.out 1
      have RX8 : Hid (RX w es bs a0 b0 es.length bs.length n8 (.slice (some ⟨g1, 0, none⟩) es.length es.length) (.slice (some ⟨g6, 0, none⟩) (bs.length + 1) c6) (w5.setCell ⟨n8, 1, none⟩ (.slice (some ⟨g6, 0, none⟩) (bs.length + 1) c6))) := hrx7.put1 _
      have OE8 : Hid (OE w (w5.setCell ⟨n8, 1, none⟩ (.slice (some ⟨g6, 0, none⟩) (bs.length + 1) c6)) g1 es.length es) := hoe7.put hrx7 1 _
      have ho9 := owns_set (o := 1) ho8 (owns_ne (by decide) ho8 hrx7.out) (.slice (some ⟨g6, 0, none⟩) (bs.length + 1) c6)
      obtain ⟨Y, hY⟩ : ∃ Y, w5.setCell ⟨n8, 1, none⟩ (.slice (some ⟨g6, 0, none⟩) (bs.length + 1) c6) = Y := ⟨_, rfl⟩
      rw [hY] at RX8 OE8 ho9
      have OB8 : Hid (OB w Y g6 c6 (insB bs ⟨bx, bk, bq⟩)) := by unfold Hid OB; rw [insB_len]; exact ho9
      have hok8 := ri.impl_routes es (insB bs ⟨bx, bk, bq⟩) g1 es.length g6 c6 Y hel (by rw [insB_len]; omega) HES.out (ins_small HBS.out ⟨hx, hk, hq⟩) OE8.out.re OB8.out.rb
      rw [insB_len] at hok8
      have o0 : Y.cell? ⟨n8, 0, none⟩ = some (.slice (some ⟨g1, 0, none⟩) es.length es.length) := bcell RX8.out.out rfl
      have o1 : Y.cell? ⟨n8, 1, none⟩ = some (.slice (some ⟨g6, 0, none⟩) (bs.length + 1) c6) := bcell RX8.out.out rfl
      clear ho5 hg5 ho8 ho9 hrx7 hoe7 RX5 OE5 OB5 hset hin
      go_wp2_with (go_at_call 26; fail)
      clear hY o0 o1 n1 n1f
      refine hok8.mono ?_
      rintro e w6 ⟨⟨bo, rfl, hbo⟩, hb6⟩
      have RX9 : Hid (RX w es bs a0 b0 es.length bs.length n8 (.slice (some ⟨g1, 0, none⟩) es.length es.length) (.slice (some ⟨g6, 0, none⟩) (bs.length + 1) c6) w6) := RX8.out.on hb6
      have PE9 : Hid (PE w w6 g1 es) := rgn.OE.p (OE8.out.on hb6)
      have PB9 : Hid (PB w w6 g6 (insB bs ⟨bx, bk, bq⟩)) := rgn.OB.p (OB8.out.on hb6)
      clear hok8 RX8 OE8 OB8 hb6
      by_cases hok2 : OkR es (insB bs ⟨bx, bk, bq⟩)
      case pos =>
        obtain rfl : bo = true := hbo.2 hok2
        have HA : Hid (insB bs ⟨bx, bk, bq⟩ = AN) := (put HOK.out HNO.out hok2).1.symm.trans HAN.out
        have HR : Hid (true = rt) := (put HOK.out HNO.out hok2).2.symm.trans HRT.out
        clear hbo hok2 hcp
        have n0 : w6.cell? ⟨n8, 0, none⟩ = some (.slice (some ⟨g1, 0, none⟩) es.length es.length) := bcell RX9.out.out rfl
        have n1 : w6.cell? ⟨n8, 1, none⟩ = some (.slice (some ⟨g6, 0, none⟩) (bs.length + 1) c6) := bcell RX9.out.out rfl
        have z0 : w6.cell? ⟨w.heap.size + 1, 0, none⟩ = some (.slice none 0 0) := bcell RX9.out.res rfl
        have z1 : w6.cell? ⟨w.heap.size + 1, 1, none⟩ = some (.slice none 0 0) := bcell RX9.out.res rfl
        have z0f := bfree RX9.out.res 0
        have z1f := bfree RX9.out.res 1
        have hge2 := PE9.out.1
        have hgb2 := PB9.out.1
        go_wp2
        refine bodyPost_ret (v := .tuple #[.agg #[.slice (some ⟨g1, 0, none⟩) es.length es.length, .slice (some ⟨g6, 0, none⟩) (bs.length + 1) c6], .bool true]) (by simp [results, Try.results14, go_sem, z0, z1]) rfl ⟨g1, es.length, g6, c6, by rw [← HA.out, insB_len, HR.out], by omega, by omega, PE9.out.ne PB9.out, ?_, ?_, ?_⟩
        · exact fin_FE PE9.out
        · rw [← HA.out]; exact fin_FB PB9.out
        · exact fin_below RX9.out.bel
      case neg =>
        obtain rfl : bo = false := by
          cases bo with
          | false => rfl
          | true => exact absurd (hbo.1 rfl) hok2
        have HA : Hid (bs = AN) := (over HOK.out HNO.out hok2).1.symm.trans HAN.out
        have HR : Hid (false = rt) := (over HOK.out HNO.out hok2).2.symm.trans HRT.out
        have hc6 := hcp w6 RX9.out.bel
        have x0 : w6.cell? ⟨w.heap.size, 0, none⟩ = some (.slice (some ⟨a0, 0, none⟩) es.length es.length) := bcell RX9.out.box rfl
        have x1 : w6.cell? ⟨w.heap.size, 1, none⟩ = some (.slice (some ⟨b0, 0, none⟩) bs.length bs.length) := bcell RX9.out.box rfl
        clear hbo hok2 hcp
        go_wp2_with (go_at_call 27; fail)
        refine hc6.mono ?_
        rintro e w7 ⟨g7, h7, rfl, hg7, hh7, hne7, fe7, fb7, hb7⟩
        have hsz6 := RX9.out.size
        have RX10 : Hid (RX w es bs a0 b0 es.length bs.length n8 (.slice (some ⟨g1, 0, none⟩) es.length es.length) (.slice (some ⟨g6, 0, none⟩) (bs.length + 1) c6) w7) := RX9.out.on hb7
        have PE10 : Hid (PE w w7 g7 es) := ⟨by omega, fe7.f⟩
        have PB10 : Hid (PB w w7 h7 bs) := ⟨by omega, fb7.f⟩
        clear hc6 fe7 fb7 hb7 x0 x1
        have z0 : w7.cell? ⟨w.heap.size + 1, 0, none⟩ = some (.slice none 0 0) := bcell RX10.out.res rfl
        have z1 : w7.cell? ⟨w.heap.size + 1, 1, none⟩ = some (.slice none 0 0) := bcell RX10.out.res rfl
        have z0f := bfree RX10.out.res 0
        have z1f := bfree RX10.out.res 1
        have hge2 := PE10.out.1
        have hgb2 := PB10.out.1
        go_wp2
        refine bodyPost_ret (v := .tuple #[.agg #[.slice (some ⟨g7, 0, none⟩) es.length es.length, .slice (some ⟨h7, 0, none⟩) bs.length bs.length], .bool false]) (by simp [results, Try.results14, go_sem, z0, z1]) rfl ⟨g7, es.length, h7, bs.length, by rw [← HA.out, HR.out], by omega, by omega, hne7, ?_, ?_, ?_⟩
        · exact fin_FE PE10.out
        · rw [← HA.out]; exact fin_FB PB10.out
        · exact fin_below RX10.out.bel
end Go.Proofs.Ytgfifjiidmfojaa.bim
