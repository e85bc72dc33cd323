/- The program's Declare: one exchange more, where that is right, in rows of its own; new memory alone. -/
import Derived.Test.YtgfifjiidmfojaaRouteWay
import Derived.Test.YtgfifjiidmfojaaDeclPure
import Derived.Test.YtgfifjiidmfojaaInsertExchange
namespace Go.Proofs.Ytgfifjiidmfojaa.dim
open Go.ChangeShapes Go.WideShapes Go.ChangeAt Go.RowKit Go.Proofs.Ytgfifjiidmfojaa.rc Go.Proofs.Ytgfifjiidmfojaa.rr Go.Proofs.Ytgfifjiidmfojaa.ra Go.Proofs.Ytgfifjiidmfojaa.rt Go.Proofs.Ytgfifjiidmfojaa.rs Go.Proofs.Ytgfifjiidmfojaa.ro Go.Proofs.Ytgfifjiidmfojaa.fl Go.Proofs.Ytgfifjiidmfojaa.su Go.Proofs.Ytgfifjiidmfojaa.dp Go.Proofs.Ytgfifjiidmfojaa.rwy Go.Proofs.Ytgfifjiidmfojaa.cr
set_option linter.unusedVariables false

/-- the argument's box and the answer's place -/
structure R0 (w : World) (es : List Ex) (bs : List Bi) (a0 b0 : Nat) (X : World) : Prop where
  bel : Below w.heap.size w X
  box : X.heap[w.heap.size]? = some (.cells #[.slice (some ⟨a0, 0, none⟩) es.length es.length, .slice (some ⟨b0, 0, none⟩) bs.length bs.length] 30 (0, 0))
  res : X.heap[w.heap.size + 1]? = some (.cells #[.slice none 0 0, .slice none 0 0] 30 (0, 0))
theorem R0.on {w X X' : World} {es : List Ex} {bs : List Bi} {a0 b0 : Nat} (h : R0 w es bs a0 b0 X) (hb : Below X.heap.size X X') : R0 w es bs a0 b0 X' :=
  ⟨h.bel.trans (hb.mono h.bel.size), bstay h.box hb (Array.getElem?_eq_some_iff.1 h.box).1, bstay h.res hb (Array.getElem?_eq_some_iff.1 h.res).1⟩
theorem R0.size {w X : World} {es : List Ex} {bs : List Bi} {a0 b0 : Nat} (h : R0 w es bs a0 b0 X) : w.heap.size + 2 ≤ X.heap.size := (Array.getElem?_eq_some_iff.1 h.res).1
/-- a row of one's own, behind a place -/
def PE (w X : World) (g : Nat) (m : List Ex) : Prop := w.heap.size + 2 ≤ g ∧ FE X g m m.length
def PB (w X : World) (g : Nat) (m : List Bi) : Prop := w.heap.size + 2 ≤ g ∧ FB X g m m.length
theorem take_at {xs : List Value} {cur : Array Value} {n j : Nat} {v : Value} (h : cur.toList.take n = xs) (hv : xs[j]? = some v) : cur[j]? = some v := by
  rw [← h] at hv
  have hlt := (List.getElem?_eq_some_iff.1 hv).1
  rw [List.length_take] at hlt
  rw [List.getElem?_take_of_lt (by omega)] at hv
  simpa using hv
theorem OE.p {w X : World} {g c : Nat} {m : List Ex} (h : OE w X g c m) : PE w X g m := by
  obtain ⟨_, ⟨h1, _⟩ | ⟨g', cap', cur, h1, h2, h3, h4, h5, h6, h7⟩⟩ := h
  · cases h1
  cases h1
  refine ⟨h2, cur, h3, by rw [h6]; exact Nat.mul_le_mul_right 2 h4, fun i e _ he => ⟨take_at h7 (by simpa using flat_at cE_len m i e he 0 _ rfl), take_at h7 (flat_at cE_len m i e he 1 _ rfl)⟩⟩
theorem OB.p {w X : World} {g c : Nat} {m : List Bi} (h : OB w X g c m) : PB w X g m := by
  obtain ⟨_, ⟨h1, _⟩ | ⟨g', cap', cur, h1, h2, h3, h4, h5, h6, h7⟩⟩ := h
  · cases h1
  cases h1
  refine ⟨h2, cur, h3, by rw [h6]; exact Nat.mul_le_mul_right 3 h4, fun i e _ he => ⟨take_at h7 (by simpa using flat_at cB_len m i e he 0 _ rfl), take_at h7 (flat_at cB_len m i e he 1 _ rfl), take_at h7 (flat_at cB_len m i e he 2 _ rfl)⟩⟩
theorem own_E {w X : World} {g : Nat} {m : List Ex} (h : XE X g m m.length) (hg : w.heap.size + 2 ≤ g) (hl : m.length ≤ 1048576) : OE w X g m.length m := by
  obtain ⟨cur, h1, h2, h3⟩ := h
  refine ⟨flat_len cE_len m, .inr ⟨g, m.length, cur, rfl, hg, h1, Nat.le_refl _, by unfold maxLen; omega, h2, ?_⟩⟩
  apply List.ext_getElem?
  intro j
  by_cases hj : j < m.length * 2
  · rw [List.getElem?_take_of_lt hj]
    obtain ⟨u, hu⟩ : ∃ u, (m.flatMap cE)[j]? = some u := ⟨_, List.getElem?_eq_getElem (by rw [flat_len cE_len]; exact hj)⟩
    obtain ⟨i, e, r, a1, a2, rfl⟩ := flat_get cE_len m j u hu
    rw [hu]
    obtain ⟨b0, b1⟩ := h3 i e (List.getElem?_eq_some_iff.1 a1).1 a1
    match r, a2 with
    | 0, a2 => cases a2; simpa using b0
    | 1, a2 => cases a2; simpa using b1
    | r + 2, a2 => simp [cE] at a2
  · rw [List.getElem?_eq_none (by rw [List.length_take]; omega), List.getElem?_eq_none (by rw [flat_len cE_len]; omega)]
theorem own_B {w X : World} {g : Nat} {m : List Bi} (h : XB X g m m.length) (hg : w.heap.size + 2 ≤ g) (hl : m.length ≤ 1048576) : OB w X g m.length m := by
  obtain ⟨cur, h1, h2, h3⟩ := h
  refine ⟨flat_len cB_len m, .inr ⟨g, m.length, cur, rfl, hg, h1, Nat.le_refl _, by unfold maxLen; omega, h2, ?_⟩⟩
  apply List.ext_getElem?
  intro j
  by_cases hj : j < m.length * 3
  · rw [List.getElem?_take_of_lt hj]
    obtain ⟨u, hu⟩ : ∃ u, (m.flatMap cB)[j]? = some u := ⟨_, List.getElem?_eq_getElem (by rw [flat_len cB_len]; exact hj)⟩
    obtain ⟨i, e, r, a1, a2, rfl⟩ := flat_get cB_len m j u hu
    rw [hu]
    obtain ⟨b0, b1, b2⟩ := h3 i e (List.getElem?_eq_some_iff.1 a1).1 a1
    match r, a2 with
    | 0, a2 => cases a2; simpa using b0
    | 1, a2 => cases a2; simpa using b1
    | 2, a2 => cases a2; simpa using b2
    | r + 3, a2 => simp [cB] at a2
  · rw [List.getElem?_eq_none (by rw [List.length_take]; omega), List.getElem?_eq_none (by rw [flat_len cB_len]; omega)]
theorem fin_FE {w X : World} {g : Nat} {m : List Ex} {x0 x1 : Value} (h : PE w X g m) : FE (res2 X (w.heap.size + 1) x0 x1) g m m.length := by
  have hb := h.1
  exact cr.FE.keptE (cr.FE.keptE h.2 (Below.heap_setCell _ _ _ _ (show g ≠ w.heap.size + 1 by omega))) (Below.heap_setCell _ _ _ _ (show g ≠ w.heap.size + 1 by omega))
theorem fin_FB {w X : World} {g : Nat} {m : List Bi} {x0 x1 : Value} (h : PB w X g m) : FB (res2 X (w.heap.size + 1) x0 x1) g m m.length := by
  have hb := h.1
  exact cr.FB.keptB (cr.FB.keptB h.2 (Below.heap_setCell _ _ _ _ (show g ≠ w.heap.size + 1 by omega))) (Below.heap_setCell _ _ _ _ (show g ≠ w.heap.size + 1 by omega))
theorem PE.ne {w X : World} {g h : Nat} {m : List Ex} {l : List Bi} (h1 : PE w X g m) (h2 : PB w X h l) : g ≠ h := by
  rintro rfl
  obtain ⟨_, c, h3, _⟩ := h1
  obtain ⟨_, c', h4, _⟩ := h2
  rw [h3] at h4
  simp at h4
theorem ins_small {es : List Ex} {nn : ByteArray} {kd : Int} (h : ∀ e ∈ es, e.n.size ≤ 1048576) (hn : nn.size ≤ 1048576) : ∀ e ∈ insE es nn kd, e.n.size ≤ 1048576 := fun e he => by
  rcases insE_mem he with h1 | rfl
  · exact h e h1
  · exact hn

set_option maxRecDepth 100000 in
set_option maxHeartbeats 4000000 in
theorem impl_declare (es : List Ex) (bs : List Bi) (a0 b0 : Nat) (nn : ByteArray) (kd : Int) (w : World) (hel : es.length ≤ 1048576) (hbl : bs.length ≤ 1048576) (hes : ∀ e ∈ es, e.n.size ≤ 1048576) (hbs : ∀ b ∈ bs, b.x.size ≤ 1048576 ∧ b.k.size ≤ 1048576 ∧ b.q.size ≤ 1048576) (hnm : nn.size ≤ 1048576) (hE : RE w a0 es) (hB : RB w b0 bs) :
    Calls Try.prog 9 #[.agg #[.slice (some ⟨a0, 0, none⟩) es.length es.length, .slice (some ⟨b0, 0, none⟩) bs.length bs.length], .string nn, .int .i64 kd] w fun r w' => ∃ ga ca gb cb, r = .returned (.tuple #[.agg #[.slice (some ⟨ga, 0, none⟩) (ansD es bs nn kd).length ca, .slice (some ⟨gb, 0, none⟩) bs.length cb], .bool (retD es bs nn kd)]) ∧ w.heap.size ≤ ga ∧ w.heap.size ≤ gb ∧ ga ≠ gb ∧ FE w' ga (ansD es bs nn kd) (ansD es bs nn kd).length ∧ FB w' gb bs bs.length ∧ Below w.heap.size w w' := by
  have hr0 : R0 w es bs a0 b0 ((w.alloc (.cells #[.slice (some ⟨a0, 0, none⟩) es.length es.length, .slice (some ⟨b0, 0, none⟩) bs.length bs.length] 30)).alloc (.cells #[.slice none 0 0, .slice none 0 0] 30)) := ⟨first_below w es bs a0 b0 _ _, first_box w es bs a0 b0 _ _, first_res w es bs a0 b0 _ _⟩
  have hokc := ri.impl_routes es bs a0 es.length b0 bs.length _ hel hbl hes hbs (hE.below hr0.bel) (hB.below hr0.bel)
  have HE : Hid (RE w a0 es) := hE
  have HB : Hid (RB w b0 bs) := hB
  have HES : Hid (∀ e ∈ es, e.n.size ≤ 1048576) := hes
  have HBS : Hid (∀ b ∈ bs, b.x.size ≤ 1048576 ∧ b.k.size ≤ 1048576 ∧ b.q.size ≤ 1048576) := hbs
  obtain ⟨AN, hAN⟩ : ∃ AN, ansD es bs nn kd = AN := ⟨_, rfl⟩
  obtain ⟨rt, hrt⟩ : ∃ rt, retD es bs nn kd = rt := ⟨_, rfl⟩
  have HAN : Hid (ansD es bs nn kd = AN) := hAN
  have HRT : Hid (retD es bs nn kd = rt) := hrt
  simp only [hAN, hrt]
  obtain ⟨W, hW⟩ : ∃ W, (w.alloc (.cells #[.slice (some ⟨a0, 0, none⟩) es.length es.length, .slice (some ⟨b0, 0, none⟩) bs.length bs.length] 30)).alloc (.cells #[.slice none 0 0, .slice none 0 0] 30) = W := ⟨_, rfl⟩
  rw [hW] at hr0 hokc
  have HR0 : Hid (R0 w es bs a0 b0 W) := hr0
  have x0 : W.cell? ⟨w.heap.size, 0, none⟩ = some (.slice (some ⟨a0, 0, none⟩) es.length es.length) := bcell hr0.box rfl
  have x1 : W.cell? ⟨w.heap.size, 1, none⟩ = some (.slice (some ⟨b0, 0, none⟩) bs.length bs.length) := bcell hr0.box rfl
  clear hE hB hes hbs hAN hrt hr0
  go_enter Try.func9, Try.ntmps9
  go_wp2_with (go_at_call 26; fail)
  clear hW x0 x1
  refine hokc.mono ?_
  rintro e w1 ⟨⟨bo, rfl, hbo⟩, hb1⟩
  have HR1 : Hid (R0 w es bs a0 b0 w1) := HR0.out.on hb1
  have x0 : w1.cell? ⟨w.heap.size, 0, none⟩ = some (.slice (some ⟨a0, 0, none⟩) es.length es.length) := bcell HR1.out.box rfl
  have x1 : w1.cell? ⟨w.heap.size, 1, none⟩ = some (.slice (some ⟨b0, 0, none⟩) bs.length bs.length) := bcell HR1.out.box rfl
  have hcp := fun (X : World) (h : Below w.heap.size w X) => cr.copy_own es bs a0 b0 es.length bs.length X hel hbl HES.out HBS.out (HE.out.below h) (HB.out.below h)
  clear hokc hb1 HR0
  by_cases hok : OkR es bs
  case neg =>
    obtain rfl : bo = false := by
      cases bo with
      | false => rfl
      | true => exact absurd (hbo.1 rfl) hok
    have HA : Hid (es = AN) := (bad hok).1.symm.trans HAN.out
    have HR : Hid (false = rt) := (bad hok).2.symm.trans HRT.out
    have hc1 := hcp w1 HR1.out.bel
    clear hbo hok hcp
    go_wp2_with (go_at_call 27; fail)
    refine hc1.mono ?_
    rintro e w2 ⟨g1, h1, rfl, hg1, hh1, hne, fe, fb, hb2⟩
    have hsz := HR1.out.size
    have HR2 : Hid (R0 w es bs a0 b0 w2) := HR1.out.on hb2
    have PE2 : Hid (PE w w2 g1 es) := ⟨by omega, fe.f⟩
    have PB2 : Hid (PB w w2 h1 bs) := ⟨by omega, fb.f⟩
    clear hc1 fe fb hb2 x0 x1
    have z0 : w2.cell? ⟨w.heap.size + 1, 0, none⟩ = some (.slice none 0 0) := bcell HR2.out.res rfl
    have z1 : w2.cell? ⟨w.heap.size + 1, 1, none⟩ = some (.slice none 0 0) := bcell HR2.out.res rfl
    have z0f := bfree HR2.out.res 0
    have z1f := bfree HR2.out.res 1
    have hge2 := PE2.out.1
    have hgb2 := PB2.out.1
    go_wp2
    refine bodyPost_ret (v := .tuple #[.agg #[.slice (some ⟨g1, 0, none⟩) es.length es.length, .slice (some ⟨h1, 0, none⟩) bs.length bs.length], .bool false]) (by simp [results, Try.results9, go_sem, z0, z1]) rfl ⟨g1, es.length, h1, bs.length, by rw [← HA.out, HR.out], by omega, by omega, hne, ?_, ?_, ?_⟩
    · rw [← HA.out]; exact fin_FE PE2.out
    · exact fin_FB PB2.out
    · exact fin_below HR2.out.bel
  case pos =>
    obtain rfl : bo = true := hbo.2 hok
    have HOK : Hid (OkR es bs) := hok
    have hel4 := hok.el
    have hfn := ri.find_ex es a0 es.length nn w1 hel (HE.out.below HR1.out.bel) hok.eu
    clear hbo hok
    go_wp2_with (go_at_call 28; fail)
    refine hfn.mono ?_
    rintro e w2 ⟨⟨p, bt, rfl, hp, hbt⟩, hb2⟩
    have HR2 : Hid (R0 w es bs a0 b0 w2) := HR1.out.on hb2
    have HE2 : Hid (RE w2 a0 es) := HE.out.below HR2.out.bel
    clear hfn hb2 x0 x1 HR1
    have x0 : w2.cell? ⟨w.heap.size, 0, none⟩ = some (.slice (some ⟨a0, 0, none⟩) es.length es.length) := bcell HR2.out.box rfl
    have x1 : w2.cell? ⟨w.heap.size, 1, none⟩ = some (.slice (some ⟨b0, 0, none⟩) bs.length bs.length) := bcell HR2.out.box rfl
    have hp0 : p ≤ es.length := hp.1
    have HP : Hid (posE es nn = p) := posE_of hp
    cases bt with
    | true =>
      obtain ⟨a, ha, hz⟩ := (found HOK.out.eu hp).2 (hbt.1 rfl)
      obtain ⟨an, ak⟩ := a
      have hane : an = nn := cmp_zero.1 hz
      have HA : Hid (es = AN) := (there HOK.out ha hane).1.symm.trans HAN.out
      have HR : Hid (decide (ak = kd) = rt) := (there HOK.out ha hane).2.symm.trans HRT.out
      have hpl : p < es.length := (List.getElem?_eq_some_iff.1 ha).1
      have hpi : (p : Int) < (es.length : Int) := by omega
      obtain ⟨_, q1⟩ := HE2.out.2 p _ ha
      have q1 : w2.cell? ⟨a0, p * 2 + 1, none⟩ = some (.int .i64 ak) := q1
      have hc2 := hcp w2.drew HR2.out.bel.drew
      have HQ : Hid (∀ X, Below w2.heap.size w2 X → X.cell? ⟨a0, p * 2 + 1, none⟩ = some (.int .i64 ak)) := fun X h => ((HE2.out.below h).2 p _ ha).2
      have hsz := HR2.out.size
      have hal := HE.out.1
      have ha1 : ¬ a0 = w.heap.size + 1 := by omega
      have ha2 : ¬ w.heap.size + 1 = a0 := by omega
      clear hcp hbt hp ha hz hane hal
      go_wp2
      go_region_with (go_at_call 27; refine hc2.mono ?_; rintro e w3 ⟨g1, h1, rfl, hg1, hh1, hne, fe, fb, hb3⟩; have hb3' : Below w2.heap.size w2 w3 := (Below.refl _ _).drew.trans hb3; have HR3 : Hid (R0 w es bs a0 b0 w3) := HR2.out.on hb3'; have q2 := HQ.out w3 hb3'; have y0 : w3.cell? ⟨w.heap.size, 0, none⟩ = some (.slice (some ⟨a0, 0, none⟩) es.length es.length) := bcell HR3.out.box rfl; have PE2 : Hid (PE w w3 g1 es) := ⟨Nat.le_trans hsz hg1, fe.f⟩; have PB2 : Hid (PB w w3 h1 bs) := ⟨Nat.le_trans hsz hh1, fb.f⟩; have z0 : w3.cell? ⟨w.heap.size + 1, 0, none⟩ = some (.slice none 0 0) := bcell HR3.out.res rfl; have z1 : w3.cell? ⟨w.heap.size + 1, 1, none⟩ = some (.slice none 0 0) := bcell HR3.out.res rfl; have z0f := bfree HR3.out.res 0; have z1f := bfree HR3.out.res 1; clear hb3 hb3' fe fb)
      all_goals go_wp2
      all_goals
        have hge2 := PE2.out.1
        have hgb2 := PB2.out.1
        refine bodyPost_ret (v := .tuple #[.agg #[.slice (some ⟨g1, 0, none⟩) es.length es.length, .slice (some ⟨h1, 0, none⟩) bs.length bs.length], .bool (decide (ak = kd))]) (by simp [results, Try.results9, go_sem, z0, z1]; rfl) rfl ⟨g1, es.length, h1, bs.length, by rw [← HA.out, HR.out], by omega, by omega, hne, ?_, ?_, ?_⟩
      all_goals first | (rw [← HA.out]; exact fin_FE PE2.out) | exact fin_FB PB2.out | exact fin_below HR3.out.bel
    | false =>
      have HNO : Hid (¬ hasE es nn) := fun hh => by have := hbt.2 hh; cases this
      have hc2 := hcp w2 HR2.out.bel
      have hsz := HR2.out.size
      clear hbt hp
      go_wp2_with (go_at_call 27; fail)
      refine hc2.mono ?_
      rintro e w3 ⟨g1, h1, rfl, hg1, hh1, hne, fe, fb, hb3⟩
      have hs3 := hb3.size
      have HR3 := HR2.out.on hb3
      have RXa : RX w es bs a0 b0 es.length bs.length w3.heap.size (.slice (some ⟨g1, 0, none⟩) es.length es.length) (.slice (some ⟨h1, 0, none⟩) bs.length bs.length) (w3.alloc (.cells #[.slice (some ⟨g1, 0, none⟩) es.length es.length, .slice (some ⟨h1, 0, none⟩) bs.length bs.length] 30)) := ⟨HR3.bel.alloc (by omega) _, bold HR3.box _, bold HR3.res _, bnew w3 _ _, by omega⟩
      have OEa : OE w (w3.alloc (.cells #[.slice (some ⟨g1, 0, none⟩) es.length es.length, .slice (some ⟨h1, 0, none⟩) bs.length bs.length] 30)) g1 es.length es := (own_E fe (by omega) hel).on ((Below.refl _ _).alloc (Nat.le_refl _) _)
      have OBa : OB w (w3.alloc (.cells #[.slice (some ⟨g1, 0, none⟩) es.length es.length, .slice (some ⟨h1, 0, none⟩) bs.length bs.length] 30)) h1 bs.length bs := (own_B fb (by omega) hbl).on ((Below.refl _ _).alloc (Nat.le_refl _) _)
      obtain ⟨X, hX⟩ : ∃ X, w3.alloc (.cells #[.slice (some ⟨g1, 0, none⟩) es.length es.length, .slice (some ⟨h1, 0, none⟩) bs.length bs.length] 30) = X := ⟨_, rfl⟩
      rw [hX] at RXa OEa OBa
      obtain ⟨n8, hn8⟩ : ∃ n8, w3.heap.size = n8 := ⟨_, rfl⟩
      rw [hn8] at RXa
      have RX4 : Hid (RX w es bs a0 b0 es.length bs.length n8 (.slice (some ⟨g1, 0, none⟩) es.length es.length) (.slice (some ⟨h1, 0, none⟩) bs.length bs.length) X) := RXa
      have OE4 : Hid (OE w X g1 es.length es) := OEa
      have OB4 : Hid (OB w X h1 bs.length bs) := OBa
      have hcl := fun W => cl.clone nn W (by omega)
      have n0 : X.cell? ⟨n8, 0, none⟩ = some (.slice (some ⟨g1, 0, none⟩) es.length es.length) := bcell RXa.out rfl
      clear hc2 fe fb hb3 x0 x1 HR2 HR3 RXa OEa OBa HE2
      go_wp2
      clear hX
      go_region_with (first | (go_at_call 30; refine (hcl _).mono ?_; rintro e w4 ⟨rfl, hb4⟩; have hb4' : Below X.heap.size X w4 := (Below.refl _ _).drew.trans hb4; have hal4 : Below w4.heap.size w4 (w4.alloc (.cells #[.string nn, .int .i64 kd] 49)) := (Below.refl _ _).alloc (Nat.le_refl _) _; have RX5 := RX4.out.on hb4'; have n01 : w4.cell? ⟨n8, 0, none⟩ = some (.slice (some ⟨g1, 0, none⟩) es.length es.length) := bcell RX5.out rfl; have n8l := RX5.n8lt; have RX6 : Hid (RX w es bs a0 b0 es.length bs.length n8 (.slice (some ⟨g1, 0, none⟩) es.length es.length) (.slice (some ⟨h1, 0, none⟩) bs.length bs.length) (w4.alloc (.cells #[.string nn, .int .i64 kd] 49))) := RX5.on hal4; have OE6 : Hid (OE w (w4.alloc (.cells #[.string nn, .int .i64 kd] 49)) g1 es.length es) := (OE4.out.on hb4').on hal4; have OB6 : Hid (OB w (w4.alloc (.cells #[.string nn, .int .i64 kd] 49)) h1 bs.length bs) := (OB4.out.on hb4').on hal4; have hin := inse.insert_exchange es g1 p (w.heap.size + 2) nn kd w4.heap.size (w4.alloc (.cells #[.string nn, .int .i64 kd] 49)) hp0 hel RX6.out.size OE6.out (bnew w4 _ _); clear hb4 hb4' hal4 RX5) | (go_at_call 29; refine hin.mono ?_; rintro e w5 ⟨g6, c6, rfl, ho5, hg5⟩; have RX7 : Hid (RX w es bs a0 b0 es.length bs.length n8 (.slice (some ⟨g1, 0, none⟩) es.length es.length) (.slice (some ⟨h1, 0, none⟩) bs.length bs.length) w5) := RX6.out.grown (by decide) hg5 OE6.out; have OB7 : Hid (OB w w5 h1 bs.length bs) := OB6.out.grown hg5 OE6.out; have HO5 : Hid (w5.ownsRow (w.heap.size + 2) 49 2 (.slice (some ⟨g6, 0, none⟩) (es.length + 1) c6) (es.length + 1) ((es.take p ++ ⟨nn, kd⟩ :: es.drop p).flatMap cE)) := ho5; have n02 : w5.cell? ⟨n8, 0, none⟩ = some (.slice (some ⟨g1, 0, none⟩) es.length es.length) := bcell RX7.out.out rfl; have n0f := bfree RX7.out.out 0; clear hin ho5 hg5 n01 n8l RX6 OE6 OB6))
      all_goals
        have hset : es.take p ++ ⟨nn, kd⟩ :: es.drop p = insE es nn kd := by unfold insE; rw [HP.out]
        have ho8 := HO5.out
        rw [hset] at ho8
        have RX8 : Hid (RX w es bs a0 b0 es.length bs.length n8 (.slice (some ⟨g6, 0, none⟩) (es.length + 1) c6) (.slice (some ⟨h1, 0, none⟩) bs.length bs.length) (w5.setCell ⟨n8, 0, none⟩ (.slice (some ⟨g6, 0, none⟩) (es.length + 1) c6))) := RX7.out.put0 _
        have OB8 : Hid (OB w (w5.setCell ⟨n8, 0, none⟩ (.slice (some ⟨g6, 0, none⟩) (es.length + 1) c6)) h1 bs.length bs) := OB7.out.put RX7.out 0 _
        have ho9 := owns_set (o := 0) ho8 (owns_ne (by decide) ho8 RX7.out.out) (.slice (some ⟨g6, 0, none⟩) (es.length + 1) c6)
        obtain ⟨Y, hY⟩ : ∃ Y, w5.setCell ⟨n8, 0, none⟩ (.slice (some ⟨g6, 0, none⟩) (es.length + 1) c6) = Y := ⟨_, rfl⟩
        rw [hY] at RX8 OB8 ho9
        have OE8 : Hid (OE w Y g6 c6 (insE es nn kd)) := by unfold Hid OE; rw [insE_len]; exact ho9
        have hok8 := ri.impl_routes (insE es nn kd) bs g6 c6 h1 bs.length Y (by rw [insE_len]; omega) hbl (ins_small HES.out hnm) HBS.out OE8.out.re OB8.out.rb
        rw [insE_len] at hok8
        have o0 : Y.cell? ⟨n8, 0, none⟩ = some (.slice (some ⟨g6, 0, none⟩) (es.length + 1) c6) := bcell RX8.out.out rfl
        have o1 : Y.cell? ⟨n8, 1, none⟩ = some (.slice (some ⟨h1, 0, none⟩) bs.length bs.length) := bcell RX8.out.out rfl
        clear ho8 ho9 HO5 RX7 OB7 n02 n0f RX4 OE4 OB4 n0 hcl hset
        go_wp2_with (go_at_call 26; fail)
        clear hY o0 o1
        refine hok8.mono ?_
        rintro e w6 ⟨⟨bo, rfl, hbo⟩, hb6⟩
        have RX9 : Hid (RX w es bs a0 b0 es.length bs.length n8 (.slice (some ⟨g6, 0, none⟩) (es.length + 1) c6) (.slice (some ⟨h1, 0, none⟩) bs.length bs.length) w6) := RX8.out.on hb6
        have PE9 : Hid (PE w w6 g6 (insE es nn kd)) := OE.p (OE8.out.on hb6)
        have PB9 : Hid (PB w w6 h1 bs) := OB.p (OB8.out.on hb6)
        clear hok8 RX8 OE8 OB8 hb6
        by_cases hok2 : OkR (insE es nn kd) bs
        case pos =>
          obtain rfl : bo = true := hbo.2 hok2
          have HA : Hid (insE es nn kd = AN) := (put HOK.out HNO.out hok2).1.symm.trans HAN.out
          have HR : Hid (true = rt) := (put HOK.out HNO.out hok2).2.symm.trans HRT.out
          clear hbo hok2 hcp
          have n0 : w6.cell? ⟨n8, 0, none⟩ = some (.slice (some ⟨g6, 0, none⟩) (es.length + 1) c6) := bcell RX9.out.out rfl
          have n1 : w6.cell? ⟨n8, 1, none⟩ = some (.slice (some ⟨h1, 0, none⟩) bs.length bs.length) := bcell RX9.out.out rfl
          have z0 : w6.cell? ⟨w.heap.size + 1, 0, none⟩ = some (.slice none 0 0) := bcell RX9.out.res rfl
          have z1 : w6.cell? ⟨w.heap.size + 1, 1, none⟩ = some (.slice none 0 0) := bcell RX9.out.res rfl
          have z0f := bfree RX9.out.res 0
          have z1f := bfree RX9.out.res 1
          have hge2 := PE9.out.1
          have hgb2 := PB9.out.1
          go_wp2
          refine bodyPost_ret (v := .tuple #[.agg #[.slice (some ⟨g6, 0, none⟩) (es.length + 1) c6, .slice (some ⟨h1, 0, none⟩) bs.length bs.length], .bool true]) (by simp [results, Try.results9, go_sem, z0, z1]) rfl ⟨g6, c6, h1, bs.length, by rw [← HA.out, insE_len, HR.out], by omega, by omega, PE9.out.ne PB9.out, ?_, ?_, ?_⟩
          · rw [← HA.out]; exact fin_FE PE9.out
          · exact fin_FB PB9.out
          · exact fin_below RX9.out.bel
        case neg =>
          obtain rfl : bo = false := by
            cases bo with
            | false => rfl
            | true => exact absurd (hbo.1 rfl) hok2
          have HA : Hid (es = AN) := (over HOK.out HNO.out hok2).1.symm.trans HAN.out
          have HR : Hid (false = rt) := (over HOK.out HNO.out hok2).2.symm.trans HRT.out
          have hc6 := hcp w6 RX9.out.bel
          have x0 : w6.cell? ⟨w.heap.size, 0, none⟩ = some (.slice (some ⟨a0, 0, none⟩) es.length es.length) := bcell RX9.out.box rfl
          have x1 : w6.cell? ⟨w.heap.size, 1, none⟩ = some (.slice (some ⟨b0, 0, none⟩) bs.length bs.length) := bcell RX9.out.box rfl
          clear hbo hok2 hcp
          go_wp2_with (go_at_call 27; fail)
          refine hc6.mono ?_
          rintro e w7 ⟨g7, h7, rfl, hg7, hh7, hne7, fe7, fb7, hb7⟩
          have hsz6 := RX9.out.size
          have RX10 : Hid (RX w es bs a0 b0 es.length bs.length n8 (.slice (some ⟨g6, 0, none⟩) (es.length + 1) c6) (.slice (some ⟨h1, 0, none⟩) bs.length bs.length) w7) := RX9.out.on hb7
          have PE10 : Hid (PE w w7 g7 es) := ⟨by omega, fe7.f⟩
          have PB10 : Hid (PB w w7 h7 bs) := ⟨by omega, fb7.f⟩
          clear hc6 fe7 fb7 hb7 x0 x1
          have z0 : w7.cell? ⟨w.heap.size + 1, 0, none⟩ = some (.slice none 0 0) := bcell RX10.out.res rfl
          have z1 : w7.cell? ⟨w.heap.size + 1, 1, none⟩ = some (.slice none 0 0) := bcell RX10.out.res rfl
          have z0f := bfree RX10.out.res 0
          have z1f := bfree RX10.out.res 1
          have hge2 := PE10.out.1
          have hgb2 := PB10.out.1
          go_wp2
          refine bodyPost_ret (v := .tuple #[.agg #[.slice (some ⟨g7, 0, none⟩) es.length es.length, .slice (some ⟨h7, 0, none⟩) bs.length bs.length], .bool false]) (by simp [results, Try.results9, go_sem, z0, z1]) rfl ⟨g7, es.length, h7, bs.length, by rw [← HA.out, HR.out], by omega, by omega, hne7, ?_, ?_, ?_⟩
          · rw [← HA.out]; exact fin_FE PE10.out
          · exact fin_FB PB10.out
          · exact fin_below RX10.out.bel
end Go.Proofs.Ytgfifjiidmfojaa.dim
