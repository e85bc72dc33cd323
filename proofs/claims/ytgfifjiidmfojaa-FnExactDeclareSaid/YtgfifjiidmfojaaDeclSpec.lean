/- The specification's Declare: one exchange more, where that is right; new memory alone. -/
import Derived.Test.YtgfifjiidmfojaaRouteWay
import Derived.Test.YtgfifjiidmfojaaDeclPure
namespace Go.Proofs.Ytgfifjiidmfojaa.dsp
open Go.ChangeShapes Go.WideShapes Go.ChangeAt Go.RowKit Go.Proofs.Ytgfifjiidmfojaa.rc Go.Proofs.Ytgfifjiidmfojaa.rr Go.Proofs.Ytgfifjiidmfojaa.ra Go.Proofs.Ytgfifjiidmfojaa.rt Go.Proofs.Ytgfifjiidmfojaa.rs Go.Proofs.Ytgfifjiidmfojaa.ro Go.Proofs.Ytgfifjiidmfojaa.fl Go.Proofs.Ytgfifjiidmfojaa.su Go.Proofs.Ytgfifjiidmfojaa.dp Go.Proofs.Ytgfifjiidmfojaa.rwy
set_option linter.unusedVariables false

def ws (s n a0 n8 k off : Nat) (nn : ByteArray) (kd : Int) (g : ta.G) : List (Nat × Value) := [(53, .slice (some ⟨g.e0, 0, none⟩) 0 0), (54, .pointer (some ⟨s, 0, none⟩)), (55, .slice (some ⟨a0, 0, none⟩) n n), (56, .int .i64 k), (57, .slice (some ⟨a0, 0, none⟩) k n), (58, g.v1), (59, .string nn), (60, .int .i64 kd), (61, .agg #[.string nn, .int .i64 kd]), (62, .slice (some ⟨g.h, 0, none⟩) 1 1), (63, g.v2), (64, .pointer (some ⟨s, 0, none⟩)), (65, .slice (some ⟨a0, 0, none⟩) n n), (66, .int .i64 k), (67, .slice (some ⟨a0, off, none⟩) (n - k) (n - k)), (68, g.v3), (69, .pointer (some ⟨n8, 0, none⟩))]
def J0 : ta.J := ⟨0, 5, 9, 10, 15, 17⟩
theorem J0_up : J0.up := by unfold ta.J.up J0; decide
def off (k n : Nat) : Nat := if k = n then 0 else k * 2
theorem newsOff {W : World} {a0 k : Nat} {es : List Ex} (h : RE W a0 es) (hk : k ≤ es.length) : ∀ (j : Nat) (u : Value), ((es.drop k).flatMap cE)[j]? = some u → W.cell? ((⟨a0, off k es.length, none⟩ : Addr).add j) = some u := by
  unfold off
  split
  · rename_i h
    subst h
    intro j u hu
    rw [List.drop_eq_nil_of_le (Nat.le_refl _)] at hu
    simp at hu
  · exact news_drop cE_len (newsE h) k hk
theorem ins_flat {es : List Ex} {nn : ByteArray} {kd : Int} {k : Nat} (hp : posE es nn = k) : (es.take k).flatMap cE ++ [.string nn, .int .i64 kd] ++ (es.drop k).flatMap cE = (insE es nn kd).flatMap cE := by
  unfold insE
  rw [hp]
  simp [cE]

theorem form_pos {W : World} {B n s : Nat} {U : TypeId} {v : Value} {xs : List Value} (h : W.ownsRow B U s v n xs) (hn : 0 < n) : ∃ g cap, v = .slice (some ⟨g, 0, none⟩) n cap := by
  obtain ⟨_, ⟨_, h0⟩ | ⟨g, cap, cur, rfl, _⟩⟩ := h
  · omega
  · exact ⟨g, cap, rfl⟩
theorem ins_small {es : List Ex} {nn : ByteArray} {kd : Int} (h : ∀ e ∈ es, e.n.size ≤ 1048576) (hn : nn.size ≤ 1048576) : ∀ e ∈ insE es nn kd, e.n.size ≤ 1048576 := fun e he => by
  rcases insE_mem he with h1 | rfl
  · exact h e h1
  · exact hn

set_option maxRecDepth 100000 in
set_option maxHeartbeats 4000000 in
theorem spec_declare (es : List Ex) (bs : List Bi) (a0 b0 : Nat) (nn : ByteArray) (kd : Int) (w : World) (hel : es.length ≤ 1048576) (hbl : bs.length ≤ 1048576) (hes : ∀ e ∈ es, e.n.size ≤ 1048576) (hbs : ∀ b ∈ bs, b.x.size ≤ 1048576 ∧ b.k.size ≤ 1048576 ∧ b.q.size ≤ 1048576) (hnm : nn.size ≤ 1048576) (hE : RE w a0 es) (hB : RB w b0 bs) :
    Calls Try.prog 7 #[.agg #[.slice (some ⟨a0, 0, none⟩) es.length es.length, .slice (some ⟨b0, 0, none⟩) bs.length bs.length], .string nn, .int .i64 kd] w fun r w' => ∃ ea ba ce cb, r = .returned (.tuple #[.agg #[.slice ea (ansD es bs nn kd).length ce, .slice ba bs.length cb], .bool (retD es bs nn kd)]) ∧ SE w' w'.heap.size ea (ansD es bs nn kd) ∧ SB w' w'.heap.size ba bs ∧ Below w.heap.size w w' := by
  have hWb := first_below w es bs a0 b0 es.length bs.length
  have hW2 := first2 w es bs a0 b0 es.length bs.length
  have hcopy := sc.spec_copy es bs a0 b0 es.length bs.length _ hel hbl (hE.below hWb) (hB.below hWb)
  have HE : Hid (RE w a0 es) := hE
  have HB : Hid (RB w b0 bs) := hB
  have HES : Hid (∀ e ∈ es, e.n.size ≤ 1048576) := hes
  have HBS : Hid (∀ b ∈ bs, b.x.size ≤ 1048576 ∧ b.k.size ≤ 1048576 ∧ b.q.size ≤ 1048576) := hbs
  obtain ⟨AN, hAN⟩ : ∃ AN, ansD es bs nn kd = AN := ⟨_, rfl⟩
  obtain ⟨rt, hrt⟩ : ∃ rt, retD es bs nn kd = rt := ⟨_, rfl⟩
  have HAN : Hid (ansD es bs nn kd = AN) := hAN
  have HRT : Hid (retD es bs nn kd = rt) := hrt
  simp only [hAN, hrt]
  clear hE hB hes hbs hAN hrt hWb
  go_enter Try.func7, Try.ntmps7
  go_wp2_with (go_at_call 19; fail)
  refine hcopy.mono ?_
  rintro e w1 ⟨g1, c1, h1, c2, rfl, oe1, ob1, hb1⟩
  obtain ⟨hrx, hoe, hob⟩ := first_out w w1 es bs a0 b0 es.length bs.length g1 c1 h1 c2 hb1 (by rw [hW2]; omega) oe1 ob1
  obtain ⟨X, hX⟩ : ∃ X, w1.alloc (.cells #[.slice (some ⟨g1, 0, none⟩) es.length c1, .slice (some ⟨h1, 0, none⟩) bs.length c2] 30) = X := ⟨_, rfl⟩
  rw [hX] at hrx hoe hob
  have x0 : X.cell? ⟨w.heap.size, 0, none⟩ = some (.slice (some ⟨a0, 0, none⟩) es.length es.length) := bcell hrx.box rfl
  have x1 : X.cell? ⟨w.heap.size, 1, none⟩ = some (.slice (some ⟨b0, 0, none⟩) bs.length bs.length) := bcell hrx.box rfl
  have hokc := rk.spec_routes es bs a0 es.length b0 bs.length X hel hbl HES.out HBS.out (HE.out.below hrx.bel) (HB.out.below hrx.bel)
  have RX1 : Hid (RX w es bs a0 b0 es.length bs.length w1.heap.size (.slice (some ⟨g1, 0, none⟩) es.length c1) (.slice (some ⟨h1, 0, none⟩) bs.length c2) X) := hrx
  have OE1 : Hid (OE w X g1 c1 es) := hoe
  have OB1 : Hid (OB w X h1 c2 bs) := hob
  clear hcopy oe1 ob1 hb1 hrx hoe hob
  go_wp2_with (go_at_call 20; fail)
  clear hX x0 x1
  refine hokc.mono ?_
  rintro e w2 ⟨⟨bo, rfl, hbo⟩, hb2⟩
  have RX2 : Hid (RX w es bs a0 b0 es.length bs.length w1.heap.size (.slice (some ⟨g1, 0, none⟩) es.length c1) (.slice (some ⟨h1, 0, none⟩) bs.length c2) w2) := RX1.out.on hb2
  have OE2 : Hid (OE w w2 g1 c1 es) := OE1.out.on hb2
  have OB2 : Hid (OB w w2 h1 c2 bs) := OB1.out.on hb2
  clear hokc RX1 OE1 OB1 hb2
  by_cases hok : OkR es bs
  case neg =>
    obtain rfl : bo = false := by
      cases bo with
      | false => rfl
      | true => exact absurd (hbo.1 rfl) hok
    have HA : Hid (es = AN) := (bad hok).1.symm.trans HAN.out
    have HR : Hid (false = rt) := (bad hok).2.symm.trans HRT.out
    clear hbo hok
    have n0 : w2.cell? ⟨w1.heap.size, 0, none⟩ = some (.slice (some ⟨g1, 0, none⟩) es.length c1) := bcell RX2.out.out rfl
    have n1 : w2.cell? ⟨w1.heap.size, 1, none⟩ = some (.slice (some ⟨h1, 0, none⟩) bs.length c2) := bcell RX2.out.out rfl
    have z0 : w2.cell? ⟨w.heap.size + 1, 0, none⟩ = some (.slice none 0 0) := bcell RX2.out.res rfl
    have z1 : w2.cell? ⟨w.heap.size + 1, 1, none⟩ = some (.slice none 0 0) := bcell RX2.out.res rfl
    have z0f := bfree RX2.out.res 0
    have z1f := bfree RX2.out.res 1
    go_wp2
    refine bodyPost_ret (v := .tuple #[.agg #[.slice (some ⟨g1, 0, none⟩) es.length c1, .slice (some ⟨h1, 0, none⟩) bs.length c2], .bool false]) (by simp [results, Try.results7, go_sem, z0, z1]) rfl ⟨some ⟨g1, 0, none⟩, some ⟨h1, 0, none⟩, c1, c2, by rw [← HA.out, HR.out], ?_, ?_, ?_⟩
    · rw [← HA.out]; exact fin_E OE2.out
    · exact fin_B OB2.out
    · exact fin_below RX2.out.bel
  case pos =>
    obtain rfl : bo = true := hbo.2 hok
    have HOK : Hid (OkR es bs) := hok
    have hel4 := hok.el
    have hnmc := (nm.spec_name nn w2 hnm)
    clear hbo hok
    cases hg : nm.good nn with
    | false =>
      rw [hg] at hnmc
      have hx : exOk ⟨nn, kd⟩ = false := by unfold exOk; rw [hg]; rfl
      have HA : Hid (es = AN) := (wrong HOK.out hx).1.symm.trans HAN.out
      have HR : Hid (false = rt) := (wrong HOK.out hx).2.symm.trans HRT.out
      go_wp2_with (go_at_call 21; fail)
      refine hnmc.mono ?_
      rintro e w3 ⟨rfl, hw3⟩
      obtain rfl := hw3
      clear hnmc hx hg
      have n0 : w2.cell? ⟨w1.heap.size, 0, none⟩ = some (.slice (some ⟨g1, 0, none⟩) es.length c1) := bcell RX2.out.out rfl
      have n1 : w2.cell? ⟨w1.heap.size, 1, none⟩ = some (.slice (some ⟨h1, 0, none⟩) bs.length c2) := bcell RX2.out.out rfl
      have z0 : w2.cell? ⟨w.heap.size + 1, 0, none⟩ = some (.slice none 0 0) := bcell RX2.out.res rfl
      have z1 : w2.cell? ⟨w.heap.size + 1, 1, none⟩ = some (.slice none 0 0) := bcell RX2.out.res rfl
      have z0f := bfree RX2.out.res 0
      have z1f := bfree RX2.out.res 1
      go_wp2
      refine bodyPost_ret (v := .tuple #[.agg #[.slice (some ⟨g1, 0, none⟩) es.length c1, .slice (some ⟨h1, 0, none⟩) bs.length c2], .bool false]) (by simp [results, Try.results7, go_sem, z0, z1]) rfl ⟨some ⟨g1, 0, none⟩, some ⟨h1, 0, none⟩, c1, c2, by rw [← HA.out, HR.out], ?_, ?_, ?_⟩
      · rw [← HA.out]; exact fin_E OE2.out
      · exact fin_B OB2.out
      · exact fin_below RX2.out.bel
    | true =>
      rw [hg] at hnmc
      go_wp2_with (go_at_call 21; fail)
      refine hnmc.mono ?_
      rintro e w3 ⟨rfl, hw3⟩
      obtain rfl := hw3
      clear hnmc
      have hin := ky.within kd 0 2 w2
      by_cases hk : 0 ≤ kd ∧ kd ≤ 2
      case neg =>
        have hx : exOk ⟨nn, kd⟩ = false := by unfold exOk; simp only [hk, decide_false, Bool.and_false]
        have HA : Hid (es = AN) := (wrong HOK.out hx).1.symm.trans HAN.out
        have HR : Hid (false = rt) := (wrong HOK.out hx).2.symm.trans HRT.out
        rw [decide_eq_false hk] at hin
        go_wp2_with (go_at_call 22; fail)
        refine hin.mono ?_
        rintro e w3 ⟨rfl, hw3⟩
        obtain rfl := hw3
        clear hin hx hg hk
        have n0 : w2.cell? ⟨w1.heap.size, 0, none⟩ = some (.slice (some ⟨g1, 0, none⟩) es.length c1) := bcell RX2.out.out rfl
        have n1 : w2.cell? ⟨w1.heap.size, 1, none⟩ = some (.slice (some ⟨h1, 0, none⟩) bs.length c2) := bcell RX2.out.out rfl
        have z0 : w2.cell? ⟨w.heap.size + 1, 0, none⟩ = some (.slice none 0 0) := bcell RX2.out.res rfl
        have z1 : w2.cell? ⟨w.heap.size + 1, 1, none⟩ = some (.slice none 0 0) := bcell RX2.out.res rfl
        have z0f := bfree RX2.out.res 0
        have z1f := bfree RX2.out.res 1
        go_wp2
        refine bodyPost_ret (v := .tuple #[.agg #[.slice (some ⟨g1, 0, none⟩) es.length c1, .slice (some ⟨h1, 0, none⟩) bs.length c2], .bool false]) (by simp [results, Try.results7, go_sem, z0, z1]) rfl ⟨some ⟨g1, 0, none⟩, some ⟨h1, 0, none⟩, c1, c2, by rw [← HA.out, HR.out], ?_, ?_, ?_⟩
        · rw [← HA.out]; exact fin_E OE2.out
        · exact fin_B OB2.out
        · exact fin_below RX2.out.bel
      case pos =>
        rw [decide_eq_true hk] at hin
        go_wp2_with (go_at_call 22; fail)
        refine hin.mono ?_
        rintro e w3 ⟨rfl, hw3⟩
        obtain rfl := hw3
        clear hin hg hk
        have x0 : w2.cell? ⟨w.heap.size, 0, none⟩ = some (.slice (some ⟨a0, 0, none⟩) es.length es.length) := bcell RX2.out.box rfl
        have x1 : w2.cell? ⟨w.heap.size, 1, none⟩ = some (.slice (some ⟨b0, 0, none⟩) bs.length bs.length) := bcell RX2.out.box rfl
        have hkc := fun (W : World) (h : RE W a0 es) => rr.spec_kind es a0 es.length (some ⟨b0, 0, none⟩) bs.length bs.length nn W hel h
        have hk3 := hkc w2 (HE.out.below RX2.out.bel)
        by_cases hkk : 0 ≤ kindOf es nn
        case pos =>
          have HA : Hid (es = AN) := (dp.kind_there HOK.out hkk).1.symm.trans HAN.out
          have HR : Hid (decide (kindOf es nn = kd) = rt) := (dp.kind_there HOK.out hkk).2.symm.trans HRT.out
          obtain ⟨kk, hkke⟩ : ∃ kk, kindOf es nn = kk := ⟨_, rfl⟩
          rw [hkke] at hk3 hkk HR
          simp only [hkke] at hkc
          clear hkke
          go_wp2_with (go_at_call 23; fail)
          refine hk3.mono ?_
          rintro e w3 ⟨rfl, hb3⟩
          have RX3 : Hid (RX w es bs a0 b0 es.length bs.length w1.heap.size (.slice (some ⟨g1, 0, none⟩) es.length c1) (.slice (some ⟨h1, 0, none⟩) bs.length c2) w3) := RX2.out.on hb3
          have OE3 : Hid (OE w w3 g1 c1 es) := OE2.out.on hb3
          have OB3 : Hid (OB w w3 h1 c2 bs) := OB2.out.on hb3
          have hk5 := hkc w3.drew (HE.out.below RX3.out.bel.drew)
          have y0 : w3.cell? ⟨w.heap.size, 0, none⟩ = some (.slice (some ⟨a0, 0, none⟩) es.length es.length) := bcell RX3.out.box rfl
          have y1 : w3.cell? ⟨w.heap.size, 1, none⟩ = some (.slice (some ⟨b0, 0, none⟩) bs.length bs.length) := bcell RX3.out.box rfl
          have m0 : w3.cell? ⟨w1.heap.size, 0, none⟩ = some (.slice (some ⟨g1, 0, none⟩) es.length c1) := bcell RX3.out.out rfl
          have m1 : w3.cell? ⟨w1.heap.size, 1, none⟩ = some (.slice (some ⟨h1, 0, none⟩) bs.length c2) := bcell RX3.out.out rfl
          clear hk3 RX2 OE2 OB2 hb3 x0 x1 hkc
          go_wp2
          go_region_with (go_at_call 23; refine hk5.mono ?_; rintro e w4 ⟨rfl, hb4⟩; have RX4 : Hid (RX w es bs a0 b0 es.length bs.length w1.heap.size (.slice (some ⟨g1, 0, none⟩) es.length c1) (.slice (some ⟨h1, 0, none⟩) bs.length c2) w4) := RX3.out.on ((Below.refl _ _).drew.trans hb4); have OE4 : Hid (OE w w4 g1 c1 es) := OE3.out.on ((Below.refl _ _).drew.trans hb4); have OB4 : Hid (OB w w4 h1 c2 bs) := OB3.out.on ((Below.refl _ _).drew.trans hb4); have n0 : w4.cell? ⟨w1.heap.size, 0, none⟩ = some (.slice (some ⟨g1, 0, none⟩) es.length c1) := bcell RX4.out.out rfl; have n1 : w4.cell? ⟨w1.heap.size, 1, none⟩ = some (.slice (some ⟨h1, 0, none⟩) bs.length c2) := bcell RX4.out.out rfl; have z0 : w4.cell? ⟨w.heap.size + 1, 0, none⟩ = some (.slice none 0 0) := bcell RX4.out.res rfl; have z1 : w4.cell? ⟨w.heap.size + 1, 1, none⟩ = some (.slice none 0 0) := bcell RX4.out.res rfl; have z0f := bfree RX4.out.res 0; have z1f := bfree RX4.out.res 1; clear hb4)
          all_goals go_wp2
          all_goals refine bodyPost_ret (v := .tuple #[.agg #[.slice (some ⟨g1, 0, none⟩) es.length c1, .slice (some ⟨h1, 0, none⟩) bs.length c2], .bool (decide (kk = kd))]) (by simp [results, Try.results7, go_sem, z0, z1]; rfl) rfl ⟨some ⟨g1, 0, none⟩, some ⟨h1, 0, none⟩, c1, c2, by rw [← HA.out, HR.out], ?_, ?_, ?_⟩
          all_goals first | (rw [← HA.out]; exact fin_E OE4.out) | exact fin_B OB4.out | exact fin_below RX4.out.bel
        case neg =>
          have hno := kind_not HOK.out hkk
          go_wp2_with (go_at_call 23; fail)
          refine hk3.mono ?_
          rintro e w3 ⟨rfl, hb3⟩
          have RX3 : Hid (RX w es bs a0 b0 es.length bs.length w1.heap.size (.slice (some ⟨g1, 0, none⟩) es.length c1) (.slice (some ⟨h1, 0, none⟩) bs.length c2) w3) := RX2.out.on hb3
          have OE3 : Hid (OE w w3 g1 c1 es) := OE2.out.on hb3
          have OB3 : Hid (OB w w3 h1 c2 bs) := OB2.out.on hb3
          have HE3 : Hid (RE w3 a0 es) := HE.out.below RX3.out.bel
          have y0 : w3.cell? ⟨w.heap.size, 0, none⟩ = some (.slice (some ⟨a0, 0, none⟩) es.length es.length) := bcell RX3.out.box rfl
          clear hk3 RX2 OE2 OB2 hb3 x0 x1 hkc
          have HNO : Hid (¬ hasE es nn) := hno
          obtain ⟨i0, hi, hz0, hz1, hz2⟩ := su.infoE
          clear hno
          go_wp2
          clear hkk
          go_loopw [9] (fun v wr => ∃ k : Nat, k ≤ es.length ∧ v = .int .i64 k ∧ Hid (∀ (i : Nat) a, i < k → es[i]? = some a → lt a.n nn = true) ∧ wr = w3) (fun v _ => es.length - (intOf v).toNat)
          case atStart => exact ⟨0, Nat.zero_le _, rfl, fun i a h => by omega, rfl⟩
          case round =>
            obtain ⟨k, hk4, rfl, hn, hwr⟩ := hrel
            obtain rfl := hwr.symm
            by_cases hgo : ∃ a, es[k]? = some a ∧ lt a.n nn = true
            case pos =>
              obtain ⟨⟨an, ak⟩, HG, hq⟩ := hgo
              have hkl : k < es.length := (List.getElem?_eq_some_iff.1 HG).1
              obtain ⟨q0, q1⟩ := HE3.out.2 k _ HG
              have hn2 : Hid (∀ (i : Nat) a, i < k + 1 → es[i]? = some a → lt a.n nn = true) := fun i a hi ha => by
                by_cases ei : i = k
                · subst ei; rw [HG] at ha; cases ha; exact hq
                · exact hn.out i a (by omega) ha
              have i2 : (k : Int) < (es.length : Int) := by omega
              have hq' : Op.bytesLess an.toList nn.toList = true := hq
              clear hq HG
              go_wp2
              go_roundw
              case rel => exact ⟨k + 1, by omega, by go_num, hn2, by first | rfl | trivial⟩
              case measure => simp [intOf]; omega
            case neg =>
              have HP : Hid (posE es nn = k) := posE_eq es nn k hk4 hn.out (fun a ha => by
                cases hh : lt a.n nn with
                | false => rfl
                | true => exact absurd ⟨a, ha, hh⟩ hgo)
              have hend : (¬ k < es.length) ∨ ∃ an ak, es[k]? = some ⟨an, ak⟩ ∧ Op.bytesLess an.toList nn.toList = false := by
                by_cases hkl : k < es.length
                · right
                  refine ⟨es[k].n, es[k].k, List.getElem?_eq_getElem hkl, ?_⟩
                  cases hh : Op.bytesLess es[k].n.toList nn.toList with
                  | false => rfl
                  | true => exact absurd ⟨es[k], List.getElem?_eq_getElem hkl, hh⟩ hgo
                · exact .inl hkl
              clear hgo hn
              have hbeh : ∀ (k : Nat), k ≤ es.length → posE es nn = k → True := fun _ _ _ => trivial
              clear hbeh
              rcases hend with hkl | ⟨an, ak, HG, hq⟩
              · have f0 : decide ((k : Int) < (es.length : Int)) = false := by simp; omega
                go_wp2
                refine dk.region_gsets (ws w.heap.size es.length a0 w1.heap.size k (off k es.length) nn kd) [53, 54, 55, 56, 57, 58, 59, 60, 61, 62, 63, 64, 65, 66, 67, 68, 69] (ta.C ⟨w3, 49, 2, (es.take k).flatMap cE, [.string nn, .int .i64 kd], (es.drop k).flatMap cE, k, es.length - k, w1.heap.size, 0⟩ J0) ⟨0, .slice none 0 0, 0, .slice none 0 0, .slice none 0 0⟩ (by kernel_rfl) (by kernel_rfl) (fun _ => rfl) (by kernel_rfl) (ta.start _ _ _) ?each ?fin
                case each =>
                  refine ⟨ta.st0 (x := J0) (d := 53) (idx := 0) J0_up (by simp) rfl (by simp) (fun g => rfl) (fun g => rfl) (fun g e => rfl) (fun s W => by simp [execOp, go_sem]), ?_⟩
                  refine ⟨ta.quiet (by decide) (by simp) (.pointer (some ⟨w.heap.size, 0, none⟩)) (by rintro s _ ⟨⟩; exact dk.sets_on _ (by simp) _ rfl) (fun s W h => by simp [execOp, go_sem, Act.eval, dk.sets_get, ws, List.lookup]), ?_⟩
                  refine ⟨ta.quiet (by decide) (by simp) (.slice (some ⟨a0, 0, none⟩) es.length es.length) (by rintro s _ ⟨⟩; exact dk.sets_on _ (by simp) _ rfl) (fun s W h => by have c : W.cell? ⟨w.heap.size, 0, none⟩ = some (.slice (some ⟨a0, 0, none⟩) es.length es.length) := bcell (h _ _ RX3.out.box (by have := RX3.out.h8; show w.heap.size ≠ w1.heap.size; omega)) rfl; simp [execOp, go_sem, Act.eval, dk.sets_get, ws, List.lookup, c]), ?_⟩
                  refine ⟨ta.quiet (by decide) (by simp) (.int .i64 k) (by rintro s _ ⟨⟩; exact dk.sets_on _ (by simp) _ rfl) (fun s W h => by simp [execOp, go_sem, Act.eval, dk.sets_get, ws, List.lookup]), ?_⟩
                  refine ⟨ta.quiet (by decide) (by simp) (.slice (some ⟨a0, 0, none⟩) k es.length) (by rintro s _ ⟨⟩; exact dk.sets_on _ (by simp) _ rfl) (fun s W h => by simp [execOp, go_sem, Act.eval, dk.sets_get, ws, List.lookup, hk4]), ?_⟩
                  refine ⟨ta.st1 (x := J0) (d := 58) (s1 := 53) (s2 := 57) (idx := 5) (c := es.length) (a := ⟨a0, 0, none⟩) J0_up Try.underlying27 hi hz0 hz1 hz2 rfl (by show 0 < 2; decide) rfl rfl ⟨by simp, by simp, by simp⟩ (fun g => rfl) (fun g => rfl) (fun g => rfl) (fun g => rfl) (fun g v => rfl) (by show ((es.take k).flatMap cE).length = k * 2; rw [flat_len cE_len, List.length_take]; congr 1; omega) (fun W hb => news_take (newsE (HE3.out.below hb)) k) (oneE _) (by show k ≤ 1048576; omega) (by show (0 + k) * 24 ≤ 140737488355328; omega) ⟨⟨0, .data⟩, by simp, rfl, rfl⟩, ?_⟩
                  refine ⟨ta.quiet (by decide) (by simp) (.string nn) (by rintro s _ ⟨⟩; exact dk.sets_on _ (by simp) _ rfl) (fun s W h => by simp [execOp, go_sem, Act.eval, dk.sets_get, ws, List.lookup]), ?_⟩
                  refine ⟨ta.quiet (by decide) (by simp) (.int .i64 kd) (by rintro s _ ⟨⟩; exact dk.sets_on _ (by simp) _ rfl) (fun s W h => by simp [execOp, go_sem, Act.eval, dk.sets_get, ws, List.lookup]), ?_⟩
                  refine ⟨ta.quiet (by decide) (by simp) (.agg #[.string nn, .int .i64 kd]) (by rintro s _ ⟨⟩; exact dk.sets_on _ (by simp) _ rfl) (fun s W h => by simp [execOp, go_sem, Act.eval, dk.sets_get, ws, List.lookup]), ?_⟩
                  refine ⟨ta.st2 (x := J0) (d := 62) (idx := 9) J0_up (by simp) rfl (by simp) (fun g => rfl) (fun g => rfl) (fun g e => rfl) (fun s W => by simp [execOp, go_sem, Act.eval, dk.sets_get, ws, List.lookup]), ?_⟩
                  refine ⟨ta.st3 (x := J0) (d := 63) (s1 := 58) (s2 := 62) (idx := 10) J0_up Try.underlying27 hi hz0 hz1 hz2 rfl (by show 0 < 2; decide) rfl rfl ⟨by simp, by simp, by simp⟩ (fun g => rfl) (fun g => rfl) (fun g => rfl) (fun g => rfl) (fun g v => rfl) rfl (by intro u hu; simp at hu; rcases hu with rfl | rfl <;> rfl) (by show k ≤ 1048576; omega) (by show (k + 1) * 24 ≤ 140737488355328; omega) ⟨⟨5, .data⟩, by simp, rfl, rfl⟩ ⟨⟨9, .data⟩, by simp, rfl, rfl⟩, ?_⟩
                  refine ⟨ta.quiet (by decide) (by simp) (.pointer (some ⟨w.heap.size, 0, none⟩)) (by rintro s _ ⟨⟩; exact dk.sets_on _ (by simp) _ rfl) (fun s W h => by simp [execOp, go_sem, Act.eval, dk.sets_get, ws, List.lookup]), ?_⟩
                  refine ⟨ta.quiet (by decide) (by simp) (.slice (some ⟨a0, 0, none⟩) es.length es.length) (by rintro s _ ⟨⟩; exact dk.sets_on _ (by simp) _ rfl) (fun s W h => by have c : W.cell? ⟨w.heap.size, 0, none⟩ = some (.slice (some ⟨a0, 0, none⟩) es.length es.length) := bcell (h _ _ RX3.out.box (by have := RX3.out.h8; show w.heap.size ≠ w1.heap.size; omega)) rfl; simp [execOp, go_sem, Act.eval, dk.sets_get, ws, List.lookup, c]), ?_⟩
                  refine ⟨ta.quiet (by decide) (by simp) (.int .i64 k) (by rintro s _ ⟨⟩; exact dk.sets_on _ (by simp) _ rfl) (fun s W h => by simp [execOp, go_sem, Act.eval, dk.sets_get, ws, List.lookup]), ?_⟩
                  refine ⟨ta.quiet (by decide) (by simp) (.slice (some ⟨a0, off k es.length, none⟩) (es.length - k) (es.length - k)) (by rintro s _ ⟨⟩; exact dk.sets_on _ (by simp) _ rfl) (fun s W h => match Nat.lt_or_ge k es.length with | .inl hlt => (by have hne : ¬ k = es.length := Nat.ne_of_lt hlt; have hne2 : ¬ es.length = k := (fun e => hne e.symm); simp [execOp, go_sem, Act.eval, dk.sets_get, ws, List.lookup, off, hk4, hne, hne2]) | .inr hge => (by obtain rfl : k = es.length := (by omega); simp [execOp, go_sem, Act.eval, dk.sets_get, ws, List.lookup, off])), ?_⟩
                  refine ⟨ta.st4 (x := J0) (d := 68) (s1 := 63) (s2 := 67) (idx := 15) (c := es.length - k) (a := ⟨a0, off k es.length, none⟩) J0_up Try.underlying27 hi hz0 hz1 hz2 rfl (by show 0 < 2; decide) rfl rfl ⟨by simp, by simp, by simp⟩ (fun g => rfl) (fun g => rfl) (fun g => rfl) (fun g => rfl) (fun g v => rfl) (by show ((es.drop k).flatMap cE).length = (es.length - k) * 2; rw [flat_len cE_len, List.length_drop]) (fun W hb => newsOff (HE3.out.below hb) (by omega)) (oneE _) (by show k ≤ 1048576 ∧ es.length - k ≤ 1048576; omega) (by show (k + 1 + (es.length - k)) * 24 ≤ 140737488355328; omega) ⟨⟨10, .data⟩, by simp, rfl, rfl⟩, ?_⟩
                  refine ⟨ta.quiet (by decide) (by simp) (.pointer (some ⟨w1.heap.size, 0, none⟩)) (by rintro s _ ⟨⟩; exact dk.sets_on _ (by simp) _ rfl) (fun s W h => by simp [execOp, go_sem, Act.eval, dk.sets_get, ws, List.lookup]), ?_⟩
                  exact ⟨ta.st5 (x := J0) J0_up (by simp) rfl RX3.out.n8lt (fun s W h hv => by obtain ⟨av, nv, cv, hv⟩ := hv; have hu := h _ _ RX3.out.out; have c : W.cell? ⟨w1.heap.size, 0, none⟩ = some (.slice (some ⟨g1, 0, none⟩) es.length c1) := bcell hu rfl; have f := bfree hu 0; rw [hv]; simp [execOp, go_sem, Act.eval, dk.sets_get, ws, List.lookup, c, f, hv]) ⟨⟨15, .data⟩, by simp, rfl, rfl⟩, trivial⟩
                case fin =>
                  intro g L W hL hC
                  obtain ⟨V, hV, hWV, hown⟩ := ta.done hC J0_up (N := 18) (by decide) hL
                  replace hown : W.ownsRow w3.heap.size 49 2 g.v3 (k + 1 + (es.length - k)) ((es.take k).flatMap cE ++ [.string nn, .int .i64 kd] ++ (es.drop k).flatMap cE) := hown
                  have hlen : k + 1 + (es.length - k) = (insE es nn kd).length := by rw [insE_len]; omega
                  rw [ins_flat HP.out, hlen] at hown
                  obtain ⟨g5, c5, hv3⟩ := form_pos hown (by rw [insE_len]; omega)
                  rw [hv3] at hown hWV
                  replace hV : Below w3.heap.size w3 V := hV
                  replace hWV : W = V.setCell ⟨w1.heap.size, 0, none⟩ (.slice (some ⟨g5, 0, none⟩) (insE es nn kd).length c5) := hWV
                  have RX5 : Hid (RX w es bs a0 b0 es.length bs.length w1.heap.size (.slice (some ⟨g5, 0, none⟩) (insE es nn kd).length c5) (.slice (some ⟨h1, 0, none⟩) bs.length c2) W) := by rw [hWV]; exact (RX3.out.on hV).put0 _
                  have OB5 : Hid (OB w W h1 c2 bs) := by rw [hWV]; exact (OB3.out.on hV).put (RX3.out.on hV) 0 _
                  have hsz3 := RX3.out.size
                  have OE5 : Hid (OE w W g5 c5 (insE es nn kd)) := own_low hown hsz3
                  have hok5 := rk.spec_routes (insE es nn kd) bs g5 c5 h1 c2 W (by rw [insE_len]; omega) hbl (ins_small HES.out hnm) HBS.out OE5.out.re OB5.out.rb
                  have o0 : W.cell? ⟨w1.heap.size, 0, none⟩ = some (.slice (some ⟨g5, 0, none⟩) (insE es nn kd).length c5) := bcell RX5.out.out rfl
                  have o1 : W.cell? ⟨w1.heap.size, 1, none⟩ = some (.slice (some ⟨h1, 0, none⟩) bs.length c2) := bcell RX5.out.out rfl
                  obtain ⟨n5, hn5⟩ : ∃ n5, (insE es nn kd).length = n5 := ⟨_, rfl⟩
                  have HN5 : Hid ((insE es nn kd).length = n5) := hn5
                  rw [hn5] at hok5 o0 RX5
                  rw [hn5] at hv3
                  simp only [dk.sets, ws, hv3]
                  clear hC hL hV hWV hown hlen hv3 hn5 RX3 OE3 OB3 HE3 y0
                  go_wp2_with (go_at_call 20; fail)
                  clear o0 o1
                  refine hok5.mono ?_
                  rintro e w6 ⟨⟨bo, rfl, hbo⟩, hb6⟩
                  have RX6 : Hid (RX w es bs a0 b0 es.length bs.length w1.heap.size (.slice (some ⟨g5, 0, none⟩) n5 c5) (.slice (some ⟨h1, 0, none⟩) bs.length c2) w6) := RX5.out.on hb6
                  have OE6 : Hid (OE w w6 g5 c5 (insE es nn kd)) := OE5.out.on hb6
                  have OB6 : Hid (OB w w6 h1 c2 bs) := OB5.out.on hb6
                  clear hok5 RX5 OE5 OB5 hb6
                  by_cases hok2 : OkR (insE es nn kd) bs
                  case pos =>
                    obtain rfl : bo = true := hbo.2 hok2
                    have HA : Hid (insE es nn kd = AN) := (put HOK.out HNO.out hok2).1.symm.trans HAN.out
                    have HR : Hid (true = rt) := (put HOK.out HNO.out hok2).2.symm.trans HRT.out
                    clear hbo hok2
                    have n0 : w6.cell? ⟨w1.heap.size, 0, none⟩ = some (.slice (some ⟨g5, 0, none⟩) n5 c5) := bcell RX6.out.out rfl
                    have n1 : w6.cell? ⟨w1.heap.size, 1, none⟩ = some (.slice (some ⟨h1, 0, none⟩) bs.length c2) := bcell RX6.out.out rfl
                    have z0 : w6.cell? ⟨w.heap.size + 1, 0, none⟩ = some (.slice none 0 0) := bcell RX6.out.res rfl
                    have z1 : w6.cell? ⟨w.heap.size + 1, 1, none⟩ = some (.slice none 0 0) := bcell RX6.out.res rfl
                    have z0f := bfree RX6.out.res 0
                    have z1f := bfree RX6.out.res 1
                    go_wp2
                    refine bodyPost_ret (v := .tuple #[.agg #[.slice (some ⟨g5, 0, none⟩) n5 c5, .slice (some ⟨h1, 0, none⟩) bs.length c2], .bool true]) (by simp [results, Try.results7, go_sem, z0, z1]) rfl ⟨some ⟨g5, 0, none⟩, some ⟨h1, 0, none⟩, c5, c2, by rw [← HA.out, HN5.out, HR.out], ?_, ?_, ?_⟩
                    · rw [← HA.out]; exact fin_E OE6.out
                    · exact fin_B OB6.out
                    · exact fin_below RX6.out.bel
                  case neg =>
                    obtain rfl : bo = false := by
                      cases bo with
                      | false => rfl
                      | true => exact absurd (hbo.1 rfl) hok2
                    have HA : Hid (es = AN) := (over HOK.out HNO.out hok2).1.symm.trans HAN.out
                    have HR : Hid (false = rt) := (over HOK.out HNO.out hok2).2.symm.trans HRT.out
                    have hc6 := sc.spec_copy es bs a0 b0 es.length bs.length w6 hel hbl (HE.out.below RX6.out.bel) (HB.out.below RX6.out.bel)
                    have x0 : w6.cell? ⟨w.heap.size, 0, none⟩ = some (.slice (some ⟨a0, 0, none⟩) es.length es.length) := bcell RX6.out.box rfl
                    have x1 : w6.cell? ⟨w.heap.size, 1, none⟩ = some (.slice (some ⟨b0, 0, none⟩) bs.length bs.length) := bcell RX6.out.box rfl
                    clear hbo hok2
                    go_wp2_with (go_at_call 19; fail)
                    refine hc6.mono ?_
                    rintro e w7 ⟨g7, c7, h7, d7, rfl, oe7, ob7, hb7⟩
                    have hsz6 := RX6.out.size
                    have RX7 : Hid (RX w es bs a0 b0 es.length bs.length w1.heap.size (.slice (some ⟨g5, 0, none⟩) n5 c5) (.slice (some ⟨h1, 0, none⟩) bs.length c2) w7) := RX6.out.on hb7
                    have OE7 : Hid (OE w w7 g7 c7 es) := own_low oe7 (by omega)
                    have OB7 : Hid (OB w w7 h7 d7 bs) := own_low ob7 (by omega)
                    clear hc6 oe7 ob7 hb7 x0 x1
                    have z0 : w7.cell? ⟨w.heap.size + 1, 0, none⟩ = some (.slice none 0 0) := bcell RX7.out.res rfl
                    have z1 : w7.cell? ⟨w.heap.size + 1, 1, none⟩ = some (.slice none 0 0) := bcell RX7.out.res rfl
                    have z0f := bfree RX7.out.res 0
                    have z1f := bfree RX7.out.res 1
                    go_wp2
                    refine bodyPost_ret (v := .tuple #[.agg #[.slice (some ⟨g7, 0, none⟩) es.length c7, .slice (some ⟨h7, 0, none⟩) bs.length d7], .bool false]) (by simp [results, Try.results7, go_sem, z0, z1]) rfl ⟨some ⟨g7, 0, none⟩, some ⟨h7, 0, none⟩, c7, d7, by rw [← HA.out, HR.out], ?_, ?_, ?_⟩
                    · rw [← HA.out]; exact fin_E OE7.out
                    · exact fin_B OB7.out
                    · exact fin_below RX7.out.bel
              · have hkl : k < es.length := (List.getElem?_eq_some_iff.1 HG).1
                obtain ⟨q0, q1⟩ := HE3.out.2 k _ HG
                have i2 : (k : Int) < (es.length : Int) := by omega
                clear HG
                go_wp2
                clear q0 q1 i2 hq
                refine dk.region_gsets (ws w.heap.size es.length a0 w1.heap.size k (off k es.length) nn kd) [53, 54, 55, 56, 57, 58, 59, 60, 61, 62, 63, 64, 65, 66, 67, 68, 69] (ta.C ⟨w3, 49, 2, (es.take k).flatMap cE, [.string nn, .int .i64 kd], (es.drop k).flatMap cE, k, es.length - k, w1.heap.size, 0⟩ J0) ⟨0, .slice none 0 0, 0, .slice none 0 0, .slice none 0 0⟩ (by kernel_rfl) (by kernel_rfl) (fun _ => rfl) (by kernel_rfl) (ta.start _ _ _) ?each ?fin
                case each =>
                  refine ⟨ta.st0 (x := J0) (d := 53) (idx := 0) J0_up (by simp) rfl (by simp) (fun g => rfl) (fun g => rfl) (fun g e => rfl) (fun s W => by simp [execOp, go_sem]), ?_⟩
                  refine ⟨ta.quiet (by decide) (by simp) (.pointer (some ⟨w.heap.size, 0, none⟩)) (by rintro s _ ⟨⟩; exact dk.sets_on _ (by simp) _ rfl) (fun s W h => by simp [execOp, go_sem, Act.eval, dk.sets_get, ws, List.lookup]), ?_⟩
                  refine ⟨ta.quiet (by decide) (by simp) (.slice (some ⟨a0, 0, none⟩) es.length es.length) (by rintro s _ ⟨⟩; exact dk.sets_on _ (by simp) _ rfl) (fun s W h => by have c : W.cell? ⟨w.heap.size, 0, none⟩ = some (.slice (some ⟨a0, 0, none⟩) es.length es.length) := bcell (h _ _ RX3.out.box (by have := RX3.out.h8; show w.heap.size ≠ w1.heap.size; omega)) rfl; simp [execOp, go_sem, Act.eval, dk.sets_get, ws, List.lookup, c]), ?_⟩
                  refine ⟨ta.quiet (by decide) (by simp) (.int .i64 k) (by rintro s _ ⟨⟩; exact dk.sets_on _ (by simp) _ rfl) (fun s W h => by simp [execOp, go_sem, Act.eval, dk.sets_get, ws, List.lookup]), ?_⟩
                  refine ⟨ta.quiet (by decide) (by simp) (.slice (some ⟨a0, 0, none⟩) k es.length) (by rintro s _ ⟨⟩; exact dk.sets_on _ (by simp) _ rfl) (fun s W h => by simp [execOp, go_sem, Act.eval, dk.sets_get, ws, List.lookup, hk4]), ?_⟩
                  refine ⟨ta.st1 (x := J0) (d := 58) (s1 := 53) (s2 := 57) (idx := 5) (c := es.length) (a := ⟨a0, 0, none⟩) J0_up Try.underlying27 hi hz0 hz1 hz2 rfl (by show 0 < 2; decide) rfl rfl ⟨by simp, by simp, by simp⟩ (fun g => rfl) (fun g => rfl) (fun g => rfl) (fun g => rfl) (fun g v => rfl) (by show ((es.take k).flatMap cE).length = k * 2; rw [flat_len cE_len, List.length_take]; congr 1; omega) (fun W hb => news_take (newsE (HE3.out.below hb)) k) (oneE _) (by show k ≤ 1048576; omega) (by show (0 + k) * 24 ≤ 140737488355328; omega) ⟨⟨0, .data⟩, by simp, rfl, rfl⟩, ?_⟩
                  refine ⟨ta.quiet (by decide) (by simp) (.string nn) (by rintro s _ ⟨⟩; exact dk.sets_on _ (by simp) _ rfl) (fun s W h => by simp [execOp, go_sem, Act.eval, dk.sets_get, ws, List.lookup]), ?_⟩
                  refine ⟨ta.quiet (by decide) (by simp) (.int .i64 kd) (by rintro s _ ⟨⟩; exact dk.sets_on _ (by simp) _ rfl) (fun s W h => by simp [execOp, go_sem, Act.eval, dk.sets_get, ws, List.lookup]), ?_⟩
                  refine ⟨ta.quiet (by decide) (by simp) (.agg #[.string nn, .int .i64 kd]) (by rintro s _ ⟨⟩; exact dk.sets_on _ (by simp) _ rfl) (fun s W h => by simp [execOp, go_sem, Act.eval, dk.sets_get, ws, List.lookup]), ?_⟩
                  refine ⟨ta.st2 (x := J0) (d := 62) (idx := 9) J0_up (by simp) rfl (by simp) (fun g => rfl) (fun g => rfl) (fun g e => rfl) (fun s W => by simp [execOp, go_sem, Act.eval, dk.sets_get, ws, List.lookup]), ?_⟩
                  refine ⟨ta.st3 (x := J0) (d := 63) (s1 := 58) (s2 := 62) (idx := 10) J0_up Try.underlying27 hi hz0 hz1 hz2 rfl (by show 0 < 2; decide) rfl rfl ⟨by simp, by simp, by simp⟩ (fun g => rfl) (fun g => rfl) (fun g => rfl) (fun g => rfl) (fun g v => rfl) rfl (by intro u hu; simp at hu; rcases hu with rfl | rfl <;> rfl) (by show k ≤ 1048576; omega) (by show (k + 1) * 24 ≤ 140737488355328; omega) ⟨⟨5, .data⟩, by simp, rfl, rfl⟩ ⟨⟨9, .data⟩, by simp, rfl, rfl⟩, ?_⟩
                  refine ⟨ta.quiet (by decide) (by simp) (.pointer (some ⟨w.heap.size, 0, none⟩)) (by rintro s _ ⟨⟩; exact dk.sets_on _ (by simp) _ rfl) (fun s W h => by simp [execOp, go_sem, Act.eval, dk.sets_get, ws, List.lookup]), ?_⟩
                  refine ⟨ta.quiet (by decide) (by simp) (.slice (some ⟨a0, 0, none⟩) es.length es.length) (by rintro s _ ⟨⟩; exact dk.sets_on _ (by simp) _ rfl) (fun s W h => by have c : W.cell? ⟨w.heap.size, 0, none⟩ = some (.slice (some ⟨a0, 0, none⟩) es.length es.length) := bcell (h _ _ RX3.out.box (by have := RX3.out.h8; show w.heap.size ≠ w1.heap.size; omega)) rfl; simp [execOp, go_sem, Act.eval, dk.sets_get, ws, List.lookup, c]), ?_⟩
                  refine ⟨ta.quiet (by decide) (by simp) (.int .i64 k) (by rintro s _ ⟨⟩; exact dk.sets_on _ (by simp) _ rfl) (fun s W h => by simp [execOp, go_sem, Act.eval, dk.sets_get, ws, List.lookup]), ?_⟩
                  refine ⟨ta.quiet (by decide) (by simp) (.slice (some ⟨a0, off k es.length, none⟩) (es.length - k) (es.length - k)) (by rintro s _ ⟨⟩; exact dk.sets_on _ (by simp) _ rfl) (fun s W h => match Nat.lt_or_ge k es.length with | .inl hlt => (by have hne : ¬ k = es.length := Nat.ne_of_lt hlt; have hne2 : ¬ es.length = k := (fun e => hne e.symm); simp [execOp, go_sem, Act.eval, dk.sets_get, ws, List.lookup, off, hk4, hne, hne2]) | .inr hge => (by obtain rfl : k = es.length := (by omega); simp [execOp, go_sem, Act.eval, dk.sets_get, ws, List.lookup, off])), ?_⟩
                  refine ⟨ta.st4 (x := J0) (d := 68) (s1 := 63) (s2 := 67) (idx := 15) (c := es.length - k) (a := ⟨a0, off k es.length, none⟩) J0_up Try.underlying27 hi hz0 hz1 hz2 rfl (by show 0 < 2; decide) rfl rfl ⟨by simp, by simp, by simp⟩ (fun g => rfl) (fun g => rfl) (fun g => rfl) (fun g => rfl) (fun g v => rfl) (by show ((es.drop k).flatMap cE).length = (es.length - k) * 2; rw [flat_len cE_len, List.length_drop]) (fun W hb => newsOff (HE3.out.below hb) (by omega)) (oneE _) (by show k ≤ 1048576 ∧ es.length - k ≤ 1048576; omega) (by show (k + 1 + (es.length - k)) * 24 ≤ 140737488355328; omega) ⟨⟨10, .data⟩, by simp, rfl, rfl⟩, ?_⟩
                  refine ⟨ta.quiet (by decide) (by simp) (.pointer (some ⟨w1.heap.size, 0, none⟩)) (by rintro s _ ⟨⟩; exact dk.sets_on _ (by simp) _ rfl) (fun s W h => by simp [execOp, go_sem, Act.eval, dk.sets_get, ws, List.lookup]), ?_⟩
                  exact ⟨ta.st5 (x := J0) J0_up (by simp) rfl RX3.out.n8lt (fun s W h hv => by obtain ⟨av, nv, cv, hv⟩ := hv; have hu := h _ _ RX3.out.out; have c : W.cell? ⟨w1.heap.size, 0, none⟩ = some (.slice (some ⟨g1, 0, none⟩) es.length c1) := bcell hu rfl; have f := bfree hu 0; rw [hv]; simp [execOp, go_sem, Act.eval, dk.sets_get, ws, List.lookup, c, f, hv]) ⟨⟨15, .data⟩, by simp, rfl, rfl⟩, trivial⟩
                case fin =>
                  intro g L W hL hC
                  obtain ⟨V, hV, hWV, hown⟩ := ta.done hC J0_up (N := 18) (by decide) hL
                  replace hown : W.ownsRow w3.heap.size 49 2 g.v3 (k + 1 + (es.length - k)) ((es.take k).flatMap cE ++ [.string nn, .int .i64 kd] ++ (es.drop k).flatMap cE) := hown
                  have hlen : k + 1 + (es.length - k) = (insE es nn kd).length := by rw [insE_len]; omega
                  rw [ins_flat HP.out, hlen] at hown
                  obtain ⟨g5, c5, hv3⟩ := form_pos hown (by rw [insE_len]; omega)
                  rw [hv3] at hown hWV
                  replace hV : Below w3.heap.size w3 V := hV
                  replace hWV : W = V.setCell ⟨w1.heap.size, 0, none⟩ (.slice (some ⟨g5, 0, none⟩) (insE es nn kd).length c5) := hWV
                  have RX5 : Hid (RX w es bs a0 b0 es.length bs.length w1.heap.size (.slice (some ⟨g5, 0, none⟩) (insE es nn kd).length c5) (.slice (some ⟨h1, 0, none⟩) bs.length c2) W) := by rw [hWV]; exact (RX3.out.on hV).put0 _
                  have OB5 : Hid (OB w W h1 c2 bs) := by rw [hWV]; exact (OB3.out.on hV).put (RX3.out.on hV) 0 _
                  have hsz3 := RX3.out.size
                  have OE5 : Hid (OE w W g5 c5 (insE es nn kd)) := own_low hown hsz3
                  have hok5 := rk.spec_routes (insE es nn kd) bs g5 c5 h1 c2 W (by rw [insE_len]; omega) hbl (ins_small HES.out hnm) HBS.out OE5.out.re OB5.out.rb
                  have o0 : W.cell? ⟨w1.heap.size, 0, none⟩ = some (.slice (some ⟨g5, 0, none⟩) (insE es nn kd).length c5) := bcell RX5.out.out rfl
                  have o1 : W.cell? ⟨w1.heap.size, 1, none⟩ = some (.slice (some ⟨h1, 0, none⟩) bs.length c2) := bcell RX5.out.out rfl
                  obtain ⟨n5, hn5⟩ : ∃ n5, (insE es nn kd).length = n5 := ⟨_, rfl⟩
                  have HN5 : Hid ((insE es nn kd).length = n5) := hn5
                  rw [hn5] at hok5 o0 RX5
                  rw [hn5] at hv3
                  simp only [dk.sets, ws, hv3]
                  clear hC hL hV hWV hown hlen hv3 hn5 RX3 OE3 OB3 HE3 y0
                  go_wp2_with (go_at_call 20; fail)
                  clear o0 o1
                  refine hok5.mono ?_
                  rintro e w6 ⟨⟨bo, rfl, hbo⟩, hb6⟩
                  have RX6 : Hid (RX w es bs a0 b0 es.length bs.length w1.heap.size (.slice (some ⟨g5, 0, none⟩) n5 c5) (.slice (some ⟨h1, 0, none⟩) bs.length c2) w6) := RX5.out.on hb6
                  have OE6 : Hid (OE w w6 g5 c5 (insE es nn kd)) := OE5.out.on hb6
                  have OB6 : Hid (OB w w6 h1 c2 bs) := OB5.out.on hb6
                  clear hok5 RX5 OE5 OB5 hb6
                  by_cases hok2 : OkR (insE es nn kd) bs
                  case pos =>
                    obtain rfl : bo = true := hbo.2 hok2
                    have HA : Hid (insE es nn kd = AN) := (put HOK.out HNO.out hok2).1.symm.trans HAN.out
                    have HR : Hid (true = rt) := (put HOK.out HNO.out hok2).2.symm.trans HRT.out
                    clear hbo hok2
                    have n0 : w6.cell? ⟨w1.heap.size, 0, none⟩ = some (.slice (some ⟨g5, 0, none⟩) n5 c5) := bcell RX6.out.out rfl
                    have n1 : w6.cell? ⟨w1.heap.size, 1, none⟩ = some (.slice (some ⟨h1, 0, none⟩) bs.length c2) := bcell RX6.out.out rfl
                    have z0 : w6.cell? ⟨w.heap.size + 1, 0, none⟩ = some (.slice none 0 0) := bcell RX6.out.res rfl
                    have z1 : w6.cell? ⟨w.heap.size + 1, 1, none⟩ = some (.slice none 0 0) := bcell RX6.out.res rfl
                    have z0f := bfree RX6.out.res 0
                    have z1f := bfree RX6.out.res 1
                    go_wp2
                    refine bodyPost_ret (v := .tuple #[.agg #[.slice (some ⟨g5, 0, none⟩) n5 c5, .slice (some ⟨h1, 0, none⟩) bs.length c2], .bool true]) (by simp [results, Try.results7, go_sem, z0, z1]) rfl ⟨some ⟨g5, 0, none⟩, some ⟨h1, 0, none⟩, c5, c2, by rw [← HA.out, HN5.out, HR.out], ?_, ?_, ?_⟩
                    · rw [← HA.out]; exact fin_E OE6.out
                    · exact fin_B OB6.out
                    · exact fin_below RX6.out.bel
                  case neg =>
                    obtain rfl : bo = false := by
                      cases bo with
                      | false => rfl
                      | true => exact absurd (hbo.1 rfl) hok2
                    have HA : Hid (es = AN) := (over HOK.out HNO.out hok2).1.symm.trans HAN.out
                    have HR : Hid (false = rt) := (over HOK.out HNO.out hok2).2.symm.trans HRT.out
                    have hc6 := sc.spec_copy es bs a0 b0 es.length bs.length w6 hel hbl (HE.out.below RX6.out.bel) (HB.out.below RX6.out.bel)
                    have x0 : w6.cell? ⟨w.heap.size, 0, none⟩ = some (.slice (some ⟨a0, 0, none⟩) es.length es.length) := bcell RX6.out.box rfl
                    have x1 : w6.cell? ⟨w.heap.size, 1, none⟩ = some (.slice (some ⟨b0, 0, none⟩) bs.length bs.length) := bcell RX6.out.box rfl
                    clear hbo hok2
                    go_wp2_with (go_at_call 19; fail)
                    refine hc6.mono ?_
                    rintro e w7 ⟨g7, c7, h7, d7, rfl, oe7, ob7, hb7⟩
                    have hsz6 := RX6.out.size
                    have RX7 : Hid (RX w es bs a0 b0 es.length bs.length w1.heap.size (.slice (some ⟨g5, 0, none⟩) n5 c5) (.slice (some ⟨h1, 0, none⟩) bs.length c2) w7) := RX6.out.on hb7
                    have OE7 : Hid (OE w w7 g7 c7 es) := own_low oe7 (by omega)
                    have OB7 : Hid (OB w w7 h7 d7 bs) := own_low ob7 (by omega)
                    clear hc6 oe7 ob7 hb7 x0 x1
                    have z0 : w7.cell? ⟨w.heap.size + 1, 0, none⟩ = some (.slice none 0 0) := bcell RX7.out.res rfl
                    have z1 : w7.cell? ⟨w.heap.size + 1, 1, none⟩ = some (.slice none 0 0) := bcell RX7.out.res rfl
                    have z0f := bfree RX7.out.res 0
                    have z1f := bfree RX7.out.res 1
                    go_wp2
                    refine bodyPost_ret (v := .tuple #[.agg #[.slice (some ⟨g7, 0, none⟩) es.length c7, .slice (some ⟨h7, 0, none⟩) bs.length d7], .bool false]) (by simp [results, Try.results7, go_sem, z0, z1]) rfl ⟨some ⟨g7, 0, none⟩, some ⟨h7, 0, none⟩, c7, d7, by rw [← HA.out, HR.out], ?_, ?_, ?_⟩
                    · rw [← HA.out]; exact fin_E OE7.out
                    · exact fin_B OB7.out
                    · exact fin_below RX7.out.bel
end Go.Proofs.Ytgfifjiidmfojaa.dsp
