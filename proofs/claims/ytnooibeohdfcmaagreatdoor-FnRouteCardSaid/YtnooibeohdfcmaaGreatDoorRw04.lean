/- Routes as they are drawn: their lists lie in rows of their own at or above a block, or nowhere; how great they are; the specification's functions at them. -/
import Derived.Test.YtnooibeohdfcmaaGreatDoorRw02
import Derived.Test.YtnooibeohdfcmaaGreatDoorRw03
import Derived.Test.YtnooibeohdfcmaaGreatDoorQuietIn
import Derived.Test.YtnooibeohdfcmaaGreatDoorDrawBase

/- The specification's Bind: one binding more, where that is right; new memory alone. -/
namespace Go.Proofs.YtnooibeohdfcmaaGreatDoor.bsp
open Go.ChangeShapes Go.WideShapes Go.ChangeAt Go.RowKit Go.Proofs.YtnooibeohdfcmaaGreatDoor.rc Go.Proofs.YtnooibeohdfcmaaGreatDoor.rr Go.Proofs.YtnooibeohdfcmaaGreatDoor.ra Go.Proofs.YtnooibeohdfcmaaGreatDoor.rt Go.Proofs.YtnooibeohdfcmaaGreatDoor.rs Go.Proofs.YtnooibeohdfcmaaGreatDoor.ro Go.Proofs.YtnooibeohdfcmaaGreatDoor.fl Go.Proofs.YtnooibeohdfcmaaGreatDoor.su Go.Proofs.YtnooibeohdfcmaaGreatDoor.bp Go.Proofs.YtnooibeohdfcmaaGreatDoor.rwy
set_option linter.unusedVariables false

def ws (s n c kb n8 k off : Nat) (x y z : ByteArray) (g : ta.G) : List (Nat × Value) := [(70, .slice (some ⟨g.e0, 0, none⟩) 0 0), (71, .pointer (some ⟨s, 1, none⟩)), (72, .slice (some ⟨kb, 0, none⟩) n c), (73, .int .i64 k), (74, .slice (some ⟨kb, 0, none⟩) k c), (75, g.v1), (76, .agg #[.string x, .string y, .string z]), (77, .slice (some ⟨g.h, 0, none⟩) 1 1), (78, g.v2), (79, .pointer (some ⟨s, 1, none⟩)), (80, .slice (some ⟨kb, 0, none⟩) n c), (81, .int .i64 k), (82, .slice (some ⟨kb, off, none⟩) (n - k) (c - k)), (83, g.v3), (84, .pointer (some ⟨n8, 1, none⟩))]
def J0 : ta.J := ⟨0, 5, 7, 8, 13, 15⟩
theorem J0_up : J0.up := by unfold ta.J.up J0; decide
def off (k n : Nat) : Nat := if k = n then 0 else k * 3
theorem newsOff {W : World} {kb k c : Nat} {bs : List Bi} (h : RB W kb bs) (hk : k ≤ bs.length) (hc : bs.length ≤ c) : ∀ (j : Nat) (u : Value), ((bs.drop k).flatMap cB)[j]? = some u → W.cell? ((⟨kb, off k c, none⟩ : Addr).add j) = some u := by
  unfold off
  split
  · intro j u hu
    rw [List.drop_eq_nil_of_le (by omega)] at hu
    simp at hu
  · exact news_drop cB_len (newsB h) k hk
theorem ins_flat {bs : List Bi} {x y z : ByteArray} {k : Nat} (hp : posB bs ⟨x, y, z⟩ = k) : (bs.take k).flatMap cB ++ [.string x, .string y, .string z] ++ (bs.drop k).flatMap cB = (insB bs ⟨x, y, z⟩).flatMap cB := by
  unfold insB
  rw [hp]
  simp [cB]
theorem form_pos {W : World} {B n s : Nat} {U : TypeId} {v : Value} {xs : List Value} (h : W.ownsRow B U s v n xs) (hn : 0 < n) : ∃ g cap, v = .slice (some ⟨g, 0, none⟩) n cap := by
  obtain ⟨_, ⟨_, h0⟩ | ⟨g, cap, cur, rfl, _⟩⟩ := h
  · omega
  · exact ⟨g, cap, rfl⟩

set_option maxRecDepth 100000 in
set_option maxHeartbeats 4000000 in
theorem spec_bind (es : List Ex) (bs : List Bi) (a0 : Option Addr) (ec bc ka kb : Nat) (bx bk bq : ByteArray) (w : World) (hel : es.length ≤ 1048576) (hbl : bs.length ≤ 1048576) (hes : ∀ e ∈ es, e.n.size ≤ 1048576) (hbs : ∀ b ∈ bs, b.x.size ≤ 1048576 ∧ b.k.size ≤ 1048576 ∧ b.q.size ≤ 1048576) (hx : bx.size ≤ 1048576) (hk : bk.size ≤ 1048576) (hq : bq.size ≤ 1048576) (hE : RE w ka es) (hB : RB w kb bs) (hcap : bs.length ≤ bc) (hna : Hid (apa.NQ a0 ⟨ka, 0, none⟩ es.length ec)) :
    Calls Tryz.prog 10 #[.agg #[.slice a0 es.length ec, .slice (some ⟨kb, 0, none⟩) bs.length bc], .string bx, .string bk, .string bq] w fun r w' => ∃ ea ba ce cb, r = .returned (.tuple #[.agg #[.slice ea es.length ce, .slice ba (ansB es bs ⟨bx, bk, bq⟩).length cb], .bool (retB es bs ⟨bx, bk, bq⟩)]) ∧ OA w' (w.heap.size + 2) ea ce es ∧ OC w' (w.heap.size + 2) ba cb (ansB es bs ⟨bx, bk, bq⟩) ∧ Below w.heap.size w w' := by
  have hWb := first_below w es bs a0 (some ⟨kb, 0, none⟩) ec bc
  have hW2 := first2 w es bs a0 (some ⟨kb, 0, none⟩) ec bc
  have hcopy := sc.spec_copy es bs a0 (some ⟨kb, 0, none⟩) ec bc _ hel hbl (hE.below hWb) (hB.below hWb) hna (own_nq _ _ _)
  have HE : Hid (RE w ka es) := hE
  have HB : Hid (RB w kb bs) := hB
  have HES : Hid (∀ e ∈ es, e.n.size ≤ 1048576) := hes
  have HBS : Hid (∀ b ∈ bs, b.x.size ≤ 1048576 ∧ b.k.size ≤ 1048576 ∧ b.q.size ≤ 1048576) := hbs
  obtain ⟨AN, hAN⟩ : ∃ AN, ansB es bs ⟨bx, bk, bq⟩ = AN := ⟨_, rfl⟩
  obtain ⟨rt, hrt⟩ : ∃ rt, retB es bs ⟨bx, bk, bq⟩ = rt := ⟨_, rfl⟩
  have HAN : Hid (ansB es bs ⟨bx, bk, bq⟩ = AN) := hAN
  have HRT : Hid (retB es bs ⟨bx, bk, bq⟩ = rt) := hrt
  simp only [hAN, hrt]
  clear hE hB hes hbs hAN hrt hWb
  go_enter Tryz.func10, Tryz.ntmps10
  go_wp2_with (go_at_call 42; fail)
  refine hcopy.mono ?_
  rintro e w1 ⟨g1, c1, h1, c2, rfl, oe1, ob1, hb1⟩
  obtain ⟨hrx, hoe, hob⟩ := first_out w w1 es bs a0 (some ⟨kb, 0, none⟩) ec bc g1 c1 h1 c2 hb1 (by rw [hW2]; omega) oe1 ob1
  obtain ⟨X, hX⟩ : ∃ X, w1.alloc (.cells #[.slice (some ⟨g1, 0, none⟩) es.length c1, .slice (some ⟨h1, 0, none⟩) bs.length c2] 27) = X := ⟨_, rfl⟩
  rw [hX] at hrx hoe hob
  have x0 : X.cell? ⟨w.heap.size, 0, none⟩ = some (.slice a0 es.length ec) := bcell hrx.box rfl
  have x1 : X.cell? ⟨w.heap.size, 1, none⟩ = some (.slice (some ⟨kb, 0, none⟩) bs.length bc) := bcell hrx.box rfl
  have hokc := rk.spec_routes es bs ka ec kb bc X hel hbl HES.out HBS.out (HE.out.below hrx.bel) (HB.out.below hrx.bel) a0 (some ⟨kb, 0, none⟩) hna (own_nq _ _ _)
  have RX1 : Hid (RX w es bs a0 (some ⟨kb, 0, none⟩) ec bc w1.heap.size (.slice (some ⟨g1, 0, none⟩) es.length c1) (.slice (some ⟨h1, 0, none⟩) bs.length c2) X) := hrx
  have OE1 : Hid (OE w X g1 c1 es) := hoe
  have OB1 : Hid (OB w X h1 c2 bs) := hob
  clear hcopy oe1 ob1 hb1 hrx hoe hob hW2
  go_wp2_with (go_at_call 17; fail)
  clear hX x0 x1
  refine hokc.mono ?_
  rintro e w2 ⟨⟨bo, rfl, hbo⟩, hb2⟩
  have RX2 : Hid (RX w es bs a0 (some ⟨kb, 0, none⟩) ec bc w1.heap.size (.slice (some ⟨g1, 0, none⟩) es.length c1) (.slice (some ⟨h1, 0, none⟩) bs.length c2) w2) := RX1.out.on hb2
  have OE2 : Hid (OE w w2 g1 c1 es) := OE1.out.on hb2
  have OB2 : Hid (OB w w2 h1 c2 bs) := OB1.out.on hb2
  clear hokc RX1 OE1 OB1 hb2
  by_cases hok : OkR es bs
  case neg =>
    obtain rfl : bo = false := by
      cases bo with
      | false => rfl
      | true => exact absurd (hbo.1 rfl) hok
    have HA : Hid (bs = AN) := (bad hok).1.symm.trans HAN.out
    have HR : Hid (false = rt) := (bad hok).2.symm.trans HRT.out
    clear hbo hok
    have n0 : w2.cell? ⟨w1.heap.size, 0, none⟩ = some (.slice (some ⟨g1, 0, none⟩) es.length c1) := bcell RX2.out.out rfl
    have n1 : w2.cell? ⟨w1.heap.size, 1, none⟩ = some (.slice (some ⟨h1, 0, none⟩) bs.length c2) := bcell RX2.out.out rfl
    have z0 : w2.cell? ⟨w.heap.size + 1, 0, none⟩ = some (.slice none 0 0) := bcell RX2.out.res rfl
    have z1 : w2.cell? ⟨w.heap.size + 1, 1, none⟩ = some (.slice none 0 0) := bcell RX2.out.res rfl
    have z0f := bfree RX2.out.res 0
    have z1f := bfree RX2.out.res 1
    go_wp2
    refine bodyPost_ret (v := .tuple #[.agg #[.slice (some ⟨g1, 0, none⟩) es.length c1, .slice (some ⟨h1, 0, none⟩) bs.length c2], .bool false]) (by simp [results, Tryz.results10, go_sem, z0, z1]) rfl ⟨some ⟨g1, 0, none⟩, some ⟨h1, 0, none⟩, c1, c2, by rw [← HA.out, HR.out], ?_, ?_, ?_⟩
    · exact fin_E OE2.out
    · rw [← HA.out]; exact fin_B OB2.out
    · exact fin_below RX2.out.bel
  case pos =>
    obtain rfl : bo = true := hbo.2 hok
    have HOK : Hid (OkR es bs) := hok
    have hbl4 := hok.bl
    have x0 : w2.cell? ⟨w.heap.size, 0, none⟩ = some (.slice a0 es.length ec) := bcell RX2.out.box rfl
    have x1 : w2.cell? ⟨w.heap.size, 1, none⟩ = some (.slice (some ⟨kb, 0, none⟩) bs.length bc) := bcell RX2.out.box rfl
    have hk3 := rr.spec_kind es ka ec (some ⟨kb, 0, none⟩) bs.length bc bx w2 hel (HE.out.below RX2.out.bel) a0 hna
    clear hbo hok
    go_wp2_with (go_at_call 33; fail)
    refine hk3.mono ?_
    rintro e w3 ⟨rfl, hb3⟩
    have RX3 : Hid (RX w es bs a0 (some ⟨kb, 0, none⟩) ec bc w1.heap.size (.slice (some ⟨g1, 0, none⟩) es.length c1) (.slice (some ⟨h1, 0, none⟩) bs.length c2) w3) := RX2.out.on hb3
    have OE3 : Hid (OE w w3 g1 c1 es) := OE2.out.on hb3
    have OB3 : Hid (OB w w3 h1 c2 bs) := OB2.out.on hb3
    have HKX : Hid (0 ≤ kindOf es bx ∨ ¬ 0 ≤ kindOf es bx) := by unfold Hid; omega
    obtain ⟨kk, hkk⟩ : ∃ kk, kindOf es bx = kk := ⟨_, rfl⟩
    rw [hkk]
    have HKK : Hid (kindOf es bx = kk) := hkk
    clear hk3 RX2 OE2 OB2 hb3 x0 x1 hkk HKX
    by_cases hneg : kk < 0
    case pos =>
      have hw : ¬ (0 ≤ kindOf es (Bi.mk bx bk bq).x ∧ ky.good (Bi.mk bx bk bq).k = true ∧ nm.good (Bi.mk bx bk bq).q = true) := fun h => by have h1 := h.1; have h2 : kindOf es bx = kk := HKK.out; simp only at h1; omega
      have HA : Hid (bs = AN) := (wrong HOK.out hw).1.symm.trans HAN.out
      have HR : Hid (false = rt) := (wrong HOK.out hw).2.symm.trans HRT.out
      clear hw
      have n0 : w3.cell? ⟨w1.heap.size, 0, none⟩ = some (.slice (some ⟨g1, 0, none⟩) es.length c1) := bcell RX3.out.out rfl
      have n1 : w3.cell? ⟨w1.heap.size, 1, none⟩ = some (.slice (some ⟨h1, 0, none⟩) bs.length c2) := bcell RX3.out.out rfl
      have z0 : w3.cell? ⟨w.heap.size + 1, 0, none⟩ = some (.slice none 0 0) := bcell RX3.out.res rfl
      have z1 : w3.cell? ⟨w.heap.size + 1, 1, none⟩ = some (.slice none 0 0) := bcell RX3.out.res rfl
      have z0f := bfree RX3.out.res 0
      have z1f := bfree RX3.out.res 1
      go_wp2
      refine bodyPost_ret (v := .tuple #[.agg #[.slice (some ⟨g1, 0, none⟩) es.length c1, .slice (some ⟨h1, 0, none⟩) bs.length c2], .bool false]) (by simp [results, Tryz.results10, go_sem, z0, z1]) rfl ⟨some ⟨g1, 0, none⟩, some ⟨h1, 0, none⟩, c1, c2, by rw [← HA.out, HR.out], ?_, ?_, ?_⟩
      · exact fin_E OE3.out
      · rw [← HA.out]; exact fin_B OB3.out
      · exact fin_below RX3.out.bel
    case neg =>
      have hkc := ky.spec_key bk w3 hk
      cases hg : ky.good bk with
      | false =>
        rw [hg] at hkc
        have hw : ¬ (0 ≤ kindOf es (Bi.mk bx bk bq).x ∧ ky.good (Bi.mk bx bk bq).k = true ∧ nm.good (Bi.mk bx bk bq).q = true) := fun h => by have h1 := h.2.1; simp only at h1; rw [hg] at h1; cases h1
        have HA : Hid (bs = AN) := (wrong HOK.out hw).1.symm.trans HAN.out
        have HR : Hid (false = rt) := (wrong HOK.out hw).2.symm.trans HRT.out
        clear hw
        go_wp2_with (go_at_call 32; fail)
        refine hkc.mono ?_
        rintro e w4 ⟨rfl, hw4⟩
        obtain rfl := hw4
        clear hkc hg
        have n0 : w3.cell? ⟨w1.heap.size, 0, none⟩ = some (.slice (some ⟨g1, 0, none⟩) es.length c1) := bcell RX3.out.out rfl
        have n1 : w3.cell? ⟨w1.heap.size, 1, none⟩ = some (.slice (some ⟨h1, 0, none⟩) bs.length c2) := bcell RX3.out.out rfl
        have z0 : w3.cell? ⟨w.heap.size + 1, 0, none⟩ = some (.slice none 0 0) := bcell RX3.out.res rfl
        have z1 : w3.cell? ⟨w.heap.size + 1, 1, none⟩ = some (.slice none 0 0) := bcell RX3.out.res rfl
        have z0f := bfree RX3.out.res 0
        have z1f := bfree RX3.out.res 1
        go_wp2
        refine bodyPost_ret (v := .tuple #[.agg #[.slice (some ⟨g1, 0, none⟩) es.length c1, .slice (some ⟨h1, 0, none⟩) bs.length c2], .bool false]) (by simp [results, Tryz.results10, go_sem, z0, z1]) rfl ⟨some ⟨g1, 0, none⟩, some ⟨h1, 0, none⟩, c1, c2, by rw [← HA.out, HR.out], ?_, ?_, ?_⟩
        · exact fin_E OE3.out
        · rw [← HA.out]; exact fin_B OB3.out
        · exact fin_below RX3.out.bel
      | true =>
        rw [hg] at hkc
        go_wp2_with (go_at_call 32; fail)
        refine hkc.mono ?_
        rintro e w4 ⟨rfl, hw4⟩
        obtain rfl := hw4
        clear hkc
        have hnc := nm.spec_name bq w3 hq
        cases hg2 : nm.good bq with
        | false =>
          rw [hg2] at hnc
          have hw : ¬ (0 ≤ kindOf es (Bi.mk bx bk bq).x ∧ ky.good (Bi.mk bx bk bq).k = true ∧ nm.good (Bi.mk bx bk bq).q = true) := fun h => by have h1 := h.2.2; simp only at h1; rw [hg2] at h1; cases h1
          have HA : Hid (bs = AN) := (wrong HOK.out hw).1.symm.trans HAN.out
          have HR : Hid (false = rt) := (wrong HOK.out hw).2.symm.trans HRT.out
          clear hw
          go_wp2_with (go_at_call 43; fail)
          refine hnc.mono ?_
          rintro e w4 ⟨rfl, hw4⟩
          obtain rfl := hw4
          clear hnc hg hg2
          have n0 : w3.cell? ⟨w1.heap.size, 0, none⟩ = some (.slice (some ⟨g1, 0, none⟩) es.length c1) := bcell RX3.out.out rfl
          have n1 : w3.cell? ⟨w1.heap.size, 1, none⟩ = some (.slice (some ⟨h1, 0, none⟩) bs.length c2) := bcell RX3.out.out rfl
          have z0 : w3.cell? ⟨w.heap.size + 1, 0, none⟩ = some (.slice none 0 0) := bcell RX3.out.res rfl
          have z1 : w3.cell? ⟨w.heap.size + 1, 1, none⟩ = some (.slice none 0 0) := bcell RX3.out.res rfl
          have z0f := bfree RX3.out.res 0
          have z1f := bfree RX3.out.res 1
          go_wp2
          refine bodyPost_ret (v := .tuple #[.agg #[.slice (some ⟨g1, 0, none⟩) es.length c1, .slice (some ⟨h1, 0, none⟩) bs.length c2], .bool false]) (by simp [results, Tryz.results10, go_sem, z0, z1]) rfl ⟨some ⟨g1, 0, none⟩, some ⟨h1, 0, none⟩, c1, c2, by rw [← HA.out, HR.out], ?_, ?_, ?_⟩
          · exact fin_E OE3.out
          · rw [← HA.out]; exact fin_B OB3.out
          · exact fin_below RX3.out.bel
        | true =>
          rw [hg2] at hnc
          go_wp2_with (go_at_call 43; fail)
          refine hnc.mono ?_
          rintro e w4 ⟨rfl, hw4⟩
          obtain rfl := hw4
          clear hnc hg hg2
          have hal4 : Below w3.heap.size w3 (w3.alloc (.cells #[.string bx, .string bk, .string bq] 45)) := (Below.refl _ _).alloc (Nat.le_refl _) _
          have hbx := bnew w3 #[.string bx, .string bk, .string bq] 45
          have hrx4 := RX3.out.on hal4
          have hoe4 := OE3.out.on hal4
          have hob4 := OB3.out.on hal4
          obtain ⟨n9, hn9⟩ : ∃ n9, w3.heap.size = n9 := ⟨_, rfl⟩
          rw [hn9] at hbx
          obtain ⟨W4, hW4⟩ : ∃ W4, w3.alloc (.cells #[.string bx, .string bk, .string bq] 45) = W4 := ⟨_, rfl⟩
          rw [hW4] at hrx4 hoe4 hob4 hbx
          have RX4 : Hid (RX w es bs a0 (some ⟨kb, 0, none⟩) ec bc w1.heap.size (.slice (some ⟨g1, 0, none⟩) es.length c1) (.slice (some ⟨h1, 0, none⟩) bs.length c2) W4) := hrx4
          have OE4 : Hid (OE w W4 g1 c1 es) := hoe4
          have OB4 : Hid (OB w W4 h1 c2 bs) := hob4
          have HBX : Hid (W4.heap[n9]? = some (.cells #[.string bx, .string bk, .string bq] 45 (0, 0))) := hbx
          clear hal4 hrx4 hoe4 hob4 hbx RX3 OE3 OB3
          go_wp2
          clear hW4 hn9 hneg
          go_loopw [12] (fun v wr => ∃ k : Nat, k ≤ bs.length ∧ v = .int .i64 k ∧ Hid (∀ (i : Nat) a, i < k → bs[i]? = some a → before a ⟨bx, bk, bq⟩ = true) ∧ Below W4.heap.size W4 wr) (fun v _ => bs.length - (intOf v).toNat)
          case atStart => exact ⟨0, Nat.zero_le _, rfl, fun i a h => by omega, Below.refl _ _⟩
          case round =>
            obtain ⟨k, hk4, rfl, hn, hbel⟩ := hrel
            have hkc : k ≤ bc := Nat.le_trans hk4 hcap
            have RXr : Hid (RX w es bs a0 (some ⟨kb, 0, none⟩) ec bc w1.heap.size (.slice (some ⟨g1, 0, none⟩) es.length c1) (.slice (some ⟨h1, 0, none⟩) bs.length c2) wr) := RX4.out.on hbel
            have OEr : Hid (OE w wr g1 c1 es) := OE4.out.on hbel
            have OBr : Hid (OB w wr h1 c2 bs) := OB4.out.on hbel
            have HBr : Hid (RB wr kb bs) := HB.out.below RXr.out.bel
            have HXr : Hid (wr.heap[n9]? = some (.cells #[.string bx, .string bk, .string bq] 45 (0, 0))) := bstay HBX.out hbel (Array.getElem?_eq_some_iff.1 HBX.out).1
            have Y1 := fun N : qi.Cls wr => (Below.cell N.h (p := ⟨w.heap.size, 1, none⟩) (show w.heap.size < wr.heap.size by have := RXr.out.size; omega)).trans (bcell RXr.out.box (show _ = some (.slice (some ⟨kb, 0, none⟩) bs.length bc) from rfl))
            have B0 := fun N : qi.Cls wr => (Below.cell N.h (p := ⟨n9, 0, none⟩) (Array.getElem?_eq_some_iff.1 HXr.out).1).trans (bcell HXr.out (show _ = some (.string bx) from rfl))
            have B1 := fun N : qi.Cls wr => (Below.cell N.h (p := ⟨n9, 1, none⟩) (Array.getElem?_eq_some_iff.1 HXr.out).1).trans (bcell HXr.out (show _ = some (.string bk) from rfl))
            have B2 := fun N : qi.Cls wr => (Below.cell N.h (p := ⟨n9, 2, none⟩) (Array.getElem?_eq_some_iff.1 HXr.out).1).trans (bcell HXr.out (show _ = some (.string bq) from rfl))
            by_cases hkl : k < bs.length
            case pos =>
              have g0 : bs[k]? = some bs[k] := List.getElem?_eq_getElem hkl
              have HG : Hid (bs[k]? = some bs[k]) := g0
              obtain ⟨a0', a1', a2'⟩ := HBr.out.2 k _ g0
              obtain ⟨⟨ax, ak, aq⟩, ha⟩ : ∃ e, bs[k] = e := ⟨_, rfl⟩
              rw [ha] at a0' a1' a2' HG
              have i2 : (k : Int) < (bs.length : Int) := by omega
              have hd : decide ((k : Int) < (bs.length : Int)) = true := by simp; omega
              have A0 := fun N : qi.Cls wr => (Below.cell N.h (p := ⟨kb, k * 3, none⟩) HBr.out.1).trans a0'
              have A1 := fun N : qi.Cls wr => (Below.cell N.h (p := ⟨kb, k * 3 + 1, none⟩) HBr.out.1).trans a1'
              have A2 := fun N : qi.Cls wr => (Below.cell N.h (p := ⟨kb, k * 3 + 2, none⟩) HBr.out.1).trans a2'
              obtain ⟨z, hz⟩ : ∃ z, before ⟨ax, ak, aq⟩ ⟨bx, bk, bq⟩ = z := ⟨_, rfl⟩
              have HZ : Hid (before ⟨ax, ak, aq⟩ ⟨bx, bk, bq⟩ = z) := hz
              have kc : ∀ N : qi.Cls wr, Calls Tryz.prog 44 #[.agg #[.string ax, .string ak, .string aq], .agg #[.string bx, .string bk, .string bq]] N.x fun e w' => e = .returned (.bool z) ∧ qi.T wr w' := fun N => by
                have h := rr.spec_before ⟨ax, ak, aq⟩ ⟨bx, bk, bq⟩ N.x
                rw [HZ.out] at h
                exact h.mono fun e w' ⟨h1, h2⟩ => ⟨h1, N.h.next h2⟩
              clear g0 ha hz a0' a1' a2'
              go_wp2
              refine qi.region_in wr (qi.T.refl wr) (by kernel_rfl) (by kernel_rfl) ?_
              repeat (go_big_quiet_step (first | (go_at_call 44; refine (kc _).mono ?_; rintro e wx ⟨rfl, hTx⟩; exact ⟨rfl, ⟨wx, hTx⟩, rfl⟩)))
              refine wpQuiet_nil ?_
              rintro _ ⟨N, rfl⟩
              have hN : Below wr.heap.size wr N.x := N.h
              generalize N.x = wN at hN ⊢
              clear N kc A0 A1 A2 B0 B1 B2 Y1
              cases z with
              | true =>
                have hn2 : Hid (∀ (i : Nat) a, i < k + 1 → bs[i]? = some a → before a ⟨bx, bk, bq⟩ = true) := fun i a hi ha => by
                  by_cases ei : i = k
                  · subst ei; rw [HG.out] at ha; cases ha; exact HZ.out
                  · exact hn.out i a (by omega) ha
                clear hd i2
                go_wp2
                try rw [← hqa]
                try rw [← hqb]
                go_roundw
                case rel => exact ⟨k + 1, by omega, by go_num, hn2, hbel.trans (hN.mono hbel.size)⟩
                case measure => simp [intOf]; omega
              | false =>
                have hpos : PosB bs ⟨bx, bk, bq⟩ k := pos_is HOK.out.bu hk4 hn.out (fun a ha => by rw [HG.out] at ha; cases ha; exact HZ.out)
                have HP : Hid (posB bs ⟨bx, bk, bq⟩ = k) := posB_of hpos
                have HF : Hid ((∃ a, bs[k]? = some a ∧ cmpB a ⟨bx, bk, bq⟩ = 0) ↔ hasB bs ⟨bx, bk, bq⟩) := foundB HOK.out.bu hpos
                have RXn : Hid (RX w es bs a0 (some ⟨kb, 0, none⟩) ec bc w1.heap.size (.slice (some ⟨g1, 0, none⟩) es.length c1) (.slice (some ⟨h1, 0, none⟩) bs.length c2) wN) := RXr.out.on hN
                have OEn : Hid (OE w wN g1 c1 es) := OEr.out.on hN
                have OBn : Hid (OB w wN h1 c2 bs) := OBr.out.on hN
                have HBn : Hid (RB wN kb bs) := HBr.out.below hN
                have HXn : Hid (wN.heap[n9]? = some (.cells #[.string bx, .string bk, .string bq] 45 (0, 0))) := bstay HXr.out hN (Array.getElem?_eq_some_iff.1 HXr.out).1
                have Y1 := fun N : qi.Cls wN => (Below.cell N.h (p := ⟨w.heap.size, 1, none⟩) (show w.heap.size < wN.heap.size by have := RXn.out.size; omega)).trans (bcell RXn.out.box (show _ = some (.slice (some ⟨kb, 0, none⟩) bs.length bc) from rfl))
                have B0 := fun N : qi.Cls wN => (Below.cell N.h (p := ⟨n9, 0, none⟩) (Array.getElem?_eq_some_iff.1 HXn.out).1).trans (bcell HXn.out (show _ = some (.string bx) from rfl))
                have B1 := fun N : qi.Cls wN => (Below.cell N.h (p := ⟨n9, 1, none⟩) (Array.getElem?_eq_some_iff.1 HXn.out).1).trans (bcell HXn.out (show _ = some (.string bk) from rfl))
                have B2 := fun N : qi.Cls wN => (Below.cell N.h (p := ⟨n9, 2, none⟩) (Array.getElem?_eq_some_iff.1 HXn.out).1).trans (bcell HXn.out (show _ = some (.string bq) from rfl))
                obtain ⟨a0', a1', a2'⟩ := HBn.out.2 k _ HG.out
                have A0 := fun N : qi.Cls wN => (Below.cell N.h (p := ⟨kb, k * 3, none⟩) HBn.out.1).trans a0'
                have A1 := fun N : qi.Cls wN => (Below.cell N.h (p := ⟨kb, k * 3 + 1, none⟩) HBn.out.1).trans a1'
                have A2 := fun N : qi.Cls wN => (Below.cell N.h (p := ⟨kb, k * 3 + 2, none⟩) HBn.out.1).trans a2'
                clear a0' a1' a2' hpos hN RXr OEr OBr HBr HXr
                by_cases heq : (⟨ax, ak, aq⟩ : Bi) = ⟨bx, bk, bq⟩
                case pos =>
                  have HH : hasB bs ⟨bx, bk, bq⟩ := ⟨k, by rw [← heq]; exact HG.out⟩
                  have HA : Hid (bs = AN) := (there HOK.out HH).1.symm.trans HAN.out
                  have HR : Hid (true = rt) := (there HOK.out HH).2.symm.trans HRT.out
                  obtain ⟨rfl, rfl, rfl⟩ := Bi.mk.inj heq
                  clear heq HH
                  go_wp2
                  refine qi.region_in wN (qi.T.refl wN) (by kernel_rfl) (by kernel_rfl) ?_
                  repeat (go_big_quiet_step (fail))
                  refine wpQuiet_nil ?_
                  rintro _ ⟨N, rfl⟩
                  have hN : Below wN.heap.size wN N.x := N.h
                  generalize N.x = wM at hN ⊢
                  clear N A0 A1 A2 B0 B1 B2 Y1
                  have RXm : Hid (RX w es bs a0 (some ⟨kb, 0, none⟩) ec bc w1.heap.size (.slice (some ⟨g1, 0, none⟩) es.length c1) (.slice (some ⟨h1, 0, none⟩) bs.length c2) wM) := RXn.out.on hN
                  have OEm : Hid (OE w wM g1 c1 es) := OEn.out.on hN
                  have OBm : Hid (OB w wM h1 c2 bs) := OBn.out.on hN
                  clear RXn OEn OBn HBn HXn
                  have n0 : wM.cell? ⟨w1.heap.size, 0, none⟩ = some (.slice (some ⟨g1, 0, none⟩) es.length c1) := bcell RXm.out.out rfl
                  have n1 : wM.cell? ⟨w1.heap.size, 1, none⟩ = some (.slice (some ⟨h1, 0, none⟩) bs.length c2) := bcell RXm.out.out rfl
                  have z0 : wM.cell? ⟨w.heap.size + 1, 0, none⟩ = some (.slice none 0 0) := bcell RXm.out.res rfl
                  have z1 : wM.cell? ⟨w.heap.size + 1, 1, none⟩ = some (.slice none 0 0) := bcell RXm.out.res rfl
                  have z0f := bfree RXm.out.res 0
                  have z1f := bfree RXm.out.res 1
                  go_wp2
                  refine bodyPost_ret (v := .tuple #[.agg #[.slice (some ⟨g1, 0, none⟩) es.length c1, .slice (some ⟨h1, 0, none⟩) bs.length c2], .bool true]) (by simp [results, Tryz.results10, go_sem, z0, z1]) rfl ⟨some ⟨g1, 0, none⟩, some ⟨h1, 0, none⟩, c1, c2, by rw [← HA.out, HR.out], ?_, ?_, ?_⟩
                  · exact fin_E OEm.out
                  · rw [← HA.out]; exact fin_B OBm.out
                  · exact fin_below RXm.out.bel
                case neg =>
                  have HNO : Hid (¬ hasB bs ⟨bx, bk, bq⟩) := fun hh => heq (cmpB_zero.1 (by
                    obtain ⟨a, ha, hz⟩ := HF.out.2 hh
                    rw [HG.out] at ha
                    cases ha
                    exact hz))
                  have h3 : (ax.toList == bx.toList) = false ∨ ((ax.toList == bx.toList) = true ∧ (ak.toList == bk.toList) = false) ∨ ((ax.toList == bx.toList) = true ∧ (ak.toList == bk.toList) = true ∧ (aq.toList == bq.toList) = false) := by
                    by_cases e1 : ax = bx
                    · subst e1
                      by_cases e2 : ak = bk
                      · subst e2
                        refine .inr (.inr ⟨by simp, by simp, rr.ne_of (fun e => heq (by rw [e]))⟩)
                      · exact .inr (.inl ⟨by simp, rr.ne_of e2⟩)
                    · exact .inl (rr.ne_of e1)
                  clear heq HF
                  rcases h3 with f1 | ⟨f1, f2⟩ | ⟨f1, f2, f3⟩
                  all_goals
                    go_wp2
                    refine qi.region_in wN (qi.T.refl wN) (by kernel_rfl) (by kernel_rfl) ?_
                    repeat (go_big_quiet_step (fail))
                    refine wpQuiet_nil ?_
                    rintro _ ⟨N, rfl⟩
                    have hN : Below wN.heap.size wN N.x := N.h
                    generalize N.x = wM at hN ⊢
                    clear N A0 A1 A2 B0 B1 B2 Y1
                    have RXm : Hid (RX w es bs a0 (some ⟨kb, 0, none⟩) ec bc w1.heap.size (.slice (some ⟨g1, 0, none⟩) es.length c1) (.slice (some ⟨h1, 0, none⟩) bs.length c2) wM) := RXn.out.on hN
                    have OEm : Hid (OE w wM g1 c1 es) := OEn.out.on hN
                    have OBm : Hid (OB w wM h1 c2 bs) := OBn.out.on hN
                    have HBm : Hid (RB wM kb bs) := HBn.out.below hN
                    have HXm : Hid (wM.heap[n9]? = some (.cells #[.string bx, .string bk, .string bq] 45 (0, 0))) := bstay HXn.out hN (Array.getElem?_eq_some_iff.1 HXn.out).1
                    clear RXn OEn OBn HBn HXn hN
                    obtain ⟨i0, hi, hz0, hz1, hz2⟩ := su.infoB
                    have hn9 : n9 ≠ w1.heap.size := fun e => by
                      have h1 := HXm.out
                      rw [e, RXm.out.out] at h1
                      simp at h1
                    go_wp2
                    refine dk.region_gsets (ws w.heap.size bs.length bc kb w1.heap.size k (off k bc) bx bk bq) [70, 71, 72, 73, 74, 75, 76, 77, 78, 79, 80, 81, 82, 83, 84] (ta.C ⟨wM, 45, 3, (bs.take k).flatMap cB, [.string bx, .string bk, .string bq], (bs.drop k).flatMap cB, k, bs.length - k, w1.heap.size, 1⟩ J0) ⟨0, .slice none 0 0, 0, .slice none 0 0, .slice none 0 0⟩ (by kernel_rfl) (by kernel_rfl) (fun _ => rfl) (by kernel_rfl) (ta.start _ _ _) ?each ?fin
                    case each =>
                      refine ⟨ta.st0 (x := J0) (d := 70) (idx := 0) J0_up (by simp) rfl (by simp) (fun g => rfl) (fun g => rfl) (fun g e => rfl) (fun s W => by simp [execOp, go_sem]), ?_⟩
                      refine ⟨ta.quiet (by decide) (by simp) (.pointer (some ⟨w.heap.size, 1, none⟩)) (by rintro s _ ⟨⟩; exact dk.sets_on _ (by simp) _ rfl) (fun s W h => by simp [execOp, go_sem, Act.eval, dk.sets_get, ws, List.lookup]), ?_⟩
                      refine ⟨ta.quiet (by decide) (by simp) (.slice (some ⟨kb, 0, none⟩) bs.length bc) (by rintro s _ ⟨⟩; exact dk.sets_on _ (by simp) _ rfl) (fun s W h => by have c : W.cell? ⟨w.heap.size, 1, none⟩ = some (.slice (some ⟨kb, 0, none⟩) bs.length bc) := bcell (h _ _ RXm.out.box (by have := RXm.out.h8; show w.heap.size ≠ w1.heap.size; omega)) rfl; simp [execOp, go_sem, Act.eval, dk.sets_get, ws, List.lookup, c]), ?_⟩
                      refine ⟨ta.quiet (by decide) (by simp) (.int .i64 k) (by rintro s _ ⟨⟩; exact dk.sets_on _ (by simp) _ rfl) (fun s W h => by simp [execOp, go_sem, Act.eval, dk.sets_get, ws, List.lookup]), ?_⟩
                      refine ⟨ta.quiet (by decide) (by simp) (.slice (some ⟨kb, 0, none⟩) k bc) (by rintro s _ ⟨⟩; exact dk.sets_on _ (by simp) _ rfl) (fun s W h => by simp [execOp, go_sem, Act.eval, dk.sets_get, ws, List.lookup, hkc]), ?_⟩
                      refine ⟨ta.st1 (x := J0) (d := 75) (s1 := 70) (s2 := 74) (idx := 5) (c := bc) (a := ⟨kb, 0, none⟩) J0_up Tryz.underlying25 hi hz0 hz1 hz2 rfl (by show 0 < 3; decide) rfl rfl ⟨by simp, by simp, by simp⟩ (fun g => rfl) (fun g => rfl) (fun g => rfl) (fun g => rfl) (fun g v => rfl) (by show ((bs.take k).flatMap cB).length = k * 3; rw [flat_len cB_len, List.length_take]; congr 1; omega) (fun W hb => news_take (newsB (HBm.out.below hb)) k) (oneB _) (by show k ≤ 1048576; omega) (by show (0 + k) * 48 ≤ 140737488355328; omega) ⟨⟨0, .data⟩, by simp, rfl, rfl⟩, ?_⟩
                      refine ⟨ta.quiet (by decide) (by simp) (.agg #[.string bx, .string bk, .string bq]) (by rintro s _ ⟨⟩; exact dk.sets_on _ (by simp) _ rfl) (fun s W h => by have hu := h _ _ HXm.out (by show n9 ≠ w1.heap.size; exact hn9); have d0 : W.cell? ⟨n9, 0, none⟩ = some (.string bx) := bcell hu rfl; have d1 : W.cell? ⟨n9, 1, none⟩ = some (.string bk) := bcell hu rfl; have d2 : W.cell? ⟨n9, 2, none⟩ = some (.string bq) := bcell hu rfl; simp [execOp, go_sem, Act.eval, dk.sets_get, ws, List.lookup, d0, d1, d2]), ?_⟩
                      refine ⟨ta.st2 (x := J0) (d := 77) (idx := 7) J0_up (by simp) rfl (by simp) (fun g => rfl) (fun g => rfl) (fun g e => rfl) (fun s W => by simp [execOp, go_sem, Act.eval, dk.sets_get, ws, List.lookup]), ?_⟩
                      refine ⟨ta.st3 (x := J0) (d := 78) (s1 := 75) (s2 := 77) (idx := 8) J0_up Tryz.underlying25 hi hz0 hz1 hz2 rfl (by show 0 < 3; decide) rfl rfl ⟨by simp, by simp, by simp⟩ (fun g => rfl) (fun g => rfl) (fun g => rfl) (fun g => rfl) (fun g v => rfl) rfl (by intro u hu; simp at hu; rcases hu with rfl | rfl | rfl <;> rfl) (by show k ≤ 1048576; omega) (by show (k + 1) * 48 ≤ 140737488355328; omega) ⟨⟨5, .data⟩, by simp, rfl, rfl⟩ ⟨⟨7, .data⟩, by simp, rfl, rfl⟩, ?_⟩
                      refine ⟨ta.quiet (by decide) (by simp) (.pointer (some ⟨w.heap.size, 1, none⟩)) (by rintro s _ ⟨⟩; exact dk.sets_on _ (by simp) _ rfl) (fun s W h => by simp [execOp, go_sem, Act.eval, dk.sets_get, ws, List.lookup]), ?_⟩
                      refine ⟨ta.quiet (by decide) (by simp) (.slice (some ⟨kb, 0, none⟩) bs.length bc) (by rintro s _ ⟨⟩; exact dk.sets_on _ (by simp) _ rfl) (fun s W h => by have c : W.cell? ⟨w.heap.size, 1, none⟩ = some (.slice (some ⟨kb, 0, none⟩) bs.length bc) := bcell (h _ _ RXm.out.box (by have := RXm.out.h8; show w.heap.size ≠ w1.heap.size; omega)) rfl; simp [execOp, go_sem, Act.eval, dk.sets_get, ws, List.lookup, c]), ?_⟩
                      refine ⟨ta.quiet (by decide) (by simp) (.int .i64 k) (by rintro s _ ⟨⟩; exact dk.sets_on _ (by simp) _ rfl) (fun s W h => by simp [execOp, go_sem, Act.eval, dk.sets_get, ws, List.lookup]), ?_⟩
                      refine ⟨ta.quiet (by decide) (by simp) (.slice (some ⟨kb, off k bc, none⟩) (bs.length - k) (bc - k)) (by rintro s _ ⟨⟩; exact dk.sets_on _ (by simp) _ rfl) (fun s W h => match Nat.lt_or_ge k bc with | .inl hlt => (by have hne : ¬ k = bc := Nat.ne_of_lt hlt; have hne2 : ¬ bc = k := (fun e => hne e.symm); simp [execOp, go_sem, Act.eval, dk.sets_get, ws, List.lookup, off, hk4, hne, hne2]) | .inr hge => (by have hee : k = bc := Nat.le_antisymm hkc hge; have hem : bs.length = bc := Nat.le_antisymm hcap (hee ▸ hk4); simp [execOp, go_sem, Act.eval, dk.sets_get, ws, List.lookup, off, hee, hem])), ?_⟩
                      refine ⟨ta.st4 (x := J0) (d := 83) (s1 := 78) (s2 := 82) (idx := 13) (c := bc - k) (a := ⟨kb, off k bc, none⟩) J0_up Tryz.underlying25 hi hz0 hz1 hz2 rfl (by show 0 < 3; decide) rfl rfl ⟨by simp, by simp, by simp⟩ (fun g => rfl) (fun g => rfl) (fun g => rfl) (fun g => rfl) (fun g v => rfl) (by show ((bs.drop k).flatMap cB).length = (bs.length - k) * 3; rw [flat_len cB_len, List.length_drop]) (fun W hb => newsOff (HBm.out.below hb) (by omega) hcap) (oneB _) (by show k ≤ 1048576 ∧ bs.length - k ≤ 1048576; omega) (by show (k + 1 + (bs.length - k)) * 48 ≤ 140737488355328; omega) ⟨⟨8, .data⟩, by simp, rfl, rfl⟩, ?_⟩
                      refine ⟨ta.quiet (by decide) (by simp) (.pointer (some ⟨w1.heap.size, 1, none⟩)) (by rintro s _ ⟨⟩; exact dk.sets_on _ (by simp) _ rfl) (fun s W h => by simp [execOp, go_sem, Act.eval, dk.sets_get, ws, List.lookup]), ?_⟩
                      exact ⟨ta.st5 (x := J0) J0_up (by simp) rfl RXm.out.n8lt (fun s W h hv => by obtain ⟨av, nv, cv, hv⟩ := hv; have hu := h _ _ RXm.out.out; have c : W.cell? ⟨w1.heap.size, 1, none⟩ = some (.slice (some ⟨h1, 0, none⟩) bs.length c2) := bcell hu rfl; have f := bfree hu 1; rw [hv]; simp [execOp, go_sem, Act.eval, dk.sets_get, ws, List.lookup, c, f, hv]) ⟨⟨13, .data⟩, by simp, rfl, rfl⟩, trivial⟩
                    case fin =>
                      intro g L W hL hC
                      obtain ⟨V, hV, hWV, hown⟩ := ta.done hC J0_up (N := 16) (by decide) hL
                      replace hown : W.ownsRow wM.heap.size 45 3 g.v3 (k + 1 + (bs.length - k)) ((bs.take k).flatMap cB ++ [.string bx, .string bk, .string bq] ++ (bs.drop k).flatMap cB) := hown
                      have hlen : k + 1 + (bs.length - k) = (insB bs ⟨bx, bk, bq⟩).length := by rw [insB_len]; omega
                      rw [ins_flat HP.out, hlen] at hown
                      obtain ⟨g5, c5, hv3⟩ := form_pos hown (by rw [insB_len]; omega)
                      rw [hv3] at hown hWV
                      replace hV : Below wM.heap.size wM V := hV
                      replace hWV : W = V.setCell ⟨w1.heap.size, 1, none⟩ (.slice (some ⟨g5, 0, none⟩) (insB bs ⟨bx, bk, bq⟩).length c5) := hWV
                      have RX5 : Hid (RX w es bs a0 (some ⟨kb, 0, none⟩) ec bc w1.heap.size (.slice (some ⟨g1, 0, none⟩) es.length c1) (.slice (some ⟨g5, 0, none⟩) (insB bs ⟨bx, bk, bq⟩).length c5) W) := by rw [hWV]; exact (RXm.out.on hV).put1 _
                      have OE5 : Hid (OE w W g1 c1 es) := by rw [hWV]; exact (OEm.out.on hV).put (RXm.out.on hV) 1 _
                      have hsz3 := RXm.out.size
                      have OB5 : Hid (OB w W g5 c5 (insB bs ⟨bx, bk, bq⟩)) := own_low hown hsz3
                      have hok5 := rk.spec_routes es (insB bs ⟨bx, bk, bq⟩) g1 c1 g5 c5 W hel (by rw [insB_len]; omega) HES.out (ins_small HBS.out ⟨hx, hk, hq⟩) OE5.out.re OB5.out.rb _ _ (own_nq _ _ _) (own_nq _ _ _)
                      have o0 : W.cell? ⟨w1.heap.size, 0, none⟩ = some (.slice (some ⟨g1, 0, none⟩) es.length c1) := bcell RX5.out.out rfl
                      have o1 : W.cell? ⟨w1.heap.size, 1, none⟩ = some (.slice (some ⟨g5, 0, none⟩) (insB bs ⟨bx, bk, bq⟩).length c5) := bcell RX5.out.out rfl
                      obtain ⟨n5, hn5⟩ : ∃ n5, (insB bs ⟨bx, bk, bq⟩).length = n5 := ⟨_, rfl⟩
                      have HN5 : Hid ((insB bs ⟨bx, bk, bq⟩).length = n5) := hn5
                      rw [hn5] at hok5 o1 RX5
                      rw [hn5] at hv3
                      simp only [dk.sets, ws, hv3]
                      clear hC hL hV hWV hown hlen hv3 hn5 RXm OEm OBm HBm HXm
                      go_wp2_with (go_at_call 17; fail)
                      clear o0 o1
                      refine hok5.mono ?_
                      rintro e w6 ⟨⟨bo, rfl, hbo⟩, hb6⟩
                      have RX6 : Hid (RX w es bs a0 (some ⟨kb, 0, none⟩) ec bc w1.heap.size (.slice (some ⟨g1, 0, none⟩) es.length c1) (.slice (some ⟨g5, 0, none⟩) n5 c5) w6) := RX5.out.on hb6
                      have OE6 : Hid (OE w w6 g1 c1 es) := OE5.out.on hb6
                      have OB6 : Hid (OB w w6 g5 c5 (insB bs ⟨bx, bk, bq⟩)) := OB5.out.on hb6
                      clear hok5 RX5 OE5 OB5 hb6
                      by_cases hok2 : OkR es (insB bs ⟨bx, bk, bq⟩)
                      case pos =>
                        obtain rfl : bo = true := hbo.2 hok2
                        have HA : Hid (insB bs ⟨bx, bk, bq⟩ = AN) := (put HOK.out HNO.out hok2).1.symm.trans HAN.out
                        have HR : Hid (true = rt) := (put HOK.out HNO.out hok2).2.symm.trans HRT.out
                        clear hbo hok2
                        have n0 : w6.cell? ⟨w1.heap.size, 0, none⟩ = some (.slice (some ⟨g1, 0, none⟩) es.length c1) := bcell RX6.out.out rfl
                        have n1 : w6.cell? ⟨w1.heap.size, 1, none⟩ = some (.slice (some ⟨g5, 0, none⟩) n5 c5) := bcell RX6.out.out rfl
                        have z0 : w6.cell? ⟨w.heap.size + 1, 0, none⟩ = some (.slice none 0 0) := bcell RX6.out.res rfl
                        have z1 : w6.cell? ⟨w.heap.size + 1, 1, none⟩ = some (.slice none 0 0) := bcell RX6.out.res rfl
                        have z0f := bfree RX6.out.res 0
                        have z1f := bfree RX6.out.res 1
                        go_wp2
                        refine bodyPost_ret (v := .tuple #[.agg #[.slice (some ⟨g1, 0, none⟩) es.length c1, .slice (some ⟨g5, 0, none⟩) n5 c5], .bool true]) (by simp [results, Tryz.results10, go_sem, z0, z1]) rfl ⟨some ⟨g1, 0, none⟩, some ⟨g5, 0, none⟩, c1, c5, by rw [← HA.out, HN5.out, HR.out], ?_, ?_, ?_⟩
                        · exact fin_E OE6.out
                        · rw [← HA.out]; exact fin_B OB6.out
                        · exact fin_below RX6.out.bel
                      case neg =>
                        obtain rfl : bo = false := by
                          cases bo with
                          | false => rfl
                          | true => exact absurd (hbo.1 rfl) hok2
                        have HA : Hid (bs = AN) := (over HOK.out HNO.out hok2).1.symm.trans HAN.out
                        have HR : Hid (false = rt) := (over HOK.out HNO.out hok2).2.symm.trans HRT.out
                        have hc6 := sc.spec_copy es bs a0 (some ⟨kb, 0, none⟩) ec bc w6 hel hbl (HE.out.below RX6.out.bel) (HB.out.below RX6.out.bel) hna (own_nq _ _ _)
                        have x0 : w6.cell? ⟨w.heap.size, 0, none⟩ = some (.slice a0 es.length ec) := bcell RX6.out.box rfl
                        have x1 : w6.cell? ⟨w.heap.size, 1, none⟩ = some (.slice (some ⟨kb, 0, none⟩) bs.length bc) := bcell RX6.out.box rfl
                        clear hbo hok2
                        go_wp2_with (go_at_call 42; fail)
                        refine hc6.mono ?_
                        rintro e w7 ⟨g7, c7, h7, d7, rfl, oe7, ob7, hb7⟩
                        have hsz6 := RX6.out.size
                        have RX7 : Hid (RX w es bs a0 (some ⟨kb, 0, none⟩) ec bc w1.heap.size (.slice (some ⟨g1, 0, none⟩) es.length c1) (.slice (some ⟨g5, 0, none⟩) n5 c5) w7) := RX6.out.on hb7
                        have OE7 : Hid (OE w w7 g7 c7 es) := own_low oe7 (by omega)
                        have OB7 : Hid (OB w w7 h7 d7 bs) := own_low ob7 (by omega)
                        clear hc6 oe7 ob7 hb7 x0 x1
                        have z0 : w7.cell? ⟨w.heap.size + 1, 0, none⟩ = some (.slice none 0 0) := bcell RX7.out.res rfl
                        have z1 : w7.cell? ⟨w.heap.size + 1, 1, none⟩ = some (.slice none 0 0) := bcell RX7.out.res rfl
                        have z0f := bfree RX7.out.res 0
                        have z1f := bfree RX7.out.res 1
                        go_wp2
                        refine bodyPost_ret (v := .tuple #[.agg #[.slice (some ⟨g7, 0, none⟩) es.length c7, .slice (some ⟨h7, 0, none⟩) bs.length d7], .bool false]) (by simp [results, Tryz.results10, go_sem, z0, z1]) rfl ⟨some ⟨g7, 0, none⟩, some ⟨h7, 0, none⟩, c7, d7, by rw [← HA.out, HR.out], ?_, ?_, ?_⟩
                        · exact fin_E OE7.out
                        · rw [← HA.out]; exact fin_B OB7.out
                        · exact fin_below RX7.out.bel
            case neg =>
              obtain rfl : k = bs.length := by omega
              have hpos : PosB bs ⟨bx, bk, bq⟩ bs.length := pos_is HOK.out.bu hk4 hn.out (fun a ha => by have := (List.getElem?_eq_some_iff.1 ha).1; omega)
              have HP : Hid (posB bs ⟨bx, bk, bq⟩ = bs.length) := posB_of hpos
              have HNO : Hid (¬ hasB bs ⟨bx, bk, bq⟩) := fun hh => by
                obtain ⟨a, ha, _⟩ := (foundB HOK.out.bu hpos).2 hh
                have := (List.getElem?_eq_some_iff.1 ha).1
                omega
              have hd : decide ((bs.length : Int) < (bs.length : Int)) = false := by simp
              clear hpos B0 B1 B2
              go_wp2
              refine qi.region_in wr (qi.T.refl wr) (by kernel_rfl) (by kernel_rfl) ?_
              repeat (go_big_quiet_step (first | (go_at_call 44; fail)))
              refine wpQuiet_nil ?_
              rintro _ ⟨N, rfl⟩
              have hN : Below wr.heap.size wr N.x := N.h
              generalize N.x = wN at hN ⊢
              clear N Y1
              have RXn : Hid (RX w es bs a0 (some ⟨kb, 0, none⟩) ec bc w1.heap.size (.slice (some ⟨g1, 0, none⟩) es.length c1) (.slice (some ⟨h1, 0, none⟩) bs.length c2) wN) := RXr.out.on hN
              have OEn : Hid (OE w wN g1 c1 es) := OEr.out.on hN
              have OBn : Hid (OB w wN h1 c2 bs) := OBr.out.on hN
              have HBn : Hid (RB wN kb bs) := HBr.out.below hN
              have HXn : Hid (wN.heap[n9]? = some (.cells #[.string bx, .string bk, .string bq] 45 (0, 0))) := bstay HXr.out hN (Array.getElem?_eq_some_iff.1 HXr.out).1
              have Y1 := fun N : qi.Cls wN => (Below.cell N.h (p := ⟨w.heap.size, 1, none⟩) (show w.heap.size < wN.heap.size by have := RXn.out.size; omega)).trans (bcell RXn.out.box (show _ = some (.slice (some ⟨kb, 0, none⟩) bs.length bc) from rfl))
              clear hN RXr OEr OBr HBr HXr
              go_wp2
              refine qi.region_in wN (qi.T.refl wN) (by kernel_rfl) (by kernel_rfl) ?_
              repeat (go_big_quiet_step (fail))
              refine wpQuiet_nil ?_
              rintro _ ⟨N, rfl⟩
              have hN : Below wN.heap.size wN N.x := N.h
              generalize N.x = wM at hN ⊢
              clear N Y1
              have RXm : Hid (RX w es bs a0 (some ⟨kb, 0, none⟩) ec bc w1.heap.size (.slice (some ⟨g1, 0, none⟩) es.length c1) (.slice (some ⟨h1, 0, none⟩) bs.length c2) wM) := RXn.out.on hN
              have OEm : Hid (OE w wM g1 c1 es) := OEn.out.on hN
              have OBm : Hid (OB w wM h1 c2 bs) := OBn.out.on hN
              have HBm : Hid (RB wM kb bs) := HBn.out.below hN
              have HXm : Hid (wM.heap[n9]? = some (.cells #[.string bx, .string bk, .string bq] 45 (0, 0))) := bstay HXn.out hN (Array.getElem?_eq_some_iff.1 HXn.out).1
              clear RXn OEn OBn HBn HXn hN
              obtain ⟨i0, hi, hz0, hz1, hz2⟩ := su.infoB
              have hn9 : n9 ≠ w1.heap.size := fun e => by
                have h1 := HXm.out
                rw [e, RXm.out.out] at h1
                simp at h1
              go_wp2
              refine dk.region_gsets (ws w.heap.size bs.length bc kb w1.heap.size bs.length (off bs.length bc) bx bk bq) [70, 71, 72, 73, 74, 75, 76, 77, 78, 79, 80, 81, 82, 83, 84] (ta.C ⟨wM, 45, 3, (bs.take bs.length).flatMap cB, [.string bx, .string bk, .string bq], (bs.drop bs.length).flatMap cB, bs.length, bs.length - bs.length, w1.heap.size, 1⟩ J0) ⟨0, .slice none 0 0, 0, .slice none 0 0, .slice none 0 0⟩ (by kernel_rfl) (by kernel_rfl) (fun _ => rfl) (by kernel_rfl) (ta.start _ _ _) ?each ?fin
              case each =>
                refine ⟨ta.st0 (x := J0) (d := 70) (idx := 0) J0_up (by simp) rfl (by simp) (fun g => rfl) (fun g => rfl) (fun g e => rfl) (fun s W => by simp [execOp, go_sem]), ?_⟩
                refine ⟨ta.quiet (by decide) (by simp) (.pointer (some ⟨w.heap.size, 1, none⟩)) (by rintro s _ ⟨⟩; exact dk.sets_on _ (by simp) _ rfl) (fun s W h => by simp [execOp, go_sem, Act.eval, dk.sets_get, ws, List.lookup]), ?_⟩
                refine ⟨ta.quiet (by decide) (by simp) (.slice (some ⟨kb, 0, none⟩) bs.length bc) (by rintro s _ ⟨⟩; exact dk.sets_on _ (by simp) _ rfl) (fun s W h => by have c : W.cell? ⟨w.heap.size, 1, none⟩ = some (.slice (some ⟨kb, 0, none⟩) bs.length bc) := bcell (h _ _ RXm.out.box (by have := RXm.out.h8; show w.heap.size ≠ w1.heap.size; omega)) rfl; simp [execOp, go_sem, Act.eval, dk.sets_get, ws, List.lookup, c]), ?_⟩
                refine ⟨ta.quiet (by decide) (by simp) (.int .i64 bs.length) (by rintro s _ ⟨⟩; exact dk.sets_on _ (by simp) _ rfl) (fun s W h => by simp [execOp, go_sem, Act.eval, dk.sets_get, ws, List.lookup]), ?_⟩
                refine ⟨ta.quiet (by decide) (by simp) (.slice (some ⟨kb, 0, none⟩) bs.length bc) (by rintro s _ ⟨⟩; exact dk.sets_on _ (by simp) _ rfl) (fun s W h => by simp [execOp, go_sem, Act.eval, dk.sets_get, ws, List.lookup, hcap]), ?_⟩
                refine ⟨ta.st1 (x := J0) (d := 75) (s1 := 70) (s2 := 74) (idx := 5) (c := bc) (a := ⟨kb, 0, none⟩) J0_up Tryz.underlying25 hi hz0 hz1 hz2 rfl (by show 0 < 3; decide) rfl rfl ⟨by simp, by simp, by simp⟩ (fun g => rfl) (fun g => rfl) (fun g => rfl) (fun g => rfl) (fun g v => rfl) (by show ((bs.take bs.length).flatMap cB).length = bs.length * 3; rw [flat_len cB_len, List.length_take]; congr 1; omega) (fun W hb => news_take (newsB (HBm.out.below hb)) bs.length) (oneB _) (by show bs.length ≤ 1048576; omega) (by show (0 + bs.length) * 48 ≤ 140737488355328; omega) ⟨⟨0, .data⟩, by simp, rfl, rfl⟩, ?_⟩
                refine ⟨ta.quiet (by decide) (by simp) (.agg #[.string bx, .string bk, .string bq]) (by rintro s _ ⟨⟩; exact dk.sets_on _ (by simp) _ rfl) (fun s W h => by have hu := h _ _ HXm.out (by show n9 ≠ w1.heap.size; exact hn9); have d0 : W.cell? ⟨n9, 0, none⟩ = some (.string bx) := bcell hu rfl; have d1 : W.cell? ⟨n9, 1, none⟩ = some (.string bk) := bcell hu rfl; have d2 : W.cell? ⟨n9, 2, none⟩ = some (.string bq) := bcell hu rfl; simp [execOp, go_sem, Act.eval, dk.sets_get, ws, List.lookup, d0, d1, d2]), ?_⟩
                refine ⟨ta.st2 (x := J0) (d := 77) (idx := 7) J0_up (by simp) rfl (by simp) (fun g => rfl) (fun g => rfl) (fun g e => rfl) (fun s W => by simp [execOp, go_sem, Act.eval, dk.sets_get, ws, List.lookup]), ?_⟩
                refine ⟨ta.st3 (x := J0) (d := 78) (s1 := 75) (s2 := 77) (idx := 8) J0_up Tryz.underlying25 hi hz0 hz1 hz2 rfl (by show 0 < 3; decide) rfl rfl ⟨by simp, by simp, by simp⟩ (fun g => rfl) (fun g => rfl) (fun g => rfl) (fun g => rfl) (fun g v => rfl) rfl (by intro u hu; simp at hu; rcases hu with rfl | rfl | rfl <;> rfl) (by show bs.length ≤ 1048576; omega) (by show (bs.length + 1) * 48 ≤ 140737488355328; omega) ⟨⟨5, .data⟩, by simp, rfl, rfl⟩ ⟨⟨7, .data⟩, by simp, rfl, rfl⟩, ?_⟩
                refine ⟨ta.quiet (by decide) (by simp) (.pointer (some ⟨w.heap.size, 1, none⟩)) (by rintro s _ ⟨⟩; exact dk.sets_on _ (by simp) _ rfl) (fun s W h => by simp [execOp, go_sem, Act.eval, dk.sets_get, ws, List.lookup]), ?_⟩
                refine ⟨ta.quiet (by decide) (by simp) (.slice (some ⟨kb, 0, none⟩) bs.length bc) (by rintro s _ ⟨⟩; exact dk.sets_on _ (by simp) _ rfl) (fun s W h => by have c : W.cell? ⟨w.heap.size, 1, none⟩ = some (.slice (some ⟨kb, 0, none⟩) bs.length bc) := bcell (h _ _ RXm.out.box (by have := RXm.out.h8; show w.heap.size ≠ w1.heap.size; omega)) rfl; simp [execOp, go_sem, Act.eval, dk.sets_get, ws, List.lookup, c]), ?_⟩
                refine ⟨ta.quiet (by decide) (by simp) (.int .i64 bs.length) (by rintro s _ ⟨⟩; exact dk.sets_on _ (by simp) _ rfl) (fun s W h => by simp [execOp, go_sem, Act.eval, dk.sets_get, ws, List.lookup]), ?_⟩
                refine ⟨ta.quiet (by decide) (by simp) (.slice (some ⟨kb, off bs.length bc, none⟩) (bs.length - bs.length) (bc - bs.length)) (by rintro s _ ⟨⟩; exact dk.sets_on _ (by simp) _ rfl) (fun s W h => match Nat.lt_or_ge bs.length bc with | .inl hlt => (by have hne : ¬ bs.length = bc := Nat.ne_of_lt hlt; have hne2 : ¬ bc = bs.length := (fun e => hne e.symm); simp [execOp, go_sem, Act.eval, dk.sets_get, ws, List.lookup, off, hne, hne2]) | .inr hge => (by have hee : bs.length = bc := Nat.le_antisymm hkc hge; simp [execOp, go_sem, Act.eval, dk.sets_get, ws, List.lookup, off, hee])), ?_⟩
                refine ⟨ta.st4 (x := J0) (d := 83) (s1 := 78) (s2 := 82) (idx := 13) (c := bc - bs.length) (a := ⟨kb, off bs.length bc, none⟩) J0_up Tryz.underlying25 hi hz0 hz1 hz2 rfl (by show 0 < 3; decide) rfl rfl ⟨by simp, by simp, by simp⟩ (fun g => rfl) (fun g => rfl) (fun g => rfl) (fun g => rfl) (fun g v => rfl) (by show ((bs.drop bs.length).flatMap cB).length = (bs.length - bs.length) * 3; rw [flat_len cB_len, List.length_drop]) (fun W hb => newsOff (HBm.out.below hb) (by omega) hcap) (oneB _) (by show bs.length ≤ 1048576 ∧ bs.length - bs.length ≤ 1048576; omega) (by show (bs.length + 1 + (bs.length - bs.length)) * 48 ≤ 140737488355328; omega) ⟨⟨8, .data⟩, by simp, rfl, rfl⟩, ?_⟩
                refine ⟨ta.quiet (by decide) (by simp) (.pointer (some ⟨w1.heap.size, 1, none⟩)) (by rintro s _ ⟨⟩; exact dk.sets_on _ (by simp) _ rfl) (fun s W h => by simp [execOp, go_sem, Act.eval, dk.sets_get, ws, List.lookup]), ?_⟩
                exact ⟨ta.st5 (x := J0) J0_up (by simp) rfl RXm.out.n8lt (fun s W h hv => by obtain ⟨av, nv, cv, hv⟩ := hv; have hu := h _ _ RXm.out.out; have c : W.cell? ⟨w1.heap.size, 1, none⟩ = some (.slice (some ⟨h1, 0, none⟩) bs.length c2) := bcell hu rfl; have f := bfree hu 1; rw [hv]; simp [execOp, go_sem, Act.eval, dk.sets_get, ws, List.lookup, c, f, hv]) ⟨⟨13, .data⟩, by simp, rfl, rfl⟩, trivial⟩
              case fin =>
                intro g L W hL hC
                obtain ⟨V, hV, hWV, hown⟩ := ta.done hC J0_up (N := 16) (by decide) hL
                replace hown : W.ownsRow wM.heap.size 45 3 g.v3 (bs.length + 1 + (bs.length - bs.length)) ((bs.take bs.length).flatMap cB ++ [.string bx, .string bk, .string bq] ++ (bs.drop bs.length).flatMap cB) := hown
                have hlen : bs.length + 1 + (bs.length - bs.length) = (insB bs ⟨bx, bk, bq⟩).length := by rw [insB_len]; omega
                rw [ins_flat HP.out, hlen] at hown
                obtain ⟨g5, c5, hv3⟩ := form_pos hown (by rw [insB_len]; omega)
                rw [hv3] at hown hWV
                replace hV : Below wM.heap.size wM V := hV
                replace hWV : W = V.setCell ⟨w1.heap.size, 1, none⟩ (.slice (some ⟨g5, 0, none⟩) (insB bs ⟨bx, bk, bq⟩).length c5) := hWV
                have RX5 : Hid (RX w es bs a0 (some ⟨kb, 0, none⟩) ec bc w1.heap.size (.slice (some ⟨g1, 0, none⟩) es.length c1) (.slice (some ⟨g5, 0, none⟩) (insB bs ⟨bx, bk, bq⟩).length c5) W) := by rw [hWV]; exact (RXm.out.on hV).put1 _
                have OE5 : Hid (OE w W g1 c1 es) := by rw [hWV]; exact (OEm.out.on hV).put (RXm.out.on hV) 1 _
                have hsz3 := RXm.out.size
                have OB5 : Hid (OB w W g5 c5 (insB bs ⟨bx, bk, bq⟩)) := own_low hown hsz3
                have hok5 := rk.spec_routes es (insB bs ⟨bx, bk, bq⟩) g1 c1 g5 c5 W hel (by rw [insB_len]; omega) HES.out (ins_small HBS.out ⟨hx, hk, hq⟩) OE5.out.re OB5.out.rb _ _ (own_nq _ _ _) (own_nq _ _ _)
                have o0 : W.cell? ⟨w1.heap.size, 0, none⟩ = some (.slice (some ⟨g1, 0, none⟩) es.length c1) := bcell RX5.out.out rfl
                have o1 : W.cell? ⟨w1.heap.size, 1, none⟩ = some (.slice (some ⟨g5, 0, none⟩) (insB bs ⟨bx, bk, bq⟩).length c5) := bcell RX5.out.out rfl
                obtain ⟨n5, hn5⟩ : ∃ n5, (insB bs ⟨bx, bk, bq⟩).length = n5 := ⟨_, rfl⟩
                have HN5 : Hid ((insB bs ⟨bx, bk, bq⟩).length = n5) := hn5
                rw [hn5] at hok5 o1 RX5
                rw [hn5] at hv3
                simp only [dk.sets, ws, hv3]
                clear hC hL hV hWV hown hlen hv3 hn5 RXm OEm OBm HBm HXm
                go_wp2_with (go_at_call 17; fail)
                clear o0 o1
                refine hok5.mono ?_
                rintro e w6 ⟨⟨bo, rfl, hbo⟩, hb6⟩
                have RX6 : Hid (RX w es bs a0 (some ⟨kb, 0, none⟩) ec bc w1.heap.size (.slice (some ⟨g1, 0, none⟩) es.length c1) (.slice (some ⟨g5, 0, none⟩) n5 c5) w6) := RX5.out.on hb6
                have OE6 : Hid (OE w w6 g1 c1 es) := OE5.out.on hb6
                have OB6 : Hid (OB w w6 g5 c5 (insB bs ⟨bx, bk, bq⟩)) := OB5.out.on hb6
                clear hok5 RX5 OE5 OB5 hb6
                by_cases hok2 : OkR es (insB bs ⟨bx, bk, bq⟩)
                case pos =>
                  obtain rfl : bo = true := hbo.2 hok2
                  have HA : Hid (insB bs ⟨bx, bk, bq⟩ = AN) := (put HOK.out HNO.out hok2).1.symm.trans HAN.out
                  have HR : Hid (true = rt) := (put HOK.out HNO.out hok2).2.symm.trans HRT.out
                  clear hbo hok2
                  have n0 : w6.cell? ⟨w1.heap.size, 0, none⟩ = some (.slice (some ⟨g1, 0, none⟩) es.length c1) := bcell RX6.out.out rfl
                  have n1 : w6.cell? ⟨w1.heap.size, 1, none⟩ = some (.slice (some ⟨g5, 0, none⟩) n5 c5) := bcell RX6.out.out rfl
                  have z0 : w6.cell? ⟨w.heap.size + 1, 0, none⟩ = some (.slice none 0 0) := bcell RX6.out.res rfl
                  have z1 : w6.cell? ⟨w.heap.size + 1, 1, none⟩ = some (.slice none 0 0) := bcell RX6.out.res rfl
                  have z0f := bfree RX6.out.res 0
                  have z1f := bfree RX6.out.res 1
                  go_wp2
                  refine bodyPost_ret (v := .tuple #[.agg #[.slice (some ⟨g1, 0, none⟩) es.length c1, .slice (some ⟨g5, 0, none⟩) n5 c5], .bool true]) (by simp [results, Tryz.results10, go_sem, z0, z1]) rfl ⟨some ⟨g1, 0, none⟩, some ⟨g5, 0, none⟩, c1, c5, by rw [← HA.out, HN5.out, HR.out], ?_, ?_, ?_⟩
                  · exact fin_E OE6.out
                  · rw [← HA.out]; exact fin_B OB6.out
                  · exact fin_below RX6.out.bel
                case neg =>
                  obtain rfl : bo = false := by
                    cases bo with
                    | false => rfl
                    | true => exact absurd (hbo.1 rfl) hok2
                  have HA : Hid (bs = AN) := (over HOK.out HNO.out hok2).1.symm.trans HAN.out
                  have HR : Hid (false = rt) := (over HOK.out HNO.out hok2).2.symm.trans HRT.out
                  have hc6 := sc.spec_copy es bs a0 (some ⟨kb, 0, none⟩) ec bc w6 hel hbl (HE.out.below RX6.out.bel) (HB.out.below RX6.out.bel) hna (own_nq _ _ _)
                  have x0 : w6.cell? ⟨w.heap.size, 0, none⟩ = some (.slice a0 es.length ec) := bcell RX6.out.box rfl
                  have x1 : w6.cell? ⟨w.heap.size, 1, none⟩ = some (.slice (some ⟨kb, 0, none⟩) bs.length bc) := bcell RX6.out.box rfl
                  clear hbo hok2
                  go_wp2_with (go_at_call 42; fail)
                  refine hc6.mono ?_
                  rintro e w7 ⟨g7, c7, h7, d7, rfl, oe7, ob7, hb7⟩
                  have hsz6 := RX6.out.size
                  have RX7 : Hid (RX w es bs a0 (some ⟨kb, 0, none⟩) ec bc w1.heap.size (.slice (some ⟨g1, 0, none⟩) es.length c1) (.slice (some ⟨g5, 0, none⟩) n5 c5) w7) := RX6.out.on hb7
                  have OE7 : Hid (OE w w7 g7 c7 es) := own_low oe7 (by omega)
                  have OB7 : Hid (OB w w7 h7 d7 bs) := own_low ob7 (by omega)
                  clear hc6 oe7 ob7 hb7 x0 x1
                  have z0 : w7.cell? ⟨w.heap.size + 1, 0, none⟩ = some (.slice none 0 0) := bcell RX7.out.res rfl
                  have z1 : w7.cell? ⟨w.heap.size + 1, 1, none⟩ = some (.slice none 0 0) := bcell RX7.out.res rfl
                  have z0f := bfree RX7.out.res 0
                  have z1f := bfree RX7.out.res 1
                  go_wp2
                  refine bodyPost_ret (v := .tuple #[.agg #[.slice (some ⟨g7, 0, none⟩) es.length c7, .slice (some ⟨h7, 0, none⟩) bs.length d7], .bool false]) (by simp [results, Tryz.results10, go_sem, z0, z1]) rfl ⟨some ⟨g7, 0, none⟩, some ⟨h7, 0, none⟩, c7, d7, by rw [← HA.out, HR.out], ?_, ?_, ?_⟩
                  · exact fin_E OE7.out
                  · rw [← HA.out]; exact fin_B OB7.out
                  · exact fin_below RX7.out.bel
end Go.Proofs.YtnooibeohdfcmaaGreatDoor.bsp

/- The specification's Bind where the list that grows is nothing at all. -/
namespace Go.Proofs.YtnooibeohdfcmaaGreatDoor.bsp
open Go.ChangeShapes Go.WideShapes Go.ChangeAt Go.RowKit Go.Proofs.YtnooibeohdfcmaaGreatDoor.rc Go.Proofs.YtnooibeohdfcmaaGreatDoor.rr Go.Proofs.YtnooibeohdfcmaaGreatDoor.ra Go.Proofs.YtnooibeohdfcmaaGreatDoor.rt Go.Proofs.YtnooibeohdfcmaaGreatDoor.rs Go.Proofs.YtnooibeohdfcmaaGreatDoor.ro Go.Proofs.YtnooibeohdfcmaaGreatDoor.fl Go.Proofs.YtnooibeohdfcmaaGreatDoor.su Go.Proofs.YtnooibeohdfcmaaGreatDoor.bp Go.Proofs.YtnooibeohdfcmaaGreatDoor.rwy
set_option linter.unusedVariables false

def wsN (s n n8 k : Nat) (x y z : ByteArray) (g : ta.G) : List (Nat × Value) := [(70, .slice (some ⟨g.e0, 0, none⟩) 0 0), (71, .pointer (some ⟨s, 1, none⟩)), (72, .slice none n 0), (73, .int .i64 k), (74, .slice none k 0), (75, g.v1), (76, .agg #[.string x, .string y, .string z]), (77, .slice (some ⟨g.h, 0, none⟩) 1 1), (78, g.v2), (79, .pointer (some ⟨s, 1, none⟩)), (80, .slice none n 0), (81, .int .i64 k), (82, .slice none (n - k) 0), (83, g.v3), (84, .pointer (some ⟨n8, 1, none⟩))]
set_option maxRecDepth 100000 in
set_option maxHeartbeats 4000000 in
theorem spec_bindN (es : List Ex) (bs : List Bi) (a0 : Option Addr) (ec ka kb : Nat) (bx bk bq : ByteArray) (w : World) (hel : es.length ≤ 1048576) (hbl : bs.length ≤ 1048576) (hes : ∀ e ∈ es, e.n.size ≤ 1048576) (hbs : ∀ b ∈ bs, b.x.size ≤ 1048576 ∧ b.k.size ≤ 1048576 ∧ b.q.size ≤ 1048576) (hx : bx.size ≤ 1048576) (hk : bk.size ≤ 1048576) (hq : bq.size ≤ 1048576) (hE : RE w ka es) (hB : RB w kb bs) (hnil : Hid (bs.length = 0)) (hna : Hid (apa.NQ a0 ⟨ka, 0, none⟩ es.length ec)) :
    Calls Tryz.prog 10 #[.agg #[.slice a0 es.length ec, .slice none bs.length 0], .string bx, .string bk, .string bq] w fun r w' => ∃ ea ba ce cb, r = .returned (.tuple #[.agg #[.slice ea es.length ce, .slice ba (ansB es bs ⟨bx, bk, bq⟩).length cb], .bool (retB es bs ⟨bx, bk, bq⟩)]) ∧ OA w' (w.heap.size + 2) ea ce es ∧ OC w' (w.heap.size + 2) ba cb (ansB es bs ⟨bx, bk, bq⟩) ∧ Below w.heap.size w w' := by
  have hWb := first_below w es bs a0 none ec 0
  have hW2 := first2 w es bs a0 none ec 0
  have hcopy := sc.spec_copy es bs a0 none ec 0 _ hel hbl (hE.below hWb) (hB.below hWb) hna (nil_nq _ hnil.out)
  have HE : Hid (RE w ka es) := hE
  have HB : Hid (RB w kb bs) := hB
  have HES : Hid (∀ e ∈ es, e.n.size ≤ 1048576) := hes
  have HBS : Hid (∀ b ∈ bs, b.x.size ≤ 1048576 ∧ b.k.size ≤ 1048576 ∧ b.q.size ≤ 1048576) := hbs
  obtain ⟨AN, hAN⟩ : ∃ AN, ansB es bs ⟨bx, bk, bq⟩ = AN := ⟨_, rfl⟩
  obtain ⟨rt, hrt⟩ : ∃ rt, retB es bs ⟨bx, bk, bq⟩ = rt := ⟨_, rfl⟩
  have HAN : Hid (ansB es bs ⟨bx, bk, bq⟩ = AN) := hAN
  have HRT : Hid (retB es bs ⟨bx, bk, bq⟩ = rt) := hrt
  simp only [hAN, hrt]
  clear hE hB hes hbs hAN hrt hWb
  go_enter Tryz.func10, Tryz.ntmps10
  go_wp2_with (go_at_call 42; fail)
  refine hcopy.mono ?_
  rintro e w1 ⟨g1, c1, h1, c2, rfl, oe1, ob1, hb1⟩
  obtain ⟨hrx, hoe, hob⟩ := first_out w w1 es bs a0 none ec 0 g1 c1 h1 c2 hb1 (by rw [hW2]; omega) oe1 ob1
  obtain ⟨X, hX⟩ : ∃ X, w1.alloc (.cells #[.slice (some ⟨g1, 0, none⟩) es.length c1, .slice (some ⟨h1, 0, none⟩) bs.length c2] 27) = X := ⟨_, rfl⟩
  rw [hX] at hrx hoe hob
  have x0 : X.cell? ⟨w.heap.size, 0, none⟩ = some (.slice a0 es.length ec) := bcell hrx.box rfl
  have x1 : X.cell? ⟨w.heap.size, 1, none⟩ = some (.slice none bs.length 0) := bcell hrx.box rfl
  have hokc := rk.spec_routes es bs ka ec kb 0 X hel hbl HES.out HBS.out (HE.out.below hrx.bel) (HB.out.below hrx.bel) a0 none hna (nil_nq _ hnil.out)
  have RX1 : Hid (RX w es bs a0 none ec 0 w1.heap.size (.slice (some ⟨g1, 0, none⟩) es.length c1) (.slice (some ⟨h1, 0, none⟩) bs.length c2) X) := hrx
  have OE1 : Hid (OE w X g1 c1 es) := hoe
  have OB1 : Hid (OB w X h1 c2 bs) := hob
  clear hcopy oe1 ob1 hb1 hrx hoe hob hW2
  go_wp2_with (go_at_call 17; fail)
  clear hX x0 x1
  refine hokc.mono ?_
  rintro e w2 ⟨⟨bo, rfl, hbo⟩, hb2⟩
  have RX2 : Hid (RX w es bs a0 none ec 0 w1.heap.size (.slice (some ⟨g1, 0, none⟩) es.length c1) (.slice (some ⟨h1, 0, none⟩) bs.length c2) w2) := RX1.out.on hb2
  have OE2 : Hid (OE w w2 g1 c1 es) := OE1.out.on hb2
  have OB2 : Hid (OB w w2 h1 c2 bs) := OB1.out.on hb2
  clear hokc RX1 OE1 OB1 hb2
  by_cases hok : OkR es bs
  case neg =>
    obtain rfl : bo = false := by
      cases bo with
      | false => rfl
      | true => exact absurd (hbo.1 rfl) hok
    have HA : Hid (bs = AN) := (bad hok).1.symm.trans HAN.out
    have HR : Hid (false = rt) := (bad hok).2.symm.trans HRT.out
    clear hbo hok
    have n0 : w2.cell? ⟨w1.heap.size, 0, none⟩ = some (.slice (some ⟨g1, 0, none⟩) es.length c1) := bcell RX2.out.out rfl
    have n1 : w2.cell? ⟨w1.heap.size, 1, none⟩ = some (.slice (some ⟨h1, 0, none⟩) bs.length c2) := bcell RX2.out.out rfl
    have z0 : w2.cell? ⟨w.heap.size + 1, 0, none⟩ = some (.slice none 0 0) := bcell RX2.out.res rfl
    have z1 : w2.cell? ⟨w.heap.size + 1, 1, none⟩ = some (.slice none 0 0) := bcell RX2.out.res rfl
    have z0f := bfree RX2.out.res 0
    have z1f := bfree RX2.out.res 1
    go_wp2
    refine bodyPost_ret (v := .tuple #[.agg #[.slice (some ⟨g1, 0, none⟩) es.length c1, .slice (some ⟨h1, 0, none⟩) bs.length c2], .bool false]) (by simp [results, Tryz.results10, go_sem, z0, z1]) rfl ⟨some ⟨g1, 0, none⟩, some ⟨h1, 0, none⟩, c1, c2, by rw [← HA.out, HR.out], ?_, ?_, ?_⟩
    · exact fin_E OE2.out
    · rw [← HA.out]; exact fin_B OB2.out
    · exact fin_below RX2.out.bel
  case pos =>
    obtain rfl : bo = true := hbo.2 hok
    have HOK : Hid (OkR es bs) := hok
    have hbl4 := hok.bl
    have x0 : w2.cell? ⟨w.heap.size, 0, none⟩ = some (.slice a0 es.length ec) := bcell RX2.out.box rfl
    have x1 : w2.cell? ⟨w.heap.size, 1, none⟩ = some (.slice none bs.length 0) := bcell RX2.out.box rfl
    have hk3 := rr.spec_kind es ka ec none bs.length 0 bx w2 hel (HE.out.below RX2.out.bel) a0 hna
    clear hbo hok
    go_wp2_with (go_at_call 33; fail)
    refine hk3.mono ?_
    rintro e w3 ⟨rfl, hb3⟩
    have RX3 : Hid (RX w es bs a0 none ec 0 w1.heap.size (.slice (some ⟨g1, 0, none⟩) es.length c1) (.slice (some ⟨h1, 0, none⟩) bs.length c2) w3) := RX2.out.on hb3
    have OE3 : Hid (OE w w3 g1 c1 es) := OE2.out.on hb3
    have OB3 : Hid (OB w w3 h1 c2 bs) := OB2.out.on hb3
    have HKX : Hid (0 ≤ kindOf es bx ∨ ¬ 0 ≤ kindOf es bx) := by unfold Hid; omega
    obtain ⟨kk, hkk⟩ : ∃ kk, kindOf es bx = kk := ⟨_, rfl⟩
    rw [hkk]
    have HKK : Hid (kindOf es bx = kk) := hkk
    clear hk3 RX2 OE2 OB2 hb3 x0 x1 hkk HKX
    by_cases hneg : kk < 0
    case pos =>
      have hw : ¬ (0 ≤ kindOf es (Bi.mk bx bk bq).x ∧ ky.good (Bi.mk bx bk bq).k = true ∧ nm.good (Bi.mk bx bk bq).q = true) := fun h => by have h1 := h.1; have h2 : kindOf es bx = kk := HKK.out; simp only at h1; omega
      have HA : Hid (bs = AN) := (wrong HOK.out hw).1.symm.trans HAN.out
      have HR : Hid (false = rt) := (wrong HOK.out hw).2.symm.trans HRT.out
      clear hw
      have n0 : w3.cell? ⟨w1.heap.size, 0, none⟩ = some (.slice (some ⟨g1, 0, none⟩) es.length c1) := bcell RX3.out.out rfl
      have n1 : w3.cell? ⟨w1.heap.size, 1, none⟩ = some (.slice (some ⟨h1, 0, none⟩) bs.length c2) := bcell RX3.out.out rfl
      have z0 : w3.cell? ⟨w.heap.size + 1, 0, none⟩ = some (.slice none 0 0) := bcell RX3.out.res rfl
      have z1 : w3.cell? ⟨w.heap.size + 1, 1, none⟩ = some (.slice none 0 0) := bcell RX3.out.res rfl
      have z0f := bfree RX3.out.res 0
      have z1f := bfree RX3.out.res 1
      go_wp2
      refine bodyPost_ret (v := .tuple #[.agg #[.slice (some ⟨g1, 0, none⟩) es.length c1, .slice (some ⟨h1, 0, none⟩) bs.length c2], .bool false]) (by simp [results, Tryz.results10, go_sem, z0, z1]) rfl ⟨some ⟨g1, 0, none⟩, some ⟨h1, 0, none⟩, c1, c2, by rw [← HA.out, HR.out], ?_, ?_, ?_⟩
      · exact fin_E OE3.out
      · rw [← HA.out]; exact fin_B OB3.out
      · exact fin_below RX3.out.bel
    case neg =>
      have hkc := ky.spec_key bk w3 hk
      cases hg : ky.good bk with
      | false =>
        rw [hg] at hkc
        have hw : ¬ (0 ≤ kindOf es (Bi.mk bx bk bq).x ∧ ky.good (Bi.mk bx bk bq).k = true ∧ nm.good (Bi.mk bx bk bq).q = true) := fun h => by have h1 := h.2.1; simp only at h1; rw [hg] at h1; cases h1
        have HA : Hid (bs = AN) := (wrong HOK.out hw).1.symm.trans HAN.out
        have HR : Hid (false = rt) := (wrong HOK.out hw).2.symm.trans HRT.out
        clear hw
        go_wp2_with (go_at_call 32; fail)
        refine hkc.mono ?_
        rintro e w4 ⟨rfl, hw4⟩
        obtain rfl := hw4
        clear hkc hg
        have n0 : w3.cell? ⟨w1.heap.size, 0, none⟩ = some (.slice (some ⟨g1, 0, none⟩) es.length c1) := bcell RX3.out.out rfl
        have n1 : w3.cell? ⟨w1.heap.size, 1, none⟩ = some (.slice (some ⟨h1, 0, none⟩) bs.length c2) := bcell RX3.out.out rfl
        have z0 : w3.cell? ⟨w.heap.size + 1, 0, none⟩ = some (.slice none 0 0) := bcell RX3.out.res rfl
        have z1 : w3.cell? ⟨w.heap.size + 1, 1, none⟩ = some (.slice none 0 0) := bcell RX3.out.res rfl
        have z0f := bfree RX3.out.res 0
        have z1f := bfree RX3.out.res 1
        go_wp2
        refine bodyPost_ret (v := .tuple #[.agg #[.slice (some ⟨g1, 0, none⟩) es.length c1, .slice (some ⟨h1, 0, none⟩) bs.length c2], .bool false]) (by simp [results, Tryz.results10, go_sem, z0, z1]) rfl ⟨some ⟨g1, 0, none⟩, some ⟨h1, 0, none⟩, c1, c2, by rw [← HA.out, HR.out], ?_, ?_, ?_⟩
        · exact fin_E OE3.out
        · rw [← HA.out]; exact fin_B OB3.out
        · exact fin_below RX3.out.bel
      | true =>
        rw [hg] at hkc
        go_wp2_with (go_at_call 32; fail)
        refine hkc.mono ?_
        rintro e w4 ⟨rfl, hw4⟩
        obtain rfl := hw4
        clear hkc
        have hnc := nm.spec_name bq w3 hq
        cases hg2 : nm.good bq with
        | false =>
          rw [hg2] at hnc
          have hw : ¬ (0 ≤ kindOf es (Bi.mk bx bk bq).x ∧ ky.good (Bi.mk bx bk bq).k = true ∧ nm.good (Bi.mk bx bk bq).q = true) := fun h => by have h1 := h.2.2; simp only at h1; rw [hg2] at h1; cases h1
          have HA : Hid (bs = AN) := (wrong HOK.out hw).1.symm.trans HAN.out
          have HR : Hid (false = rt) := (wrong HOK.out hw).2.symm.trans HRT.out
          clear hw
          go_wp2_with (go_at_call 43; fail)
          refine hnc.mono ?_
          rintro e w4 ⟨rfl, hw4⟩
          obtain rfl := hw4
          clear hnc hg hg2
          have n0 : w3.cell? ⟨w1.heap.size, 0, none⟩ = some (.slice (some ⟨g1, 0, none⟩) es.length c1) := bcell RX3.out.out rfl
          have n1 : w3.cell? ⟨w1.heap.size, 1, none⟩ = some (.slice (some ⟨h1, 0, none⟩) bs.length c2) := bcell RX3.out.out rfl
          have z0 : w3.cell? ⟨w.heap.size + 1, 0, none⟩ = some (.slice none 0 0) := bcell RX3.out.res rfl
          have z1 : w3.cell? ⟨w.heap.size + 1, 1, none⟩ = some (.slice none 0 0) := bcell RX3.out.res rfl
          have z0f := bfree RX3.out.res 0
          have z1f := bfree RX3.out.res 1
          go_wp2
          refine bodyPost_ret (v := .tuple #[.agg #[.slice (some ⟨g1, 0, none⟩) es.length c1, .slice (some ⟨h1, 0, none⟩) bs.length c2], .bool false]) (by simp [results, Tryz.results10, go_sem, z0, z1]) rfl ⟨some ⟨g1, 0, none⟩, some ⟨h1, 0, none⟩, c1, c2, by rw [← HA.out, HR.out], ?_, ?_, ?_⟩
          · exact fin_E OE3.out
          · rw [← HA.out]; exact fin_B OB3.out
          · exact fin_below RX3.out.bel
        | true =>
          rw [hg2] at hnc
          go_wp2_with (go_at_call 43; fail)
          refine hnc.mono ?_
          rintro e w4 ⟨rfl, hw4⟩
          obtain rfl := hw4
          clear hnc hg hg2
          have hal4 : Below w3.heap.size w3 (w3.alloc (.cells #[.string bx, .string bk, .string bq] 45)) := (Below.refl _ _).alloc (Nat.le_refl _) _
          have hbx := bnew w3 #[.string bx, .string bk, .string bq] 45
          have hrx4 := RX3.out.on hal4
          have hoe4 := OE3.out.on hal4
          have hob4 := OB3.out.on hal4
          obtain ⟨n9, hn9⟩ : ∃ n9, w3.heap.size = n9 := ⟨_, rfl⟩
          rw [hn9] at hbx
          obtain ⟨W4, hW4⟩ : ∃ W4, w3.alloc (.cells #[.string bx, .string bk, .string bq] 45) = W4 := ⟨_, rfl⟩
          rw [hW4] at hrx4 hoe4 hob4 hbx
          have RX4 : Hid (RX w es bs a0 none ec 0 w1.heap.size (.slice (some ⟨g1, 0, none⟩) es.length c1) (.slice (some ⟨h1, 0, none⟩) bs.length c2) W4) := hrx4
          have OE4 : Hid (OE w W4 g1 c1 es) := hoe4
          have OB4 : Hid (OB w W4 h1 c2 bs) := hob4
          have HBX : Hid (W4.heap[n9]? = some (.cells #[.string bx, .string bk, .string bq] 45 (0, 0))) := hbx
          clear hal4 hrx4 hoe4 hob4 hbx RX3 OE3 OB3
          go_wp2
          clear hW4 hn9 hneg
          go_loopw [12] (fun v wr => ∃ k : Nat, k ≤ bs.length ∧ v = .int .i64 k ∧ Hid (∀ (i : Nat) a, i < k → bs[i]? = some a → before a ⟨bx, bk, bq⟩ = true) ∧ Below W4.heap.size W4 wr) (fun v _ => bs.length - (intOf v).toNat)
          case atStart => exact ⟨0, Nat.zero_le _, rfl, fun i a h => by omega, Below.refl _ _⟩
          case round =>
            obtain ⟨k, hk4, rfl, hn, hbel⟩ := hrel
            have hkc : k ≤ 0 := Nat.le_trans hk4 (Nat.le_of_eq hnil.out)
            have RXr : Hid (RX w es bs a0 none ec 0 w1.heap.size (.slice (some ⟨g1, 0, none⟩) es.length c1) (.slice (some ⟨h1, 0, none⟩) bs.length c2) wr) := RX4.out.on hbel
            have OEr : Hid (OE w wr g1 c1 es) := OE4.out.on hbel
            have OBr : Hid (OB w wr h1 c2 bs) := OB4.out.on hbel
            have HBr : Hid (RB wr kb bs) := HB.out.below RXr.out.bel
            have HXr : Hid (wr.heap[n9]? = some (.cells #[.string bx, .string bk, .string bq] 45 (0, 0))) := bstay HBX.out hbel (Array.getElem?_eq_some_iff.1 HBX.out).1
            have Y1 := fun N : qi.Cls wr => (Below.cell N.h (p := ⟨w.heap.size, 1, none⟩) (show w.heap.size < wr.heap.size by have := RXr.out.size; omega)).trans (bcell RXr.out.box (show _ = some (.slice none bs.length 0) from rfl))
            have B0 := fun N : qi.Cls wr => (Below.cell N.h (p := ⟨n9, 0, none⟩) (Array.getElem?_eq_some_iff.1 HXr.out).1).trans (bcell HXr.out (show _ = some (.string bx) from rfl))
            have B1 := fun N : qi.Cls wr => (Below.cell N.h (p := ⟨n9, 1, none⟩) (Array.getElem?_eq_some_iff.1 HXr.out).1).trans (bcell HXr.out (show _ = some (.string bk) from rfl))
            have B2 := fun N : qi.Cls wr => (Below.cell N.h (p := ⟨n9, 2, none⟩) (Array.getElem?_eq_some_iff.1 HXr.out).1).trans (bcell HXr.out (show _ = some (.string bq) from rfl))
            by_cases hkl : k < bs.length
            case pos => exact absurd hkl (by have := hnil.out; omega)
            case neg =>
              obtain rfl : k = bs.length := by omega
              have hpos : PosB bs ⟨bx, bk, bq⟩ bs.length := pos_is HOK.out.bu hk4 hn.out (fun a ha => by have := (List.getElem?_eq_some_iff.1 ha).1; omega)
              have HP : Hid (posB bs ⟨bx, bk, bq⟩ = bs.length) := posB_of hpos
              have HNO : Hid (¬ hasB bs ⟨bx, bk, bq⟩) := fun hh => by
                obtain ⟨a, ha, _⟩ := (foundB HOK.out.bu hpos).2 hh
                have := (List.getElem?_eq_some_iff.1 ha).1
                omega
              have hd : decide ((bs.length : Int) < (bs.length : Int)) = false := by simp
              clear hpos B0 B1 B2
              go_wp2
              refine qi.region_in wr (qi.T.refl wr) (by kernel_rfl) (by kernel_rfl) ?_
              repeat (go_big_quiet_step (first | (go_at_call 44; fail)))
              refine wpQuiet_nil ?_
              rintro _ ⟨N, rfl⟩
              have hN : Below wr.heap.size wr N.x := N.h
              generalize N.x = wN at hN ⊢
              clear N Y1
              have RXn : Hid (RX w es bs a0 none ec 0 w1.heap.size (.slice (some ⟨g1, 0, none⟩) es.length c1) (.slice (some ⟨h1, 0, none⟩) bs.length c2) wN) := RXr.out.on hN
              have OEn : Hid (OE w wN g1 c1 es) := OEr.out.on hN
              have OBn : Hid (OB w wN h1 c2 bs) := OBr.out.on hN
              have HBn : Hid (RB wN kb bs) := HBr.out.below hN
              have HXn : Hid (wN.heap[n9]? = some (.cells #[.string bx, .string bk, .string bq] 45 (0, 0))) := bstay HXr.out hN (Array.getElem?_eq_some_iff.1 HXr.out).1
              have Y1 := fun N : qi.Cls wN => (Below.cell N.h (p := ⟨w.heap.size, 1, none⟩) (show w.heap.size < wN.heap.size by have := RXn.out.size; omega)).trans (bcell RXn.out.box (show _ = some (.slice none bs.length 0) from rfl))
              clear hN RXr OEr OBr HBr HXr
              go_wp2
              refine qi.region_in wN (qi.T.refl wN) (by kernel_rfl) (by kernel_rfl) ?_
              repeat (go_big_quiet_step (fail))
              refine wpQuiet_nil ?_
              rintro _ ⟨N, rfl⟩
              have hN : Below wN.heap.size wN N.x := N.h
              generalize N.x = wM at hN ⊢
              clear N Y1
              have RXm : Hid (RX w es bs a0 none ec 0 w1.heap.size (.slice (some ⟨g1, 0, none⟩) es.length c1) (.slice (some ⟨h1, 0, none⟩) bs.length c2) wM) := RXn.out.on hN
              have OEm : Hid (OE w wM g1 c1 es) := OEn.out.on hN
              have OBm : Hid (OB w wM h1 c2 bs) := OBn.out.on hN
              have HBm : Hid (RB wM kb bs) := HBn.out.below hN
              have HXm : Hid (wM.heap[n9]? = some (.cells #[.string bx, .string bk, .string bq] 45 (0, 0))) := bstay HXn.out hN (Array.getElem?_eq_some_iff.1 HXn.out).1
              clear RXn OEn OBn HBn HXn hN
              obtain ⟨i0, hi, hz0, hz1, hz2⟩ := su.infoB
              have hn9 : n9 ≠ w1.heap.size := fun e => by
                have h1 := HXm.out
                rw [e, RXm.out.out] at h1
                simp at h1
              go_wp2
              refine dk.region_gsets (wsN w.heap.size bs.length w1.heap.size bs.length bx bk bq) [70, 71, 72, 73, 74, 75, 76, 77, 78, 79, 80, 81, 82, 83, 84] (ta.C ⟨wM, 45, 3, (bs.take bs.length).flatMap cB, [.string bx, .string bk, .string bq], (bs.drop bs.length).flatMap cB, bs.length, bs.length - bs.length, w1.heap.size, 1⟩ J0) ⟨0, .slice none 0 0, 0, .slice none 0 0, .slice none 0 0⟩ (by kernel_rfl) (by kernel_rfl) (fun _ => rfl) (by kernel_rfl) (ta.start _ _ _) ?each ?fin
              case each =>
                refine ⟨ta.st0 (x := J0) (d := 70) (idx := 0) J0_up (by simp) rfl (by simp) (fun g => rfl) (fun g => rfl) (fun g e => rfl) (fun s W => by simp [execOp, go_sem]), ?_⟩
                refine ⟨ta.quiet (by decide) (by simp) (.pointer (some ⟨w.heap.size, 1, none⟩)) (by rintro s _ ⟨⟩; exact dk.sets_on _ (by simp) _ rfl) (fun s W h => by simp [execOp, go_sem, Act.eval, dk.sets_get, wsN, List.lookup]), ?_⟩
                refine ⟨ta.quiet (by decide) (by simp) (.slice none bs.length 0) (by rintro s _ ⟨⟩; exact dk.sets_on _ (by simp) _ rfl) (fun s W h => by have c : W.cell? ⟨w.heap.size, 1, none⟩ = some (.slice none bs.length 0) := bcell (h _ _ RXm.out.box (by have := RXm.out.h8; show w.heap.size ≠ w1.heap.size; omega)) rfl; simp [execOp, go_sem, Act.eval, dk.sets_get, wsN, List.lookup, c]), ?_⟩
                refine ⟨ta.quiet (by decide) (by simp) (.int .i64 bs.length) (by rintro s _ ⟨⟩; exact dk.sets_on _ (by simp) _ rfl) (fun s W h => by simp [execOp, go_sem, Act.eval, dk.sets_get, wsN, List.lookup]), ?_⟩
                refine ⟨ta.quiet (by decide) (by simp) (.slice none bs.length 0) (by rintro s _ ⟨⟩; exact dk.sets_on _ (by simp) _ rfl) (fun s W h => by have h0 : bs.length = 0 := hnil.out; simp [execOp, go_sem, Act.eval, dk.sets_get, wsN, List.lookup, h0]), ?_⟩
                refine ⟨tan.st1 (x := J0) (d := 75) (s1 := 70) (s2 := 74) (idx := 5) J0_up Tryz.underlying25 hi rfl rfl ⟨by simp, by simp, by simp⟩ (fun g => rfl) (fun g => rfl) (fun g => rfl) (fun g => rfl) (fun g v => rfl) (hnil.out) (by show (bs.take bs.length).flatMap cB = []; rw [List.eq_nil_of_length_eq_zero hnil.out]; simp) ⟨⟨0, .data⟩, by simp, rfl, rfl⟩, ?_⟩
                refine ⟨ta.quiet (by decide) (by simp) (.agg #[.string bx, .string bk, .string bq]) (by rintro s _ ⟨⟩; exact dk.sets_on _ (by simp) _ rfl) (fun s W h => by have hu := h _ _ HXm.out (by show n9 ≠ w1.heap.size; exact hn9); have d0 : W.cell? ⟨n9, 0, none⟩ = some (.string bx) := bcell hu rfl; have d1 : W.cell? ⟨n9, 1, none⟩ = some (.string bk) := bcell hu rfl; have d2 : W.cell? ⟨n9, 2, none⟩ = some (.string bq) := bcell hu rfl; simp [execOp, go_sem, Act.eval, dk.sets_get, wsN, List.lookup, d0, d1, d2]), ?_⟩
                refine ⟨ta.st2 (x := J0) (d := 77) (idx := 7) J0_up (by simp) rfl (by simp) (fun g => rfl) (fun g => rfl) (fun g e => rfl) (fun s W => by simp [execOp, go_sem, Act.eval, dk.sets_get, wsN, List.lookup]), ?_⟩
                refine ⟨ta.st3 (x := J0) (d := 78) (s1 := 75) (s2 := 77) (idx := 8) J0_up Tryz.underlying25 hi hz0 hz1 hz2 rfl (by show 0 < 3; decide) rfl rfl ⟨by simp, by simp, by simp⟩ (fun g => rfl) (fun g => rfl) (fun g => rfl) (fun g => rfl) (fun g v => rfl) rfl (by intro u hu; simp at hu; rcases hu with rfl | rfl | rfl <;> rfl) (by show bs.length ≤ 1048576; omega) (by show (bs.length + 1) * 48 ≤ 140737488355328; omega) ⟨⟨5, .data⟩, by simp, rfl, rfl⟩ ⟨⟨7, .data⟩, by simp, rfl, rfl⟩, ?_⟩
                refine ⟨ta.quiet (by decide) (by simp) (.pointer (some ⟨w.heap.size, 1, none⟩)) (by rintro s _ ⟨⟩; exact dk.sets_on _ (by simp) _ rfl) (fun s W h => by simp [execOp, go_sem, Act.eval, dk.sets_get, wsN, List.lookup]), ?_⟩
                refine ⟨ta.quiet (by decide) (by simp) (.slice none bs.length 0) (by rintro s _ ⟨⟩; exact dk.sets_on _ (by simp) _ rfl) (fun s W h => by have c : W.cell? ⟨w.heap.size, 1, none⟩ = some (.slice none bs.length 0) := bcell (h _ _ RXm.out.box (by have := RXm.out.h8; show w.heap.size ≠ w1.heap.size; omega)) rfl; simp [execOp, go_sem, Act.eval, dk.sets_get, wsN, List.lookup, c]), ?_⟩
                refine ⟨ta.quiet (by decide) (by simp) (.int .i64 bs.length) (by rintro s _ ⟨⟩; exact dk.sets_on _ (by simp) _ rfl) (fun s W h => by simp [execOp, go_sem, Act.eval, dk.sets_get, wsN, List.lookup]), ?_⟩
                refine ⟨ta.quiet (by decide) (by simp) (.slice none (bs.length - bs.length) 0) (by rintro s _ ⟨⟩; exact dk.sets_on _ (by simp) _ rfl) (fun s W h => by have h0 : bs.length = 0 := hnil.out; simp [execOp, go_sem, Act.eval, dk.sets_get, wsN, List.lookup, h0]), ?_⟩
                refine ⟨tan.st4 (x := J0) (d := 83) (s1 := 78) (s2 := 82) (idx := 13) J0_up Tryz.underlying25 hi rfl rfl ⟨by simp, by simp, by simp⟩ (fun g => rfl) (fun g => rfl) (fun g => rfl) (fun g => rfl) (fun g v => rfl) (by show bs.length - bs.length = 0; have := hnil.out; omega) (by show (bs.drop bs.length).flatMap cB = []; rw [List.eq_nil_of_length_eq_zero hnil.out]; simp) ⟨⟨8, .data⟩, by simp, rfl, rfl⟩, ?_⟩
                refine ⟨ta.quiet (by decide) (by simp) (.pointer (some ⟨w1.heap.size, 1, none⟩)) (by rintro s _ ⟨⟩; exact dk.sets_on _ (by simp) _ rfl) (fun s W h => by simp [execOp, go_sem, Act.eval, dk.sets_get, wsN, List.lookup]), ?_⟩
                exact ⟨ta.st5 (x := J0) J0_up (by simp) rfl RXm.out.n8lt (fun s W h hv => by obtain ⟨av, nv, cv, hv⟩ := hv; have hu := h _ _ RXm.out.out; have c : W.cell? ⟨w1.heap.size, 1, none⟩ = some (.slice (some ⟨h1, 0, none⟩) bs.length c2) := bcell hu rfl; have f := bfree hu 1; rw [hv]; simp [execOp, go_sem, Act.eval, dk.sets_get, wsN, List.lookup, c, f, hv]) ⟨⟨13, .data⟩, by simp, rfl, rfl⟩, trivial⟩
              case fin =>
                intro g L W hL hC
                obtain ⟨V, hV, hWV, hown⟩ := ta.done hC J0_up (N := 16) (by decide) hL
                replace hown : W.ownsRow wM.heap.size 45 3 g.v3 (bs.length + 1 + (bs.length - bs.length)) ((bs.take bs.length).flatMap cB ++ [.string bx, .string bk, .string bq] ++ (bs.drop bs.length).flatMap cB) := hown
                have hlen : bs.length + 1 + (bs.length - bs.length) = (insB bs ⟨bx, bk, bq⟩).length := by rw [insB_len]; omega
                rw [ins_flat HP.out, hlen] at hown
                obtain ⟨g5, c5, hv3⟩ := form_pos hown (by rw [insB_len]; omega)
                rw [hv3] at hown hWV
                replace hV : Below wM.heap.size wM V := hV
                replace hWV : W = V.setCell ⟨w1.heap.size, 1, none⟩ (.slice (some ⟨g5, 0, none⟩) (insB bs ⟨bx, bk, bq⟩).length c5) := hWV
                have RX5 : Hid (RX w es bs a0 none ec 0 w1.heap.size (.slice (some ⟨g1, 0, none⟩) es.length c1) (.slice (some ⟨g5, 0, none⟩) (insB bs ⟨bx, bk, bq⟩).length c5) W) := by rw [hWV]; exact (RXm.out.on hV).put1 _
                have OE5 : Hid (OE w W g1 c1 es) := by rw [hWV]; exact (OEm.out.on hV).put (RXm.out.on hV) 1 _
                have hsz3 := RXm.out.size
                have OB5 : Hid (OB w W g5 c5 (insB bs ⟨bx, bk, bq⟩)) := own_low hown hsz3
                have hok5 := rk.spec_routes es (insB bs ⟨bx, bk, bq⟩) g1 c1 g5 c5 W hel (by rw [insB_len]; omega) HES.out (ins_small HBS.out ⟨hx, hk, hq⟩) OE5.out.re OB5.out.rb _ _ (own_nq _ _ _) (own_nq _ _ _)
                have o0 : W.cell? ⟨w1.heap.size, 0, none⟩ = some (.slice (some ⟨g1, 0, none⟩) es.length c1) := bcell RX5.out.out rfl
                have o1 : W.cell? ⟨w1.heap.size, 1, none⟩ = some (.slice (some ⟨g5, 0, none⟩) (insB bs ⟨bx, bk, bq⟩).length c5) := bcell RX5.out.out rfl
                obtain ⟨n5, hn5⟩ : ∃ n5, (insB bs ⟨bx, bk, bq⟩).length = n5 := ⟨_, rfl⟩
                have HN5 : Hid ((insB bs ⟨bx, bk, bq⟩).length = n5) := hn5
                rw [hn5] at hok5 o1 RX5
                rw [hn5] at hv3
                simp only [dk.sets, wsN, hv3]
                clear hC hL hV hWV hown hlen hv3 hn5 RXm OEm OBm HBm HXm
                go_wp2_with (go_at_call 17; fail)
                clear o0 o1
                refine hok5.mono ?_
                rintro e w6 ⟨⟨bo, rfl, hbo⟩, hb6⟩
                have RX6 : Hid (RX w es bs a0 none ec 0 w1.heap.size (.slice (some ⟨g1, 0, none⟩) es.length c1) (.slice (some ⟨g5, 0, none⟩) n5 c5) w6) := RX5.out.on hb6
                have OE6 : Hid (OE w w6 g1 c1 es) := OE5.out.on hb6
                have OB6 : Hid (OB w w6 g5 c5 (insB bs ⟨bx, bk, bq⟩)) := OB5.out.on hb6
                clear hok5 RX5 OE5 OB5 hb6
                by_cases hok2 : OkR es (insB bs ⟨bx, bk, bq⟩)
                case pos =>
                  obtain rfl : bo = true := hbo.2 hok2
                  have HA : Hid (insB bs ⟨bx, bk, bq⟩ = AN) := (put HOK.out HNO.out hok2).1.symm.trans HAN.out
                  have HR : Hid (true = rt) := (put HOK.out HNO.out hok2).2.symm.trans HRT.out
                  clear hbo hok2
                  have n0 : w6.cell? ⟨w1.heap.size, 0, none⟩ = some (.slice (some ⟨g1, 0, none⟩) es.length c1) := bcell RX6.out.out rfl
                  have n1 : w6.cell? ⟨w1.heap.size, 1, none⟩ = some (.slice (some ⟨g5, 0, none⟩) n5 c5) := bcell RX6.out.out rfl
                  have z0 : w6.cell? ⟨w.heap.size + 1, 0, none⟩ = some (.slice none 0 0) := bcell RX6.out.res rfl
                  have z1 : w6.cell? ⟨w.heap.size + 1, 1, none⟩ = some (.slice none 0 0) := bcell RX6.out.res rfl
                  have z0f := bfree RX6.out.res 0
                  have z1f := bfree RX6.out.res 1
                  go_wp2
                  refine bodyPost_ret (v := .tuple #[.agg #[.slice (some ⟨g1, 0, none⟩) es.length c1, .slice (some ⟨g5, 0, none⟩) n5 c5], .bool true]) (by simp [results, Tryz.results10, go_sem, z0, z1]) rfl ⟨some ⟨g1, 0, none⟩, some ⟨g5, 0, none⟩, c1, c5, by rw [← HA.out, HN5.out, HR.out], ?_, ?_, ?_⟩
                  · exact fin_E OE6.out
                  · rw [← HA.out]; exact fin_B OB6.out
                  · exact fin_below RX6.out.bel
                case neg =>
                  obtain rfl : bo = false := by
                    cases bo with
                    | false => rfl
                    | true => exact absurd (hbo.1 rfl) hok2
                  have HA : Hid (bs = AN) := (over HOK.out HNO.out hok2).1.symm.trans HAN.out
                  have HR : Hid (false = rt) := (over HOK.out HNO.out hok2).2.symm.trans HRT.out
                  have hc6 := sc.spec_copy es bs a0 none ec 0 w6 hel hbl (HE.out.below RX6.out.bel) (HB.out.below RX6.out.bel) hna (nil_nq _ hnil.out)
                  have x0 : w6.cell? ⟨w.heap.size, 0, none⟩ = some (.slice a0 es.length ec) := bcell RX6.out.box rfl
                  have x1 : w6.cell? ⟨w.heap.size, 1, none⟩ = some (.slice none bs.length 0) := bcell RX6.out.box rfl
                  clear hbo hok2
                  go_wp2_with (go_at_call 42; fail)
                  refine hc6.mono ?_
                  rintro e w7 ⟨g7, c7, h7, d7, rfl, oe7, ob7, hb7⟩
                  have hsz6 := RX6.out.size
                  have RX7 : Hid (RX w es bs a0 none ec 0 w1.heap.size (.slice (some ⟨g1, 0, none⟩) es.length c1) (.slice (some ⟨g5, 0, none⟩) n5 c5) w7) := RX6.out.on hb7
                  have OE7 : Hid (OE w w7 g7 c7 es) := own_low oe7 (by omega)
                  have OB7 : Hid (OB w w7 h7 d7 bs) := own_low ob7 (by omega)
                  clear hc6 oe7 ob7 hb7 x0 x1
                  have z0 : w7.cell? ⟨w.heap.size + 1, 0, none⟩ = some (.slice none 0 0) := bcell RX7.out.res rfl
                  have z1 : w7.cell? ⟨w.heap.size + 1, 1, none⟩ = some (.slice none 0 0) := bcell RX7.out.res rfl
                  have z0f := bfree RX7.out.res 0
                  have z1f := bfree RX7.out.res 1
                  go_wp2
                  refine bodyPost_ret (v := .tuple #[.agg #[.slice (some ⟨g7, 0, none⟩) es.length c7, .slice (some ⟨h7, 0, none⟩) bs.length d7], .bool false]) (by simp [results, Tryz.results10, go_sem, z0, z1]) rfl ⟨some ⟨g7, 0, none⟩, some ⟨h7, 0, none⟩, c7, d7, by rw [← HA.out, HR.out], ?_, ?_, ?_⟩
                  · exact fin_E OE7.out
                  · rw [← HA.out]; exact fin_B OB7.out
                  · exact fin_below RX7.out.bel
end Go.Proofs.YtnooibeohdfcmaaGreatDoor.bsp

/- Routes as they are drawn: their lists lie in rows of their own at or above a block, or nowhere; how great they are; the specification's functions at them. -/
namespace Go.Proofs.YtnooibeohdfcmaaGreatDoor.dlr
open Go.ChangeShapes Go.WideShapes Go.ChangeAt Go.RowKit Go.Proofs.YtnooibeohdfcmaaGreatDoor.fl Go.Proofs.YtnooibeohdfcmaaGreatDoor.dw Go.Proofs.YtnooibeohdfcmaaGreatDoor.rr Go.Proofs.YtnooibeohdfcmaaGreatDoor.ro Go.Proofs.YtnooibeohdfcmaaGreatDoor.su Go.Proofs.YtnooibeohdfcmaaGreatDoor.rwy
set_option linter.unusedVariables false

theorem owns_p {W W' : World} {B p k m : Nat} {T : TypeId} {v : Value} {xs : List Value} (h : W.ownsRow B T m v k xs) (hb : On p W W') (hp : p < B) : W'.ownsRow B T m v k xs := by
  refine h.kept hb ?_
  cases hv : v.ownBlock with
  | none => exact .inl rfl
  | some g =>
    right
    have := (h.lt g hv).1
    intro e
    have := Option.some.inj e
    omega
theorem owns_b {W W' : World} {B k m : Nat} {T : TypeId} {v : Value} {xs : List Value} (h : W.ownsRow B T m v k xs) (hb : Below W.heap.size W W') : W'.ownsRow B T m v k xs := by
  refine h.kept (row := none) ⟨hb.os, hb.tape, hb.output, hb.size, fun k hk _ => hb.block k hk⟩ ?_
  cases v.ownBlock with
  | none => exact .inl rfl
  | some g => exact .inr (by simp)
/-- their rows -/
structure Tr (B : Nat) (W : World) (es : List Ex) (bs : List Bi) (ea : Option Addr) (ec : Nat) (ba : Option Addr) (bc : Nat) : Prop where
  oe : OA W B ea ec es
  ob : OC W B ba bc bs
/-- as the contracts want them -/
structure Us (W : World) (es : List Ex) (bs : List Bi) (ea : Option Addr) (ec : Nat) (ba : Option Addr) (bc : Nat) : Prop where
  he : ∃ k, RE W k es ∧ apa.NQ ea ⟨k, 0, none⟩ es.length ec
  hb : ∃ k, RB W k bs ∧ apa.NQ ba ⟨k, 0, none⟩ bs.length bc
  ce : es.length ≤ ec
  cb : bs.length ≤ bc
section
variable {B p : Nat} {W W' : World} {es : List Ex} {bs : List Bi} {ea ba : Option Addr} {ec bc : Nat}
theorem Tr.on (h : Tr B W es bs ea ec ba bc) (hb : On p W W') (hp : p < B) : Tr B W' es bs ea ec ba bc := ⟨owns_p h.oe hb hp, owns_p h.ob hb hp⟩
theorem Tr.below (h : Tr B W es bs ea ec ba bc) (hb : Below W.heap.size W W') : Tr B W' es bs ea ec ba bc := ⟨owns_b h.oe hb, owns_b h.ob hb⟩
theorem Tr.low {B' : Nat} (h : Tr B W es bs ea ec ba bc) (hb : B' ≤ B) : Tr B' W es bs ea ec ba bc := ⟨own_low h.oe hb, own_low h.ob hb⟩
theorem nil_tr (B : Nat) (W : World) : Tr B W [] [] none 0 none 0 := ⟨World.ownsRow_nil _ _ _ _, World.ownsRow_nil _ _ _ _⟩
theorem own_form {U : TypeId} {n k c : Nat} {a : Option Addr} {xs : List Value} (h : W.ownsRow B U n (.slice a k c) k xs) : (k = 0 ∧ a = none ∧ c = 0) ∨ ∃ g, a = some ⟨g, 0, none⟩ ∧ k ≤ c := by
  obtain ⟨_, ⟨h1, h2⟩ | ⟨g, cap, cur, h1, _, _, hcap, _⟩⟩ := h
  · cases h1; exact .inl ⟨rfl, rfl, rfl⟩
  · cases h1; exact .inr ⟨g, rfl, hcap⟩
theorem Tr.use (h : Tr B W es bs ea ec ba bc) (h0 : 0 < W.heap.size) : Us W es bs ea ec ba bc := by
  have h1 : (∃ k, RE W k es ∧ apa.NQ ea ⟨k, 0, none⟩ es.length ec) ∧ es.length ≤ ec := by
    rcases own_form h.oe with ⟨h1, h2, h3⟩ | ⟨g, rfl, hc⟩
    · have he : es = [] := List.length_eq_zero_iff.1 h1
      subst he
      exact ⟨⟨0, ⟨h0, fun i e hi => by simp at hi⟩, .inr ⟨h2, rfl, h3⟩⟩, by rw [h3]; exact Nat.le_refl _⟩
    · obtain ⟨a, c', hv, hr⟩ := own_row cE_len h.oe
      cases hv
      obtain ⟨_, cur, h3⟩ := owns_at h.oe
      refine ⟨⟨g, ⟨(Array.getElem?_eq_some_iff.1 h3).1, fun i e he => ?_⟩, .inl rfl⟩, hc⟩
      rcases hr with rfl | ⟨b, off, ha, _, hcc⟩
      · simp at he
      · cases ha
        have := hcc i e he
        exact ⟨by simpa using this 0 _ rfl, by simpa using this 1 _ rfl⟩
  have h2 : (∃ k, RB W k bs ∧ apa.NQ ba ⟨k, 0, none⟩ bs.length bc) ∧ bs.length ≤ bc := by
    rcases own_form h.ob with ⟨h1, h2, h3⟩ | ⟨g, rfl, hc⟩
    · have he : bs = [] := List.length_eq_zero_iff.1 h1
      subst he
      exact ⟨⟨0, ⟨h0, fun i e hi => by simp at hi⟩, .inr ⟨h2, rfl, h3⟩⟩, by rw [h3]; exact Nat.le_refl _⟩
    · obtain ⟨a, c', hv, hr⟩ := own_row cB_len h.ob
      cases hv
      obtain ⟨_, cur, h3⟩ := owns_at h.ob
      refine ⟨⟨g, ⟨(Array.getElem?_eq_some_iff.1 h3).1, fun i e he => ?_⟩, .inl rfl⟩, hc⟩
      rcases hr with rfl | ⟨b, off, ha, _, hcc⟩
      · simp at he
      · cases ha
        have := hcc i e he
        exact ⟨by simpa using this 0 _ rfl, by simpa using this 1 _ rfl, by simpa using this 2 _ rfl⟩
  exact ⟨h1.1, h2.1, h1.2, h2.2⟩
end
/-- how great they are -/
structure Sm (j : Nat) (es : List Ex) (bs : List Bi) : Prop where
  tt : es.length + bs.length ≤ j
  eo : ∀ e ∈ es, e.n.size ≤ 40
  bo : ∀ b ∈ bs, b.x.size ≤ 40 ∧ b.k.size ≤ 100 ∧ b.q.size ≤ 40
section
variable {j : Nat} {W : World} {es : List Ex} {bs : List Bi} {ea ba : Option Addr} {ec bc : Nat}
theorem sm_nil : Sm 0 [] [] := ⟨Nat.le_refl _, fun e h => (by cases h), fun e h => (by cases h)⟩
theorem Sm.more {k : Nat} (h : Sm j es bs) (hk : j ≤ k) : Sm k es bs := ⟨by have := h.tt; omega, h.eo, h.bo⟩
theorem Sm.sE (h : Sm j es bs) : ∀ e ∈ es, e.n.size ≤ 1048576 := fun e he => by have := h.eo e he; omega
theorem Sm.sB (h : Sm j es bs) : ∀ b ∈ bs, b.x.size ≤ 1048576 ∧ b.k.size ≤ 1048576 ∧ b.q.size ≤ 1048576 := fun b hb => by have := h.bo b hb; omega
theorem Sm.decl (h : Sm j es bs) {nn : ByteArray} {kd : Int} (hn : nn.size ≤ 40) : Sm (j + 1) (dp.ansD es bs nn kd) bs := by
  have h1 := h.tt
  unfold dp.ansD
  split
  · exact ⟨by rw [dp.insE_len]; omega, fun e he => by
      rcases dp.insE_mem he with he | rfl
      · exact h.eo e he
      · exact hn, h.bo⟩
  · exact h.more (by omega)
theorem Sm.bind (h : Sm j es bs) {t : Bi} (ht : t.x.size ≤ 40 ∧ t.k.size ≤ 100 ∧ t.q.size ≤ 40) : Sm (j + 1) es (bp.ansB es bs t) := by
  have h1 := h.tt
  unfold bp.ansB
  split
  · exact ⟨by rw [bp.insB_len]; omega, h.eo, fun e he => by
      rcases bp.insB_mem he with he | rfl
      · exact h.bo e he
      · exact ht⟩
  · exact h.more (by omega)
theorem Us.decl (u : Us W es bs ea ec ba bc) (hs : Sm j es bs) (hj : j ≤ 1000) (nn : ByteArray) (kd : Int) (hn : nn.size ≤ 40) : Calls Tryz.prog 13 #[.agg #[.slice ea es.length ec, .slice ba bs.length bc], .string nn, .int .i64 kd] W fun r w' => ∃ ea' ba' ce cb, r = .returned (.tuple #[.agg #[.slice ea' (dp.ansD es bs nn kd).length ce, .slice ba' bs.length cb], .bool (dp.retD es bs nn kd)]) ∧ OA w' (W.heap.size + 2) ea' ce (dp.ansD es bs nn kd) ∧ OC w' (W.heap.size + 2) ba' cb bs ∧ Below W.heap.size W w' := by
  have ht := hs.tt
  obtain ⟨ka, hE, hna⟩ := u.he
  obtain ⟨kb, hB, hnb⟩ := u.hb
  have hce := u.ce
  rcases hna with rfl | ⟨rfl, h1, rfl⟩
  · exact dsp.spec_declare es bs ba ec bc ka kb nn kd W (by omega) (by omega) hs.sE hs.sB (by omega) hE hB hce hnb
  · exact dsp.spec_declareN es bs ba bc ka kb nn kd W (by omega) (by omega) hs.sE hs.sB (by omega) hE hB h1 hnb
theorem Us.bind (u : Us W es bs ea ec ba bc) (hs : Sm j es bs) (hj : j ≤ 1000) (x k q : ByteArray) (hx : x.size ≤ 40 ∧ k.size ≤ 100 ∧ q.size ≤ 40) : Calls Tryz.prog 10 #[.agg #[.slice ea es.length ec, .slice ba bs.length bc], .string x, .string k, .string q] W fun r w' => ∃ ea' ba' ce cb, r = .returned (.tuple #[.agg #[.slice ea' es.length ce, .slice ba' (bp.ansB es bs ⟨x, k, q⟩).length cb], .bool (bp.retB es bs ⟨x, k, q⟩)]) ∧ OA w' (W.heap.size + 2) ea' ce es ∧ OC w' (W.heap.size + 2) ba' cb (bp.ansB es bs ⟨x, k, q⟩) ∧ Below W.heap.size W w' := by
  have ht := hs.tt
  obtain ⟨ka, hE, hna⟩ := u.he
  obtain ⟨kb, hB, hnb⟩ := u.hb
  have hcb := u.cb
  rcases hnb with rfl | ⟨rfl, h1, rfl⟩
  · exact bsp.spec_bind es bs ea ec bc ka kb x k q W (by omega) (by omega) hs.sE hs.sB (by omega) (by omega) (by omega) hE hB hcb hna
  · exact bsp.spec_bindN es bs ea ec ka kb x k q W (by omega) (by omega) hs.sE hs.sB (by omega) (by omega) (by omega) hE hB h1 hna
end
end Go.Proofs.YtnooibeohdfcmaaGreatDoor.dlr
