/- FnInts: the walk of the law: it returns true at every code, and turns nothing that was there. -/
import Derived.Test.YtkddnennodonhaaDoorIntsTop
import Derived.BigQuiet
namespace Go.Proofs.YtkddnennodonhaaDoor.iw
open Go.ChangeShapes Go.WideShapes Go.ChangeAt Go.RowKit

theorem num_le (u : ByteArray) (i k : Int) : gi.num u i k ≤ 9223372036854775807 := by
  by_cases hok : gi.okAt u i k = true
  · have hok' := hok
    simp only [gi.okAt, Bool.and_eq_true, decide_eq_true_eq] at hok'
    have hsz := sz.size_of k (by omega)
    have h7 : k.toNat ≤ 7 ∨ k.toNat ≤ 8 ∧ gi.bt u i.toNat ≤ 127 := by
      by_cases h8 : k = 8
      · right
        have := hok'.2
        simp [h8] at this
        omega
      · omega
    have hw := (gi.gi_wrap u i.toNat k.toNat h7).1
    simp only [gi.num, hok, if_true]
    unfold wrap64 at hw
    omega
  · simp only [gi.num, hok, Bool.false_eq_true, if_false]
    decide
theorem empty_of (n z : Int) (h : ¬ pi.fits n z = true) : pi.text n z = ByteArray.empty := by simp only [pi.text, h, Bool.false_eq_true, if_false]

theorem slice_back {u : ByteArray} {i k x t : Int} (hx : gi.num u i k = x) (ht : gi.stop u i k = t) (h0 : 0 < t) (h1 : -1 ≤ i) (h2 : i ≤ 9223372036854775807) :
    ∃ r, Hid (pi.text x k = r) ∧ ∀ W : World, (Instr.slice 9 (.string u) (some (.int .i64 i)) (some (.int .i64 t)) none).run Tryd.prog W = .ok (.string r) W := by
  have hok : gi.okAt u i k = true := by
    cases h : gi.okAt u i k with
    | true => rfl
    | false => simp only [gi.stop, h, Bool.false_eq_true, if_false] at ht; omega
  have hpr := ip.put_read u i k hok
  rw [hx] at hpr
  have hte : t = i + k := by simp only [gi.stop, hok, if_true] at ht; omega
  have hok' := hok
  simp only [gi.okAt, Bool.and_eq_true, decide_eq_true_eq] at hok'
  have hsz := sz.size_of k (by omega)
  refine ⟨_, hpr, fun W => ?_⟩
  rw [run_slice_string (P := Tryd.prog) W 9 u .i64 .i64 i t Tryd.underlying9 (by omega) (by omega) (by omega), show t.toNat = i.toNat + k.toNat by omega]
theorem text_ne {n z : Int} {s : ByteArray} (hs : pi.text n z = s) (hfit : pi.fits n z = true) : s.toList.isEmpty = false ∧ (s.toList = []) = False ∧ (s.size : Int) = z := by
  have h := ip.text_size hfit
  rw [hs] at h
  have hf := hfit
  simp only [pi.fits, Bool.and_eq_true, decide_eq_true_eq] at hf
  have hz := sz.size_of z (by omega)
  have hl : s.toList.length = s.size := by rw [Lib.toList_data]; simp
  have hne : s.toList ≠ [] := fun e => by rw [e] at hl; simp at hl; omega
  refine ⟨by cases he : s.toList with | nil => exact absurd he hne | cons a b => rfl, by simpa using hne, h⟩
theorem read_back {n z : Int} {s : ByteArray} (hs : pi.text n z = s) (hfit : pi.fits n z = true) : gi.num (⟨#[97]⟩ ++ s ++ ⟨#[98]⟩) 1 z = n ∧ gi.stop (⟨#[97]⟩ ++ s ++ ⟨#[98]⟩) 1 z = 1 + z := by
  have h := ip.read_put hfit ⟨#[97]⟩ ⟨#[98]⟩ rfl rfl
  rw [hs] at h
  exact h

/-- the worlds in which nothing that was there is turned -/
structure Cls (w : World) where
  x : World
  h : it.T w x
instance (w : World) : Nonempty (Cls w) := ⟨⟨w, it.T.refl w⟩⟩
theorem region_in {P : Program} {id : Nat} {Q : Exit → Act → World → Prop} {a : Act} {W : World} {l : List Oper} (w : World) (hT : it.T w W) (hm : P.follows .mixedOrders = true) (hB : Region.lexB .any l.toArray = true)
    (h : wpQuiet P l.toArray (fun w' => ∃ n : Cls w, w' = n.x) (fun a' => ∀ w', (∃ n : Cls w, w' = n.x) → Q .normal a' w') l a) : (Code.region id l.toArray true).wp P Q a W :=
  wp_region_quiet (C := fun w' => ∃ n : Cls w, w' = n.x) hm hB ⟨⟨_, it.T.drew hT⟩, rfl⟩ h

set_option maxRecDepth 100000 in
set_option maxHeartbeats 60000000 in
theorem walk (a0 : Option Addr) (len0 cap0 : Nat) (w : World) (hcode : dw.Code w w.heap.size a0 len0) (hlib : rd.Lib0 w) :
    Calls Tryd.prog 3 #[.slice a0 len0 cap0] w fun e w' => e = .returned (.bool true) ∧ Below w.heap.size w w' := by
  by_cases hbig : (1048576 : Int) < len0
  · clear hlib hcode
    go_enter Tryd.func3, Tryd.ntmps3
    go_wp2
    go_ret
    exact ⟨rfl, Below.refl _ _⟩
  have hlen : len0 ≤ 1048576 := by omega
  have HL : Hid (rd.Lib0 w) := hlib
  have HC : Hid (dw.Code w w.heap.size a0 len0) := hcode
  clear hlib hcode
  go_enter Tryd.func3, Tryd.ntmps3
  go_wp2_with (first | (go_at_call 9; go_in) | (go_at_call 10; refine (it.cDrawPutInt hlen HC.out w (it.T.refl w)).mono ?_; rintro e w1 ⟨⟨n, z, hn1, hn2, hz1, hz2, rfl⟩, hT1⟩))
  obtain ⟨s, hs⟩ : ∃ s, pi.text n z = s := ⟨_, rfl⟩
  have HS : Hid (pi.text n z = s) := hs
  clear hs
  go_wp2_with (first | (go_at_call 11; refine (it.cPutI hn2 HS.out w1 hT1).mono ?_; rintro e w2 ⟨rfl, hT2⟩) | (go_at_call 12; refine (it.cDrawGetInt hlen HC.out w2 hT2).mono ?_; rintro e w3 ⟨⟨u, i, k, hu, hi1, hi2, hk1, hk2, rfl⟩, hT3⟩))
  obtain ⟨x, hx⟩ : ∃ x, gi.num u i k = x := ⟨_, rfl⟩
  obtain ⟨t, ht⟩ : ∃ t, gi.stop u i k = t := ⟨_, rfl⟩
  have HX : Hid (gi.num u i k = x) := hx
  have HT : Hid (gi.stop u i k = t) := ht
  clear hx ht
  go_wp2_with (first | (go_at_call 13; refine (it.cGetI (by omega) (by omega) hi2 HX.out HT.out w3 hT3).mono ?_; rintro e w4 ⟨rfl, hT4⟩) | (go_at_call 14; refine (it.cGetS (by omega) (by omega) hi2 HX.out HT.out w4 hT4).mono ?_; rintro e w5 ⟨rfl, hT5⟩) | (go_at_call 15; refine (it.cDrawReadDec hlen HC.out w5 hT5).mono ?_; rintro e w6 ⟨⟨d, hd, rfl⟩, hT6⟩) | (go_at_call 16; refine (it.cDrawDecText hlen HC.out w6 hT6).mono ?_; rintro e w7 ⟨⟨y, hy1, hy2, rfl⟩, hT7⟩) | (go_at_call 17; refine (it.cPutS hn2 HS.out w7 hT7).mono ?_; rintro e w8 ⟨rfl, hT8⟩))
  obtain ⟨v, hv⟩ : ∃ v, rd.val d.data.toList = v := ⟨_, rfl⟩
  have HV : Hid (rd.val d.data.toList = v) := hv
  have hvb := rd.val_bounds d.data.toList
  rw [hv] at hvb
  obtain ⟨hvb1, hvb2⟩ := hvb
  obtain ⟨q, hq⟩ : ∃ q : ByteArray, (⟨(Lib.itoa y).toArray⟩ : ByteArray) = q := ⟨_, rfl⟩
  have HQ : Hid ((⟨(Lib.itoa y).toArray⟩ : ByteArray) = q) := hq
  clear hv hq
  go_wp2_with (first | (go_at_call 18; refine (it.cReadI HL.out (by omega) HV.out w8 hT8).mono ?_; rintro e w9 ⟨rfl, hT9⟩) | (go_at_call 19; refine (it.cReadS (by omega) HV.out w9 hT9).mono ?_; rintro e w10 ⟨rfl, hT10⟩) | (go_at_call 20; refine (it.cDecI HL.out hy1 hy2 HQ.out w10 hT10).mono ?_; rintro e w11 ⟨rfl, hT11⟩) | (go_at_call 21; refine (it.cDecS hy1 hy2 HQ.out w11 hT11).mono ?_; rintro e w12 ⟨rfl, hT12⟩))
  clear hT1 hT2 hT3 hT4 hT5 hT6 hT7 hT8 hT9 hT10 hT11
  by_cases hv0 : 0 ≤ v
  · have HD : Hid ((⟨(Lib.itoa v).toArray⟩ : ByteArray) = d) := by
      have h := ip.val_back (l := d.data.toList) (by rw [HV.out]; exact hv0)
      rw [HV.out] at h
      exact ByteArray.ext (Array.toList_inj.1 h)
    by_cases ht0 : 0 < t
    · have HSL := slice_back HX.out HT.out ht0 hi1 hi2
      obtain ⟨r, HR, hsl⟩ := HSL
      have hxb : x ≤ 9223372036854775807 := by rw [← HX.out]; exact num_le u i k
      refine region_in w hT12 (by kernel_rfl) (by kernel_rfl) ?_
      repeat (go_big_quiet_step (first | (go_at_call 18; refine (it.cReadI HL.out (by omega) HV.out _ (Cls.h _)).mono ?_; rintro e wx ⟨rfl, hTx⟩; exact ⟨rfl, ⟨wx, hTx⟩, rfl⟩) | (go_at_call 20; refine (it.cDecI HL.out (by omega) (by omega) HD.out _ (Cls.h _)).mono ?_; rintro e wx ⟨rfl, hTx⟩; exact ⟨rfl, ⟨wx, hTx⟩, rfl⟩) | (go_at_call 11; refine (it.cPutI hxb HR.out _ (Cls.h _)).mono ?_; rintro e wx ⟨rfl, hTx⟩; exact ⟨rfl, ⟨wx, hTx⟩, rfl⟩)))
      refine wpQuiet_nil ?_
      rintro _ ⟨N, rfl⟩
      have hN := N.h
      generalize N.x = wN at hN ⊢
      clear N
      by_cases hfit : pi.fits n z = true
      · have hse := text_ne HS.out hfit
        obtain ⟨hem, hls, hsz1⟩ := hse
        have hrp := read_back HS.out hfit
        have HSZ : Hid ((s.size : Int) = z) := hsz1
        have hss : s.size ≤ 8 := by rw [← HS.out]; exact pi.text_size n z
        have HP : Hid (gi.num (⟨#[97]⟩ ++ s ++ ⟨#[98]⟩) 1 z = n ∧ gi.stop (⟨#[97]⟩ ++ s ++ ⟨#[98]⟩) 1 z = 1 + z) := read_back HS.out hfit
        have HU : Hid ((⟨#[97]⟩ ++ s ++ ⟨#[98]⟩ : ByteArray).size ≤ 1048576) := by
          rw [ByteArray.size_append, ByteArray.size_append]
          show 1 + s.size + 1 ≤ 1048576
          omega
        clear hrp
        go_wp2_with (go_at_call 13; refine (it.cGetI (w := w) (u := ⟨#[97]⟩ ++ s ++ ⟨#[98]⟩) (i := 1) (k := z) (x := n) (t := 1 + z) HU.out (by omega) (by omega) HP.out.1 HP.out.2 wN hN).mono ?_; rintro e wx ⟨rfl, hTx⟩)
        go_ret
        exact ⟨rfl, hTx⟩
      · have hse := empty_of n z hfit
        rw [HS.out] at hse
        subst hse
        go_wp2
        go_ret
        exact ⟨rfl, hN⟩
    · skip
      refine region_in w hT12 (by kernel_rfl) (by kernel_rfl) ?_
      repeat (go_big_quiet_step (first | (go_at_call 18; refine (it.cReadI HL.out (by omega) HV.out _ (Cls.h _)).mono ?_; rintro e wx ⟨rfl, hTx⟩; exact ⟨rfl, ⟨wx, hTx⟩, rfl⟩) | (go_at_call 20; refine (it.cDecI HL.out (by omega) (by omega) HD.out _ (Cls.h _)).mono ?_; rintro e wx ⟨rfl, hTx⟩; exact ⟨rfl, ⟨wx, hTx⟩, rfl⟩) | (go_at_call 11; refine (it.cPutI hxb HR.out _ (Cls.h _)).mono ?_; rintro e wx ⟨rfl, hTx⟩; exact ⟨rfl, ⟨wx, hTx⟩, rfl⟩)))
      refine wpQuiet_nil ?_
      rintro _ ⟨N, rfl⟩
      have hN := N.h
      generalize N.x = wN at hN ⊢
      clear N
      by_cases hfit : pi.fits n z = true
      · have hse := text_ne HS.out hfit
        obtain ⟨hem, hls, hsz1⟩ := hse
        have hrp := read_back HS.out hfit
        have HSZ : Hid ((s.size : Int) = z) := hsz1
        have hss : s.size ≤ 8 := by rw [← HS.out]; exact pi.text_size n z
        have HP : Hid (gi.num (⟨#[97]⟩ ++ s ++ ⟨#[98]⟩) 1 z = n ∧ gi.stop (⟨#[97]⟩ ++ s ++ ⟨#[98]⟩) 1 z = 1 + z) := read_back HS.out hfit
        have HU : Hid ((⟨#[97]⟩ ++ s ++ ⟨#[98]⟩ : ByteArray).size ≤ 1048576) := by
          rw [ByteArray.size_append, ByteArray.size_append]
          show 1 + s.size + 1 ≤ 1048576
          omega
        clear hrp
        go_wp2_with (go_at_call 13; refine (it.cGetI (w := w) (u := ⟨#[97]⟩ ++ s ++ ⟨#[98]⟩) (i := 1) (k := z) (x := n) (t := 1 + z) HU.out (by omega) (by omega) HP.out.1 HP.out.2 wN hN).mono ?_; rintro e wx ⟨rfl, hTx⟩)
        go_ret
        exact ⟨rfl, hTx⟩
      · have hse := empty_of n z hfit
        rw [HS.out] at hse
        subst hse
        go_wp2
        go_ret
        exact ⟨rfl, hN⟩
  · by_cases ht0 : 0 < t
    · have HSL := slice_back HX.out HT.out ht0 hi1 hi2
      obtain ⟨r, HR, hsl⟩ := HSL
      have hxb : x ≤ 9223372036854775807 := by rw [← HX.out]; exact num_le u i k
      refine region_in w hT12 (by kernel_rfl) (by kernel_rfl) ?_
      repeat (go_big_quiet_step (first | (go_at_call 18; refine (it.cReadI HL.out (by omega) HV.out _ (Cls.h _)).mono ?_; rintro e wx ⟨rfl, hTx⟩; exact ⟨rfl, ⟨wx, hTx⟩, rfl⟩) | (go_at_call 20; refine (it.cDecI HL.out (by omega) (by omega) HD.out _ (Cls.h _)).mono ?_; rintro e wx ⟨rfl, hTx⟩; exact ⟨rfl, ⟨wx, hTx⟩, rfl⟩) | (go_at_call 11; refine (it.cPutI hxb HR.out _ (Cls.h _)).mono ?_; rintro e wx ⟨rfl, hTx⟩; exact ⟨rfl, ⟨wx, hTx⟩, rfl⟩)))
      refine wpQuiet_nil ?_
      rintro _ ⟨N, rfl⟩
      have hN := N.h
      generalize N.x = wN at hN ⊢
      clear N
      by_cases hfit : pi.fits n z = true
      · have hse := text_ne HS.out hfit
        obtain ⟨hem, hls, hsz1⟩ := hse
        have hrp := read_back HS.out hfit
        have HSZ : Hid ((s.size : Int) = z) := hsz1
        have hss : s.size ≤ 8 := by rw [← HS.out]; exact pi.text_size n z
        have HP : Hid (gi.num (⟨#[97]⟩ ++ s ++ ⟨#[98]⟩) 1 z = n ∧ gi.stop (⟨#[97]⟩ ++ s ++ ⟨#[98]⟩) 1 z = 1 + z) := read_back HS.out hfit
        have HU : Hid ((⟨#[97]⟩ ++ s ++ ⟨#[98]⟩ : ByteArray).size ≤ 1048576) := by
          rw [ByteArray.size_append, ByteArray.size_append]
          show 1 + s.size + 1 ≤ 1048576
          omega
        clear hrp
        go_wp2_with (go_at_call 13; refine (it.cGetI (w := w) (u := ⟨#[97]⟩ ++ s ++ ⟨#[98]⟩) (i := 1) (k := z) (x := n) (t := 1 + z) HU.out (by omega) (by omega) HP.out.1 HP.out.2 wN hN).mono ?_; rintro e wx ⟨rfl, hTx⟩)
        go_ret
        exact ⟨rfl, hTx⟩
      · have hse := empty_of n z hfit
        rw [HS.out] at hse
        subst hse
        go_wp2
        go_ret
        exact ⟨rfl, hN⟩
    · skip
      refine region_in w hT12 (by kernel_rfl) (by kernel_rfl) ?_
      repeat (go_big_quiet_step (first | (go_at_call 18; refine (it.cReadI HL.out (by omega) HV.out _ (Cls.h _)).mono ?_; rintro e wx ⟨rfl, hTx⟩; exact ⟨rfl, ⟨wx, hTx⟩, rfl⟩) | (go_at_call 20; refine (it.cDecI HL.out (by omega) (by omega) HD.out _ (Cls.h _)).mono ?_; rintro e wx ⟨rfl, hTx⟩; exact ⟨rfl, ⟨wx, hTx⟩, rfl⟩) | (go_at_call 11; refine (it.cPutI hxb HR.out _ (Cls.h _)).mono ?_; rintro e wx ⟨rfl, hTx⟩; exact ⟨rfl, ⟨wx, hTx⟩, rfl⟩)))
      refine wpQuiet_nil ?_
      rintro _ ⟨N, rfl⟩
      have hN := N.h
      generalize N.x = wN at hN ⊢
      clear N
      by_cases hfit : pi.fits n z = true
      · have hse := text_ne HS.out hfit
        obtain ⟨hem, hls, hsz1⟩ := hse
        have hrp := read_back HS.out hfit
        have HSZ : Hid ((s.size : Int) = z) := hsz1
        have hss : s.size ≤ 8 := by rw [← HS.out]; exact pi.text_size n z
        have HP : Hid (gi.num (⟨#[97]⟩ ++ s ++ ⟨#[98]⟩) 1 z = n ∧ gi.stop (⟨#[97]⟩ ++ s ++ ⟨#[98]⟩) 1 z = 1 + z) := read_back HS.out hfit
        have HU : Hid ((⟨#[97]⟩ ++ s ++ ⟨#[98]⟩ : ByteArray).size ≤ 1048576) := by
          rw [ByteArray.size_append, ByteArray.size_append]
          show 1 + s.size + 1 ≤ 1048576
          omega
        clear hrp
        go_wp2_with (go_at_call 13; refine (it.cGetI (w := w) (u := ⟨#[97]⟩ ++ s ++ ⟨#[98]⟩) (i := 1) (k := z) (x := n) (t := 1 + z) HU.out (by omega) (by omega) HP.out.1 HP.out.2 wN hN).mono ?_; rintro e wx ⟨rfl, hTx⟩)
        go_ret
        exact ⟨rfl, hTx⟩
      · have hse := empty_of n z hfit
        rw [HS.out] at hse
        subst hse
        go_wp2
        go_ret
        exact ⟨rfl, hN⟩
end Go.Proofs.YtkddnennodonhaaDoor.iw
