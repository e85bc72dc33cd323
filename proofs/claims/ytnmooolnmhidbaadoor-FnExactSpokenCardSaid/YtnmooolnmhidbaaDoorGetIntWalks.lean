/- The two readers of a number, the specification's and the program's, answer alike at every text of at most 1048576 bytes, every place and every size; no world is changed. -/
import Derived.Test.YtnmooolnmhidbaaDoorSizeWalks
import Derived.WalkKit
import Derived.WalkLawsBesides
import Derived.ProofKit
import Derived.OpenShut
import Derived.ShutString
namespace Go.Proofs.YtnmooolnmhidbaaDoor.gi
open Go.ChangeShapes Go.WideShapes Go.ChangeAt Go.RowKit Go.Proofs.YtnmooolnmhidbaaDoor.sz

def bt (s : ByteArray) (k : Nat) : Nat := if h : k < s.size then s[k].toNat else 0
theorem bt_eq (s : ByteArray) (k : Nat) (h : k < s.size) : s[k].toNat = bt s k := by simp [bt, h]
theorem bt_le (s : ByteArray) (k : Nat) : bt s k ≤ 255 := by
  unfold bt; split
  · have := s[k].toNat_lt; omega
  · omega
def gi (s : ByteArray) (i : Nat) : Nat → Int
  | 0 => 0
  | k + 1 => 256 * gi s i k + bt s (i + k)

theorem gi_bound (s : ByteArray) (i : Nat) : ∀ k, 0 ≤ gi s i k ∧ gi s i k < 256 ^ k
  | 0 => by simp [gi]
  | k + 1 => by
    have h := gi_bound s i k
    have hb := bt_le s (i + k)
    simp only [gi]
    rw [Int.pow_succ]
    omega

theorem gi_bound7 (s : ByteArray) (i : Nat) (h : bt s i ≤ 127) : ∀ k, 0 ≤ gi s i (k + 1) ∧ gi s i (k + 1) < 128 * 256 ^ k
  | 0 => by simp only [gi]; simp; omega
  | k + 1 => by
    have h := gi_bound7 s i h k
    have hb := bt_le s (i + (k + 1))
    rw [gi, Int.pow_succ]
    omega

theorem room (s : ByteArray) (i k : Nat) (hk : k < 7 ∨ k < 8 ∧ bt s i ≤ 127) : 0 ≤ gi s i k ∧ 256 * gi s i k + 255 ≤ 9223372036854775807 := by
  rcases hk with hk | ⟨hk, hb⟩
  · have h := gi_bound s i k
    have : k = 0 ∨ k = 1 ∨ k = 2 ∨ k = 3 ∨ k = 4 ∨ k = 5 ∨ k = 6 := by omega
    rcases this with rfl | rfl | rfl | rfl | rfl | rfl | rfl <;> omega
  · cases k with
    | zero => simp [gi]
    | succ k =>
      have h := gi_bound7 s i hb k
      have : k = 0 ∨ k = 1 ∨ k = 2 ∨ k = 3 ∨ k = 4 ∨ k = 5 ∨ k = 6 := by omega
      rcases this with rfl | rfl | rfl | rfl | rfl | rfl | rfl <;> omega

/-- the spec's reader where all is in order, not of eight bytes -/
theorem spec_okN (s : ByteArray) (i z : Nat) (w : World) (hs : s.size ≤ 1048576) (hi : i + z ≤ s.size) (hz : z ≤ 8) (hm : (mostOf z < 0) = False) (h8 : ((z : Int) == 8) = false)
   (hg : ∀ k, k < z → 0 ≤ gi s i k ∧ 256 * gi s i k + 255 ≤ 9223372036854775807) : Calls Tryd.prog 38 #[.string s, .int .i64 i, .int .i64 z] w fun e w' => e = .returned (.tuple #[.int .i64 (gi s i z), .int .i64 (i + z)]) ∧ w' = w := by
  go_enter Tryd.func38, Tryd.ntmps38
  go_wp2_with (first | (go_at_call 30; refine (most (z : Int) w).mono ?_; rintro e w' ⟨rfl, rfl⟩) | (go_at_call 29; go_in))

  go_loop [8, 9] (fun t c => ∃ k : Nat, k ≤ z ∧ c = .int .i64 (i + k : Nat) ∧ t = .int .i64 (gi s i k)) (fun _ c => i + z - (intOf c).toNat)
  case atStart => exact ⟨0, Nat.zero_le _, rfl, rfl⟩
  case round =>
    obtain ⟨k, hk, rfl, rfl⟩ := hrel
    have hb : k < z → 0 ≤ gi s i k ∧ 256 * gi s i k + 255 ≤ 9223372036854775807 := hg k
    clear hg
    by_cases hkz : k < z
    · obtain ⟨hb1, hb2⟩ := hb hkz
      have hlt : i + k < s.size := by omega
      have hby : s[i + k].toNat ≤ 255 := by have := s[i + k].toNat_lt; omega
      go_wp2
      go_round
      case rel => exact ⟨k + 1, by omega, by go_num, by simp [gi, bt_eq s (i + k) hlt]⟩
      case measure => simp [intOf]; omega
    · obtain rfl : k = z := by omega
      go_wp2
      go_ret2
      exact ⟨rfl, rfl⟩

/-- the spec's reader where all is in order, of eight bytes -/
theorem spec_ok8 (s : ByteArray) (i : Nat) (w : World) (hs : s.size ≤ 1048576) (hi : i + 8 ≤ s.size) (h7 : bt s i ≤ 127)
   (hg : ∀ k, k < 8 → 0 ≤ gi s i k ∧ 256 * gi s i k + 255 ≤ 9223372036854775807) : Calls Tryd.prog 38 #[.string s, .int .i64 i, .int .i64 8] w fun e w' => e = .returned (.tuple #[.int .i64 (gi s i 8), .int .i64 (i + 8)]) ∧ w' = w := by
  have hl0 : i < s.size := by omega
  have h70 : (127 < (s[i].toNat : Int)) = False := by rw [bt_eq s i hl0]; simp; omega
  go_enter Tryd.func38, Tryd.ntmps38
  go_wp2

  go_loop [8, 9] (fun t c => ∃ k : Nat, k ≤ 8 ∧ c = .int .i64 (i + k : Nat) ∧ t = .int .i64 (gi s i k)) (fun _ c => i + 8 - (intOf c).toNat)
  case atStart => exact ⟨0, Nat.zero_le _, rfl, rfl⟩
  case round =>
    obtain ⟨k, hk, rfl, rfl⟩ := hrel
    have hb : k < 8 → 0 ≤ gi s i k ∧ 256 * gi s i k + 255 ≤ 9223372036854775807 := hg k
    clear hg
    by_cases hkz : k < 8
    · obtain ⟨hb1, hb2⟩ := hb hkz
      have hlt : i + k < s.size := by omega
      have hby : s[i + k].toNat ≤ 255 := by have := s[i + k].toNat_lt; omega
      go_wp2
      go_round
      case rel => exact ⟨k + 1, by omega, by go_num, by simp [gi, bt_eq s (i + k) hlt]⟩
      case measure => simp [intOf]; omega
    · obtain rfl : k = 8 := by omega
      go_wp2
      go_ret2
      exact ⟨rfl, rfl⟩

/-- a first byte above 127 of eight -/
theorem spec_big (s : ByteArray) (i : Nat) (w : World) (hs : s.size ≤ 1048576) (hi : i + 8 ≤ s.size) (h7 : 127 < bt s i) : Calls Tryd.prog 38 #[.string s, .int .i64 i, .int .i64 8] w fun e w' => e = .returned (.tuple #[.int .i64 0, .int .i64 (-1)]) ∧ w' = w := by
  have hl0 : i < s.size := by omega
  have h70 : (127 < (s[i].toNat : Int)) = True := by rw [bt_eq s i hl0]; simp; omega
  go_enter Tryd.func38, Tryd.ntmps38
  go_wp2
  go_ret2
  exact ⟨rfl, rfl⟩

/-- no size -/
theorem spec_none (s : ByteArray) (i z : Int) (w : World) (hm : mostOf z < 0) : Calls Tryd.prog 38 #[.string s, .int .i64 i, .int .i64 z] w fun e w' => e = .returned (.tuple #[.int .i64 0, .int .i64 (-1)]) ∧ w' = w := by
  go_enter Tryd.func38, Tryd.ntmps38
  go_wp2_with (first | (go_at_call 30; refine (most z w).mono ?_; rintro e w' ⟨rfl, rfl⟩) | (go_at_call 29; go_in))
  go_ret2
  exact ⟨rfl, rfl⟩

/-- a place that is none -/
theorem spec_out (s : ByteArray) (i z : Int) (w : World) (hs : s.size ≤ 1048576) (hm : (mostOf z < 0) = False) (hz : 1 ≤ z ∧ z ≤ 8) (hi : i < 0 ∨ s.size < i + z) (hi1 : -9223372036854775808 ≤ i) (hi2 : i ≤ 9223372036854775807) : Calls Tryd.prog 38 #[.string s, .int .i64 i, .int .i64 z] w fun e w' => e = .returned (.tuple #[.int .i64 0, .int .i64 (-1)]) ∧ w' = w := by
  rcases hi with hi | hi
  · go_enter Tryd.func38, Tryd.ntmps38
    go_wp2_with (first | (go_at_call 30; refine (most z w).mono ?_; rintro e w' ⟨rfl, rfl⟩) | (go_at_call 29; go_in))
    go_ret2
    exact ⟨rfl, rfl⟩
  · go_enter Tryd.func38, Tryd.ntmps38
    go_wp2_with (first | (go_at_call 30; refine (most z w).mono ?_; rintro e w' ⟨rfl, rfl⟩) | (go_at_call 29; go_in))
    all_goals go_ret2
    all_goals exact ⟨rfl, rfl⟩

theorem or_byte (x b : Int) (h1 : 0 ≤ b) (h2 : b ≤ 255) : bits .or .i64 (wrap64 (wrap64 x * 256)) b = wrap64 (256 * x + b) := by
  show IntKind.i64.wrap ((BitVec.ofInt 64 (wrap64 (wrap64 x * 256)) ||| BitVec.ofInt 64 b).toNat : Int) = _
  rw [BitVec.toNat_or, BitVec.toNat_ofInt, BitVec.toNat_ofInt, nat_join8 _ _ (by simp [wrap64]; omega) (by omega), IntKind.wrap_i64]
  simp only [wrap64]
  omega

theorem impl_loop (s : ByteArray) (i z : Nat) (w : World) (hs : s.size ≤ 1048576) (hi : i + z ≤ s.size) (hz : z ≤ 8) (hm : decide (0 ≤ mostOf z) = true) : Calls Tryd.prog 40 #[.string s, .int .i64 i, .int .i64 z] w fun e w' => (if wrap64 (gi s i z) < 0 then e = .returned (.tuple #[.int .i64 0, .int .i64 (-1)]) else e = .returned (.tuple #[.int .i64 (wrap64 (gi s i z)), .int .i64 (i + z)])) ∧ w' = w := by
  go_enter Tryd.func40, Tryd.ntmps40
  go_wp2_with (first | (go_at_call 61; refine (sizeOk (z : Int) w).mono ?_; rintro e w' ⟨rfl, rfl⟩))
  go_loop [8, 9] (fun t c => ∃ k : Nat, k ≤ z ∧ c = .int .i64 (i + k : Nat) ∧ t = .int .i64 (wrap64 (gi s i k))) (fun _ c => i + z - (intOf c).toNat)
  case atStart => exact ⟨0, Nat.zero_le _, rfl, by simp [gi, wrap64]⟩
  case round =>
    obtain ⟨k, hk, rfl, rfl⟩ := hrel
    by_cases hkz : k < z
    · have hlt : i + k < s.size := by omega
      have hby : s[i + k].toNat ≤ 255 := by have := s[i + k].toNat_lt; omega
      go_wp2
      go_round
      case rel => exact ⟨k + 1, by omega, by go_num, by rw [or_byte _ _ (by omega) (by omega)]; simp [gi, bt_eq s (i + k) hlt]⟩
      case measure => simp [intOf]; omega
    · obtain rfl : k = z := by omega
      go_wp2
      · go_ret2
        simp [*]
      · go_ret2
        simp [*]

theorem impl_none (s : ByteArray) (i z : Int) (w : World) (hm : decide (0 ≤ mostOf z) = false) : Calls Tryd.prog 40 #[.string s, .int .i64 i, .int .i64 z] w fun e w' => e = .returned (.tuple #[.int .i64 0, .int .i64 (-1)]) ∧ w' = w := by
  go_enter Tryd.func40, Tryd.ntmps40
  go_wp2_with (first | (go_at_call 61; refine (sizeOk z w).mono ?_; rintro e w' ⟨rfl, rfl⟩))
  go_ret2
  exact ⟨rfl, rfl⟩

theorem impl_out (s : ByteArray) (i z : Int) (w : World) (hs : s.size ≤ 1048576) (hm : decide (0 ≤ mostOf z) = true) (hz : 1 ≤ z ∧ z ≤ 8) (hi : i < 0 ∨ s.size < i + z) (hi1 : -9223372036854775808 ≤ i) (hi2 : i ≤ 9223372036854775807) : Calls Tryd.prog 40 #[.string s, .int .i64 i, .int .i64 z] w fun e w' => e = .returned (.tuple #[.int .i64 0, .int .i64 (-1)]) ∧ w' = w := by
  rcases hi with hi | hi
  · go_enter Tryd.func40, Tryd.ntmps40
    go_wp2_with (first | (go_at_call 61; refine (sizeOk z w).mono ?_; rintro e w' ⟨rfl, rfl⟩))
    go_ret2
    exact ⟨rfl, rfl⟩
  · go_enter Tryd.func40, Tryd.ntmps40
    go_wp2_with (first | (go_at_call 61; refine (sizeOk z w).mono ?_; rintro e w' ⟨rfl, rfl⟩))
    all_goals go_ret2
    all_goals exact ⟨rfl, rfl⟩

/-- WHAT BOTH READERS ANSWER -/
def okAt (s : ByteArray) (i z : Int) : Bool := decide (0 ≤ mostOf z) && decide (0 ≤ i) && decide (i + z ≤ s.size) && !(decide (z = 8) && decide (127 < bt s i.toNat))
def num (s : ByteArray) (i z : Int) : Int := if okAt s i z then gi s i.toNat z.toNat else 0
def stop (s : ByteArray) (i z : Int) : Int := if okAt s i z then i + z else -1

theorem spec_get (s : ByteArray) (i z : Int) (w : World) (hs : s.size ≤ 1048576) (hi1 : -9223372036854775808 ≤ i) (hi2 : i ≤ 9223372036854775807) :
    Calls Tryd.prog 38 #[.string s, .int .i64 i, .int .i64 z] w fun e w' => e = .returned (.tuple #[.int .i64 (num s i z), .int .i64 (stop s i z)]) ∧ w' = w := by
  by_cases hm : 0 ≤ mostOf z
  · have hz := size_of z hm
    by_cases hin : 0 ≤ i ∧ i + z ≤ s.size
    · obtain ⟨ha, hb⟩ := hin
      obtain ⟨n, rfl⟩ := Int.eq_ofNat_of_zero_le ha
      by_cases h8 : z = 8
      · subst h8
        by_cases h7 : bt s n ≤ 127
        · have hk : okAt s n 8 = true := by simp [okAt, mostOf, hb]; omega
          simp only [num, stop, hk, if_true]
          exact spec_ok8 s n w hs (by omega) h7 (fun k hk => room s n k (by omega))
        · have hk : okAt s n 8 = false := by simp [okAt, mostOf, hb]; omega
          simp only [num, stop, hk, Bool.false_eq_true, if_false]
          exact spec_big s n w hs (by omega) (by omega)
      · have hk : okAt s n z = true := by simp [okAt, hb, h8, hm]
        obtain ⟨m, rfl⟩ := Int.eq_ofNat_of_zero_le (show 0 ≤ z by omega)
        simp only [num, stop, hk, if_true]
        exact spec_okN s n m w hs (by omega) (by omega) (by simp; omega) (by simpa using h8) (fun k hk => room s n k (by omega))
    · have hk : okAt s i z = false := by
        simp only [okAt, Bool.and_eq_false_iff, decide_eq_false_iff_not]
        omega
      simp only [num, stop, hk, Bool.false_eq_true, if_false]
      exact spec_out s i z w hs (by simp; omega) (by omega) (by omega) hi1 hi2
  · have hk : okAt s i z = false := by simp [okAt, hm]
    simp only [num, stop, hk, Bool.false_eq_true, if_false]
    exact spec_none s i z w (by omega)

theorem gi_wrap (s : ByteArray) (i k : Nat) (h : k ≤ 7 ∨ k ≤ 8 ∧ bt s i ≤ 127) : wrap64 (gi s i k) = gi s i k ∧ 0 ≤ gi s i k := by
  cases k with
  | zero => simp [gi, wrap64]
  | succ k =>
    have hr := room s i k (by omega)
    have hb := bt_le s (i + k)
    simp only [gi, wrap64]
    omega

theorem gi_neg (s : ByteArray) (i : Nat) (h : 127 < bt s i) : wrap64 (gi s i 8) < 0 := by
  have h0 := bt_le s (i + 0)
  have h1 := bt_le s (i + 1)
  have h2 := bt_le s (i + 2)
  have h3 := bt_le s (i + 3)
  have h4 := bt_le s (i + 4)
  have h5 := bt_le s (i + 5)
  have h6 := bt_le s (i + 6)
  have h7 := bt_le s (i + 7)
  simp only [gi, wrap64, Nat.add_zero] at *
  omega

theorem impl_get (s : ByteArray) (i z : Int) (w : World) (hs : s.size ≤ 1048576) (hi1 : -9223372036854775808 ≤ i) (hi2 : i ≤ 9223372036854775807) :
    Calls Tryd.prog 40 #[.string s, .int .i64 i, .int .i64 z] w fun e w' => e = .returned (.tuple #[.int .i64 (num s i z), .int .i64 (stop s i z)]) ∧ w' = w := by
  by_cases hm : 0 ≤ mostOf z
  · have hz := size_of z hm
    by_cases hin : 0 ≤ i ∧ i + z ≤ s.size
    · obtain ⟨ha, hb⟩ := hin
      obtain ⟨n, rfl⟩ := Int.eq_ofNat_of_zero_le ha
      obtain ⟨m, rfl⟩ := Int.eq_ofNat_of_zero_le (show 0 ≤ z by omega)
      refine (impl_loop s n m w hs (by omega) (by omega) (by simpa using hm)).mono ?_
      rintro e w' ⟨he, rfl⟩
      refine ⟨?_, rfl⟩
      by_cases h7 : m = 8 ∧ 127 < bt s n
      · obtain ⟨rfl, h7⟩ := h7
        have hk : okAt s n ((8 : Nat) : Int) = false := by simp [okAt, mostOf]; omega
        simp only [num, stop, hk, Bool.false_eq_true, if_false]
        rw [if_pos (gi_neg s n h7)] at he
        exact he
      · have hk : okAt s n m = true := by simp [okAt, hm, hb]; omega
        have hw := gi_wrap s n m (by omega)
        simp only [num, stop, hk, if_true]
        rw [hw.1, if_neg (by omega)] at he
        exact he
    · have hk : okAt s i z = false := by
        simp only [okAt, Bool.and_eq_false_iff, decide_eq_false_iff_not]
        omega
      simp only [num, stop, hk, Bool.false_eq_true, if_false]
      exact impl_out s i z w hs (by simpa using hm) (by omega) (by omega) hi1 hi2
  · have hk : okAt s i z = false := by simp [okAt, hm]
    simp only [num, stop, hk, Bool.false_eq_true, if_false]
    exact impl_none s i z w (by simpa using hm)
end Go.Proofs.YtnmooolnmhidbaaDoor.gi
