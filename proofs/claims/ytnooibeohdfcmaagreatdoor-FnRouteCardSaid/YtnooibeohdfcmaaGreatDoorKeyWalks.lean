/- The two tests of a key, the specification's and the program's, answer alike at every text of at most 1048576 bytes; no world is changed. -/
import Derived.Test.YtnooibeohdfcmaaGreatDoorRows
import Derived.WalkKit
import Derived.WalkLawsBesides
import Derived.ProofKit
import Derived.OpenShut
import Derived.ShutString
namespace Go.Proofs.YtnooibeohdfcmaaGreatDoor.ky
open Go.ChangeShapes Go.WideShapes Go.ChangeAt Go.RowKit

def bt (s : ByteArray) (k : Nat) : Nat := if h : k < s.size then s[k].toNat else 0
theorem bt_eq (s : ByteArray) (k : Nat) (h : k < s.size) : s[k].toNat = bt s k := by simp [bt, h]

def good (s : ByteArray) : Bool := decide (s.size ≤ 60 ∧ ∀ j, j < s.size → 33 ≤ bt s j ∧ bt s j ≤ 126)

theorem good_true (s : ByteArray) (h2 : s.size ≤ 60) (h : ∀ j, j < s.size → 33 ≤ bt s j ∧ bt s j ≤ 126) : good s = true := by
  simp only [good, decide_eq_true_eq]
  exact ⟨h2, fun j hj => h j hj⟩
theorem good_size (s : ByteArray) (h : 60 < s.size) : good s = false := by
  simp only [good, decide_eq_false_iff_not]
  omega
theorem good_byte (s : ByteArray) (j : Nat) (hj : j < s.size) (h : ¬ (33 ≤ bt s j ∧ bt s j ≤ 126)) : good s = false := by
  simp only [good, decide_eq_false_iff_not]
  intro hh
  exact h (hh.2 j hj)

theorem next_all {s : ByteArray} {k b : Nat} (hall : ∀ j, j < k → 33 ≤ bt s j ∧ bt s j ≤ 126) (hb : bt s k = b) (h1 : 33 ≤ b) (h2 : b ≤ 126) : ∀ j, j < k + 1 → 33 ≤ bt s j ∧ bt s j ≤ 126 := by
  intro j hj
  by_cases e : j = k
  · subst e; rw [hb]; exact ⟨h1, h2⟩
  · exact hall j (by omega)

theorem within (x a b : Int) (w : World) : Calls Tryz.prog 48 #[.int .i64 x, .int .i64 a, .int .i64 b] w fun e w' => e = .returned (.bool (decide (a ≤ x ∧ x ≤ b))) ∧ w = w' := by
  by_cases h1 : a ≤ x
  · by_cases h2 : x ≤ b
    · have e : decide (a ≤ x ∧ x ≤ b) = true := by simp [h1, h2]
      rw [e]
      go_enter Tryz.func48, Tryz.ntmps48
      go_wp2
      go_ret
      simp
    · have e : decide (a ≤ x ∧ x ≤ b) = false := by simp [h1, h2]
      rw [e]
      go_enter Tryz.func48, Tryz.ntmps48
      go_wp2
      go_ret
      simp
  · have e : decide (a ≤ x ∧ x ≤ b) = false := by simp [h1]
    rw [e]
    go_enter Tryz.func48, Tryz.ntmps48
    go_wp2
    go_ret
    exact ⟨rfl, rfl⟩

theorem spec_key (s : ByteArray) (w : World) (hs : s.size ≤ 1048576) :
    Calls Tryz.prog 32 #[.string s] w fun e w' => e = .returned (.bool (good s)) ∧ w = w' := by
  go_enter Tryz.func32, Tryz.ntmps32
  go_wp2
  go_loop [3] (fun c => ∃ k : Nat, k ≤ s.size ∧ c = .int .i64 k ∧ Hid (∀ j, j < k → 33 ≤ bt s j ∧ bt s j ≤ 126)) (fun c => s.size - (intOf c).toNat)
  case atStart => exact ⟨0, Nat.zero_le _, rfl, fun j hj => by omega⟩
  case round =>
    obtain ⟨k, hk, rfl, hall⟩ := hrel
    by_cases hkz : k < s.size
    · obtain ⟨b, hb⟩ : ∃ b, s[k].toNat = b := ⟨_, rfl⟩
      have hbt : Hid (bt s k = b) := by unfold Hid; rw [← bt_eq s k hkz, hb]
      have hble : b ≤ 255 := by have := s[k].toNat_lt; omega
      have hin := within (b : Int) 33 126 w
      by_cases hn : 33 ≤ b ∧ b ≤ 126
      · rw [decide_eq_true (show (33 : Int) ≤ b ∧ (b : Int) ≤ 126 by omega)] at hin
        go_wp2_with (go_at_call 48; refine hin.mono ?_; rintro e w0 ⟨rfl, hw0⟩; obtain rfl := hw0.symm)
        go_round
        case rel => exact ⟨k + 1, by omega, by go_num, next_all hall.out hbt.out hn.1 hn.2⟩
        case measure => simp [intOf]; omega
      · rw [decide_eq_false (show ¬ ((33 : Int) ≤ b ∧ (b : Int) ≤ 126) by omega)] at hin
        go_wp2_with (go_at_call 48; refine hin.mono ?_; rintro e w0 ⟨rfl, hw0⟩; obtain rfl := hw0.symm)
        go_ret
        rw [good_byte s k hkz (by rw [hbt.out]; exact hn)]
        exact ⟨rfl, rfl⟩
    · obtain rfl : k = s.size := by omega
      go_wp2
      go_ret
      refine ⟨?_, rfl⟩
      by_cases h60 : s.size ≤ 60
      · rw [good_true s h60 hall.out]; simp; try omega
      · rw [good_size s (by omega)]; simp; try omega

theorem impl_key (s : ByteArray) (w : World) (hs : s.size ≤ 1048576) :
    Calls Tryz.prog 26 #[.string s] w fun e w' => e = .returned (.bool (good s)) ∧ w = w' := by
  by_cases h60 : 60 < s.size
  · rw [good_size s (by omega)]
    go_enter Tryz.func26, Tryz.ntmps26
    go_wp2
    go_ret
    exact ⟨rfl, rfl⟩
  go_enter Tryz.func26, Tryz.ntmps26
  go_wp2
  go_loop [9] (fun c => ∃ k : Nat, k ≤ s.size ∧ c = .int .i64 k ∧ Hid (∀ j, j < k → 33 ≤ bt s j ∧ bt s j ≤ 126)) (fun c => s.size - (intOf c).toNat)
  case atStart => exact ⟨0, Nat.zero_le _, rfl, fun j hj => by omega⟩
  case round =>
    obtain ⟨k, hk, rfl, hall⟩ := hrel
    by_cases hkz : k < s.size
    · obtain ⟨b, hb⟩ : ∃ b, s[k].toNat = b := ⟨_, rfl⟩
      have hbt : Hid (bt s k = b) := by unfold Hid; rw [← bt_eq s k hkz, hb]
      by_cases hn : 33 ≤ b
      · by_cases hm : b ≤ 126
        · go_wp2
          go_round
          case rel => exact ⟨k + 1, by omega, by go_num, next_all hall.out hbt.out hn hm⟩
          case measure => simp [intOf]; omega
        · go_wp2
          go_ret
          rw [good_byte s k hkz (by rw [hbt.out]; omega)]
          exact ⟨rfl, rfl⟩
      · go_wp2
        go_ret
        rw [good_byte s k hkz (by rw [hbt.out]; omega)]
        exact ⟨rfl, rfl⟩
    · obtain rfl : k = s.size := by omega
      go_wp2
      go_ret
      rw [good_true s (by omega) hall.out]
      exact ⟨rfl, rfl⟩
end Go.Proofs.YtnooibeohdfcmaaGreatDoor.ky
