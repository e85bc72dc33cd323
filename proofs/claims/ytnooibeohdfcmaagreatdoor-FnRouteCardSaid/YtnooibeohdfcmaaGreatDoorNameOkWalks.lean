/- The two tests of a name, the specification's and the program's, answer alike at every text of at most 1048576 bytes; no world is changed. -/
import Derived.Test.YtnooibeohdfcmaaGreatDoorRows
import Derived.WalkKit
import Derived.WalkLawsBesides
import Derived.ProofKit
import Derived.OpenShut
import Derived.ShutString
namespace Go.Proofs.YtnooibeohdfcmaaGreatDoor.nm
open Go.ChangeShapes Go.WideShapes Go.ChangeAt Go.RowKit

def bt (s : ByteArray) (k : Nat) : Nat := if h : k < s.size then s[k].toNat else 0
theorem bt_eq (s : ByteArray) (k : Nat) (h : k < s.size) : s[k].toNat = bt s k := by simp [bt, h]
/-- a byte of a name -/
def nb (b : Nat) : Prop := (97 ≤ b ∧ b ≤ 122) ∨ (48 ≤ b ∧ b ≤ 57) ∨ b = 45 ∨ b = 46 ∨ b = 95

def good (s : ByteArray) : Bool := decide (1 ≤ s.size ∧ s.size ≤ 30 ∧ ∀ j, j < s.size → (fun b : Nat => decide ((97 ≤ b ∧ b ≤ 122) ∨ (48 ≤ b ∧ b ≤ 57) ∨ b = 45 ∨ b = 46 ∨ b = 95)) (bt s j) = true)

theorem good_true (s : ByteArray) (h1 : 1 ≤ s.size) (h2 : s.size ≤ 30) (h : ∀ j, j < s.size → nb (bt s j)) : good s = true := by
  simp only [good, decide_eq_true_eq]
  exact ⟨h1, h2, fun j hj => h j hj⟩
theorem good_size (s : ByteArray) (h : s.size < 1 ∨ 30 < s.size) : good s = false := by
  simp only [good, decide_eq_false_iff_not]
  omega
theorem good_byte (s : ByteArray) (j : Nat) (hj : j < s.size) (h : ¬ nb (bt s j)) : good s = false := by
  simp only [good, decide_eq_false_iff_not]
  intro hh
  have := hh.2.2 j hj
  simp only [decide_eq_true_eq] at this
  exact h this

theorem next_all {s : ByteArray} {k b : Nat} (hall : ∀ j, j < k → nb (bt s j)) (hb : bt s k = b) (hn : nb b) : ∀ j, j < k + 1 → nb (bt s j) := by
  intro j hj
  by_cases e : j = k
  · subst e; rw [hb]; exact hn
  · exact hall j (by omega)

set_option maxHeartbeats 1000000 in
theorem spec_name (s : ByteArray) (w : World) (hs : s.size ≤ 1048576) :
    Calls Tryz.prog 43 #[.string s] w fun e w' => e = .returned (.bool (good s)) ∧ w = w' := by
  go_enter Tryz.func43, Tryz.ntmps43
  go_wp2
  go_loop [3, 4] (fun c _ => ∃ k : Nat, k ≤ s.size ∧ c = .int .i64 k ∧ Hid (∀ j, j < k → nb (bt s j))) (fun c _ => s.size - (intOf c).toNat)
  case atStart => exact ⟨0, Nat.zero_le _, rfl, fun j hj => by omega⟩
  case round =>
    obtain ⟨k, hk, rfl, hall⟩ := hrel
    by_cases hkz : k < s.size
    · obtain ⟨b, hb⟩ : ∃ b, s[k].toNat = b := ⟨_, rfl⟩
      have hbt : Hid (bt s k = b) := by unfold Hid; rw [← bt_eq s k hkz, hb]
      have hble : b ≤ 255 := by have := s[k].toNat_lt; omega
      by_cases hn : nb b
      · have hn' := hn
        unfold nb at hn'
        have hnh : Hid (nb b) := hn
        clear hn
        rcases hn' with ⟨h1, h2⟩ | ⟨h1, h2⟩ | rfl | rfl | rfl
        all_goals go_wp2
        all_goals go_round
        all_goals first | exact ⟨k + 1, by omega, by go_num, next_all hall.out hbt.out hnh.out⟩ | (simp [intOf]; omega)
      · have hn' := hn
        unfold nb at hn'
        have hnh : Hid (¬ nb b) := hn
        clear hn
        have hsp : b < 45 ∨ b = 47 ∨ (58 ≤ b ∧ b < 95) ∨ b = 96 ∨ 122 < b := by omega
        have e45 : ((b : Int) != 45) = true := by simp; omega
        have e46 : ((b : Int) != 46) = true := by simp; omega
        have e95 : ((b : Int) != 95) = true := by simp; omega
        have fin : (Ending.returned (Value.bool false)) = Ending.returned (Value.bool (good s)) := by rw [good_byte s k hkz (by rw [hbt.out]; exact hnh.out)]
        clear hn'
        rcases hsp with h1 | rfl | ⟨h1, h2⟩ | rfl | h1
        · go_wp2
          go_ret
          exact ⟨fin, rfl⟩
        · go_wp2
          go_ret
          exact ⟨fin, rfl⟩
        · have d57 : decide ((b : Int) ≤ 57) = false := by simp; omega
          go_wp2
          go_ret
          exact ⟨fin, rfl⟩
        · go_wp2
          go_ret
          exact ⟨fin, rfl⟩
        · have d57 : decide ((b : Int) ≤ 57) = false := by simp; omega
          have d122 : decide ((b : Int) ≤ 122) = false := by simp; omega
          go_wp2
          go_ret
          exact ⟨fin, rfl⟩
    · obtain rfl : k = s.size := by omega
      go_wp2
      all_goals go_ret
      all_goals refine ⟨?_, rfl⟩
      · by_cases h30 : s.size ≤ 30
        · simp [good_true s (by omega) h30 hall.out]; omega
        · simp [good_size s (by omega)]; omega
      · simp [good_size s (by omega)]

theorem byte_yes (b : Nat) (w : World) (hn : nb b) : Calls Tryz.prog 72 #[.int .u8 b] w fun e w' => e = .returned (.bool true) ∧ w = w' := by
  unfold nb at hn
  rcases hn with ⟨h1, h2⟩ | ⟨h1, h2⟩ | rfl | rfl | rfl
  all_goals go_enter Tryz.func72, Tryz.ntmps72
  all_goals go_wp2
  all_goals go_ret
  all_goals exact ⟨rfl, rfl⟩

theorem byte_no (b : Nat) (w : World) (hn : ¬ nb b) : Calls Tryz.prog 72 #[.int .u8 b] w fun e w' => e = .returned (.bool false) ∧ w = w' := by
  unfold nb at hn
  have hsp : b < 45 ∨ b = 47 ∨ (58 ≤ b ∧ b < 95) ∨ b = 96 ∨ 122 < b := by omega
  have e45 : ((b : Int) == 45) = false := by simp; omega
  have e46 : ((b : Int) == 46) = false := by simp; omega
  have e95 : ((b : Int) == 95) = false := by simp; omega
  clear hn
  rcases hsp with h1 | rfl | ⟨h1, h2⟩ | rfl | h1
  · go_enter Tryz.func72, Tryz.ntmps72
    go_wp2
    go_ret
    exact ⟨rfl, rfl⟩
  · go_enter Tryz.func72, Tryz.ntmps72
    go_wp2
    go_ret
    exact ⟨rfl, rfl⟩
  · have d57 : decide ((b : Int) ≤ 57) = false := by simp; omega
    go_enter Tryz.func72, Tryz.ntmps72
    go_wp2
    go_ret
    exact ⟨rfl, rfl⟩
  · go_enter Tryz.func72, Tryz.ntmps72
    go_wp2
    go_ret
    exact ⟨rfl, rfl⟩
  · have d57 : decide ((b : Int) ≤ 57) = false := by simp; omega
    have d122 : decide ((b : Int) ≤ 122) = false := by simp; omega
    go_enter Tryz.func72, Tryz.ntmps72
    go_wp2
    go_ret
    exact ⟨rfl, rfl⟩

theorem impl_name (s : ByteArray) (w : World) (hs : s.size ≤ 1048576) :
    Calls Tryz.prog 53 #[.string s] w fun e w' => e = .returned (.bool (good s)) ∧ w = w' := by
  by_cases h1 : s.size < 1
  · rw [good_size s (by omega)]
    go_enter Tryz.func53, Tryz.ntmps53
    go_wp2
    go_ret
    exact ⟨rfl, rfl⟩
  by_cases h30 : 30 < s.size
  · rw [good_size s (by omega)]
    go_enter Tryz.func53, Tryz.ntmps53
    go_wp2
    go_ret
    exact ⟨rfl, rfl⟩
  go_enter Tryz.func53, Tryz.ntmps53
  go_wp2
  go_loop [14] (fun c => ∃ k : Nat, k ≤ s.size ∧ c = .int .i64 k ∧ Hid (∀ j, j < k → nb (bt s j))) (fun c => s.size - (intOf c).toNat)
  case atStart => exact ⟨0, Nat.zero_le _, rfl, fun j hj => by omega⟩
  case round =>
    obtain ⟨k, hk, rfl, hall⟩ := hrel
    by_cases hkz : k < s.size
    · obtain ⟨b, hb⟩ : ∃ b, s[k].toNat = b := ⟨_, rfl⟩
      have hbt : Hid (bt s k = b) := by unfold Hid; rw [← bt_eq s k hkz, hb]
      by_cases hn : nb b
      · have hnh : Hid (nb b) := hn
        clear hn
        go_wp2_with (go_at_call 72; refine (byte_yes b w hnh.out).mono ?_; rintro e w' ⟨rfl, rfl⟩)
        go_round
        case rel => exact ⟨k + 1, by omega, by go_num, next_all hall.out hbt.out hnh.out⟩
        case measure => simp [intOf]; omega
      · have hnh : Hid (¬ nb b) := hn
        clear hn
        go_wp2_with (go_at_call 72; refine (byte_no b w hnh.out).mono ?_; rintro e w' ⟨rfl, rfl⟩)
        go_ret
        rw [good_byte s k hkz (by rw [hbt.out]; exact hnh.out)]
        exact ⟨rfl, rfl⟩
    · obtain rfl : k = s.size := by omega
      go_wp2
      go_ret
      rw [good_true s (by omega) (by omega) hall.out]
      exact ⟨rfl, rfl⟩
end Go.Proofs.YtnooibeohdfcmaaGreatDoor.nm
