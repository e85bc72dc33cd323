/- The specification's writer of a decimal number answers the library's own numeral at every int; no world is changed. -/
import Derived.Test.YtldonbeaiipecaaDoorRows
import Derived.WalkKit
import Derived.WalkLawsBesides
import Derived.WalkSpells
import Derived.ProofKit
import Derived.OpenShut
import Derived.ShutString
import Derived.Lib.ItoaNum
namespace Go.Proofs.YtldonbeaiipecaaDoor.dt
open Go.ChangeShapes Go.WideShapes Go.ChangeAt Go.RowKit

/-- the numeral of what is left: nothing for 0 -/
def pre (a : Nat) : List UInt8 := if a = 0 then [] else Lib.decDigits a
theorem pre_step {a : Nat} (h : a ≠ 0) : pre a = pre (a / 10) ++ [UInt8.ofNat (48 + a % 10)] := by
  unfold pre
  rw [if_neg h, Lib.decDigits]
  by_cases h10 : a < 10
  · rw [dif_pos h10, if_pos (by omega), Nat.mod_eq_of_lt h10]; rfl
  · rw [dif_neg h10, if_neg (by omega)]
theorem digits_le : ∀ (k u : Nat), u < 10 ^ (k + 1) → (Lib.decDigits u).length ≤ k + 1
  | 0, u, h => by rw [Lib.decDigits, dif_pos (by omega)]; simp
  | k + 1, u, h => by
    rw [Lib.decDigits]
    by_cases h10 : u < 10
    · rw [dif_pos h10]; simp
    · rw [dif_neg h10]
      have := digits_le k (u / 10) (by rw [Nat.pow_succ] at h; omega)
      simp
      omega

/-- one digit's text -/
theorem digit_text (r : Nat) (h : r < 10) : (⟨#[48, 49, 50, 51, 52, 53, 54, 55, 56, 57]⟩ : ByteArray).extract r (r + 1) = ⟨#[UInt8.ofNat (48 + r)]⟩ := by
  have : r = 0 ∨ r = 1 ∨ r = 2 ∨ r = 3 ∨ r = 4 ∨ r = 5 ∨ r = 6 ∨ r = 7 ∨ r = 8 ∨ r = 9 := by omega
  rcases this with rfl | rfl | rfl | rfl | rfl | rfl | rfl | rfl | rfl | rfl <;> decide +kernel

theorem spec_pos (n : Nat) (w : World) (hn : (n : Int) ≤ 9223372036854775807) (h0 : n ≠ 0) :
    Calls Tryd.prog 6 #[.int .i64 n] w fun e w' => e = .returned (.string ⟨(Lib.decDigits n).toArray⟩) ∧ w = w' := by
  have hne : ((n : Int) == 0) = false := by simp; omega
  have hD : Hid ((Lib.decDigits n).length ≤ 20) := digits_le 19 n (by omega)
  go_enter Tryd.func6, Tryd.ntmps6
  go_wp2
  go_loop [3, 4, 5] (fun o m _ => ∃ (a : Nat) (l : List UInt8), a ≤ n ∧ m = .int .i64 a ∧ o = .string ⟨l.toArray⟩ ∧ Hid (pre a ++ l = Lib.decDigits n)) (fun _ m _ => (intOf m).toNat)
  case atStart => exact ⟨n, [], Nat.le_refl _, rfl, rfl, by unfold Hid; simp [pre, h0]⟩
  case round =>
    obtain ⟨a, l, ha, rfl, rfl, hl⟩ := hrel
    by_cases haz : a = 0
    · subst haz
      have hll : l = Lib.decDigits n := by simpa [Hid, pre] using hl
      subst hll
      go_wp2
      go_ret
      exact ⟨rfl, rfl⟩
    · have hq : (((a : Nat) : Int) != 0) = true := by simp; omega
      have hls : l.length ≤ 20 := by
        have h1 := congrArg List.length hl.out
        have h2 := hD.out
        simp at h1
        omega
      have hd0 : decide (((a : Nat) : Int) % 10 < 0) = false := by simp; omega
      go_wp2
      go_round
      case rel => exact ⟨a / 10, UInt8.ofNat (48 + a % 10) :: l, by omega, by go_num, by rw [digit_text _ (Nat.mod_lt _ (by decide))]; exact congrArg Value.string (ByteArray.ext (by simp)), by unfold Hid; rw [← hl.out, pre_step haz]; simp⟩
      case measure => simp [intOf]; omega

theorem spec_neg (n : Nat) (w : World) (hn : (n : Int) ≤ 9223372036854775808) (h0 : n ≠ 0) :
    Calls Tryd.prog 6 #[.int .i64 (-(n : Int))] w fun e w' => e = .returned (.string ⟨(45 :: Lib.decDigits n).toArray⟩) ∧ w = w' := by
  have hne : (-(n : Int) == 0) = false := by simp; omega
  have hD : Hid ((Lib.decDigits n).length ≤ 20) := digits_le 19 n (by omega)
  go_enter Tryd.func6, Tryd.ntmps6
  go_wp2
  go_loop [3, 4, 5] (fun o m _ => ∃ (a : Nat) (l : List UInt8), a ≤ n ∧ m = .int .i64 (-(a : Int)) ∧ o = .string ⟨l.toArray⟩ ∧ Hid (pre a ++ l = Lib.decDigits n)) (fun _ m _ => (-(intOf m)).toNat)
  case atStart => exact ⟨n, [], Nat.le_refl _, rfl, rfl, by unfold Hid; simp [pre, h0]⟩
  case round =>
    obtain ⟨a, l, ha, rfl, rfl, hl⟩ := hrel
    have hls : l.length ≤ 20 := by
      have h1 := congrArg List.length hl.out
      have h2 := hD.out
      simp at h1
      omega
    by_cases haz : a = 0
    · subst haz
      have hll : l = Lib.decDigits n := by simpa [Hid, pre] using hl
      subst hll
      go_wp2
      go_ret
      exact ⟨congrArg (fun s => Ending.returned (Value.string s)) (ByteArray.ext (by simp)), rfl⟩
    · have hq : ((-((a : Nat) : Int)) != 0) = true := by simp; omega
      go_wp2
      · go_round
        case rel => exact ⟨a / 10, UInt8.ofNat (48 + a % 10) :: l, by omega, by go_num, by rw [digit_text _ (Nat.mod_lt _ (by decide))]; exact congrArg Value.string (ByteArray.ext (by simp)), by unfold Hid; rw [← hl.out, pre_step haz]; simp⟩
        case measure => simp [intOf]; omega
      · have hz : ((a : Nat) : Int) % 10 ≤ 0 := by assumption
        have e1 : (-(((a : Nat) : Int) % 10)).toNat = a % 10 := by omega
        have e2 : (-(((a : Nat) : Int) % 10) + 1).toNat = a % 10 + 1 := by omega
        go_round
        case rel => exact ⟨a / 10, UInt8.ofNat (48 + a % 10) :: l, by omega, by go_num, by rw [e1, e2, digit_text _ (Nat.mod_lt _ (by decide))]; exact congrArg Value.string (ByteArray.ext (by simp)), by unfold Hid; rw [← hl.out, pre_step haz]; simp⟩
        case measure => simp [intOf]; omega

theorem spec_zero (w : World) : Calls Tryd.prog 6 #[.int .i64 0] w fun e w' => e = .returned (.string ⟨#[48]⟩) ∧ w = w' := by
  go_enter Tryd.func6, Tryd.ntmps6
  go_wp2
  go_ret
  exact ⟨rfl, rfl⟩

theorem spec_dec (n : Int) (w : World) (h0 : -9223372036854775808 ≤ n) (h1 : n ≤ 9223372036854775807) :
    Calls Tryd.prog 6 #[.int .i64 n] w fun e w' => e = .returned (.string ⟨(Lib.itoa n).toArray⟩) ∧ w = w' := by
  by_cases hneg : n < 0
  · obtain ⟨u, rfl⟩ : ∃ u : Nat, n = -(u : Int) := ⟨n.natAbs, by omega⟩
    have e : Lib.itoa (-(u : Int)) = 45 :: Lib.decDigits u := by
      unfold Lib.itoa
      rw [if_pos hneg, show (-(u : Int)).natAbs = u by omega]
    rw [e]
    exact spec_neg u w (by omega) (by omega)
  · obtain ⟨u, rfl⟩ : ∃ u : Nat, n = (u : Int) := ⟨n.toNat, by omega⟩
    have e : Lib.itoa (u : Int) = Lib.decDigits u := by
      unfold Lib.itoa
      rw [if_neg hneg, show ((u : Int)).toNat = u by omega]
    rw [e]
    by_cases hz : u = 0
    · subst hz
      have : Lib.decDigits 0 = [48] := by rw [Lib.decDigits, dif_pos (by decide)]; rfl
      rw [this]
      exact spec_zero w
    · exact spec_pos u w h1 hz
end Go.Proofs.YtldonbeaiipecaaDoor.dt
