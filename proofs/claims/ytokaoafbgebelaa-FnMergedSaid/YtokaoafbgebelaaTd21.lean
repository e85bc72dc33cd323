/- The specification's writer of a decimal number answers the library's own numeral at every int; no world is changed. -/
import Derived.Test.YtokaoafbgebelaaDrawBase
import Derived.Test.YtokaoafbgebelaaDrawBytes
import Derived.Test.YtokaoafbgebelaaRows
import Derived.WalkKit
import Derived.WalkLawsBesides
import Derived.WalkSpells
import Derived.ProofKit
import Derived.OpenShut
import Derived.ShutString
import Derived.Lib.ItoaNum

/- The draw of one case out of n. -/
namespace Go.Proofs.Ytokaoafbgebelaa.dw
open Go.ChangeShapes Go.WideShapes Go.ChangeAt Go.RowKit

theorem draw_once (p : Nat) (a : Option Addr) (len cap n : Nat) (w : World) (hn : 1 ≤ n ∧ n ≤ 4294967296) (hc : Cur w p a len cap) :
    Calls Try.prog 30 #[.pointer (some ⟨p, 0, none⟩), .int .i64 n] w fun e w' => (∃ b : Bool, e = .returned (.bool b)) ∧ Cur w' p a len cap ∧ On p w w' := by
  have h1 := draw_below p a len cap n w hn hc
  clear hc
  go_enter Try.func30, Try.ntmps30
  go_wp2_with (go_at_call 32; refine h1.mono ?_; rintro e w1 ⟨⟨x, hx, rfl⟩, hc1, hb1⟩)
  go_ret
  exact ⟨⟨_, rfl⟩, hc1, hb1⟩
end Go.Proofs.Ytokaoafbgebelaa.dw

/- The specification's draw of a table's key. -/
namespace Go.Proofs.Ytokaoafbgebelaa.dkt
set_option linter.unusedVariables false
open Go.ChangeShapes Go.WideShapes Go.ChangeAt Go.RowKit Go.Proofs.Ytokaoafbgebelaa.dw

def seven : List ByteArray := [⟨#[97]⟩, ⟨#[98]⟩, ⟨#[99]⟩, ⟨#[100]⟩, ⟨#[101]⟩, ⟨#[97, 97]⟩, ⟨#[0]⟩]
theorem seven_in : ∀ z ∈ seven, z.size ≤ 101 := by decide
def ints : List Int := [0, 100, 101]
theorem ints_in : ∀ z ∈ ints, 0 ≤ z ∧ z ≤ 101 := by decide
set_option maxRecDepth 100000 in
set_option maxHeartbeats 1000000 in
theorem draw_key (p : Nat) (a : Option Addr) (len cap : Nat) (w : World) (hc : Cur w p a len cap) :
    Calls Try.prog 29 #[.pointer (some ⟨p, 0, none⟩)] w fun e w' => (∃ s : ByteArray, s.size ≤ 101 ∧ e = .returned (.string s)) ∧ Cur w' p a len cap ∧ On p w w' := by
  have h1 := draw_once p a len cap 30 w (by omega) hc
  clear hc
  go_enter Try.func29, Try.ntmps29
  go_wp2_with (go_at_call 30; fail)
  refine h1.mono ?_
  rintro e w1 ⟨⟨b, rfl⟩, hc1, hb1⟩
  have hp1 := hc1.lt
  clear h1
  cases b with
  | true =>
    have h2 := draw_pick_int p a len cap w1.heap.size 3 ints _ (by omega) (by omega) (at_list w1 ints 3) (hc1.alloc _)
    have hon1 := hb1.alloc (.cells (ints.map (Value.int .i64)).toArray 3)
    clear hc1 hb1
    go_wp2_with (go_at_call 55; fail)
    refine h2.mono ?_
    rintro e w2 ⟨⟨z, hz, rfl⟩, hc2, hb2⟩
    have hz1 := ints_in z hz
    obtain ⟨n, rfl⟩ : ∃ n : Nat, z = (n : Int) := ⟨z.toNat, by omega⟩
    have h3 := draw_bytes p a len cap n w2 (by omega) hc2
    have hon2 := hon1.trans hb2
    clear h2 hc2 hb2 hz hon1
    go_wp2_with (go_at_call 31; fail)
    refine h3.mono ?_
    rintro e w3 ⟨⟨s, hs, rfl⟩, hc3, hb3⟩
    have hon3 := hon2.trans hb3
    clear h3
    go_wp2
    go_ret
    exact ⟨⟨s, by omega, rfl⟩, hc3, hon3⟩
  | false =>
    have h2 := draw_pick p a len cap w1.heap.size 7 seven _ (by omega) (by omega) (at_texts w1 seven 9) (hc1.alloc _)
    have hon1 := hb1.alloc (.cells (seven.map Value.string).toArray 9)
    clear hc1 hb1
    go_wp2_with (go_at_call 51; fail)
    refine h2.mono ?_
    rintro e w2 ⟨⟨z, hz, rfl⟩, hc2, hb2⟩
    have hz1 := seven_in z hz
    have hon2 := hon1.trans hb2
    clear h2 hb2 hz hon1
    go_wp2
    go_ret
    exact ⟨⟨z, hz1, rfl⟩, hc2, hon2⟩
end Go.Proofs.Ytokaoafbgebelaa.dkt

/- The specification's writer of a decimal number answers the library's own numeral at every int; no world is changed. -/
namespace Go.Proofs.Ytokaoafbgebelaa.dt
open Go.ChangeShapes Go.WideShapes Go.ChangeAt Go.RowKit

/-- the numeral of what is left: nothing for 0 -/
def pre (a : Nat) : List UInt8 := if a = 0 then [] else Lib.decDigits a
theorem pre_step {a : Nat} (h : a ≠ 0) : pre a = pre (a / 10) ++ [UInt8.ofNat (48 + a % 10)] := by
  unfold pre
  rw [if_neg h, Lib.decDigits]
  by_cases h10 : a < 10
  · rw [dif_pos h10, if_pos (by omega), Nat.mod_eq_of_lt h10]; rfl
  · rw [dif_neg h10, if_neg (by omega)]
theorem digits_le : ∀ (k u : Nat), u < 10 ^ (k + 1) → (Lib.decDigits u).length ≤ k + 1
  | 0, u, h => by rw [Lib.decDigits, dif_pos (by omega)]; simp
  | k + 1, u, h => by
    rw [Lib.decDigits]
    by_cases h10 : u < 10
    · rw [dif_pos h10]; simp
    · rw [dif_neg h10]
      have := digits_le k (u / 10) (by rw [Nat.pow_succ] at h; omega)
      simp
      omega

/-- one digit's text -/
theorem digit_text (r : Nat) (h : r < 10) : (⟨#[48, 49, 50, 51, 52, 53, 54, 55, 56, 57]⟩ : ByteArray).extract r (r + 1) = ⟨#[UInt8.ofNat (48 + r)]⟩ := by
  have : r = 0 ∨ r = 1 ∨ r = 2 ∨ r = 3 ∨ r = 4 ∨ r = 5 ∨ r = 6 ∨ r = 7 ∨ r = 8 ∨ r = 9 := by omega
  rcases this with rfl | rfl | rfl | rfl | rfl | rfl | rfl | rfl | rfl | rfl <;> decide +kernel

theorem spec_pos (n : Nat) (w : World) (hn : (n : Int) ≤ 9223372036854775807) (h0 : n ≠ 0) :
    Calls Try.prog 54 #[.int .i64 n] w fun e w' => e = .returned (.string ⟨(Lib.decDigits n).toArray⟩) ∧ w = w' := by
  have hne : ((n : Int) == 0) = false := by simp; omega
  have hD : Hid ((Lib.decDigits n).length ≤ 20) := digits_le 19 n (by omega)
  go_enter Try.func54, Try.ntmps54
  go_wp2
  go_loop [3, 4, 5] (fun o m _ => ∃ (a : Nat) (l : List UInt8), a ≤ n ∧ m = .int .i64 a ∧ o = .string ⟨l.toArray⟩ ∧ Hid (pre a ++ l = Lib.decDigits n)) (fun _ m _ => (intOf m).toNat)
  case atStart => exact ⟨n, [], Nat.le_refl _, rfl, rfl, by unfold Hid; simp [pre, h0]⟩
  case round =>
    obtain ⟨a, l, ha, rfl, rfl, hl⟩ := hrel
    by_cases haz : a = 0
    · subst haz
      have hll : l = Lib.decDigits n := by simpa [Hid, pre] using hl
      subst hll
      go_wp2
      go_ret
      exact ⟨rfl, rfl⟩
    · have hq : (((a : Nat) : Int) != 0) = true := by simp; omega
      have hls : l.length ≤ 20 := by
        have h1 := congrArg List.length hl.out
        have h2 := hD.out
        simp at h1
        omega
      have hd0 : decide (((a : Nat) : Int) % 10 < 0) = false := by simp; omega
      go_wp2
      go_round
      case rel => exact ⟨a / 10, UInt8.ofNat (48 + a % 10) :: l, by omega, by go_num, by rw [digit_text _ (Nat.mod_lt _ (by decide))]; exact congrArg Value.string (ByteArray.ext (by simp)), by unfold Hid; rw [← hl.out, pre_step haz]; simp⟩
      case measure => simp [intOf]; omega

theorem spec_neg (n : Nat) (w : World) (hn : (n : Int) ≤ 9223372036854775808) (h0 : n ≠ 0) :
    Calls Try.prog 54 #[.int .i64 (-(n : Int))] w fun e w' => e = .returned (.string ⟨(45 :: Lib.decDigits n).toArray⟩) ∧ w = w' := by
  have hne : (-(n : Int) == 0) = false := by simp; omega
  have hD : Hid ((Lib.decDigits n).length ≤ 20) := digits_le 19 n (by omega)
  go_enter Try.func54, Try.ntmps54
  go_wp2
  go_loop [3, 4, 5] (fun o m _ => ∃ (a : Nat) (l : List UInt8), a ≤ n ∧ m = .int .i64 (-(a : Int)) ∧ o = .string ⟨l.toArray⟩ ∧ Hid (pre a ++ l = Lib.decDigits n)) (fun _ m _ => (-(intOf m)).toNat)
  case atStart => exact ⟨n, [], Nat.le_refl _, rfl, rfl, by unfold Hid; simp [pre, h0]⟩
  case round =>
    obtain ⟨a, l, ha, rfl, rfl, hl⟩ := hrel
    have hls : l.length ≤ 20 := by
      have h1 := congrArg List.length hl.out
      have h2 := hD.out
      simp at h1
      omega
    by_cases haz : a = 0
    · subst haz
      have hll : l = Lib.decDigits n := by simpa [Hid, pre] using hl
      subst hll
      go_wp2
      go_ret
      exact ⟨congrArg (fun s => Ending.returned (Value.string s)) (ByteArray.ext (by simp)), rfl⟩
    · have hq : ((-((a : Nat) : Int)) != 0) = true := by simp; omega
      go_wp2
      · go_round
        case rel => exact ⟨a / 10, UInt8.ofNat (48 + a % 10) :: l, by omega, by go_num, by rw [digit_text _ (Nat.mod_lt _ (by decide))]; exact congrArg Value.string (ByteArray.ext (by simp)), by unfold Hid; rw [← hl.out, pre_step haz]; simp⟩
        case measure => simp [intOf]; omega
      · have hz : ((a : Nat) : Int) % 10 ≤ 0 := by assumption
        have e1 : (-(((a : Nat) : Int) % 10)).toNat = a % 10 := by omega
        have e2 : (-(((a : Nat) : Int) % 10) + 1).toNat = a % 10 + 1 := by omega
        go_round
        case rel => exact ⟨a / 10, UInt8.ofNat (48 + a % 10) :: l, by omega, by go_num, by rw [e1, e2, digit_text _ (Nat.mod_lt _ (by decide))]; exact congrArg Value.string (ByteArray.ext (by simp)), by unfold Hid; rw [← hl.out, pre_step haz]; simp⟩
        case measure => simp [intOf]; omega

theorem spec_zero (w : World) : Calls Try.prog 54 #[.int .i64 0] w fun e w' => e = .returned (.string ⟨#[48]⟩) ∧ w = w' := by
  go_enter Try.func54, Try.ntmps54
  go_wp2
  go_ret
  exact ⟨rfl, rfl⟩

theorem spec_dec (n : Int) (w : World) (h0 : -9223372036854775808 ≤ n) (h1 : n ≤ 9223372036854775807) :
    Calls Try.prog 54 #[.int .i64 n] w fun e w' => e = .returned (.string ⟨(Lib.itoa n).toArray⟩) ∧ w = w' := by
  by_cases hneg : n < 0
  · obtain ⟨u, rfl⟩ : ∃ u : Nat, n = -(u : Int) := ⟨n.natAbs, by omega⟩
    have e : Lib.itoa (-(u : Int)) = 45 :: Lib.decDigits u := by
      unfold Lib.itoa
      rw [if_pos hneg, show (-(u : Int)).natAbs = u by omega]
    rw [e]
    exact spec_neg u w (by omega) (by omega)
  · obtain ⟨u, rfl⟩ : ∃ u : Nat, n = (u : Int) := ⟨n.toNat, by omega⟩
    have e : Lib.itoa (u : Int) = Lib.decDigits u := by
      unfold Lib.itoa
      rw [if_neg hneg, show ((u : Int)).toNat = u by omega]
    rw [e]
    by_cases hz : u = 0
    · subst hz
      have : Lib.decDigits 0 = [48] := by rw [Lib.decDigits, dif_pos (by decide)]; rfl
      rw [this]
      exact spec_zero w
    · exact spec_pos u w h1 hz
end Go.Proofs.Ytokaoafbgebelaa.dt
