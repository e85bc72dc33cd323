/- The two sums, the specification's and the program's, answer alike at every text of at most 1048576 bytes, where the program's table holds its sixteen numbers; no world is changed. -/
import Derived.Test.YtlgcciaebkfnjaaGreatDoorRows
import Derived.WalkKit
import Derived.WalkLawsBesides
import Derived.ProofKit
import Derived.OpenShut
import Derived.ShutString
import Derived.Laws.BitsAllLaws
namespace Go.Proofs.YtlgcciaebkfnjaaGreatDoor.cs
open Go.ChangeShapes Go.WideShapes Go.ChangeAt Go.RowKit

def half (x : Nat) : Nat := if x % 2 = 1 then (x / 2) ^^^ 2197175160 else x / 2
def halves : Nat → Nat → Nat
  | 0, x => x
  | k + 1, x => half (halves k x)

theorem xor_div (a b : Nat) : (a ^^^ b) / 2 = (a / 2) ^^^ (b / 2) := by
  apply Nat.eq_of_testBit_eq
  intro i
  rw [Nat.testBit_xor, ← Nat.testBit_succ, ← Nat.testBit_succ, ← Nat.testBit_succ, Nat.testBit_xor]
theorem xor_mod (a b : Nat) : (a ^^^ b) % 2 = (a % 2 + b % 2) % 2 := by
  have h : (a ^^^ b).testBit 0 = (a.testBit 0 ^^ b.testBit 0) := Nat.testBit_xor ..
  have e : ∀ n : Nat, n % 2 = if n.testBit 0 then 1 else 0 := fun n => by
    rcases Nat.mod_two_eq_zero_or_one n with hn | hn <;> simp [Nat.testBit_zero, hn]
  rw [e (a ^^^ b), e a, e b, h]
  cases a.testBit 0 <;> cases b.testBit 0 <;> rfl

theorem half_xor (a b : Nat) : half (a ^^^ b) = half a ^^^ half b := by
  unfold half
  rw [xor_div, xor_mod]
  rcases Nat.mod_two_eq_zero_or_one a with ha | ha <;> rcases Nat.mod_two_eq_zero_or_one b with hb | hb <;> simp [ha, hb]
  · rw [Nat.xor_assoc]
  · rw [Nat.xor_assoc, Nat.xor_assoc]; congr 1; exact Nat.xor_comm _ _
  · rw [Nat.xor_assoc, ← Nat.xor_assoc 2197175160, Nat.xor_comm 2197175160, Nat.xor_assoc (b / 2), Nat.xor_self, Nat.xor_zero]

theorem halves_xor (k a b : Nat) : halves k (a ^^^ b) = halves k a ^^^ halves k b := by
  induction k with
  | zero => rfl
  | succ k ih => simp only [halves, ih, half_xor]

theorem split16 (x : Nat) : (16 * (x / 16)) ^^^ (x % 16) = x := by
  apply Nat.eq_of_testBit_eq
  intro i
  have h1 : x = 2 ^ 4 * (x / 16) + x % 16 := by omega
  have hx : x.testBit i = (2 ^ 4 * (x / 16) + x % 16).testBit i := congrArg (fun y => Nat.testBit y i) h1
  rw [hx, Nat.testBit_two_pow_mul_add _ (Nat.mod_lt _ (by decide)), Nat.testBit_xor, show 16 * (x / 16) = 2 ^ 4 * (x / 16) by omega, Nat.testBit_two_pow_mul]
  by_cases hi : i < 4
  · have h4 : ¬ 4 ≤ i := by omega
    simp [hi, h4]
  · have h16 : (x % 16).testBit i = false := Nat.testBit_lt_two_pow (Nat.lt_of_lt_of_le (Nat.mod_lt _ (by decide)) (show 2 ^ 4 ≤ 2 ^ i from Nat.pow_le_pow_right (by decide) (by omega)))
    simp [hi, h16]
    omega

theorem half_even (y : Nat) : half (2 * y) = y := by
  unfold half
  rw [if_neg (by omega)]
  omega
theorem halves4_16 (h : Nat) : halves 4 (16 * h) = h := by
  simp only [halves]
  rw [show 16 * h = 2 * (2 * (2 * (2 * h))) by omega, half_even, half_even, half_even, half_even]

/-- what four halvings of a half byte bring in -/
def tab (r : Nat) : Nat := halves 4 r
theorem halves4 (x : Nat) : halves 4 x = (x / 16) ^^^ tab (x % 16) := by
  have := halves_xor 4 (16 * (x / 16)) (x % 16)
  rw [split16, halves4_16] at this
  exact this
theorem half_lt {x : Nat} (h : x < 4294967296) : half x < 4294967296 := by
  unfold half
  split
  · exact Nat.xor_lt_two_pow (n := 32) (by omega) (by decide)
  · omega
theorem halves_lt {x : Nat} (h : x < 4294967296) : ∀ k, halves k x < 4294967296
  | 0 => h
  | k + 1 => half_lt (halves_lt h k)
theorem halves_add (j k x : Nat) : halves j (halves k x) = halves (j + k) x := by
  induction j with
  | zero => simp [halves]
  | succ j ih => rw [show j + 1 + k = (j + k) + 1 by omega]; simp only [halves, ih]

def bt (s : ByteArray) (k : Nat) : Nat := if h : k < s.size then s[k].toNat else 0
theorem bt_eq (s : ByteArray) (k : Nat) (h : k < s.size) : s[k].toNat = bt s k := by simp [bt, h]
theorem bt_lt (s : ByteArray) (k : Nat) : bt s k < 256 := by
  unfold bt; split
  · have := s[k].toNat_lt; omega
  · omega
/-- the sum behind k bytes, ahead of its end -/
def st (s : ByteArray) : Nat → Nat
  | 0 => 4294967295
  | k + 1 => halves 8 (st s k ^^^ bt s k)
theorem xor_lt {a b : Nat} (ha : a < 4294967296) (hb : b < 4294967296) : a ^^^ b < 4294967296 := Nat.xor_lt_two_pow (n := 32) ha hb
theorem st_lt (s : ByteArray) : ∀ k, st s k < 4294967296
  | 0 => by simp [st]
  | k + 1 => halves_lt (xor_lt (st_lt s k) (Nat.lt_trans (bt_lt s k) (by decide))) 8
def sum (s : ByteArray) : Nat := st s s.size ^^^ 4294967295

theorem spec_sum (s : ByteArray) (w : World) (hs : s.size ≤ 1048576) :
    Calls Tryz.prog 94 #[.string s] w fun e w' => e = .returned (.int .u32 (sum s)) ∧ w = w' := by
  go_enter Tryz.func94, Tryz.ntmps94
  go_wp2
  go_loop [3, 4, 5, 6] (fun x c _ _ => ∃ k : Nat, k ≤ s.size ∧ c = .int .i64 k ∧ x = .int .u32 (st s k)) (fun _ c _ _ => s.size - (intOf c).toNat)
  case atStart => exact ⟨0, Nat.zero_le _, rfl, rfl⟩
  case round =>
    obtain ⟨k, hk, rfl, rfl⟩ := hrel
    by_cases hkz : k < s.size
    · obtain ⟨b, hb⟩ : ∃ b, s[k].toNat = b := ⟨_, rfl⟩
      have hbt : Hid (bt s k = b) := by unfold Hid; rw [← bt_eq s k hkz, hb]
      have hb256 : b < 256 := by have := s[k].toNat_lt; omega
      obtain ⟨x, hx⟩ : ∃ x, st s k = x := ⟨_, rfl⟩
      have hx32 : x < 4294967296 := by rw [← hx]; exact st_lt s k
      rw [hx]
      have HX : Hid (st s k = x) := hx
      clear hx
      have hxor : bits .xor .u32 (x : Int) (b : Int) = ((x ^^^ b : Nat) : Int) := u32_xor_nat x b hx32 (by omega)
      obtain ⟨y, hy⟩ : ∃ y, x ^^^ b = y := ⟨_, rfl⟩
      have hy32 : y < 4294967296 := by rw [← hy]; exact xor_lt hx32 (by omega)
      rw [hy] at hxor
      have HY : Hid (st s (k + 1) = halves 8 y) := by unfold Hid; rw [← hy, st, HX.out, hbt.out]
      clear hy HX hbt
      go_wp2
      clear hxor
      go_loop [3, 5, 6] (fun u c _ => ∃ j : Nat, j ≤ 8 ∧ c = .int .i64 j ∧ u = .int .u32 (halves j y)) (fun _ c _ => 8 - (intOf c).toNat)
      case atStart => exact ⟨0, Nat.zero_le _, rfl, rfl⟩
      case round =>
        obtain ⟨j, hj, rfl, rfl⟩ := hrel
        by_cases hj8 : j < 8
        · obtain ⟨z, hz⟩ : ∃ z, halves j y = z := ⟨_, rfl⟩
          have hz32 : z < 4294967296 := by rw [← hz]; exact halves_lt hy32 j
          have HZ : Hid (halves (j + 1) y = half z) := by unfold Hid; rw [← hz]; rfl
          rw [hz]
          clear hz
          by_cases hodd : z % 2 = 1
          · have h1 : (((z : Int) % 2) == 1) = true := by simp; omega
            have hx2 : bits .xor .u32 ((z : Int) / 2) 2197175160 = ((half z : Nat) : Int) := by
              have := u32_xor_nat (z / 2) 2197175160 (by omega) (by decide)
              simp only [half, hodd, if_true]
              rw [← this]
              rfl
            clear hodd
            go_wp2
            go_round
            case rel => exact ⟨j + 1, by omega, by go_num, by rw [HZ.out]⟩
            case measure => simp [intOf]; omega
          · have h1 : (((z : Int) % 2) == 1) = false := by simp; omega
            have hx2 : Hid (((half z : Nat) : Int) = (z : Int) / 2) := by unfold Hid; simp only [half, hodd, if_false]; omega
            clear hodd
            go_wp2
            go_round
            case rel => exact ⟨j + 1, by omega, by go_num, by rw [HZ.out, hx2.out]⟩
            case measure => simp [intOf]; omega
        · obtain rfl : j = 8 := by omega
          go_wp2
          go_round
          case rel => exact ⟨k + 1, by omega, by go_num, by rw [HY.out]⟩
          case measure => simp [intOf]; omega
    · obtain rfl : k = s.size := by omega
      have hxor : bits .xor .u32 (st s s.size : Int) 4294967295 = ((sum s : Nat) : Int) := u32_xor_nat (st s s.size) 4294967295 (st_lt s _) (by decide)
      go_wp2
      go_ret
      exact ⟨rfl, rfl⟩

theorem tab_lt {r : Nat} (h : r < 16) : tab r < 4294967296 := halves_lt (by omega) 4

theorem and15 {y : Nat} (hy : y < 4294967296) : bits .and .u32 (y : Int) 15 = ((y % 16 : Nat) : Int) := by
  have := u32_and_nat y 15 hy (by decide)
  rw [show ((15 : Nat) : Int) = 15 from rfl] at this
  rw [this, show (15 : Nat) = 2 ^ 4 - 1 from rfl, Nat.and_two_pow_sub_one_eq_mod]

/-- four halvings by the table: what the walk asks at one of the two steps -/
theorem quarter {y : Nat} {w : World} (hy : y < 4294967296) (htab : ∀ r, r < 16 → w.cell? ⟨0, r, none⟩ = some (.int .u32 (tab r : Int))) :
    ∃ r t z : Nat, r < 16 ∧ w.cell? ⟨0, r, none⟩ = some (.int .u32 (t : Int)) ∧ bits .and .u32 (y : Int) 15 = (r : Int) ∧ bits .xor .u32 ((y : Int) / 16) (t : Int) = (z : Int) ∧ z < 4294967296 ∧ Hid (halves 4 y = z) := by
  refine ⟨y % 16, tab (y % 16), halves 4 y, Nat.mod_lt _ (by decide), htab _ (Nat.mod_lt _ (by decide)), and15 hy, ?_, halves_lt hy 4, rfl⟩
  rw [halves4]
  exact u32_xor_nat (y / 16) (tab (y % 16)) (by omega) (tab_lt (Nat.mod_lt _ (by decide)))

theorem impl_sum (s : ByteArray) (w : World) (hs : s.size ≤ 1048576) (htab : ∀ r, r < 16 → w.cell? ⟨0, r, none⟩ = some (.int .u32 (tab r : Int))) :
    Calls Tryz.prog 115 #[.string s] w fun e w' => e = .returned (.int .u32 (sum s)) ∧ w = w' := by
  go_enter Tryz.func115, Tryz.ntmps115
  go_wp2
  go_loop [3, 7] (fun x c => ∃ k : Nat, k ≤ s.size ∧ c = .int .i64 k ∧ x = .int .u32 (st s k)) (fun _ c => s.size - (intOf c).toNat)
  case atStart => exact ⟨0, Nat.zero_le _, rfl, rfl⟩
  case round =>
    obtain ⟨k, hk, rfl, rfl⟩ := hrel
    by_cases hkz : k < s.size
    · obtain ⟨b, hb⟩ : ∃ b, s[k].toNat = b := ⟨_, rfl⟩
      have hbt : Hid (bt s k = b) := by unfold Hid; rw [← bt_eq s k hkz, hb]
      have hb256 : b < 256 := by have := s[k].toNat_lt; omega
      obtain ⟨x, hx⟩ : ∃ x, st s k = x := ⟨_, rfl⟩
      have hx32 : x < 4294967296 := by rw [← hx]; exact st_lt s k
      rw [hx]
      have HX : Hid (st s k = x) := hx
      clear hx
      have hxor : bits .xor .u32 (x : Int) (b : Int) = ((x ^^^ b : Nat) : Int) := u32_xor_nat x b hx32 (by omega)
      obtain ⟨y, hy⟩ : ∃ y, x ^^^ b = y := ⟨_, rfl⟩
      have hy32 : y < 4294967296 := by rw [← hy]; exact xor_lt hx32 (by omega)
      rw [hy] at hxor
      have HY : Hid (st s (k + 1) = halves 8 y) := by unfold Hid; rw [← hy, st, HX.out, hbt.out]
      clear hy HX hbt
      obtain ⟨r1, t1, z, hr1, hc1, ha1, hx1, hz32, HZ⟩ := quarter hy32 htab
      obtain ⟨r2, t2, v, hr2, hc2, ha2, hx2, hv32, HV⟩ := quarter hz32 htab
      have HE : Hid (st s (k + 1) = v) := by unfold Hid; rw [HY.out, ← HV.out, ← HZ.out, halves_add]
      clear HY HZ HV htab
      go_wp2
      go_round
      case rel => exact ⟨k + 1, by omega, by go_num, by rw [HE.out]⟩
      case measure => simp [intOf]; omega
    · obtain rfl : k = s.size := by omega
      have hxor : bits .xor .u32 (st s s.size : Int) 4294967295 = ((sum s : Nat) : Int) := u32_xor_nat (st s s.size) 4294967295 (st_lt s _) (by decide)
      clear htab
      go_wp2
      go_ret
      exact ⟨rfl, rfl⟩
end Go.Proofs.YtlgcciaebkfnjaaGreatDoor.cs
