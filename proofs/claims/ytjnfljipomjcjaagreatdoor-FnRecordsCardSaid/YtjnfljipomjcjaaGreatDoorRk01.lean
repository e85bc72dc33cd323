/- strings.Clone hands back the same bytes and lays new memory alone: the library's contract for internal/stringslite.Clone, laid at this program. -/
import Derived.Test.YtjnfljipomjcjaaGreatDoorRows
import Derived.WalkKit
import Derived.WalkLawsBesides
import Derived.ProofKit
import Derived.OpenShut
import Derived.ShutString
import Derived.Laws.BitsAllLaws
import Derived.Test.YtjnfljipomjcjaaGreatDoorPutBatchSpec
import Derived.Test.YtjnfljipomjcjaaGreatDoorPutBatchImpl
import Derived.Shelf.LaysM
import Derived.Shelf.Strconv.Clone

/- The two sums, the specification's and the program's, answer alike at every text of at most 1048576 bytes, where the program's table holds its sixteen numbers; no world is changed. -/
namespace Go.Proofs.YtjnfljipomjcjaaGreatDoor.cs
open Go.ChangeShapes Go.WideShapes Go.ChangeAt Go.RowKit

def half (x : Nat) : Nat := if x % 2 = 1 then (x / 2) ^^^ 2197175160 else x / 2
def halves : Nat → Nat → Nat
  | 0, x => x
  | k + 1, x => half (halves k x)

theorem xor_div (a b : Nat) : (a ^^^ b) / 2 = (a / 2) ^^^ (b / 2) := by
  apply Nat.eq_of_testBit_eq
  intro i
  rw [Nat.testBit_xor, ← Nat.testBit_succ, ← Nat.testBit_succ, ← Nat.testBit_succ, Nat.testBit_xor]
theorem xor_mod (a b : Nat) : (a ^^^ b) % 2 = (a % 2 + b % 2) % 2 := by
  have h : (a ^^^ b).testBit 0 = (a.testBit 0 ^^ b.testBit 0) := Nat.testBit_xor ..
  have e : ∀ n : Nat, n % 2 = if n.testBit 0 then 1 else 0 := fun n => by
    rcases Nat.mod_two_eq_zero_or_one n with hn | hn <;> simp [Nat.testBit_zero, hn]
  rw [e (a ^^^ b), e a, e b, h]
  cases a.testBit 0 <;> cases b.testBit 0 <;> rfl

theorem half_xor (a b : Nat) : half (a ^^^ b) = half a ^^^ half b := by
  unfold half
  rw [xor_div, xor_mod]
  rcases Nat.mod_two_eq_zero_or_one a with ha | ha <;> rcases Nat.mod_two_eq_zero_or_one b with hb | hb <;> simp [ha, hb]
  · rw [Nat.xor_assoc]
  · rw [Nat.xor_assoc, Nat.xor_assoc]; congr 1; exact Nat.xor_comm _ _
  · rw [Nat.xor_assoc, ← Nat.xor_assoc 2197175160, Nat.xor_comm 2197175160, Nat.xor_assoc (b / 2), Nat.xor_self, Nat.xor_zero]

theorem halves_xor (k a b : Nat) : halves k (a ^^^ b) = halves k a ^^^ halves k b := by
  induction k with
  | zero => rfl
  | succ k ih => simp only [halves, ih, half_xor]

theorem split16 (x : Nat) : (16 * (x / 16)) ^^^ (x % 16) = x := by
  apply Nat.eq_of_testBit_eq
  intro i
  have h1 : x = 2 ^ 4 * (x / 16) + x % 16 := by omega
  have hx : x.testBit i = (2 ^ 4 * (x / 16) + x % 16).testBit i := congrArg (fun y => Nat.testBit y i) h1
  rw [hx, Nat.testBit_two_pow_mul_add _ (Nat.mod_lt _ (by decide)), Nat.testBit_xor, show 16 * (x / 16) = 2 ^ 4 * (x / 16) by omega, Nat.testBit_two_pow_mul]
  by_cases hi : i < 4
  · have h4 : ¬ 4 ≤ i := by omega
    simp [hi, h4]
  · have h16 : (x % 16).testBit i = false := Nat.testBit_lt_two_pow (Nat.lt_of_lt_of_le (Nat.mod_lt _ (by decide)) (show 2 ^ 4 ≤ 2 ^ i from Nat.pow_le_pow_right (by decide) (by omega)))
    simp [hi, h16]
    omega

theorem half_even (y : Nat) : half (2 * y) = y := by
  unfold half
  rw [if_neg (by omega)]
  omega
theorem halves4_16 (h : Nat) : halves 4 (16 * h) = h := by
  simp only [halves]
  rw [show 16 * h = 2 * (2 * (2 * (2 * h))) by omega, half_even, half_even, half_even, half_even]

/-- what four halvings of a half byte bring in -/
def tab (r : Nat) : Nat := halves 4 r
theorem halves4 (x : Nat) : halves 4 x = (x / 16) ^^^ tab (x % 16) := by
  have := halves_xor 4 (16 * (x / 16)) (x % 16)
  rw [split16, halves4_16] at this
  exact this
theorem half_lt {x : Nat} (h : x < 4294967296) : half x < 4294967296 := by
  unfold half
  split
  · exact Nat.xor_lt_two_pow (n := 32) (by omega) (by decide)
  · omega
theorem halves_lt {x : Nat} (h : x < 4294967296) : ∀ k, halves k x < 4294967296
  | 0 => h
  | k + 1 => half_lt (halves_lt h k)
theorem halves_add (j k x : Nat) : halves j (halves k x) = halves (j + k) x := by
  induction j with
  | zero => simp [halves]
  | succ j ih => rw [show j + 1 + k = (j + k) + 1 by omega]; simp only [halves, ih]

def bt (s : ByteArray) (k : Nat) : Nat := if h : k < s.size then s[k].toNat else 0
theorem bt_eq (s : ByteArray) (k : Nat) (h : k < s.size) : s[k].toNat = bt s k := by simp [bt, h]
theorem bt_lt (s : ByteArray) (k : Nat) : bt s k < 256 := by
  unfold bt; split
  · have := s[k].toNat_lt; omega
  · omega
/-- the sum behind k bytes, ahead of its end -/
def st (s : ByteArray) : Nat → Nat
  | 0 => 4294967295
  | k + 1 => halves 8 (st s k ^^^ bt s k)
theorem xor_lt {a b : Nat} (ha : a < 4294967296) (hb : b < 4294967296) : a ^^^ b < 4294967296 := Nat.xor_lt_two_pow (n := 32) ha hb
theorem st_lt (s : ByteArray) : ∀ k, st s k < 4294967296
  | 0 => by simp [st]
  | k + 1 => halves_lt (xor_lt (st_lt s k) (Nat.lt_trans (bt_lt s k) (by decide))) 8
def sum (s : ByteArray) : Nat := st s s.size ^^^ 4294967295

theorem spec_sum (s : ByteArray) (w : World) (hs : s.size ≤ 1048576) :
    Calls Tryz.prog 28 #[.string s] w fun e w' => e = .returned (.int .u32 (sum s)) ∧ w = w' := by
  go_enter Tryz.func28, Tryz.ntmps28
  go_wp2
  go_loop [3, 4, 5, 6] (fun x c _ _ => ∃ k : Nat, k ≤ s.size ∧ c = .int .i64 k ∧ x = .int .u32 (st s k)) (fun _ c _ _ => s.size - (intOf c).toNat)
  case atStart => exact ⟨0, Nat.zero_le _, rfl, rfl⟩
  case round =>
    obtain ⟨k, hk, rfl, rfl⟩ := hrel
    by_cases hkz : k < s.size
    · obtain ⟨b, hb⟩ : ∃ b, s[k].toNat = b := ⟨_, rfl⟩
      have hbt : Hid (bt s k = b) := by unfold Hid; rw [← bt_eq s k hkz, hb]
      have hb256 : b < 256 := by have := s[k].toNat_lt; omega
      obtain ⟨x, hx⟩ : ∃ x, st s k = x := ⟨_, rfl⟩
      have hx32 : x < 4294967296 := by rw [← hx]; exact st_lt s k
      rw [hx]
      have HX : Hid (st s k = x) := hx
      clear hx
      have hxor : bits .xor .u32 (x : Int) (b : Int) = ((x ^^^ b : Nat) : Int) := u32_xor_nat x b hx32 (by omega)
      obtain ⟨y, hy⟩ : ∃ y, x ^^^ b = y := ⟨_, rfl⟩
      have hy32 : y < 4294967296 := by rw [← hy]; exact xor_lt hx32 (by omega)
      rw [hy] at hxor
      have HY : Hid (st s (k + 1) = halves 8 y) := by unfold Hid; rw [← hy, st, HX.out, hbt.out]
      clear hy HX hbt
      go_wp2
      clear hxor
      go_loop [3, 5, 6] (fun u c _ => ∃ j : Nat, j ≤ 8 ∧ c = .int .i64 j ∧ u = .int .u32 (halves j y)) (fun _ c _ => 8 - (intOf c).toNat)
      case atStart => exact ⟨0, Nat.zero_le _, rfl, rfl⟩
      case round =>
        obtain ⟨j, hj, rfl, rfl⟩ := hrel
        by_cases hj8 : j < 8
        · obtain ⟨z, hz⟩ : ∃ z, halves j y = z := ⟨_, rfl⟩
          have hz32 : z < 4294967296 := by rw [← hz]; exact halves_lt hy32 j
          have HZ : Hid (halves (j + 1) y = half z) := by unfold Hid; rw [← hz]; rfl
          rw [hz]
          clear hz
          by_cases hodd : z % 2 = 1
          · have h1 : (((z : Int) % 2) == 1) = true := by simp; omega
            have hx2 : bits .xor .u32 ((z : Int) / 2) 2197175160 = ((half z : Nat) : Int) := by
              have := u32_xor_nat (z / 2) 2197175160 (by omega) (by decide)
              simp only [half, hodd, if_true]
              rw [← this]
              rfl
            clear hodd
            go_wp2
            go_round
            case rel => exact ⟨j + 1, by omega, by go_num, by rw [HZ.out]⟩
            case measure => simp [intOf]; omega
          · have h1 : (((z : Int) % 2) == 1) = false := by simp; omega
            have hx2 : Hid (((half z : Nat) : Int) = (z : Int) / 2) := by unfold Hid; simp only [half, hodd, if_false]; omega
            clear hodd
            go_wp2
            go_round
            case rel => exact ⟨j + 1, by omega, by go_num, by rw [HZ.out, hx2.out]⟩
            case measure => simp [intOf]; omega
        · obtain rfl : j = 8 := by omega
          go_wp2
          go_round
          case rel => exact ⟨k + 1, by omega, by go_num, by rw [HY.out]⟩
          case measure => simp [intOf]; omega
    · obtain rfl : k = s.size := by omega
      have hxor : bits .xor .u32 (st s s.size : Int) 4294967295 = ((sum s : Nat) : Int) := u32_xor_nat (st s s.size) 4294967295 (st_lt s _) (by decide)
      go_wp2
      go_ret
      exact ⟨rfl, rfl⟩

theorem tab_lt {r : Nat} (h : r < 16) : tab r < 4294967296 := halves_lt (by omega) 4

theorem and15 {y : Nat} (hy : y < 4294967296) : bits .and .u32 (y : Int) 15 = ((y % 16 : Nat) : Int) := by
  have := u32_and_nat y 15 hy (by decide)
  rw [show ((15 : Nat) : Int) = 15 from rfl] at this
  rw [this, show (15 : Nat) = 2 ^ 4 - 1 from rfl, Nat.and_two_pow_sub_one_eq_mod]

/-- four halvings by the table: what the walk asks at one of the two steps -/
theorem quarter {y : Nat} {w : World} (hy : y < 4294967296) (htab : ∀ r, r < 16 → w.cell? ⟨0, r, none⟩ = some (.int .u32 (tab r : Int))) :
    ∃ r t z : Nat, r < 16 ∧ w.cell? ⟨0, r, none⟩ = some (.int .u32 (t : Int)) ∧ bits .and .u32 (y : Int) 15 = (r : Int) ∧ bits .xor .u32 ((y : Int) / 16) (t : Int) = (z : Int) ∧ z < 4294967296 ∧ Hid (halves 4 y = z) := by
  refine ⟨y % 16, tab (y % 16), halves 4 y, Nat.mod_lt _ (by decide), htab _ (Nat.mod_lt _ (by decide)), and15 hy, ?_, halves_lt hy 4, rfl⟩
  rw [halves4]
  exact u32_xor_nat (y / 16) (tab (y % 16)) (by omega) (tab_lt (Nat.mod_lt _ (by decide)))

theorem impl_sum (s : ByteArray) (w : World) (hs : s.size ≤ 1048576) (htab : ∀ r, r < 16 → w.cell? ⟨0, r, none⟩ = some (.int .u32 (tab r : Int))) :
    Calls Tryz.prog 34 #[.string s] w fun e w' => e = .returned (.int .u32 (sum s)) ∧ w = w' := by
  go_enter Tryz.func34, Tryz.ntmps34
  go_wp2
  go_loop [3, 7] (fun x c => ∃ k : Nat, k ≤ s.size ∧ c = .int .i64 k ∧ x = .int .u32 (st s k)) (fun _ c => s.size - (intOf c).toNat)
  case atStart => exact ⟨0, Nat.zero_le _, rfl, rfl⟩
  case round =>
    obtain ⟨k, hk, rfl, rfl⟩ := hrel
    by_cases hkz : k < s.size
    · obtain ⟨b, hb⟩ : ∃ b, s[k].toNat = b := ⟨_, rfl⟩
      have hbt : Hid (bt s k = b) := by unfold Hid; rw [← bt_eq s k hkz, hb]
      have hb256 : b < 256 := by have := s[k].toNat_lt; omega
      obtain ⟨x, hx⟩ : ∃ x, st s k = x := ⟨_, rfl⟩
      have hx32 : x < 4294967296 := by rw [← hx]; exact st_lt s k
      rw [hx]
      have HX : Hid (st s k = x) := hx
      clear hx
      have hxor : bits .xor .u32 (x : Int) (b : Int) = ((x ^^^ b : Nat) : Int) := u32_xor_nat x b hx32 (by omega)
      obtain ⟨y, hy⟩ : ∃ y, x ^^^ b = y := ⟨_, rfl⟩
      have hy32 : y < 4294967296 := by rw [← hy]; exact xor_lt hx32 (by omega)
      rw [hy] at hxor
      have HY : Hid (st s (k + 1) = halves 8 y) := by unfold Hid; rw [← hy, st, HX.out, hbt.out]
      clear hy HX hbt
      obtain ⟨r1, t1, z, hr1, hc1, ha1, hx1, hz32, HZ⟩ := quarter hy32 htab
      obtain ⟨r2, t2, v, hr2, hc2, ha2, hx2, hv32, HV⟩ := quarter hz32 htab
      have HE : Hid (st s (k + 1) = v) := by unfold Hid; rw [HY.out, ← HV.out, ← HZ.out, halves_add]
      clear HY HZ HV htab
      go_wp2
      go_round
      case rel => exact ⟨k + 1, by omega, by go_num, by rw [HE.out]⟩
      case measure => simp [intOf]; omega
    · obtain rfl : k = s.size := by omega
      have hxor : bits .xor .u32 (st s s.size : Int) 4294967295 = ((sum s : Nat) : Int) := u32_xor_nat (st s s.size) 4294967295 (st_lt s _) (by decide)
      clear htab
      go_wp2
      go_ret
      exact ⟨rfl, rfl⟩
end Go.Proofs.YtjnfljipomjcjaaGreatDoor.cs

/- Record, of the specification and of the program: the sum, the length and the bytes of a batch; new memory alone. -/
namespace Go.Proofs.YtjnfljipomjcjaaGreatDoor.rcd
open Go.ChangeShapes Go.WideShapes Go.ChangeAt Go.RowKit Go.Proofs.YtjnfljipomjcjaaGreatDoor.fl Go.Proofs.YtjnfljipomjcjaaGreatDoor.bo Go.Proofs.YtjnfljipomjcjaaGreatDoor.pb
set_option linter.unusedVariables false

noncomputable def out (l : List flP.Pr) : ByteArray := if (pb.out l).size = 0 ∨ 100000 < (pb.out l).size then ⟨#[]⟩ else pi.text (cs.sum (pb.out l) : Int) 4 ++ pl.out (pb.out l)
theorem sum_lt (k : ByteArray) : cs.sum k < 4294967296 := cs.xor_lt (cs.st_lt k _) (by decide)
theorem nil_of {s : ByteArray} (h : s.size = 0) : s = ⟨#[]⟩ := by
  obtain ⟨⟨l⟩⟩ := s
  cases l with
  | nil => rfl
  | cons a r => simp [ByteArray.size] at h
theorem ne_nil {s : ByteArray} (h : s.size ≠ 0) : (s.toList == ([] : List UInt8)) = false := by
  obtain ⟨⟨l⟩⟩ := s
  cases l with
  | nil => exact absurd rfl h
  | cons a r => simp [ByteArray.toList_eq]
theorem long_ne {s : ByteArray} (h0 : s.size ≠ 0) (h : s.size ≤ 100000) : (pl.out s).size ≠ 0 := by
  unfold pl.out
  rw [if_pos h, ByteArray.size_append]
  omega

set_option maxHeartbeats 1000000 in
theorem spec_record (l : List flP.Pr) (a : Option Addr) (cap : Nat) (w : World) (F : bs.Fit l) (hS : Row flP.c 3 w w.heap.size a l) :
    Calls Tryz.prog 14 #[.slice a l.length cap] w fun e w' => e = .returned (.string (out l)) ∧ Below w.heap.size w w' := by
  have h1 := pbs.spec_put l a cap w F hS
  have hsz := out_size l
  unfold out
  obtain ⟨s, hs⟩ : ∃ s, pb.out l = s := ⟨_, rfl⟩
  rw [hs] at h1 hsz ⊢
  clear hs hS F
  by_cases h0 : s.size = 0
  · obtain rfl := nil_of h0
    rw [if_pos (.inl rfl)]
    go_enter Tryz.func14, Tryz.ntmps14
    go_wp2_with (go_at_call 13; refine h1.mono ?_; rintro e w1 ⟨rfl, hb1⟩)
    go_ret
    exact ⟨rfl, hb1⟩
  have e0 := ne_nil h0
  by_cases hbig : 100000 < s.size
  · rw [if_pos (.inr hbig)]
    have e1 : (100000 : Int) < (s.size : Int) := by omega
    go_enter Tryz.func14, Tryz.ntmps14
    go_wp2_with (go_at_call 13; refine h1.mono ?_; rintro e w1 ⟨rfl, hb1⟩)
    go_ret
    exact ⟨rfl, hb1⟩
  have e1 : ¬ (100000 : Int) < (s.size : Int) := by omega
  rw [if_neg (by omega)]
  have hl := sum_lt s
  have hc := fun W => cs.spec_sum s W (by omega)
  have hts := pi.text_size (cs.sum s : Int) 4
  have hps := long_size (v := s) (by omega)
  have hp := fun W => pl.spec_putLong s W (by omega)
  obtain ⟨m, hm⟩ : ∃ m, cs.sum s = m := ⟨_, rfl⟩
  simp only [hm] at hc hts hl ⊢
  have hi := fun W => pi.spec_put (m : Int) 4 W (by omega)
  have i1 : IntKind.i64.wrap (m : Int) = (m : Int) := by rw [IntKind.wrap_i64]; omega
  clear hm
  go_enter Tryz.func14, Tryz.ntmps14
  go_wp2_with (first | (go_at_call 13; refine h1.mono ?_; rintro e w1 ⟨rfl, hb1⟩; clear h1) | (go_at_call 28; refine (hc _).mono ?_; rintro e w0 ⟨rfl, hw0⟩; rw [← hw0]; clear hw0 w0) | (go_at_call 42; refine (hi _).mono ?_; rintro e w2 ⟨rfl, hb2⟩) | (go_at_call 44; refine (hp _).mono ?_; rintro e w3 ⟨rfl, hb3⟩))
  go_ret
  exact ⟨rfl, hb1.trans ((hb2.trans (hb3.mono hb2.size)).mono hb1.size)⟩

set_option maxHeartbeats 1000000 in
theorem impl_record (l : List flP.Pr) (a : Option Addr) (cap : Nat) (w : World) (htab : ∀ r, r < 16 → w.cell? ⟨0, r, none⟩ = some (.int .u32 (cs.tab r : Int))) (F : bs.Fit l) (hS : Row flP.c 3 w w.heap.size a l) :
    Calls Tryz.prog 9 #[.slice a l.length cap] w fun e w' => e = .returned (.string (out l)) ∧ Below w.heap.size w w' := by
  have h1 := pbi.impl_put l a cap w F hS
  have hsz := out_size l
  unfold out
  obtain ⟨s, hs⟩ : ∃ s, pb.out l = s := ⟨_, rfl⟩
  rw [hs] at h1 hsz ⊢
  have HT : Hid (∀ r, r < 16 → w.cell? ⟨0, r, none⟩ = some (.int .u32 (cs.tab r : Int))) := htab
  have hgl : 0 < w.heap.size := block_lt_of_cell (htab 0 (by decide))
  have hp := fun W => pl.impl_putLong s W (by omega)
  clear hs hS F htab
  by_cases h0 : s.size = 0
  · obtain rfl := nil_of h0
    rw [if_pos (.inl rfl)]
    go_enter Tryz.func9, Tryz.ntmps9
    go_wp2_with (first | (go_at_call 8; refine h1.mono ?_; rintro e w1 ⟨rfl, hb1⟩; clear h1) | (go_at_call 33; refine (hp _).mono ?_; rintro e w3 ⟨rfl, hb3⟩))
    go_ret
    exact ⟨rfl, hb1.trans (hb3.mono hb1.size)⟩
  have e0 := ne_nil h0
  by_cases hbig : 100000 < s.size
  · rw [if_pos (.inr hbig)]
    have ho : pl.out s = ⟨#[]⟩ := by unfold pl.out; rw [if_neg (by omega)]; rfl
    simp only [ho] at hp
    go_enter Tryz.func9, Tryz.ntmps9
    go_wp2_with (first | (go_at_call 8; refine h1.mono ?_; rintro e w1 ⟨rfl, hb1⟩; clear h1) | (go_at_call 33; refine (hp _).mono ?_; rintro e w3 ⟨rfl, hb3⟩))
    go_ret
    exact ⟨rfl, hb1.trans (hb3.mono hb1.size)⟩
  rw [if_neg (by omega)]
  have e2 := ne_nil (long_ne h0 (show s.size ≤ 100000 by omega))
  have hl := sum_lt s
  have hc : ∀ W, Below w.heap.size w W → Calls Tryz.prog 34 #[.string s] W fun e w' => e = .returned (.int .u32 (cs.sum s)) ∧ W = w' := fun W h => cs.impl_sum s W (by omega) fun r hr => (h.cell (p := ⟨0, r, none⟩) hgl).trans (HT.out r hr)
  have hts := pi.text_size (cs.sum s : Int) 4
  have hps := long_size (v := s) (by omega)
  obtain ⟨m, hm⟩ : ∃ m, cs.sum s = m := ⟨_, rfl⟩
  simp only [hm] at hc hts hl ⊢
  have hi := fun W => pi.impl_put (m : Int) 4 W (by omega)
  have i1 : IntKind.i64.wrap (m : Int) = (m : Int) := by rw [IntKind.wrap_i64]; omega
  obtain ⟨q, hq⟩ : ∃ q, pl.out s = q := ⟨_, rfl⟩
  simp only [hq] at hp e2 hps ⊢
  clear hm hq
  go_enter Tryz.func9, Tryz.ntmps9
  go_wp2_with (first | (go_at_call 8; refine h1.mono ?_; rintro e w1 ⟨rfl, hb1⟩; clear h1) | (go_at_call 33; refine (hp _).mono ?_; rintro e w3 ⟨rfl, hb3⟩; have hB3 : Below w.heap.size w w3 := hb1.trans (hb3.mono hb1.size); have hc3 := hc w3 hB3) | (go_at_call 34; refine hc3.mono ?_; rintro e w0 ⟨rfl, hw0⟩; rw [← hw0]; clear hw0 w0) | (go_at_call 30; refine (hi _).mono ?_; rintro e w2 ⟨rfl, hb2⟩))
  go_ret
  exact ⟨rfl, hB3.trans (hb2.mono hB3.size)⟩

end Go.Proofs.YtjnfljipomjcjaaGreatDoor.rcd

/- strings.Clone hands back the same bytes and lays new memory alone: the library's contract for internal/stringslite.Clone, laid at this program. -/
namespace Go.Proofs.YtjnfljipomjcjaaGreatDoor.cl
open Go.Shelf Go.RowKit
def ren : Go.Shelf.Ren := ⟨fun | 316 => 74 | n => n, fun | 9 => 9 | 3 => 3 | 4 => 4 | 37 => 22 | 0 => 0 | 127 => 91 | 5 => 5 | n => n, fun | n => n⟩
theorem laid : Go.Proofs.LaysM.n316 Tryz.prog ren := {
  mixed := by kernel_rfl
  f316 := Tryz.func74.trans (congrArg some (by kernel_rfl))
  t0 := Tryz.underlying0
  a0 := Tryz.isAgg0
  z0 := Tryz.sizeOf0
  v0 := Tryz.zeroValue0
  t3 := Tryz.underlying3
  a3 := Tryz.isAgg3
  z3 := Tryz.sizeOf3
  v3 := Tryz.zeroValue3
  t4 := Tryz.underlying4
  a4 := Tryz.isAgg4
  z4 := Tryz.sizeOf4
  v4 := Tryz.zeroValue4
  t9 := Tryz.underlying9
  a9 := Tryz.isAgg9
  z9 := Tryz.sizeOf9
  v9 := Tryz.zeroValue9
  t37 := Tryz.underlying22
  a37 := Tryz.isAgg22
  z37 := Tryz.sizeOf22
  v37 := Tryz.zeroValue22
  t127 := Tryz.underlying91
  a127 := Tryz.isAgg91
  z127 := Tryz.sizeOf91
  v127 := Tryz.zeroValue91
  t5 := Tryz.underlying5
  a5 := Tryz.isAgg5
  z5 := Tryz.sizeOf5
  v5 := Tryz.zeroValue5
  i0 := by kernel_rfl
  i3 := by kernel_rfl
  i4 := by kernel_rfl
  i5 := by kernel_rfl
  i9 := by kernel_rfl
  i37 := by kernel_rfl
  i127 := by kernel_rfl }
theorem lite (s : ByteArray) (w : World) (hlim : s.size ≤ 281474976710656) :
    Calls Tryz.prog 74 #[.string s] w fun e w' => e = .returned (.string s) ∧ Below w.heap.size w w' := Any.stringslite_Clone laid s w hlim

theorem clone (s : ByteArray) (w : World) (hlim : s.size ≤ 281474976710656) :
    Calls Tryz.prog 51 #[.string s] w fun e w' => e = .returned (.string s) ∧ Below w.heap.size w w' := by
  go_enter Tryz.func51, Tryz.ntmps51
  go_wp2_with (go_at_call 74; refine (lite s w hlim).mono ?_; rintro e w1 ⟨rfl, hb1⟩)
  go_ret
  exact ⟨rfl, hb1⟩
end Go.Proofs.YtjnfljipomjcjaaGreatDoor.cl
