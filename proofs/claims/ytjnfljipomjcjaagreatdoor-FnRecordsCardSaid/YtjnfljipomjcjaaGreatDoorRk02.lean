/- The two readers of a short text, the specification's and the program's, answer alike at every text of at most 1048576 bytes and every place; they lay new memory alone. -/
import Derived.Test.YtjnfljipomjcjaaGreatDoorRk01
import Derived.Test.YtjnfljipomjcjaaGreatDoorSizeWalks
import Derived.WalkKit
import Derived.WalkLawsBesides
import Derived.ProofKit
import Derived.OpenShut
import Derived.ShutString

/- Append, of the specification and of the program: a log with a record behind it, where there is one and room for it; new memory alone. -/
namespace Go.Proofs.YtjnfljipomjcjaaGreatDoor.apd
open Go.ChangeShapes Go.WideShapes Go.ChangeAt Go.RowKit Go.Proofs.YtjnfljipomjcjaaGreatDoor.fl Go.Proofs.YtjnfljipomjcjaaGreatDoor.bo Go.Proofs.YtjnfljipomjcjaaGreatDoor.pb
set_option linter.unusedVariables false

noncomputable def ans (xt : ByteArray) (l : List flP.Pr) : ByteArray := if (rcd.out l).size = 0 ∨ 200000 < xt.size + (rcd.out l).size then xt else xt ++ rcd.out l
noncomputable def can (xt : ByteArray) (l : List flP.Pr) : Bool := !decide ((rcd.out l).size = 0 ∨ 200000 < xt.size + (rcd.out l).size)
theorem rec_size (l : List flP.Pr) : (rcd.out l).size ≤ 100100 := by
  unfold rcd.out
  split
  · show 0 ≤ _; omega
  · rename_i h
    have h1 := pi.text_size (cs.sum (pb.out l) : Int) 4
    have h2 := long_size (v := pb.out l) (by omega)
    rw [ByteArray.size_append]
    omega

set_option maxHeartbeats 1000000 in
theorem spec_append (xt : ByteArray) (l : List flP.Pr) (a : Option Addr) (cap : Nat) (w : World) (hx : xt.size ≤ 1048576) (F : bs.Fit l) (hS : Row flP.c 3 w w.heap.size a l) :
    Calls Tryz.prog 53 #[.string xt, .slice a l.length cap] w fun e w' => e = .returned (.tuple #[.string (ans xt l), .bool (can xt l)]) ∧ Below w.heap.size w w' := by
  have h1 := rcd.spec_record l a cap w F hS
  have hz := rec_size l
  unfold ans can
  obtain ⟨s, hs⟩ : ∃ s, rcd.out l = s := ⟨_, rfl⟩
  rw [hs] at h1 hz ⊢
  clear hs hS F
  by_cases h0 : s.size = 0
  · obtain rfl := rcd.nil_of h0
    rw [if_pos (.inl rfl), decide_eq_true (.inl rfl)]
    go_enter Tryz.func53, Tryz.ntmps53
    go_wp2_with (go_at_call 14; refine h1.mono ?_; rintro e w1 ⟨rfl, hb1⟩)
    go_ret2
    exact ⟨rfl, hb1⟩
  have e0 := rcd.ne_nil h0
  by_cases hbig : 200000 < xt.size + s.size
  · rw [if_pos (.inr hbig), decide_eq_true (.inr hbig)]
    have e1 : (200000 : Int) - (s.size : Int) < (xt.size : Int) := by omega
    go_enter Tryz.func53, Tryz.ntmps53
    go_wp2_with (go_at_call 14; refine h1.mono ?_; rintro e w1 ⟨rfl, hb1⟩)
    go_ret2
    exact ⟨rfl, hb1⟩
  have e1 : ¬ (200000 : Int) - (s.size : Int) < (xt.size : Int) := by omega
  rw [if_neg (by omega), decide_eq_false (by omega)]
  go_enter Tryz.func53, Tryz.ntmps53
  go_wp2_with (go_at_call 14; refine h1.mono ?_; rintro e w1 ⟨rfl, hb1⟩)
  go_ret2
  exact ⟨rfl, hb1⟩

set_option maxHeartbeats 1000000 in
theorem impl_append (xt : ByteArray) (l : List flP.Pr) (a : Option Addr) (cap : Nat) (w : World) (htab : ∀ r, r < 16 → w.cell? ⟨0, r, none⟩ = some (.int .u32 (cs.tab r : Int))) (hx : xt.size ≤ 1048576) (F : bs.Fit l) (hS : Row flP.c 3 w w.heap.size a l) :
    Calls Tryz.prog 20 #[.string xt, .slice a l.length cap] w fun e w' => e = .returned (.tuple #[.string (ans xt l), .bool (can xt l)]) ∧ Below w.heap.size w w' := by
  have h1 := rcd.impl_record l a cap w htab F hS
  have hz := rec_size l
  have hcl := fun W => cl.clone xt W (by omega)
  unfold ans can
  obtain ⟨s, hs⟩ : ∃ s, rcd.out l = s := ⟨_, rfl⟩
  rw [hs] at h1 hz ⊢
  clear hs hS F htab
  by_cases h0 : s.size = 0
  · obtain rfl := rcd.nil_of h0
    rw [if_pos (.inl rfl), decide_eq_true (.inl rfl)]
    go_enter Tryz.func20, Tryz.ntmps20
    go_wp2_with (first | (go_at_call 9; refine h1.mono ?_; rintro e w1 ⟨rfl, hb1⟩; clear h1) | (go_at_call 51; refine (hcl _).mono ?_; rintro e w2 ⟨rfl, hb2⟩))
    go_ret2
    exact ⟨rfl, hb1.trans (hb2.mono hb1.size)⟩
  have e0 := rcd.ne_nil h0
  by_cases hbig : 200000 < xt.size + s.size
  · rw [if_pos (.inr hbig), decide_eq_true (.inr hbig)]
    have e1 : (200000 : Int) < (xt.size : Int) + (s.size : Int) := by omega
    go_enter Tryz.func20, Tryz.ntmps20
    go_wp2_with (first | (go_at_call 9; refine h1.mono ?_; rintro e w1 ⟨rfl, hb1⟩; clear h1) | (go_at_call 51; refine (hcl _).mono ?_; rintro e w2 ⟨rfl, hb2⟩))
    go_ret2
    exact ⟨rfl, hb1.trans (hb2.mono hb1.size)⟩
  have e1 : ¬ (200000 : Int) < (xt.size : Int) + (s.size : Int) := by omega
  rw [if_neg (by omega), decide_eq_false (by omega)]
  go_enter Tryz.func20, Tryz.ntmps20
  go_wp2_with (go_at_call 9; refine h1.mono ?_; rintro e w1 ⟨rfl, hb1⟩; clear h1)
  go_ret2
  exact ⟨rfl, hb1⟩
end Go.Proofs.YtjnfljipomjcjaaGreatDoor.apd

/- The two readers of a number, the specification's and the program's, answer alike at every text of at most 1048576 bytes, every place and every size; no world is changed. -/
namespace Go.Proofs.YtjnfljipomjcjaaGreatDoor.gi
open Go.ChangeShapes Go.WideShapes Go.ChangeAt Go.RowKit Go.Proofs.YtjnfljipomjcjaaGreatDoor.sz

def bt (s : ByteArray) (k : Nat) : Nat := if h : k < s.size then s[k].toNat else 0
theorem bt_eq (s : ByteArray) (k : Nat) (h : k < s.size) : s[k].toNat = bt s k := by simp [bt, h]
theorem bt_le (s : ByteArray) (k : Nat) : bt s k ≤ 255 := by
  unfold bt; split
  · have := s[k].toNat_lt; omega
  · omega
def gi (s : ByteArray) (i : Nat) : Nat → Int
  | 0 => 0
  | k + 1 => 256 * gi s i k + bt s (i + k)

theorem gi_bound (s : ByteArray) (i : Nat) : ∀ k, 0 ≤ gi s i k ∧ gi s i k < 256 ^ k
  | 0 => by simp [gi]
  | k + 1 => by
    have h := gi_bound s i k
    have hb := bt_le s (i + k)
    simp only [gi]
    rw [Int.pow_succ]
    omega

theorem gi_bound7 (s : ByteArray) (i : Nat) (h : bt s i ≤ 127) : ∀ k, 0 ≤ gi s i (k + 1) ∧ gi s i (k + 1) < 128 * 256 ^ k
  | 0 => by simp only [gi]; simp; omega
  | k + 1 => by
    have h := gi_bound7 s i h k
    have hb := bt_le s (i + (k + 1))
    rw [gi, Int.pow_succ]
    omega

theorem room (s : ByteArray) (i k : Nat) (hk : k < 7 ∨ k < 8 ∧ bt s i ≤ 127) : 0 ≤ gi s i k ∧ 256 * gi s i k + 255 ≤ 9223372036854775807 := by
  rcases hk with hk | ⟨hk, hb⟩
  · have h := gi_bound s i k
    have : k = 0 ∨ k = 1 ∨ k = 2 ∨ k = 3 ∨ k = 4 ∨ k = 5 ∨ k = 6 := by omega
    rcases this with rfl | rfl | rfl | rfl | rfl | rfl | rfl <;> omega
  · cases k with
    | zero => simp [gi]
    | succ k =>
      have h := gi_bound7 s i hb k
      have : k = 0 ∨ k = 1 ∨ k = 2 ∨ k = 3 ∨ k = 4 ∨ k = 5 ∨ k = 6 := by omega
      rcases this with rfl | rfl | rfl | rfl | rfl | rfl | rfl <;> omega

/-- the spec's reader where all is in order, not of eight bytes -/
theorem spec_okN (s : ByteArray) (i z : Nat) (w : World) (hs : s.size ≤ 1048576) (hi : i + z ≤ s.size) (hz : z ≤ 8) (hm : (mostOf z < 0) = False) (h8 : ((z : Int) == 8) = false)
   (hg : ∀ k, k < z → 0 ≤ gi s i k ∧ 256 * gi s i k + 255 ≤ 9223372036854775807) : Calls Tryz.prog 26 #[.string s, .int .i64 i, .int .i64 z] w fun e w' => e = .returned (.tuple #[.int .i64 (gi s i z), .int .i64 (i + z)]) ∧ w' = w := by
  go_enter Tryz.func26, Tryz.ntmps26
  go_wp2_with (first | (go_at_call 60; refine (most (z : Int) w).mono ?_; rintro e w' ⟨rfl, rfl⟩) | (go_at_call 46; go_in))

  go_loop [8, 9] (fun t c => ∃ k : Nat, k ≤ z ∧ c = .int .i64 (i + k : Nat) ∧ t = .int .i64 (gi s i k)) (fun _ c => i + z - (intOf c).toNat)
  case atStart => exact ⟨0, Nat.zero_le _, rfl, rfl⟩
  case round =>
    obtain ⟨k, hk, rfl, rfl⟩ := hrel
    have hb : k < z → 0 ≤ gi s i k ∧ 256 * gi s i k + 255 ≤ 9223372036854775807 := hg k
    clear hg
    by_cases hkz : k < z
    · obtain ⟨hb1, hb2⟩ := hb hkz
      have hlt : i + k < s.size := by omega
      have hby : s[i + k].toNat ≤ 255 := by have := s[i + k].toNat_lt; omega
      go_wp2
      go_round
      case rel => exact ⟨k + 1, by omega, by go_num, by simp [gi, bt_eq s (i + k) hlt]⟩
      case measure => simp [intOf]; omega
    · obtain rfl : k = z := by omega
      go_wp2
      go_ret2
      exact ⟨rfl, rfl⟩

/-- the spec's reader where all is in order, of eight bytes -/
theorem spec_ok8 (s : ByteArray) (i : Nat) (w : World) (hs : s.size ≤ 1048576) (hi : i + 8 ≤ s.size) (h7 : bt s i ≤ 127)
   (hg : ∀ k, k < 8 → 0 ≤ gi s i k ∧ 256 * gi s i k + 255 ≤ 9223372036854775807) : Calls Tryz.prog 26 #[.string s, .int .i64 i, .int .i64 8] w fun e w' => e = .returned (.tuple #[.int .i64 (gi s i 8), .int .i64 (i + 8)]) ∧ w' = w := by
  have hl0 : i < s.size := by omega
  have h70 : (127 < (s[i].toNat : Int)) = False := by rw [bt_eq s i hl0]; simp; omega
  go_enter Tryz.func26, Tryz.ntmps26
  go_wp2

  go_loop [8, 9] (fun t c => ∃ k : Nat, k ≤ 8 ∧ c = .int .i64 (i + k : Nat) ∧ t = .int .i64 (gi s i k)) (fun _ c => i + 8 - (intOf c).toNat)
  case atStart => exact ⟨0, Nat.zero_le _, rfl, rfl⟩
  case round =>
    obtain ⟨k, hk, rfl, rfl⟩ := hrel
    have hb : k < 8 → 0 ≤ gi s i k ∧ 256 * gi s i k + 255 ≤ 9223372036854775807 := hg k
    clear hg
    by_cases hkz : k < 8
    · obtain ⟨hb1, hb2⟩ := hb hkz
      have hlt : i + k < s.size := by omega
      have hby : s[i + k].toNat ≤ 255 := by have := s[i + k].toNat_lt; omega
      go_wp2
      go_round
      case rel => exact ⟨k + 1, by omega, by go_num, by simp [gi, bt_eq s (i + k) hlt]⟩
      case measure => simp [intOf]; omega
    · obtain rfl : k = 8 := by omega
      go_wp2
      go_ret2
      exact ⟨rfl, rfl⟩

/-- a first byte above 127 of eight -/
theorem spec_big (s : ByteArray) (i : Nat) (w : World) (hs : s.size ≤ 1048576) (hi : i + 8 ≤ s.size) (h7 : 127 < bt s i) : Calls Tryz.prog 26 #[.string s, .int .i64 i, .int .i64 8] w fun e w' => e = .returned (.tuple #[.int .i64 0, .int .i64 (-1)]) ∧ w' = w := by
  have hl0 : i < s.size := by omega
  have h70 : (127 < (s[i].toNat : Int)) = True := by rw [bt_eq s i hl0]; simp; omega
  go_enter Tryz.func26, Tryz.ntmps26
  go_wp2
  go_ret2
  exact ⟨rfl, rfl⟩

/-- no size -/
theorem spec_none (s : ByteArray) (i z : Int) (w : World) (hm : mostOf z < 0) : Calls Tryz.prog 26 #[.string s, .int .i64 i, .int .i64 z] w fun e w' => e = .returned (.tuple #[.int .i64 0, .int .i64 (-1)]) ∧ w' = w := by
  go_enter Tryz.func26, Tryz.ntmps26
  go_wp2_with (first | (go_at_call 60; refine (most z w).mono ?_; rintro e w' ⟨rfl, rfl⟩) | (go_at_call 46; go_in))
  go_ret2
  exact ⟨rfl, rfl⟩

/-- a place that is none -/
theorem spec_out (s : ByteArray) (i z : Int) (w : World) (hs : s.size ≤ 1048576) (hm : (mostOf z < 0) = False) (hz : 1 ≤ z ∧ z ≤ 8) (hi : i < 0 ∨ s.size < i + z) (hi1 : -9223372036854775808 ≤ i) (hi2 : i ≤ 9223372036854775807) : Calls Tryz.prog 26 #[.string s, .int .i64 i, .int .i64 z] w fun e w' => e = .returned (.tuple #[.int .i64 0, .int .i64 (-1)]) ∧ w' = w := by
  rcases hi with hi | hi
  · go_enter Tryz.func26, Tryz.ntmps26
    go_wp2_with (first | (go_at_call 60; refine (most z w).mono ?_; rintro e w' ⟨rfl, rfl⟩) | (go_at_call 46; go_in))
    go_ret2
    exact ⟨rfl, rfl⟩
  · go_enter Tryz.func26, Tryz.ntmps26
    go_wp2_with (first | (go_at_call 60; refine (most z w).mono ?_; rintro e w' ⟨rfl, rfl⟩) | (go_at_call 46; go_in))
    all_goals go_ret2
    all_goals exact ⟨rfl, rfl⟩

theorem or_byte (x b : Int) (h1 : 0 ≤ b) (h2 : b ≤ 255) : bits .or .i64 (wrap64 (wrap64 x * 256)) b = wrap64 (256 * x + b) := by
  show IntKind.i64.wrap ((BitVec.ofInt 64 (wrap64 (wrap64 x * 256)) ||| BitVec.ofInt 64 b).toNat : Int) = _
  rw [BitVec.toNat_or, BitVec.toNat_ofInt, BitVec.toNat_ofInt, nat_join8 _ _ (by simp [wrap64]; omega) (by omega), IntKind.wrap_i64]
  simp only [wrap64]
  omega

theorem impl_loop (s : ByteArray) (i z : Nat) (w : World) (hs : s.size ≤ 1048576) (hi : i + z ≤ s.size) (hz : z ≤ 8) (hm : decide (0 ≤ mostOf z) = true) : Calls Tryz.prog 58 #[.string s, .int .i64 i, .int .i64 z] w fun e w' => (if wrap64 (gi s i z) < 0 then e = .returned (.tuple #[.int .i64 0, .int .i64 (-1)]) else e = .returned (.tuple #[.int .i64 (wrap64 (gi s i z)), .int .i64 (i + z)])) ∧ w' = w := by
  go_enter Tryz.func58, Tryz.ntmps58
  go_wp2_with (first | (go_at_call 63; refine (sizeOk (z : Int) w).mono ?_; rintro e w' ⟨rfl, rfl⟩))
  go_loop [8, 9] (fun t c => ∃ k : Nat, k ≤ z ∧ c = .int .i64 (i + k : Nat) ∧ t = .int .i64 (wrap64 (gi s i k))) (fun _ c => i + z - (intOf c).toNat)
  case atStart => exact ⟨0, Nat.zero_le _, rfl, by simp [gi, wrap64]⟩
  case round =>
    obtain ⟨k, hk, rfl, rfl⟩ := hrel
    by_cases hkz : k < z
    · have hlt : i + k < s.size := by omega
      have hby : s[i + k].toNat ≤ 255 := by have := s[i + k].toNat_lt; omega
      go_wp2
      go_round
      case rel => exact ⟨k + 1, by omega, by go_num, by rw [or_byte _ _ (by omega) (by omega)]; simp [gi, bt_eq s (i + k) hlt]⟩
      case measure => simp [intOf]; omega
    · obtain rfl : k = z := by omega
      go_wp2
      · go_ret2
        simp [*]
      · go_ret2
        simp [*]

theorem impl_none (s : ByteArray) (i z : Int) (w : World) (hm : decide (0 ≤ mostOf z) = false) : Calls Tryz.prog 58 #[.string s, .int .i64 i, .int .i64 z] w fun e w' => e = .returned (.tuple #[.int .i64 0, .int .i64 (-1)]) ∧ w' = w := by
  go_enter Tryz.func58, Tryz.ntmps58
  go_wp2_with (first | (go_at_call 63; refine (sizeOk z w).mono ?_; rintro e w' ⟨rfl, rfl⟩))
  go_ret2
  exact ⟨rfl, rfl⟩

theorem impl_out (s : ByteArray) (i z : Int) (w : World) (hs : s.size ≤ 1048576) (hm : decide (0 ≤ mostOf z) = true) (hz : 1 ≤ z ∧ z ≤ 8) (hi : i < 0 ∨ s.size < i + z) (hi1 : -9223372036854775808 ≤ i) (hi2 : i ≤ 9223372036854775807) : Calls Tryz.prog 58 #[.string s, .int .i64 i, .int .i64 z] w fun e w' => e = .returned (.tuple #[.int .i64 0, .int .i64 (-1)]) ∧ w' = w := by
  rcases hi with hi | hi
  · go_enter Tryz.func58, Tryz.ntmps58
    go_wp2_with (first | (go_at_call 63; refine (sizeOk z w).mono ?_; rintro e w' ⟨rfl, rfl⟩))
    go_ret2
    exact ⟨rfl, rfl⟩
  · go_enter Tryz.func58, Tryz.ntmps58
    go_wp2_with (first | (go_at_call 63; refine (sizeOk z w).mono ?_; rintro e w' ⟨rfl, rfl⟩))
    all_goals go_ret2
    all_goals exact ⟨rfl, rfl⟩

/-- WHAT BOTH READERS ANSWER -/
def okAt (s : ByteArray) (i z : Int) : Bool := decide (0 ≤ mostOf z) && decide (0 ≤ i) && decide (i + z ≤ s.size) && !(decide (z = 8) && decide (127 < bt s i.toNat))
def num (s : ByteArray) (i z : Int) : Int := if okAt s i z then gi s i.toNat z.toNat else 0
def stop (s : ByteArray) (i z : Int) : Int := if okAt s i z then i + z else -1

theorem spec_get (s : ByteArray) (i z : Int) (w : World) (hs : s.size ≤ 1048576) (hi1 : -9223372036854775808 ≤ i) (hi2 : i ≤ 9223372036854775807) :
    Calls Tryz.prog 26 #[.string s, .int .i64 i, .int .i64 z] w fun e w' => e = .returned (.tuple #[.int .i64 (num s i z), .int .i64 (stop s i z)]) ∧ w' = w := by
  by_cases hm : 0 ≤ mostOf z
  · have hz := size_of z hm
    by_cases hin : 0 ≤ i ∧ i + z ≤ s.size
    · obtain ⟨ha, hb⟩ := hin
      obtain ⟨n, rfl⟩ := Int.eq_ofNat_of_zero_le ha
      by_cases h8 : z = 8
      · subst h8
        by_cases h7 : bt s n ≤ 127
        · have hk : okAt s n 8 = true := by simp [okAt, mostOf, hb]; omega
          simp only [num, stop, hk, if_true]
          exact spec_ok8 s n w hs (by omega) h7 (fun k hk => room s n k (by omega))
        · have hk : okAt s n 8 = false := by simp [okAt, mostOf, hb]; omega
          simp only [num, stop, hk, Bool.false_eq_true, if_false]
          exact spec_big s n w hs (by omega) (by omega)
      · have hk : okAt s n z = true := by simp [okAt, hb, h8, hm]
        obtain ⟨m, rfl⟩ := Int.eq_ofNat_of_zero_le (show 0 ≤ z by omega)
        simp only [num, stop, hk, if_true]
        exact spec_okN s n m w hs (by omega) (by omega) (by simp; omega) (by simpa using h8) (fun k hk => room s n k (by omega))
    · have hk : okAt s i z = false := by
        simp only [okAt, Bool.and_eq_false_iff, decide_eq_false_iff_not]
        omega
      simp only [num, stop, hk, Bool.false_eq_true, if_false]
      exact spec_out s i z w hs (by simp; omega) (by omega) (by omega) hi1 hi2
  · have hk : okAt s i z = false := by simp [okAt, hm]
    simp only [num, stop, hk, Bool.false_eq_true, if_false]
    exact spec_none s i z w (by omega)

theorem gi_wrap (s : ByteArray) (i k : Nat) (h : k ≤ 7 ∨ k ≤ 8 ∧ bt s i ≤ 127) : wrap64 (gi s i k) = gi s i k ∧ 0 ≤ gi s i k := by
  cases k with
  | zero => simp [gi, wrap64]
  | succ k =>
    have hr := room s i k (by omega)
    have hb := bt_le s (i + k)
    simp only [gi, wrap64]
    omega

theorem gi_neg (s : ByteArray) (i : Nat) (h : 127 < bt s i) : wrap64 (gi s i 8) < 0 := by
  have h0 := bt_le s (i + 0)
  have h1 := bt_le s (i + 1)
  have h2 := bt_le s (i + 2)
  have h3 := bt_le s (i + 3)
  have h4 := bt_le s (i + 4)
  have h5 := bt_le s (i + 5)
  have h6 := bt_le s (i + 6)
  have h7 := bt_le s (i + 7)
  simp only [gi, wrap64, Nat.add_zero] at *
  omega

theorem impl_get (s : ByteArray) (i z : Int) (w : World) (hs : s.size ≤ 1048576) (hi1 : -9223372036854775808 ≤ i) (hi2 : i ≤ 9223372036854775807) :
    Calls Tryz.prog 58 #[.string s, .int .i64 i, .int .i64 z] w fun e w' => e = .returned (.tuple #[.int .i64 (num s i z), .int .i64 (stop s i z)]) ∧ w' = w := by
  by_cases hm : 0 ≤ mostOf z
  · have hz := size_of z hm
    by_cases hin : 0 ≤ i ∧ i + z ≤ s.size
    · obtain ⟨ha, hb⟩ := hin
      obtain ⟨n, rfl⟩ := Int.eq_ofNat_of_zero_le ha
      obtain ⟨m, rfl⟩ := Int.eq_ofNat_of_zero_le (show 0 ≤ z by omega)
      refine (impl_loop s n m w hs (by omega) (by omega) (by simpa using hm)).mono ?_
      rintro e w' ⟨he, rfl⟩
      refine ⟨?_, rfl⟩
      by_cases h7 : m = 8 ∧ 127 < bt s n
      · obtain ⟨rfl, h7⟩ := h7
        have hk : okAt s n ((8 : Nat) : Int) = false := by simp [okAt, mostOf]; omega
        simp only [num, stop, hk, Bool.false_eq_true, if_false]
        rw [if_pos (gi_neg s n h7)] at he
        exact he
      · have hk : okAt s n m = true := by simp [okAt, hm, hb]; omega
        have hw := gi_wrap s n m (by omega)
        simp only [num, stop, hk, if_true]
        rw [hw.1, if_neg (by omega)] at he
        exact he
    · have hk : okAt s i z = false := by
        simp only [okAt, Bool.and_eq_false_iff, decide_eq_false_iff_not]
        omega
      simp only [num, stop, hk, Bool.false_eq_true, if_false]
      exact impl_out s i z w hs (by simpa using hm) (by omega) (by omega) hi1 hi2
  · have hk : okAt s i z = false := by simp [okAt, hm]
    simp only [num, stop, hk, Bool.false_eq_true, if_false]
    exact impl_none s i z w (by simpa using hm)
end Go.Proofs.YtjnfljipomjcjaaGreatDoor.gi

/- The two readers of a short text, the specification's and the program's, answer alike at every text of at most 1048576 bytes and every place; they lay new memory alone. -/
namespace Go.Proofs.YtjnfljipomjcjaaGreatDoor.gs
open Go.ChangeShapes Go.WideShapes Go.ChangeAt Go.RowKit Go.Proofs.YtjnfljipomjcjaaGreatDoor.gi

/-- whether there is such a text at place i -/
def here (s : ByteArray) (i : Int) : Bool := okAt s i 1 && decide (num s i 1 ≤ 255) && decide (stop s i 1 + num s i 1 ≤ s.size)
def text (s : ByteArray) (i : Int) : ByteArray := if here s i then s.extract (stop s i 1).toNat ((stop s i 1).toNat + (num s i 1).toNat) else ByteArray.empty
def behind (s : ByteArray) (i : Int) : Int := if here s i then stop s i 1 + num s i 1 else -1

theorem parts (s : ByteArray) (i : Int) (h : okAt s i 1 = true) : 0 ≤ num s i 1 ∧ num s i 1 ≤ 255 ∧ 0 ≤ stop s i 1 ∧ stop s i 1 ≤ s.size := by
  have hb := gi_bound s i.toNat 1
  simp only [num, stop, h, if_true]
  simp only [okAt, Bool.and_eq_true, decide_eq_true_eq] at h
  have h1 : (1 : Int).toNat = 1 := rfl
  rw [h1]
  omega

theorem none (s : ByteArray) (i : Int) (h : okAt s i 1 = false) : num s i 1 = 0 ∧ stop s i 1 = -1 := by
  simp [num, stop, h]

theorem spec_slice (s : ByteArray) (n p : Int) (w : World) (hs : s.size ≤ 1048576) (hn : 0 ≤ n) (hn' : n ≤ 4294967295) (hp : 0 ≤ p) (hp' : p ≤ s.size) (hin : p + n ≤ s.size) :
    Calls Tryz.prog 61 #[.string s, .int .i64 n, .int .i64 p] w fun e w' => e = .returned (.tuple #[.string (s.extract p.toNat (p.toNat + n.toNat)), .int .i64 (p + n)]) ∧ w = w' := by
  obtain ⟨a, rfl⟩ := Int.eq_ofNat_of_zero_le hn
  obtain ⟨b, rfl⟩ := Int.eq_ofNat_of_zero_le hp
  have hsl : ∀ W : World, (Instr.slice 9 (.string s) (some (.int .i64 (b : Int))) (some (.int .i64 ((b : Int) + (a : Int)))) Option.none).run Tryz.prog W = .ok (.string (s.extract b (b + a))) W := fun W =>
    run_slice_string (P := Tryz.prog) W 9 s .i64 .i64 (b : Int) ((b : Int) + (a : Int)) Tryz.underlying9 (by omega) (by omega) (by omega)
  go_enter Tryz.func61, Tryz.ntmps61
  go_wp2
  go_ret2
  exact ⟨rfl, rfl⟩

theorem spec_noslice (s : ByteArray) (n p : Int) (w : World) (_hs : s.size ≤ 1048576) (hn : 0 ≤ n) (hn' : n ≤ 4294967295) (h : p = -1 ∨ 0 ≤ p ∧ p ≤ s.size ∧ s.size < p + n) :
    Calls Tryz.prog 61 #[.string s, .int .i64 n, .int .i64 p] w fun e w' => e = .returned (.tuple #[.string ByteArray.empty, .int .i64 (-1)]) ∧ w = w' := by
  rcases h with rfl | ⟨h0, h1, h2⟩
  · go_enter Tryz.func61, Tryz.ntmps61
    go_wp2
    go_ret2
    exact ⟨rfl, rfl⟩
  · have hd : decide (p < 0) = false := by simp; omega
    go_enter Tryz.func61, Tryz.ntmps61
    go_wp2
    go_ret2
    exact ⟨rfl, rfl⟩

theorem spec_getShort (s : ByteArray) (i : Int) (w : World) (hs : s.size ≤ 1048576) (hi1 : -9223372036854775808 ≤ i) (hi2 : i ≤ 9223372036854775807) :
    Calls Tryz.prog 41 #[.string s, .int .i64 i] w fun e w' => e = .returned (.tuple #[.string (text s i), .int .i64 (behind s i)]) ∧ Below w.heap.size w w' := by
  obtain ⟨n, hn⟩ : ∃ n, num s i 1 = n := ⟨_, rfl⟩
  obtain ⟨p, hp⟩ : ∃ p, stop s i 1 = p := ⟨_, rfl⟩
  have hget := spec_get s i 1 w hs hi1 hi2
  rw [hn, hp] at hget
  by_cases hok : okAt s i 1 = true
  · have hpa := parts s i hok
    rw [hn, hp] at hpa
    by_cases hin : n ≤ 255 ∧ p + n ≤ s.size
    · have hh : here s i = true := by simp only [here, hok, hn, hp, Bool.true_and, Bool.and_eq_true, decide_eq_true_eq]; exact hin
      have e1 : text s i = s.extract p.toNat (p.toNat + n.toNat) := by simp only [text, hh, if_true, hn, hp]
      have e2 : behind s i = p + n := by simp only [behind, hh, if_true, hn, hp]
      rw [e1, e2]
      clear hn hp hok hh e1 e2
      go_enter Tryz.func41, Tryz.ntmps41
      go_wp2_with (first | (go_at_call 26; refine hget.mono ?_; rintro e w' ⟨rfl, rfl⟩) | (go_at_call 61; refine (spec_slice s n p _ hs (by omega) (by omega) (by omega) (by omega) (by omega)).mono ?_; rintro e w' ⟨rfl, rfl⟩))
      go_ret2
      exact ⟨rfl, Below.refl _ _⟩
    · have hh : here s i = false := by
        simp only [here, hok, hn, hp, Bool.true_and, Bool.and_eq_false_iff, decide_eq_false_iff_not]; omega
      have e1 : text s i = ByteArray.empty := by simp only [text, hh, Bool.false_eq_true, if_false]
      have e2 : behind s i = -1 := by simp only [behind, hh, Bool.false_eq_true, if_false]
      rw [e1, e2]
      clear hn hp hok hh e1 e2
      go_enter Tryz.func41, Tryz.ntmps41
      go_wp2_with (first | (go_at_call 26; refine hget.mono ?_; rintro e w' ⟨rfl, rfl⟩) | (go_at_call 61; refine (spec_noslice s n p _ hs (by omega) (by omega) (by omega)).mono ?_; rintro e w' ⟨rfl, rfl⟩))
      go_ret2
      exact ⟨rfl, Below.refl _ _⟩
  · have hok' : okAt s i 1 = false := by simpa using hok
    have hpa := none s i hok'
    rw [hn, hp] at hpa
    obtain ⟨rfl, rfl⟩ := hpa
    have hh : here s i = false := by simp only [here, hok', Bool.false_and]
    have e1 : text s i = ByteArray.empty := by simp only [text, hh, Bool.false_eq_true, if_false]
    have e2 : behind s i = -1 := by simp only [behind, hh, Bool.false_eq_true, if_false]
    rw [e1, e2]
    clear hn hp hok hok' hh e1 e2
    go_enter Tryz.func41, Tryz.ntmps41
    go_wp2_with (first | (go_at_call 26; refine hget.mono ?_; rintro e w' ⟨rfl, rfl⟩) | (go_at_call 61; refine (spec_noslice s 0 (-1) _ hs (by omega) (by omega) (by omega)).mono ?_; rintro e w' ⟨rfl, rfl⟩))
    go_ret2
    exact ⟨rfl, Below.refl _ _⟩

theorem impl_text (s : ByteArray) (i n p : Int) (w : World) (hs : s.size ≤ 1048576) (hpa : 0 ≤ n ∧ n ≤ 255 ∧ 0 ≤ p ∧ p ≤ s.size) (hin : n ≤ 255 ∧ p + n ≤ s.size)
    (hget : Calls Tryz.prog 58 #[.string s, .int .i64 i, .int .i64 1] w fun e w' => e = .returned (.tuple #[.int .i64 n, .int .i64 p]) ∧ w' = w) :
    Calls Tryz.prog 76 #[.string s, .int .i64 i, .int .i64 1, .int .i64 255] w fun e w' => e = .returned (.tuple #[.string (s.extract p.toNat (p.toNat + n.toNat)), .int .i64 (p + n)]) ∧ Below w.heap.size w w' := by
  obtain ⟨a, rfl⟩ := Int.eq_ofNat_of_zero_le hpa.1
  obtain ⟨b, rfl⟩ := Int.eq_ofNat_of_zero_le hpa.2.2.1
  have hsl : ∀ W : World, (Instr.slice 9 (.string s) (some (.int .i64 (b : Int))) (some (.int .i64 ((b : Int) + (a : Int)))) Option.none).run Tryz.prog W = .ok (.string (s.extract b (b + a))) W := fun W =>
    run_slice_string (P := Tryz.prog) W 9 s .i64 .i64 (b : Int) ((b : Int) + (a : Int)) Tryz.underlying9 (by omega) (by omega) (by omega)
  have hd : decide ((b : Int) < 0) = false := by simp
  have hxs : (s.extract b (b + a)).size ≤ 281474976710656 := by rw [ByteArray.size_extract]; omega
  go_enter Tryz.func76, Tryz.ntmps76
  go_wp2_with (first | (go_at_call 58; refine hget.mono ?_; rintro e w' ⟨rfl, rfl⟩) | (go_at_call 51; refine (cl.clone (s.extract b (b + a)) _ hxs).mono ?_; rintro e w1 ⟨rfl, hb1⟩))
  go_ret2
  exact ⟨rfl, hb1⟩

theorem impl_notext (s : ByteArray) (i n p : Int) (w : World) (hs : s.size ≤ 1048576) (h : p = -1 ∨ (0 ≤ n ∧ n ≤ 255 ∧ 0 ≤ p ∧ p ≤ s.size) ∧ ¬ (n ≤ 255 ∧ p + n ≤ s.size))
    (hget : Calls Tryz.prog 58 #[.string s, .int .i64 i, .int .i64 1] w fun e w' => e = .returned (.tuple #[.int .i64 n, .int .i64 p]) ∧ w' = w) :
    Calls Tryz.prog 76 #[.string s, .int .i64 i, .int .i64 1, .int .i64 255] w fun e w' => e = .returned (.tuple #[.string ByteArray.empty, .int .i64 (-1)]) ∧ Below w.heap.size w w' := by
  rcases h with rfl | ⟨hpa, hn⟩
  · go_enter Tryz.func76, Tryz.ntmps76
    go_wp2_with (go_at_call 58; refine hget.mono ?_; rintro e w' ⟨rfl, rfl⟩)
    go_ret2
    exact ⟨rfl, Below.refl _ _⟩
  · have hd : decide (p < 0) = false := by simp; omega
    by_cases hm : n ≤ 255
    · have hm' : decide (255 < n) = false := by simp; omega
      go_enter Tryz.func76, Tryz.ntmps76
      go_wp2_with (go_at_call 58; refine hget.mono ?_; rintro e w' ⟨rfl, rfl⟩)
      go_ret2
      exact ⟨rfl, Below.refl _ _⟩
    · have hm' : decide (255 < n) = true := by simp; omega
      go_enter Tryz.func76, Tryz.ntmps76
      go_wp2_with (go_at_call 58; refine hget.mono ?_; rintro e w' ⟨rfl, rfl⟩)
      go_ret2
      exact ⟨rfl, Below.refl _ _⟩

theorem impl_getShort (s : ByteArray) (i : Int) (w : World) (hs : s.size ≤ 1048576) (hi1 : -9223372036854775808 ≤ i) (hi2 : i ≤ 9223372036854775807) :
    Calls Tryz.prog 69 #[.string s, .int .i64 i] w fun e w' => e = .returned (.tuple #[.string (text s i), .int .i64 (behind s i)]) ∧ Below w.heap.size w w' := by
  obtain ⟨n, hn⟩ : ∃ n, num s i 1 = n := ⟨_, rfl⟩
  obtain ⟨p, hp⟩ : ∃ p, stop s i 1 = p := ⟨_, rfl⟩
  have hget := impl_get s i 1 w hs hi1 hi2
  rw [hn, hp] at hget
  have hall : Calls Tryz.prog 76 #[.string s, .int .i64 i, .int .i64 1, .int .i64 255] w fun e w' => e = .returned (.tuple #[.string (text s i), .int .i64 (behind s i)]) ∧ Below w.heap.size w w' := by
    by_cases hok : okAt s i 1 = true
    · have hpa := parts s i hok
      rw [hn, hp] at hpa
      by_cases hin : n ≤ 255 ∧ p + n ≤ s.size
      · have hh : here s i = true := by simp only [here, hok, hn, hp, Bool.true_and, Bool.and_eq_true, decide_eq_true_eq]; exact hin
        have e1 : text s i = s.extract p.toNat (p.toNat + n.toNat) := by simp only [text, hh, if_true, hn, hp]
        have e2 : behind s i = p + n := by simp only [behind, hh, if_true, hn, hp]
        rw [e1, e2]
        exact impl_text s i n p w hs hpa hin hget
      · have hh : here s i = false := by
          simp only [here, hok, hn, hp, Bool.true_and, Bool.and_eq_false_iff, decide_eq_false_iff_not]; omega
        have e1 : text s i = ByteArray.empty := by simp only [text, hh, Bool.false_eq_true, if_false]
        have e2 : behind s i = -1 := by simp only [behind, hh, Bool.false_eq_true, if_false]
        rw [e1, e2]
        exact impl_notext s i n p w hs (Or.inr ⟨hpa, hin⟩) hget
    · have hok' : okAt s i 1 = false := by simpa using hok
      have hpa := none s i hok'
      rw [hn, hp] at hpa
      have hh : here s i = false := by simp only [here, hok', Bool.false_and]
      have e1 : text s i = ByteArray.empty := by simp only [text, hh, Bool.false_eq_true, if_false]
      have e2 : behind s i = -1 := by simp only [behind, hh, Bool.false_eq_true, if_false]
      rw [e1, e2]
      exact impl_notext s i n p w hs (Or.inl hpa.2) hget
  clear hget hn hp
  go_enter Tryz.func69, Tryz.ntmps69
  go_wp2_with (go_at_call 76; refine hall.mono ?_; rintro e w1 ⟨rfl, hb1⟩)
  go_ret2
  exact ⟨rfl, hb1⟩
end Go.Proofs.YtjnfljipomjcjaaGreatDoor.gs
