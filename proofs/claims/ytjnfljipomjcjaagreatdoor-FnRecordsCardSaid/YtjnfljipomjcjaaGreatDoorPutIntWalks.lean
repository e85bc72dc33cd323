/- The two writers of a number, the specification's and the program's, answer alike at every number and size; they lay new memory alone. -/
import Derived.Test.YtjnfljipomjcjaaGreatDoorSizeWalks
import Derived.WalkKit
import Derived.WalkLawsBesides
import Derived.ProofKit
import Derived.OpenShut
import Derived.ShutString
import Derived.Laws.BytesArg
import Derived.Deep.OwnRows
namespace Go.Proofs.YtjnfljipomjcjaaGreatDoor.pi
open Go.ChangeShapes Go.WideShapes Go.ChangeAt Go.RowKit Go.Proofs.YtjnfljipomjcjaaGreatDoor.sz

/-- the k lowest bytes of n, the highest first -/
def lo (n : Nat) : Nat → List Int
  | 0 => []
  | k + 1 => ((n / 256 ^ k % 256 : Nat) : Int) :: lo n k

theorem lo_length (n : Nat) : ∀ k, (lo n k).length = k
  | 0 => rfl
  | k + 1 => by simp [lo, lo_length n k]

theorem div_step {n m k : Nat} (h : n / 256 ^ k = m) : n / 256 ^ (k + 1) = m / 256 := by rw [Nat.pow_succ, ← Nat.div_div_eq_div_mul, h]

theorem lo_step {n m k : Nat} (h : n / 256 ^ k = m) : strOfNums [(m : Int) % 256] ++ strOfNums (lo n k) = strOfNums (lo n (k + 1)) := by
  subst h
  apply ByteArray.ext
  simp [strOfNums, lo]

theorem conv_one (wr : World) (v : Int) : (convert 22 9 (Value.slice (some { block := wr.heap.size, off := 0 }) 1 1)).run Tryz.prog (wr.alloc (.cells #[.int .u8 v] 5)) = .ok (.string (strOfNums [v])) (wr.alloc (.cells #[.int .u8 v] 5)) :=
  run_convert_bytes_arg (P := Tryz.prog) _ 22 5 Tryz.underlying22 Tryz.underlying5 _ 0 1 1 [v] rfl (fun i hi => by
    obtain rfl : i = 0 := by omega
    simp) 9 Tryz.underlying9

theorem spec_ok (n z : Nat) (w : World) (hm : (n : Int) ≤ 9223372036854775807) (hz : z ≤ 8)  (hmz : 0 ≤ mostOf z) (hle : (n : Int) ≤ mostOf z) : Calls Tryz.prog 42 #[.int .i64 n, .int .i64 z] w fun e w' => e = .returned (.string (strOfNums (lo n z))) ∧ Below w.heap.size w w' := by
  go_enter Tryz.func42, Tryz.ntmps42
  go_wp2_with (first | (go_at_call 60; refine (most (z : Int) w).mono ?_; rintro e w' ⟨rfl, rfl⟩) | (go_at_call 46; go_in))
  go_loopw [0, 5, 6] (fun n' o i wr => ∃ k : Nat, k ≤ z ∧ i = .int .i64 k ∧ n' = .int .i64 (n / 256 ^ k : Nat) ∧ o = .string (strOfNums (lo n k)) ∧ Below w.heap.size w wr) (fun _ _ i _ => z - (intOf i).toNat)
  case atStart => exact ⟨0, Nat.zero_le _, rfl, by simp, rfl, Below.refl _ _⟩
  case round =>
    obtain ⟨k, hk, rfl, rfl, rfl, hbel⟩ := hrel
    by_cases hkz : k < z
    · obtain ⟨m, hmm⟩ : ∃ m, n / 256 ^ k = m := ⟨_, rfl⟩
      obtain ⟨so, hso⟩ : ∃ so, strOfNums (lo n k) = so := ⟨_, rfl⟩
      have hmle : m ≤ 9223372036854775807 := by rw [← hmm]; exact Nat.le_trans (Nat.div_le_self _ _) (by omega)
      rw [hmm, hso]
      have HM : Hid (n / 256 ^ k = m) := hmm
      have HS : Hid (strOfNums (lo n k) = so) := hso
      clear hmm hso
      have hc := fun v => conv_one wr v
      have h1 : ∀ v, (strOfNums [v]).size = 1 := fun v => strOfNums_size [v]
      have h8 : so.size ≤ 8 := by rw [← HS.out, strOfNums_size, lo_length]; omega
      go_wp2
      go_roundw
      case rel => exact ⟨k + 1, by omega, by go_num, by rw [div_step HM.out]; go_num, by rw [← HS.out, lo_step HM.out], hbel.alloc (by have := hbel.size; omega) _⟩
      case measure => simp [intOf]; omega
    · obtain rfl : k = z := by omega
      go_wp2
      go_ret
      exact ⟨rfl, hbel⟩

theorem spec_no (n z : Int) (w : World) (h : n < 0 ∨ mostOf z < n) : Calls Tryz.prog 42 #[.int .i64 n, .int .i64 z] w fun e w' => e = .returned (.string ByteArray.empty) ∧ Below w.heap.size w w' := by
  rcases h with h | h
  · go_enter Tryz.func42, Tryz.ntmps42
    go_wp2_with (first | (go_at_call 60; refine (most z w).mono ?_; rintro e w' ⟨rfl, rfl⟩) | (go_at_call 46; go_in))
    all_goals go_ret
    all_goals exact ⟨rfl, Below.refl _ _⟩
  · by_cases h0 : 0 ≤ n
    · have hd : decide (n ≤ mostOf z) = false := by simp; omega
      go_enter Tryz.func42, Tryz.ntmps42
      go_wp2_with (first | (go_at_call 60; refine (most z w).mono ?_; rintro e w' ⟨rfl, rfl⟩) | (go_at_call 46; go_in))
      all_goals go_ret
      all_goals exact ⟨rfl, Below.refl _ _⟩
    · go_enter Tryz.func42, Tryz.ntmps42
      go_wp2_with (first | (go_at_call 60; refine (most z w).mono ?_; rintro e w' ⟨rfl, rfl⟩) | (go_at_call 46; go_in))
      all_goals go_ret
      all_goals exact ⟨rfl, Below.refl _ _⟩

theorem lo_get (n : Nat) : ∀ (k i : Nat), i < k → (lo n k).getD i 0 = ((n / 256 ^ (k - 1 - i) % 256 : Nat) : Int)
  | 0, i, h => by omega
  | k + 1, 0, _ => by simp [lo]
  | k + 1, i + 1, h => by
    have := lo_get n k i (by omega)
    rw [lo]
    simp only [List.getD_cons_succ]
    rw [this, show k + 1 - 1 - (i + 1) = k - 1 - i by omega]

theorem put_step {n z k : Nat} {C : Array Value} (hk : k < z) (hC : C.size = z) (h : ∀ j, j < k → C[j]? = some (.int .u8 (n / 256 ^ (z - 1 - j) % 256 : Nat))) :
    ∀ j, j < k + 1 → (C.setIfInBounds k (.int .u8 ((n : Int) / 2 ^ (8 * (z - 1 - k)) % 256)))[j]? = some (.int .u8 (n / 256 ^ (z - 1 - j) % 256 : Nat)) := by
  intro j hj
  have e : (n : Int) / 2 ^ (8 * (z - 1 - k)) % 256 = ((n / 256 ^ (z - 1 - k) % 256 : Nat) : Int) := by
    have : (256 : Nat) ^ (z - 1 - k) = 2 ^ (8 * (z - 1 - k)) := by rw [Nat.pow_mul]
    rw [this]
    simp
  rw [e]
  by_cases hj' : j = k
  · subst hj'
    rw [Array.getElem?_setIfInBounds_self]
    simp [hC, hk]
  · rw [Array.getElem?_setIfInBounds_ne (by omega)]
    exact h j (by omega)

theorem info5 : (Tryz.prog.info? 5).map (fun i => (i.zero, i.size, i.bytes)) = some (some (.int .u8 0), 1, 1) := by kernel_rfl

set_option maxRecDepth 100000 in
theorem impl_ok (n z : Nat) (w : World) (_hn : (n : Int) ≤ 9223372036854775807) (hz : z ≤ 8)  (hmz : decide (0 ≤ mostOf z) = true) (hsh : ((n : Int) / 2 ^ (8 * z) != 0) = false) : Calls Tryz.prog 30 #[.int .i64 n, .int .i64 z] w fun e w' => e = .returned (.string (strOfNums (lo n z))) ∧ Below w.heap.size w w' := by
  have hmk := run_make_row' (P := Tryz.prog) 22 5 (.int .u8 0) 1 Tryz.underlying22 info5 rfl .i64 .i64 z (by omega) (by omega) w
  go_enter Tryz.func30, Tryz.ntmps30
  go_wp2_with (first | (go_at_call 63; refine (sizeOk (z : Int) w).mono ?_; rintro e w' ⟨rfl, rfl⟩))
  go_loopw [25] (fun c wr => ∃ k : Nat, ∃ C : Array Value, k ≤ z ∧ c = .int .i64 k ∧ C.size = z ∧ (∀ j, j < k → C[j]? = some (.int .u8 (n / 256 ^ (z - 1 - j) % 256 : Nat))) ∧ wr = w.alloc (.cells C 5)) (fun c _ => z - (intOf c).toNat)
  case atStart => exact ⟨0, _, Nat.zero_le _, rfl, size_madeCells _ _, fun j hj => by omega, rfl⟩
  case round =>
    obtain ⟨k, C, hk, rfl, hC, hall, rfl⟩ := hrel
    by_cases hkz : k < z
    · have HA : Hid (∀ j, j < k → C[j]? = some (.int .u8 (n / 256 ^ (z - 1 - j) % 256 : Nat))) := hall
      clear hall
      go_wp2
      go_roundw
      case rel => exact ⟨k + 1, _, by omega, by go_num, by simp [hC], put_step hkz hC HA.out, rfl⟩
      case measure => simp [intOf]; omega
    · obtain rfl : k = z := by omega
      have hcv := run_convert_bytes_arg (P := Tryz.prog) (w.alloc (.cells C 5)) 22 5 Tryz.underlying22 Tryz.underlying5 w.heap.size 0 k k (lo n k) (lo_length n k) (fun i hi => by
        have := hall i hi
        rw [← lo_get n k i hi] at this
        simpa [World.cell?_alloc_at] using this) 9 Tryz.underlying9
      clear hall
      go_wp2
      go_ret
      exact ⟨rfl, (Below.refl _ _).alloc (Nat.le_refl _) _⟩

theorem impl_none (n z : Int) (w : World) (hmz : decide (0 ≤ mostOf z) = false) : Calls Tryz.prog 30 #[.int .i64 n, .int .i64 z] w fun e w' => e = .returned (.string ByteArray.empty) ∧ Below w.heap.size w w' := by
  go_enter Tryz.func30, Tryz.ntmps30
  go_wp2_with (first | (go_at_call 63; refine (sizeOk z w).mono ?_; rintro e w' ⟨rfl, rfl⟩))
  go_ret
  exact ⟨rfl, Below.refl _ _⟩

theorem impl_neg (n z : Int) (w : World) (hmz : decide (0 ≤ mostOf z) = true) (hn : n < 0) : Calls Tryz.prog 30 #[.int .i64 n, .int .i64 z] w fun e w' => e = .returned (.string ByteArray.empty) ∧ Below w.heap.size w w' := by
  go_enter Tryz.func30, Tryz.ntmps30
  go_wp2_with (first | (go_at_call 63; refine (sizeOk z w).mono ?_; rintro e w' ⟨rfl, rfl⟩))
  go_ret
  exact ⟨rfl, Below.refl _ _⟩

theorem impl_big (n z : Nat) (w : World) (_hz : z ≤ 8) (hmz : decide (0 ≤ mostOf z) = true) (hsh : ((n : Int) / 2 ^ (8 * z) != 0) = true) : Calls Tryz.prog 30 #[.int .i64 n, .int .i64 z] w fun e w' => e = .returned (.string ByteArray.empty) ∧ Below w.heap.size w w' := by
  have h0 : decide ((n : Int) < 0) = false := by simp
  go_enter Tryz.func30, Tryz.ntmps30
  go_wp2_with (first | (go_at_call 63; refine (sizeOk (z : Int) w).mono ?_; rintro e w' ⟨rfl, rfl⟩))
  all_goals go_ret
  all_goals exact ⟨rfl, Below.refl _ _⟩

/-- WHAT BOTH WRITERS ANSWER -/
def fits (n z : Int) : Bool := decide (0 ≤ n) && decide (n ≤ mostOf z)
def text (n z : Int) : ByteArray := if fits n z then strOfNums (lo n.toNat z.toNat) else ByteArray.empty

theorem text_size (n z : Int) : (text n z).size ≤ 8 := by
  unfold text
  by_cases h : fits n z = true
  · rw [if_pos h, strOfNums_size, lo_length]
    simp only [fits, Bool.and_eq_true, decide_eq_true_eq] at h
    have := size_of z (by omega)
    omega
  · rw [if_neg h]
    exact Nat.zero_le _

theorem spec_put (n z : Int) (w : World) (hn : n ≤ 9223372036854775807) :
    Calls Tryz.prog 42 #[.int .i64 n, .int .i64 z] w fun e w' => e = .returned (.string (text n z)) ∧ Below w.heap.size w w' := by
  by_cases h : fits n z = true
  · have h' := h
    simp only [fits, Bool.and_eq_true, decide_eq_true_eq] at h'
    have hz := size_of z (by omega)
    obtain ⟨m, rfl⟩ := Int.eq_ofNat_of_zero_le h'.1
    obtain ⟨y, rfl⟩ := Int.eq_ofNat_of_zero_le (show 0 ≤ z by omega)
    simp only [text, h, if_true]
    exact spec_ok m y w hn (by omega) (by omega) h'.2
  · have h' := h
    simp only [fits, Bool.and_eq_true, decide_eq_true_eq] at h'
    simp only [text, h, Bool.false_eq_true, if_false]
    exact spec_no n z w (by omega)

theorem impl_put (n z : Int) (w : World) (hn : n ≤ 9223372036854775807) :
    Calls Tryz.prog 30 #[.int .i64 n, .int .i64 z] w fun e w' => e = .returned (.string (text n z)) ∧ Below w.heap.size w w' := by
  by_cases hm : 0 ≤ mostOf z
  · have hz := size_of z hm
    by_cases h0 : 0 ≤ n
    · obtain ⟨m, rfl⟩ := Int.eq_ofNat_of_zero_le h0
      obtain ⟨y, rfl⟩ := Int.eq_ofNat_of_zero_le (show 0 ≤ z by omega)
      have hy : y = 1 ∨ y = 2 ∨ y = 4 ∨ y = 8 := by omega
      by_cases h : fits m y = true
      · have h' := h
        simp only [fits, Bool.and_eq_true, decide_eq_true_eq] at h'
        have hle := h'.2
        simp only [text, h, if_true]
        refine impl_ok m y w hn (by omega) (by simpa using hm) ?_
        rcases hy with rfl | rfl | rfl | rfl <;> simp [mostOf] at hle ⊢ <;> omega
      · have h' := h
        simp only [fits, Bool.and_eq_true, decide_eq_true_eq] at h'
        have hle : mostOf y < m := by omega
        simp only [text, h, Bool.false_eq_true, if_false]
        refine impl_big m y w (by omega) (by simpa using hm) ?_
        rcases hy with rfl | rfl | rfl | rfl <;> simp [mostOf] at hle ⊢ <;> omega
    · have h : fits n z = false := by simp [fits, h0]
      simp only [text, h, Bool.false_eq_true, if_false]
      exact impl_neg n z w (by simpa using hm) (by omega)
  · have h : fits n z = false := by simp only [fits, Bool.and_eq_false_iff, decide_eq_false_iff_not]; omega
    simp only [text, h, Bool.false_eq_true, if_false]
    exact impl_none n z w (by simpa using hm)
end Go.Proofs.YtjnfljipomjcjaaGreatDoor.pi
