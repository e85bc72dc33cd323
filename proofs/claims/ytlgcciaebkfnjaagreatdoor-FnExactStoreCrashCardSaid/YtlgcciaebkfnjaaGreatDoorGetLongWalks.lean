/- The two readers of a long text, the specification's and the program's, answer alike at every text of at most 1048576 bytes and every place; they lay new memory alone. -/
import Derived.Test.YtlgcciaebkfnjaaGreatDoorGetIntWalks
import Derived.Test.YtlgcciaebkfnjaaGreatDoorCloneLaid
namespace Go.Proofs.YtlgcciaebkfnjaaGreatDoor.gl
open Go.ChangeShapes Go.WideShapes Go.ChangeAt Go.RowKit Go.Proofs.YtlgcciaebkfnjaaGreatDoor.gi

/-- whether there is such a text at place i -/
def here (s : ByteArray) (i : Int) : Bool := okAt s i 4 && decide (num s i 4 ≤ 100000) && decide (stop s i 4 + num s i 4 ≤ s.size)
def text (s : ByteArray) (i : Int) : ByteArray := if here s i then s.extract (stop s i 4).toNat ((stop s i 4).toNat + (num s i 4).toNat) else ByteArray.empty
def behind (s : ByteArray) (i : Int) : Int := if here s i then stop s i 4 + num s i 4 else -1

theorem parts (s : ByteArray) (i : Int) (h : okAt s i 4 = true) : 0 ≤ num s i 4 ∧ num s i 4 ≤ 4294967295 ∧ 0 ≤ stop s i 4 ∧ stop s i 4 ≤ s.size := by
  have hb := gi_bound s i.toNat 4
  simp only [num, stop, h, if_true]
  simp only [okAt, Bool.and_eq_true, decide_eq_true_eq] at h
  have h1 : (4 : Int).toNat = 4 := rfl
  rw [h1]
  omega

theorem none (s : ByteArray) (i : Int) (h : okAt s i 4 = false) : num s i 4 = 0 ∧ stop s i 4 = -1 := by
  simp [num, stop, h]

theorem spec_slice (s : ByteArray) (n p : Int) (w : World) (hs : s.size ≤ 1048576) (hn : 0 ≤ n) (hn' : n ≤ 4294967295) (hp : 0 ≤ p) (hp' : p ≤ s.size) (hin : p + n ≤ s.size) :
    Calls Tryz.prog 132 #[.string s, .int .i64 n, .int .i64 p] w fun e w' => e = .returned (.tuple #[.string (s.extract p.toNat (p.toNat + n.toNat)), .int .i64 (p + n)]) ∧ w = w' := by
  obtain ⟨a, rfl⟩ := Int.eq_ofNat_of_zero_le hn
  obtain ⟨b, rfl⟩ := Int.eq_ofNat_of_zero_le hp
  have hsl : ∀ W : World, (Instr.slice 9 (.string s) (some (.int .i64 (b : Int))) (some (.int .i64 ((b : Int) + (a : Int)))) Option.none).run Tryz.prog W = .ok (.string (s.extract b (b + a))) W := fun W =>
    run_slice_string (P := Tryz.prog) W 9 s .i64 .i64 (b : Int) ((b : Int) + (a : Int)) Tryz.underlying9 (by omega) (by omega) (by omega)
  go_enter Tryz.func132, Tryz.ntmps132
  go_wp2
  go_ret2
  exact ⟨rfl, rfl⟩

theorem spec_noslice (s : ByteArray) (n p : Int) (w : World) (_hs : s.size ≤ 1048576) (hn : 0 ≤ n) (hn' : n ≤ 4294967295) (h : p = -1 ∨ 0 ≤ p ∧ p ≤ s.size ∧ s.size < p + n) :
    Calls Tryz.prog 132 #[.string s, .int .i64 n, .int .i64 p] w fun e w' => e = .returned (.tuple #[.string ByteArray.empty, .int .i64 (-1)]) ∧ w = w' := by
  rcases h with rfl | ⟨h0, h1, h2⟩
  · go_enter Tryz.func132, Tryz.ntmps132
    go_wp2
    go_ret2
    exact ⟨rfl, rfl⟩
  · have hd : decide (p < 0) = false := by simp; omega
    go_enter Tryz.func132, Tryz.ntmps132
    go_wp2
    go_ret2
    exact ⟨rfl, rfl⟩

theorem spec_getLong (s : ByteArray) (i : Int) (w : World) (hs : s.size ≤ 1048576) (hi1 : -9223372036854775808 ≤ i) (hi2 : i ≤ 9223372036854775807) :
    Calls Tryz.prog 92 #[.string s, .int .i64 i] w fun e w' => e = .returned (.tuple #[.string (text s i), .int .i64 (behind s i)]) ∧ Below w.heap.size w w' := by
  obtain ⟨n, hn⟩ : ∃ n, num s i 4 = n := ⟨_, rfl⟩
  obtain ⟨p, hp⟩ : ∃ p, stop s i 4 = p := ⟨_, rfl⟩
  have hget := spec_get s i 4 w hs hi1 hi2
  rw [hn, hp] at hget
  by_cases hok : okAt s i 4 = true
  · have hpa := parts s i hok
    rw [hn, hp] at hpa
    by_cases hin : n ≤ 100000 ∧ p + n ≤ s.size
    · have hh : here s i = true := by simp only [here, hok, hn, hp, Bool.true_and, Bool.and_eq_true, decide_eq_true_eq]; exact hin
      have e1 : text s i = s.extract p.toNat (p.toNat + n.toNat) := by simp only [text, hh, if_true, hn, hp]
      have e2 : behind s i = p + n := by simp only [behind, hh, if_true, hn, hp]
      rw [e1, e2]
      clear hn hp hok hh e1 e2
      go_enter Tryz.func92, Tryz.ntmps92
      go_wp2_with (first | (go_at_call 91; refine hget.mono ?_; rintro e w' ⟨rfl, rfl⟩) | (go_at_call 132; refine (spec_slice s n p _ hs (by omega) (by omega) (by omega) (by omega) (by omega)).mono ?_; rintro e w' ⟨rfl, rfl⟩))
      go_ret2
      exact ⟨rfl, Below.refl _ _⟩
    · have hh : here s i = false := by
        simp only [here, hok, hn, hp, Bool.true_and, Bool.and_eq_false_iff, decide_eq_false_iff_not]; omega
      have e1 : text s i = ByteArray.empty := by simp only [text, hh, Bool.false_eq_true, if_false]
      have e2 : behind s i = -1 := by simp only [behind, hh, Bool.false_eq_true, if_false]
      rw [e1, e2]
      clear hn hp hok hh e1 e2
      by_cases hm : n ≤ 100000
      · have hm' : decide (100000 < n) = false := by simp; omega
        go_enter Tryz.func92, Tryz.ntmps92
        go_wp2_with (first | (go_at_call 91; refine hget.mono ?_; rintro e w' ⟨rfl, rfl⟩) | (go_at_call 132; refine (spec_noslice s n p _ hs (by omega) (by omega) (by omega)).mono ?_; rintro e w' ⟨rfl, rfl⟩))
        go_ret2
        exact ⟨rfl, Below.refl _ _⟩
      · have hm' : decide (100000 < n) = true := by simp; omega
        go_enter Tryz.func92, Tryz.ntmps92
        go_wp2_with (go_at_call 91; refine hget.mono ?_; rintro e w' ⟨rfl, rfl⟩)
        go_ret2
        exact ⟨rfl, Below.refl _ _⟩
  · have hok' : okAt s i 4 = false := by simpa using hok
    have hpa := none s i hok'
    rw [hn, hp] at hpa
    obtain ⟨rfl, rfl⟩ := hpa
    have hh : here s i = false := by simp only [here, hok', Bool.false_and]
    have e1 : text s i = ByteArray.empty := by simp only [text, hh, Bool.false_eq_true, if_false]
    have e2 : behind s i = -1 := by simp only [behind, hh, Bool.false_eq_true, if_false]
    rw [e1, e2]
    clear hn hp hok hok' hh e1 e2
    go_enter Tryz.func92, Tryz.ntmps92
    go_wp2_with (first | (go_at_call 91; refine hget.mono ?_; rintro e w' ⟨rfl, rfl⟩) | (go_at_call 132; refine (spec_noslice s 0 (-1) _ hs (by omega) (by omega) (by omega)).mono ?_; rintro e w' ⟨rfl, rfl⟩))
    go_ret2
    exact ⟨rfl, Below.refl _ _⟩

theorem impl_text (s : ByteArray) (i n p : Int) (w : World) (hs : s.size ≤ 1048576) (hpa : 0 ≤ n ∧ n ≤ 4294967295 ∧ 0 ≤ p ∧ p ≤ s.size) (hin : n ≤ 100000 ∧ p + n ≤ s.size)
    (hget : Calls Tryz.prog 128 #[.string s, .int .i64 i, .int .i64 4] w fun e w' => e = .returned (.tuple #[.int .i64 n, .int .i64 p]) ∧ w' = w) :
    Calls Tryz.prog 162 #[.string s, .int .i64 i, .int .i64 4, .int .i64 100000] w fun e w' => e = .returned (.tuple #[.string (s.extract p.toNat (p.toNat + n.toNat)), .int .i64 (p + n)]) ∧ Below w.heap.size w w' := by
  obtain ⟨a, rfl⟩ := Int.eq_ofNat_of_zero_le hpa.1
  obtain ⟨b, rfl⟩ := Int.eq_ofNat_of_zero_le hpa.2.2.1
  have hsl : ∀ W : World, (Instr.slice 9 (.string s) (some (.int .i64 (b : Int))) (some (.int .i64 ((b : Int) + (a : Int)))) Option.none).run Tryz.prog W = .ok (.string (s.extract b (b + a))) W := fun W =>
    run_slice_string (P := Tryz.prog) W 9 s .i64 .i64 (b : Int) ((b : Int) + (a : Int)) Tryz.underlying9 (by omega) (by omega) (by omega)
  have hd : decide ((b : Int) < 0) = false := by simp
  have hxs : (s.extract b (b + a)).size ≤ 281474976710656 := by rw [ByteArray.size_extract]; omega
  go_enter Tryz.func162, Tryz.ntmps162
  go_wp2_with (first | (go_at_call 128; refine hget.mono ?_; rintro e w' ⟨rfl, rfl⟩) | (go_at_call 50; refine (cl.clone (s.extract b (b + a)) _ hxs).mono ?_; rintro e w1 ⟨rfl, hb1⟩))
  go_ret2
  exact ⟨rfl, hb1⟩

theorem impl_notext (s : ByteArray) (i n p : Int) (w : World) (hs : s.size ≤ 1048576) (h : p = -1 ∨ (0 ≤ n ∧ n ≤ 4294967295 ∧ 0 ≤ p ∧ p ≤ s.size) ∧ ¬ (n ≤ 100000 ∧ p + n ≤ s.size))
    (hget : Calls Tryz.prog 128 #[.string s, .int .i64 i, .int .i64 4] w fun e w' => e = .returned (.tuple #[.int .i64 n, .int .i64 p]) ∧ w' = w) :
    Calls Tryz.prog 162 #[.string s, .int .i64 i, .int .i64 4, .int .i64 100000] w fun e w' => e = .returned (.tuple #[.string ByteArray.empty, .int .i64 (-1)]) ∧ Below w.heap.size w w' := by
  rcases h with rfl | ⟨hpa, hn⟩
  · go_enter Tryz.func162, Tryz.ntmps162
    go_wp2_with (go_at_call 128; refine hget.mono ?_; rintro e w' ⟨rfl, rfl⟩)
    go_ret2
    exact ⟨rfl, Below.refl _ _⟩
  · have hd : decide (p < 0) = false := by simp; omega
    by_cases hm : n ≤ 100000
    · have hm' : decide (100000 < n) = false := by simp; omega
      go_enter Tryz.func162, Tryz.ntmps162
      go_wp2_with (go_at_call 128; refine hget.mono ?_; rintro e w' ⟨rfl, rfl⟩)
      go_ret2
      exact ⟨rfl, Below.refl _ _⟩
    · have hm' : decide (100000 < n) = true := by simp; omega
      go_enter Tryz.func162, Tryz.ntmps162
      go_wp2_with (go_at_call 128; refine hget.mono ?_; rintro e w' ⟨rfl, rfl⟩)
      go_ret2
      exact ⟨rfl, Below.refl _ _⟩

theorem impl_getLong (s : ByteArray) (i : Int) (w : World) (hs : s.size ≤ 1048576) (hi1 : -9223372036854775808 ≤ i) (hi2 : i ≤ 9223372036854775807) :
    Calls Tryz.prog 129 #[.string s, .int .i64 i] w fun e w' => e = .returned (.tuple #[.string (text s i), .int .i64 (behind s i)]) ∧ Below w.heap.size w w' := by
  obtain ⟨n, hn⟩ : ∃ n, num s i 4 = n := ⟨_, rfl⟩
  obtain ⟨p, hp⟩ : ∃ p, stop s i 4 = p := ⟨_, rfl⟩
  have hget := impl_get s i 4 w hs hi1 hi2
  rw [hn, hp] at hget
  have hall : Calls Tryz.prog 162 #[.string s, .int .i64 i, .int .i64 4, .int .i64 100000] w fun e w' => e = .returned (.tuple #[.string (text s i), .int .i64 (behind s i)]) ∧ Below w.heap.size w w' := by
    by_cases hok : okAt s i 4 = true
    · have hpa := parts s i hok
      rw [hn, hp] at hpa
      by_cases hin : n ≤ 100000 ∧ p + n ≤ s.size
      · have hh : here s i = true := by simp only [here, hok, hn, hp, Bool.true_and, Bool.and_eq_true, decide_eq_true_eq]; exact hin
        have e1 : text s i = s.extract p.toNat (p.toNat + n.toNat) := by simp only [text, hh, if_true, hn, hp]
        have e2 : behind s i = p + n := by simp only [behind, hh, if_true, hn, hp]
        rw [e1, e2]
        exact impl_text s i n p w hs hpa hin hget
      · have hh : here s i = false := by
          simp only [here, hok, hn, hp, Bool.true_and, Bool.and_eq_false_iff, decide_eq_false_iff_not]; omega
        have e1 : text s i = ByteArray.empty := by simp only [text, hh, Bool.false_eq_true, if_false]
        have e2 : behind s i = -1 := by simp only [behind, hh, Bool.false_eq_true, if_false]
        rw [e1, e2]
        exact impl_notext s i n p w hs (Or.inr ⟨hpa, hin⟩) hget
    · have hok' : okAt s i 4 = false := by simpa using hok
      have hpa := none s i hok'
      rw [hn, hp] at hpa
      have hh : here s i = false := by simp only [here, hok', Bool.false_and]
      have e1 : text s i = ByteArray.empty := by simp only [text, hh, Bool.false_eq_true, if_false]
      have e2 : behind s i = -1 := by simp only [behind, hh, Bool.false_eq_true, if_false]
      rw [e1, e2]
      exact impl_notext s i n p w hs (Or.inl hpa.2) hget
  clear hget hn hp
  go_enter Tryz.func129, Tryz.ntmps129
  go_wp2_with (go_at_call 162; refine hall.mono ?_; rintro e w1 ⟨rfl, hb1⟩)
  go_ret2
  exact ⟨rfl, hb1⟩
end Go.Proofs.YtlgcciaebkfnjaaGreatDoor.gl
