/- The laws' sameMethod at two methods that are alike; new memory alone. -/
import Derived.Test.YtipjhlfajefefaaDoorFrameCore
import Derived.Test.YtipjhlfajefefaaDoorGetIntWalks
import Derived.Test.YtipjhlfajefefaaDoorCloneLaid
import Derived.Lib.IndexBytes
import Derived.Test.YtipjhlfajefefaaDoorNumPlain
import Derived.Test.YtipjhlfajefefaaDoorPutFrameWalks
import Derived.Test.YtipjhlfajefefaaDoorGetPlain
import Derived.Test.YtipjhlfajefefaaDoorWriteWalks
import Derived.Test.YtipjhlfajefefaaDoorMeths

/- The program's NextFrame: what it answers; new memory alone. -/
namespace Go.Proofs.YtipjhlfajefefaaDoor.nf
open Go.ChangeShapes Go.WideShapes Go.ChangeAt Go.RowKit
set_option linter.unusedVariables false

theorem num1 {s : ByteArray} (h : 1 ≤ s.size) : gi.num s 0 1 = gi.bt s 0 ∧ gi.stop s 0 1 = 1 := by
  have hok : gi.okAt s 0 1 = true := by simp [gi.okAt, sz.mostOf]; omega
  simp only [gi.num, gi.stop, hok, if_true]
  exact ⟨by simp [gi.gi], by omega⟩
theorem num2 {s : ByteArray} (h : 7 ≤ s.size) : ∃ c : Nat, gi.num s 1 2 = c ∧ c ≤ 65535 ∧ gi.stop s 1 2 = 3 := by
  have hok : gi.okAt s 1 2 = true := by simp [gi.okAt, sz.mostOf]; omega
  have hb := gi.gi_bound s 1 2
  simp only [gi.num, gi.stop, hok, if_true]
  refine ⟨(gi.gi s 1 2).toNat, ?_, by omega, by omega⟩
  show gi.gi s 1 2 = _
  omega
theorem num4 {s : ByteArray} (h : 7 ≤ s.size) : ∃ n : Nat, gi.num s 3 4 = n ∧ n ≤ 4294967295 ∧ gi.stop s 3 4 = 7 := by
  have hok : gi.okAt s 3 4 = true := by simp [gi.okAt, sz.mostOf]; omega
  have hb := gi.gi_bound s 3 4
  simp only [gi.num, gi.stop, hok, if_true]
  refine ⟨(gi.gi s 3 4).toNat, ?_, by omega, by omega⟩
  show gi.gi s 3 4 = _
  omega

theorem box3 {x y z : Value} {t : TypeId} {w W : World} (h : Below (w.alloc (.cells #[x, y, z] t)).heap.size (w.alloc (.cells #[x, y, z] t)) W) :
    (W.cell? ⟨w.heap.size, 0, none⟩ = some x ∧ W.cell? ⟨w.heap.size, 1, none⟩ = some y ∧ W.cell? ⟨w.heap.size, 2, none⟩ = some z) ∧ W.frozen? ⟨w.heap.size, 0, none⟩ = false ∧ W.frozen? ⟨w.heap.size, 1, none⟩ = false ∧ W.frozen? ⟨w.heap.size, 2, none⟩ = false := by
  have hb : W.heap[w.heap.size]? = some (.cells #[x, y, z] t) := by
    rw [h.block w.heap.size (by simp)]
    exact heap_alloc_new w _
  simp [World.cell?, World.frozen?, hb]

def none3 (c : Int) : Value := .tuple #[.agg #[.int .i64 0, .int .i64 0, .string ⟨#[]⟩], .int .i64 0, .int .i64 c]

theorem impl_empty (w : World) : Calls Tryd.prog 28 #[.string ⟨#[]⟩] w fun e w' => e = .returned (none3 1) ∧ Below w.heap.size w w' := by
  go_enter Tryd.func28, Tryd.ntmps28
  go_wp2
  refine bodyPost_ret (v := none3 1) (by simp [none3, results, Tryd.results28, go_sem]) rfl ⟨rfl, ?_⟩
  exact (Below.refl _ _).alloc (Nat.le_refl _) _
theorem impl_kind (s : ByteArray) (b : Nat) (w : World) (hs : s.size ≤ 1048576) (hl : s.toList.isEmpty = false ∧ (s.toList = []) = False) (h0 : 1 ≤ s.size) (hk : fr.kind b = false) (h1 : gi.num s 0 1 = b ∧ gi.stop s 0 1 = 1) :
    Calls Tryd.prog 28 #[.string s] w fun e w' => e = .returned (none3 2) ∧ Below w.heap.size w w' := by
  have g1 := fun W => gi.impl_get s 0 1 W hs (by omega) (by omega)
  rw [h1.1, h1.2] at g1
  have hkk := fun W => fr.impl_kind b W
  rw [hk] at hkk
  obtain ⟨hl1, hl2⟩ := hl
  clear hk h1
  go_enter Tryd.func28, Tryd.ntmps28
  have t1 : True := trivial
  have t2 : True := trivial
  go_wp2_with (first | (go_at_call 53; have _t := t1; refine (g1 _).mono ?_; rintro e w1 ⟨rfl, rfl⟩; clear t1) | (go_at_call 67; refine (hkk _).mono ?_; rintro e w1 ⟨rfl, rfl⟩))
  refine bodyPost_ret (v := none3 2) (by simp [none3, results, Tryd.results28, go_sem]) rfl ⟨rfl, ?_⟩
  exact (Below.refl _ _).alloc (Nat.le_refl _) _
theorem impl_short (s : ByteArray) (b : Nat) (w : World) (hs : s.size ≤ 1048576) (hl : s.toList.isEmpty = false ∧ (s.toList = []) = False) (h0 : 1 ≤ s.size) (hk : fr.kind b = true) (h7 : s.size < 7) (h1 : gi.num s 0 1 = b ∧ gi.stop s 0 1 = 1) :
    Calls Tryd.prog 28 #[.string s] w fun e w' => e = .returned (none3 1) ∧ Below w.heap.size w w' := by
  have g1 := fun W => gi.impl_get s 0 1 W hs (by omega) (by omega)
  rw [h1.1, h1.2] at g1
  have hkk := fun W => fr.impl_kind b W
  rw [hk] at hkk
  obtain ⟨hl1, hl2⟩ := hl
  clear hk h1
  go_enter Tryd.func28, Tryd.ntmps28
  have t1 : True := trivial
  have t2 : True := trivial
  go_wp2_with (first | (go_at_call 53; have _t := t1; refine (g1 _).mono ?_; rintro e w1 ⟨rfl, rfl⟩; clear t1) | (go_at_call 67; refine (hkk _).mono ?_; rintro e w1 ⟨rfl, rfl⟩))
  refine bodyPost_ret (v := none3 1) (by simp [none3, results, Tryd.results28, go_sem]) rfl ⟨rfl, ?_⟩
  exact (Below.refl _ _).alloc (Nat.le_refl _) _
theorem impl_long (s : ByteArray) (b c n : Nat) (w : World) (hs : s.size ≤ 1048576) (hl : s.toList.isEmpty = false ∧ (s.toList = []) = False) (h7 : 7 ≤ s.size) (hk : fr.kind b = true) (hn : 4000 < n) (hn2 : n ≤ 4294967295) (h1 : gi.num s 0 1 = b ∧ gi.stop s 0 1 = 1) (h2 : gi.num s 1 2 = c ∧ gi.stop s 1 2 = 3) (h4 : gi.num s 3 4 = n ∧ gi.stop s 3 4 = 7) :
    Calls Tryd.prog 28 #[.string s] w fun e w' => e = .returned (none3 3) ∧ Below w.heap.size w w' := by
  have g1 := fun W => gi.impl_get s 0 1 W hs (by omega) (by omega)
  rw [h1.1, h1.2] at g1
  have g2 := fun W => gi.impl_get s 1 2 W hs (by omega) (by omega)
  have g4 := fun W => gi.impl_get s 3 4 W hs (by omega) (by omega)
  rw [h2.1, h2.2] at g2
  rw [h4.1, h4.2] at g4
  have hkk := fun W => fr.impl_kind b W
  rw [hk] at hkk
  obtain ⟨hl1, hl2⟩ := hl
  clear hk h1 h2 h4
  go_enter Tryd.func28, Tryd.ntmps28
  have t1 : True := trivial
  have t2 : True := trivial
  go_wp2_with (first | (go_at_call 53; have _t := t1; refine (g1 _).mono ?_; rintro e w1 ⟨rfl, rfl⟩; clear t1) | (go_at_call 67; refine (hkk _).mono ?_; rintro e w1 ⟨rfl, rfl⟩) | (go_at_call 53; have _t := t2; refine (g2 _).mono ?_; rintro e w1 ⟨rfl, rfl⟩; clear t2) | (go_at_call 53; refine (g4 _).mono ?_; rintro e w1 ⟨rfl, rfl⟩))
  refine bodyPost_ret (v := none3 3) (by simp [none3, results, Tryd.results28, go_sem]) rfl ⟨rfl, ?_⟩
  exact (Below.refl _ _).alloc (Nat.le_refl _) _
theorem impl_cut (s : ByteArray) (b c n : Nat) (w : World) (hs : s.size ≤ 1048576) (hl : s.toList.isEmpty = false ∧ (s.toList = []) = False) (h7 : 7 ≤ s.size) (hk : fr.kind b = true) (hn : n ≤ 4000) (hin : s.size < n + 8) (h1 : gi.num s 0 1 = b ∧ gi.stop s 0 1 = 1) (h2 : gi.num s 1 2 = c ∧ gi.stop s 1 2 = 3) (h4 : gi.num s 3 4 = n ∧ gi.stop s 3 4 = 7) :
    Calls Tryd.prog 28 #[.string s] w fun e w' => e = .returned (none3 1) ∧ Below w.heap.size w w' := by
  have g1 := fun W => gi.impl_get s 0 1 W hs (by omega) (by omega)
  rw [h1.1, h1.2] at g1
  have g2 := fun W => gi.impl_get s 1 2 W hs (by omega) (by omega)
  have g4 := fun W => gi.impl_get s 3 4 W hs (by omega) (by omega)
  rw [h2.1, h2.2] at g2
  rw [h4.1, h4.2] at g4
  have hkk := fun W => fr.impl_kind b W
  rw [hk] at hkk
  obtain ⟨hl1, hl2⟩ := hl
  clear hk h1 h2 h4
  go_enter Tryd.func28, Tryd.ntmps28
  have t1 : True := trivial
  have t2 : True := trivial
  go_wp2_with (first | (go_at_call 53; have _t := t1; refine (g1 _).mono ?_; rintro e w1 ⟨rfl, rfl⟩; clear t1) | (go_at_call 67; refine (hkk _).mono ?_; rintro e w1 ⟨rfl, rfl⟩) | (go_at_call 53; have _t := t2; refine (g2 _).mono ?_; rintro e w1 ⟨rfl, rfl⟩; clear t2) | (go_at_call 53; refine (g4 _).mono ?_; rintro e w1 ⟨rfl, rfl⟩))
  refine bodyPost_ret (v := none3 1) (by simp [none3, results, Tryd.results28, go_sem]) rfl ⟨rfl, ?_⟩
  exact (Below.refl _ _).alloc (Nat.le_refl _) _
theorem impl_end (s : ByteArray) (b c n : Nat) (w : World) (hs : s.size ≤ 1048576) (hl : s.toList.isEmpty = false ∧ (s.toList = []) = False) (h7 : 7 ≤ s.size) (hk : fr.kind b = true) (hn : n ≤ 4000) (hin : n + 8 ≤ s.size) (he : gi.bt s (n + 7) ≠ 206) (h1 : gi.num s 0 1 = b ∧ gi.stop s 0 1 = 1) (h2 : gi.num s 1 2 = c ∧ gi.stop s 1 2 = 3) (h4 : gi.num s 3 4 = n ∧ gi.stop s 3 4 = 7) :
    Calls Tryd.prog 28 #[.string s] w fun e w' => e = .returned (none3 4) ∧ Below w.heap.size w w' := by
  have g1 := fun W => gi.impl_get s 0 1 W hs (by omega) (by omega)
  rw [h1.1, h1.2] at g1
  have g2 := fun W => gi.impl_get s 1 2 W hs (by omega) (by omega)
  have g4 := fun W => gi.impl_get s 3 4 W hs (by omega) (by omega)
  rw [h2.1, h2.2] at g2
  rw [h4.1, h4.2] at g4
  have hkk := fun W => fr.impl_kind b W
  rw [hk] at hkk
  have hlt7 : 7 + n < s.size := by omega
  have hx' : (s[7 + n]'hlt7).toNat ≠ 206 := by
    rw [gi.bt_eq s (7 + n) (by omega), Nat.add_comm]; exact he
  have hx : (((s[7 + n]'hlt7).toNat : Int) == 206) = false := by simp only [beq_eq_false_iff_ne]; omega
  clear hx'
  obtain ⟨hl1, hl2⟩ := hl
  clear hk h1 h2 h4 he
  go_enter Tryd.func28, Tryd.ntmps28
  have t1 : True := trivial
  have t2 : True := trivial
  go_wp2_with (first | (go_at_call 53; have _t := t1; refine (g1 _).mono ?_; rintro e w1 ⟨rfl, rfl⟩; clear t1) | (go_at_call 67; refine (hkk _).mono ?_; rintro e w1 ⟨rfl, rfl⟩) | (go_at_call 53; have _t := t2; refine (g2 _).mono ?_; rintro e w1 ⟨rfl, rfl⟩; clear t2) | (go_at_call 53; refine (g4 _).mono ?_; rintro e w1 ⟨rfl, rfl⟩))
  refine bodyPost_ret (v := none3 4) (by simp [none3, results, Tryd.results28, go_sem]) rfl ⟨rfl, ?_⟩
  exact (Below.refl _ _).alloc (Nat.le_refl _) _
theorem impl_ok (s : ByteArray) (b c n : Nat) (w : World) (hs : s.size ≤ 1048576) (hl : s.toList.isEmpty = false ∧ (s.toList = []) = False) (h7 : 7 ≤ s.size) (hk : fr.kind b = true) (hn : n ≤ 4000) (hin : n + 8 ≤ s.size) (he : gi.bt s (n + 7) = 206) (h1 : gi.num s 0 1 = b ∧ gi.stop s 0 1 = 1) (h2 : gi.num s 1 2 = c ∧ gi.stop s 1 2 = 3) (h4 : gi.num s 3 4 = n ∧ gi.stop s 3 4 = 7) :
    Calls Tryd.prog 28 #[.string s] w fun e w' => e = .returned (.tuple #[.agg #[.int .i64 b, .int .i64 c, .string (s.extract 7 (7 + n))], .int .i64 ((n : Int) + 8), .int .i64 0]) ∧ Below w.heap.size w w' := by
  have g1 := fun W => gi.impl_get s 0 1 W hs (by omega) (by omega)
  rw [h1.1, h1.2] at g1
  have g2 := fun W => gi.impl_get s 1 2 W hs (by omega) (by omega)
  have g4 := fun W => gi.impl_get s 3 4 W hs (by omega) (by omega)
  rw [h2.1, h2.2] at g2
  rw [h4.1, h4.2] at g4
  have hkk := fun W => fr.impl_kind b W
  rw [hk] at hkk
  have hlt7 : 7 + n < s.size := by omega
  have hx : (s[7 + n]'hlt7).toNat = 206 := by
    rw [gi.bt_eq s (7 + n) (by omega), Nat.add_comm]; exact he
  have hsl : ∀ W : World, (Instr.slice 9 (.string s) (some (.int .i64 7)) (some (.int .i64 (7 + (n : Int)))) Option.none).run Tryd.prog W = .ok (.string (s.extract 7 (7 + n))) W := fun W => by
    rw [run_slice_string (P := Tryd.prog) W 9 s .i64 .i64 7 (7 + (n : Int)) Tryd.underlying9 (by omega) (by omega) (by omega)]
    congr 3 <;> omega
  have hxs : (s.extract 7 (7 + n)).size ≤ 281474976710656 := by rw [ByteArray.size_extract]; omega
  have hcl := fun W => cl.clone (s.extract 7 (7 + n)) W hxs
  obtain ⟨p, hp⟩ : ∃ p, s.extract 7 (7 + n) = p := ⟨_, rfl⟩
  rw [hp] at hsl hcl ⊢
  clear hp hxs
  obtain ⟨hl1, hl2⟩ := hl
  clear hk h1 h2 h4 he
  go_enter Tryd.func28, Tryd.ntmps28
  have t1 : True := trivial
  have t2 : True := trivial
  go_wp2_with (first | (go_at_call 53; have _t := t1; refine (g1 _).mono ?_; rintro e w1 ⟨rfl, rfl⟩; clear t1) | (go_at_call 67; refine (hkk _).mono ?_; rintro e w1 ⟨rfl, rfl⟩) | (go_at_call 53; have _t := t2; refine (g2 _).mono ?_; rintro e w1 ⟨rfl, rfl⟩; clear t2) | (go_at_call 53; refine (g4 _).mono ?_; rintro e w1 ⟨rfl, rfl⟩) | (go_at_call 68; refine (hcl _).mono ?_; rintro e w1 ⟨rfl, hb1⟩; obtain ⟨⟨q0, q1, q2⟩, f0, f1, f2⟩ := box3 hb1))
  refine bodyPost_ret (v := .tuple #[.agg #[.int .i64 b, .int .i64 c, .string p], .int .i64 ((n : Int) + 8), .int .i64 0]) (by simp [results, Tryd.results28, go_sem, q0, q1, q2]) rfl ⟨rfl, ?_⟩
  exact (((((Below.refl _ _).alloc (Nat.le_refl _) _).trans (hb1.mono (by simp))).setCell (p := ⟨w.heap.size, 0, none⟩) (Nat.le_refl _) _).setCell (p := ⟨w.heap.size, 1, none⟩) (Nat.le_refl _) _).setCell (p := ⟨w.heap.size, 2, none⟩) (Nat.le_refl _) _
/-- WHAT BOTH READERS ANSWER -/
def len (s : ByteArray) : Nat := (gi.num s 3 4).toNat
def code (s : ByteArray) : Int :=
  if s.size = 0 then 1 else if fr.kind (gi.bt s 0) = false then 2 else if s.size < 7 then 1 else if 4000 < len s then 3 else if s.size < len s + 8 then 1 else if gi.bt s (len s + 7) = 206 then 0 else 4
def chan (s : ByteArray) : Int := gi.num s 1 2
def pay (s : ByteArray) : ByteArray := s.extract 7 (7 + len s)
def val (s : ByteArray) : Value := if code s = 0 then .tuple #[.agg #[.int .i64 (gi.bt s 0), .int .i64 (chan s), .string (pay s)], .int .i64 ((len s : Int) + 8), .int .i64 0] else none3 (code s)

theorem code_ok {s : ByteArray} : code s = 0 ↔ fr.kind (gi.bt s 0) = true ∧ 7 ≤ s.size ∧ len s ≤ 4000 ∧ len s + 8 ≤ s.size ∧ gi.bt s (len s + 7) = 206 := by
  unfold code
  by_cases h0 : s.size = 0
  · simp only [h0, if_true]; omega
  · by_cases hk : fr.kind (gi.bt s 0) = false
    · simp [h0, hk]
    · rw [if_neg h0, if_neg hk]
      have hk' : fr.kind (gi.bt s 0) = true := by simpa using hk
      by_cases h7 : s.size < 7
      · rw [if_pos h7]; omega
      · rw [if_neg h7]
        by_cases hn : 4000 < len s
        · rw [if_pos hn]; omega
        · rw [if_neg hn]
          by_cases hc : s.size < len s + 8
          · rw [if_pos hc]; omega
          · rw [if_neg hc]
            by_cases he : gi.bt s (len s + 7) = 206
            · rw [if_pos he]
              exact ⟨fun _ => ⟨hk', by omega, by omega, by omega, he⟩, fun _ => rfl⟩
            · rw [if_neg he]; omega
theorem not_empty {s : ByteArray} (h : 1 ≤ s.size) : s.toList.isEmpty = false ∧ (s.toList = []) = False := by
  have hl : s.toList.length = s.size := by rw [Lib.toList_data]; simp
  have hne : s.toList ≠ [] := fun e => by rw [e] at hl; simp at hl; omega
  exact ⟨by cases he : s.toList with | nil => exact absurd he hne | cons a b => rfl, by simpa using hne⟩
theorem empty_of {s : ByteArray} (h : s.size = 0) : s = ⟨#[]⟩ := by
  apply ByteArray.ext
  apply Array.toList_inj.1
  have h0 : s.data.toList.length = 0 := by simpa using h
  rw [List.length_eq_zero_iff.1 h0]

theorem impl_next (s : ByteArray) (w : World) (hs : s.size ≤ 1048576) : Calls Tryd.prog 28 #[.string s] w fun e w' => e = .returned (val s) ∧ Below w.heap.size w w' := by
  by_cases h0 : s.size = 0
  · obtain rfl := empty_of h0
    exact impl_empty w
  · have hl := not_empty (s := s) (by omega)
    cases hk : fr.kind (gi.bt s 0) with
    | false =>
      have e : code s = 2 := by simp [code, h0, hk]
      have ev : val s = none3 2 := by simp [val, e]
      rw [ev]
      exact impl_kind s (gi.bt s 0) w hs hl (by omega) hk (num1 (by omega))
    | true =>
      by_cases h7 : s.size < 7
      · have e : code s = 1 := by simp [code, h0, hk, h7]
        have ev : val s = none3 1 := by simp [val, e]
        rw [ev]
        exact impl_short s (gi.bt s 0) w hs hl (by omega) hk h7 (num1 (by omega))
      · obtain ⟨c, hc1, _, hc3⟩ := num2 (s := s) (by omega)
        obtain ⟨n, hn1, hn2, hn3⟩ := num4 (s := s) (by omega)
        have hlen : len s = n := by unfold len; rw [hn1]; simp
        by_cases hn : 4000 < n
        · have e : code s = 3 := by simp [code, h0, hk, h7, hlen, hn]
          have ev : val s = none3 3 := by simp [val, e]
          rw [ev]
          exact impl_long s (gi.bt s 0) c n w hs hl (by omega) hk hn hn2 (num1 (by omega)) ⟨hc1, hc3⟩ ⟨hn1, hn3⟩
        · by_cases hcut : s.size < n + 8
          · have e : code s = 1 := by simp [code, h0, hk, h7, hlen, hn, hcut]
            have ev : val s = none3 1 := by simp [val, e]
            rw [ev]
            exact impl_cut s (gi.bt s 0) c n w hs hl (by omega) hk (by omega) hcut (num1 (by omega)) ⟨hc1, hc3⟩ ⟨hn1, hn3⟩
          · by_cases he : gi.bt s (n + 7) = 206
            · have e : code s = 0 := by simp [code, h0, hk, h7, hlen, hn, hcut, he]
              have ev : val s = .tuple #[.agg #[.int .i64 (gi.bt s 0), .int .i64 c, .string (s.extract 7 (7 + n))], .int .i64 ((n : Int) + 8), .int .i64 0] := by simp [val, e, chan, pay, hc1, hlen]
              rw [ev]
              exact impl_ok s (gi.bt s 0) c n w hs hl (by omega) hk (by omega) (by omega) he (num1 (by omega)) ⟨hc1, hc3⟩ ⟨hn1, hn3⟩
            · have e : code s = 4 := by simp [code, h0, hk, h7, hlen, hn, hcut, he]
              have ev : val s = none3 4 := by simp [val, e]
              rw [ev]
              exact impl_end s (gi.bt s 0) c n w hs hl (by omega) hk (by omega) (by omega) he (num1 (by omega)) ⟨hc1, hc3⟩ ⟨hn1, hn3⟩

theorem val_form (s : ByteArray) : ∃ (k c : Int) (p : ByteArray) (n d : Int), val s = .tuple #[.agg #[.int .i64 k, .int .i64 c, .string p], .int .i64 n, .int .i64 d] := by
  unfold val
  by_cases h : code s = 0
  · rw [if_pos h]; exact ⟨_, _, _, _, _, rfl⟩
  · rw [if_neg h]; exact ⟨_, _, _, _, _, rfl⟩
end Go.Proofs.YtipjhlfajefefaaDoor.nf

/- A frame comes back from its bytes, whatever stands behind; what is read is put again. -/
namespace Go.Proofs.YtipjhlfajefefaaDoor.fp

theorem num_one {s : ByteArray} {i : Nat} (h : i + 1 ≤ s.size) : gi.okAt s i 1 = true ∧ gi.num s i 1 = gi.bt s i := by
  have hok : gi.okAt s i 1 = true := by simp [gi.okAt, sz.mostOf]; omega
  refine ⟨hok, ?_⟩
  simp only [gi.num, hok, if_true]
  simp [gi.gi]
theorem ok_at {s : ByteArray} {i z : Nat} (hz : z = 2 ∨ z = 4) (h : i + z ≤ s.size) : gi.okAt s i z = true := by
  rcases hz with rfl | rfl <;> simp [gi.okAt, sz.mostOf] <;> omega

theorem put_next {r : ByteArray} (h : nf.code r = 0) : fr.ok (gi.bt r 0) (nf.chan r) (nf.pay r) = true ∧ pf.bytes (gi.bt r 0) (nf.chan r) (nf.pay r) = r.extract 0 (nf.len r + 8) ∧ nf.len r + 8 ≤ r.size := by
  obtain ⟨hk, h7, hl, hin, he⟩ := nf.code_ok.1 h
  obtain ⟨c, hc1, hc2, _⟩ := nf.num2 (s := r) h7
  obtain ⟨n, hn1, hn2, _⟩ := nf.num4 (s := r) h7
  have hlen : nf.len r = n := by unfold nf.len; rw [hn1]; simp
  have hps : (nf.pay r).size = n := by unfold nf.pay; rw [hlen, ByteArray.size_extract]; omega
  rw [hlen] at hl hin he ⊢
  have hok : fr.ok (gi.bt r 0) (nf.chan r) (nf.pay r) = true := fr.ok_true.2 ⟨hk, by unfold nf.chan; rw [hc1]; omega, by unfold nf.chan; rw [hc1]; omega, by rw [hps]; omega⟩
  refine ⟨hok, ?_, hin⟩
  have p1 := np.put_read r 0 1 (num_one (s := r) (i := 0) (by omega)).1
  have e1 : gi.num r 0 1 = gi.bt r 0 := (num_one (s := r) (i := 0) (by omega)).2
  have p2 := np.put_read r 1 2 (ok_at (s := r) (i := 1) (z := 2) (by omega) (by omega))
  have p4 := np.put_read r 3 4 (ok_at (s := r) (i := 3) (z := 4) (by omega) (by omega))
  have p6 := np.put_read r ((n + 7 : Nat) : Int) 1 (num_one (s := r) (i := n + 7) (by omega)).1
  have e6 : gi.num r ((n + 7 : Nat) : Int) 1 = 206 := by rw [(num_one (s := r) (i := n + 7) (by omega)).2, he]; rfl
  rw [e1] at p1
  rw [hn1] at p4
  rw [e6] at p6
  have q1 : pi.text (gi.bt r 0) 1 = r.extract 0 1 := p1
  have q2 : pi.text (nf.chan r) 2 = r.extract 1 3 := p2
  have q4 : pi.text (nf.pay r).size 4 = r.extract 3 7 := by rw [hps]; exact p4
  have q6 : pi.text 206 1 = r.extract (7 + n) (n + 8) := by
    rw [p6]
    congr 1
    omega
  have q5 : nf.pay r = r.extract 7 (7 + n) := by unfold nf.pay; rw [hlen]
  unfold pf.bytes
  rw [if_pos hok, q1, q2, q4, q6, np.extract_join r 0 1 3 (by omega) (by omega), np.extract_join r 0 3 7 (by omega) (by omega), q5, np.extract_join r 0 7 (7 + n) (by omega) (by omega), np.extract_join r 0 (7 + n) (n + 8) (by omega) (by omega)]

theorem app_nil (a : ByteArray) : a ++ ⟨#[]⟩ = a := by apply ByteArray.ext; apply Array.toList_inj.1; simp
theorem nil_app (a : ByteArray) : (⟨#[]⟩ : ByteArray) ++ a = a := by apply ByteArray.ext; apply Array.toList_inj.1; simp
theorem app_assoc (a b c : ByteArray) : a ++ b ++ c = a ++ (b ++ c) := by apply ByteArray.ext; apply Array.toList_inj.1; simp
theorem fits_of {k c : Int} {p : ByteArray} (h : fr.ok k c p = true) : pi.fits k 1 = true ∧ pi.fits c 2 = true ∧ pi.fits (p.size : Int) 4 = true ∧ pi.fits 206 1 = true := by
  obtain ⟨hk, h0, h1, hp⟩ := fr.ok_true.1 h
  have hkb : 1 ≤ k ∧ k ≤ 8 := by
    unfold fr.kind at hk
    simp at hk
    omega
  refine ⟨?_, ?_, ?_, by decide⟩ <;> simp [pi.fits, sz.mostOf] <;> omega

/-- a frame comes back from its bytes, whatever stands behind -/
theorem next_put {k c : Int} {p : ByteArray} (h : fr.ok k c p = true) (u : ByteArray) :
    nf.code (pf.bytes k c p ++ u) = 0 ∧ ((gi.bt (pf.bytes k c p ++ u) 0 : Nat) : Int) = k ∧ nf.chan (pf.bytes k c p ++ u) = c ∧ nf.pay (pf.bytes k c p ++ u) = p ∧ nf.len (pf.bytes k c p ++ u) = p.size ∧ (pf.bytes k c p).size = p.size + 8 := by
  obtain ⟨f1, f2, f4, f6⟩ := fits_of h
  obtain ⟨hk, h0, h1, hp⟩ := fr.ok_true.1 h
  have s1 := np.text_size f1
  have s2 := np.text_size f2
  have s4 := np.text_size f4
  have s6 := np.text_size f6
  have eb : pf.bytes k c p = pi.text k 1 ++ pi.text c 2 ++ pi.text p.size 4 ++ p ++ pi.text 206 1 := by unfold pf.bytes; rw [if_pos h]
  obtain ⟨S, hS⟩ : ∃ S, pf.bytes k c p ++ u = S := ⟨_, rfl⟩
  have hbs : (pf.bytes k c p).size = p.size + 8 := by rw [eb]; simp only [ByteArray.size_append]; omega
  have hSs : S.size = p.size + 8 + u.size := by rw [← hS, ByteArray.size_append, hbs]
  have d1 : S = ⟨#[]⟩ ++ pi.text k 1 ++ (pi.text c 2 ++ pi.text p.size 4 ++ p ++ pi.text 206 1 ++ u) := by rw [← hS, eb]; apply ByteArray.ext; apply Array.toList_inj.1; simp
  have d2 : S = pi.text k 1 ++ pi.text c 2 ++ (pi.text p.size 4 ++ p ++ pi.text 206 1 ++ u) := by rw [← hS, eb]; apply ByteArray.ext; apply Array.toList_inj.1; simp
  have d4 : S = (pi.text k 1 ++ pi.text c 2) ++ pi.text p.size 4 ++ (p ++ pi.text 206 1 ++ u) := by rw [← hS, eb]; apply ByteArray.ext; apply Array.toList_inj.1; simp
  have d5 : S = (pi.text k 1 ++ pi.text c 2 ++ pi.text p.size 4) ++ p ++ (pi.text 206 1 ++ u) := by rw [← hS, eb]; apply ByteArray.ext; apply Array.toList_inj.1; simp
  have d6 : S = (pi.text k 1 ++ pi.text c 2 ++ pi.text p.size 4 ++ p) ++ pi.text 206 1 ++ u := by rw [← hS, eb]
  have r1 := (np.read_put f1 ⟨#[]⟩ (pi.text c 2 ++ pi.text p.size 4 ++ p ++ pi.text 206 1 ++ u)).1
  have r2 := (np.read_put f2 (pi.text k 1) (pi.text p.size 4 ++ p ++ pi.text 206 1 ++ u)).1
  have r4 := (np.read_put f4 (pi.text k 1 ++ pi.text c 2) (p ++ pi.text 206 1 ++ u)).1
  have r6 := (np.read_put f6 (pi.text k 1 ++ pi.text c 2 ++ pi.text p.size 4 ++ p) u).1
  have m5 := np.extract_mid (pi.text k 1 ++ pi.text c 2 ++ pi.text p.size 4) p (pi.text 206 1 ++ u)
  rw [← d1] at r1
  rw [← d2] at r2
  rw [← d4] at r4
  rw [← d5] at m5
  rw [← d6] at r6
  have z2 : (pi.text k 1).size = 1 := by omega
  have z4 : (pi.text k 1 ++ pi.text c 2).size = 3 := by rw [ByteArray.size_append]; omega
  have z5 : (pi.text k 1 ++ pi.text c 2 ++ pi.text p.size 4).size = 7 := by rw [ByteArray.size_append, z4]; omega
  have z6 : (pi.text k 1 ++ pi.text c 2 ++ pi.text p.size 4 ++ p).size = p.size + 7 := by rw [ByteArray.size_append, z5]; omega
  rw [z2] at r2
  rw [z4] at r4
  rw [z5] at m5
  rw [z6] at r6
  have z1 : (((⟨#[]⟩ : ByteArray).size : Nat) : Int) = 0 := rfl
  rw [z1] at r1
  have b0 : ((gi.bt S 0 : Nat) : Int) = k := by
    have := (num_one (s := S) (i := 0) (by omega)).2
    rw [← r1]
    exact this.symm
  have bl : nf.len S = p.size := by
    unfold nf.len
    rw [show gi.num S 3 4 = ((p.size : Nat) : Int) from r4]
    simp
  have b6 : gi.bt S (p.size + 7) = 206 := by
    have h2 := (num_one (s := S) (i := p.size + 7) (by omega)).2
    rw [show gi.num S ((p.size + 7 : Nat) : Int) 1 = 206 from r6] at h2
    omega
  rw [hS]
  refine ⟨nf.code_ok.2 ⟨by rw [b0]; exact hk, by omega, by rw [bl]; omega, by rw [bl]; omega, by rw [bl]; exact b6⟩, b0, r2, ?_, bl, hbs⟩
  unfold nf.pay
  rw [bl]
  exact m5

end Go.Proofs.YtipjhlfajefefaaDoor.fp

/- A method's bytes are read back: plain facts. -/
namespace Go.Proofs.YtipjhlfajefefaaDoor.mo
set_option linter.unusedVariables false
open Go.ChangeShapes Go.WideShapes Go.ChangeAt Go.RowKit Go.Proofs.YtipjhlfajefefaaDoor.mp Go.Proofs.YtipjhlfajefefaaDoor.wd Go.Proofs.YtipjhlfajefefaaDoor.wm Go.Proofs.YtipjhlfajefefaaDoor.wt

/-- a text that was put is read again, wherever it stands -/
theorem read_short {a : ByteArray} (h : a.size ≤ 255) (p q : ByteArray) : gs.text (p ++ ps.out a ++ q) p.size = a ∧ gs.behind (p ++ ps.out a ++ q) p.size = p.size + ((ps.out a).size : Int) := by
  have hf : pi.fits (a.size : Int) 1 = true := by simp [pi.fits, sz.mostOf]; omega
  have e : ps.out a = pi.text (a.size : Int) 1 ++ a := by unfold ps.out; rw [if_pos h]
  have ht := np.text_size hf
  have hsz : (ps.out a).size = 1 + a.size := by rw [e, ByteArray.size_append]; omega
  have e1 : p ++ ps.out a ++ q = p ++ pi.text (a.size : Int) 1 ++ (a ++ q) := by
    rw [e]; apply ByteArray.ext; apply Array.toList_inj.1; simp
  obtain ⟨hn, hs, hok⟩ := np.read_put hf p (a ++ q)
  rw [← e1] at hn hs hok
  have hall : (p ++ ps.out a ++ q).size = p.size + (1 + a.size) + q.size := by simp [ByteArray.size_append]; omega
  have hh : gs.here (p ++ ps.out a ++ q) p.size = true := by
    simp only [gs.here, hok, hn, hs, Bool.true_and, Bool.and_eq_true, decide_eq_true_eq]
    omega
  refine ⟨?_, by simp only [gs.behind, hh, if_true, hn, hs]; omega⟩
  simp only [gs.text, hh, if_true, hn, hs]
  have hm := np.extract_mid (p ++ pi.text (a.size : Int) 1) a q
  have e2 : p ++ pi.text (a.size : Int) 1 ++ a ++ q = p ++ ps.out a ++ q := by
    rw [e]; apply ByteArray.ext; apply Array.toList_inj.1; simp
  rw [e2, show (p ++ pi.text (a.size : Int) 1).size = p.size + 1 by rw [ByteArray.size_append]; omega] at hm
  rw [show ((p.size : Int) + 1).toNat = p.size + 1 by omega, show ((a.size : Int)).toNat = a.size by omega]
  exact hm

theorem shift (p x b q : ByteArray) : p ++ (x ++ b) ++ q = p ++ x ++ b ++ q := by simp [ByteArray.append_assoc]

/-- the parts that were put are read again -/
theorem rdL_put (f : List UInt8) : ∀ (ts : List ByteArray) (ns : List Int) (p q : ByteArray) (ts0 : List ByteArray) (ns0 : List Int), okL f ts ns = true →
    gm.rdL (p ++ bytesL f ts ns ++ q) f p.size ts0 ns0 = (((p.size + (bytesL f ts ns).size : Nat) : Int), ts0 ++ ts, ns0 ++ ns) := by
  induction f with
  | nil =>
    intro ts ns p q ts0 ns0 h
    simp [okL] at h
    obtain ⟨rfl, rfl⟩ := h
    simp [gm.rdL, bytesL]
  | cons c f ih =>
    intro ts ns p q ts0 ns0 h
    by_cases hc : c = 115
    · subst hc
      cases ts with
      | nil => simp [okL] at h
      | cons t r =>
        simp [okL] at h
        obtain ⟨h1, h2⟩ := read_short (a := t) h.1 p (bytesL f r ns ++ q)
        have hb : bytesL (115 :: f) (t :: r) ns = ps.out t ++ bytesL f r ns := by simp [bytesL]
        have e1 : p ++ (ps.out t ++ bytesL f r ns) ++ q = p ++ ps.out t ++ (bytesL f r ns ++ q) := by simp [ByteArray.append_assoc]
        rw [gm.rdL_text (Int.natCast_nonneg _), hb, e1, h1, h2]
        have e2 : ((p.size : Int) + ((ps.out t).size : Int)) = ((p ++ ps.out t).size : Nat) := by rw [ByteArray.size_append]; omega
        rw [e2, show p ++ ps.out t ++ (bytesL f r ns ++ q) = p ++ ps.out t ++ bytesL f r ns ++ q by simp [ByteArray.append_assoc], ih r ns (p ++ ps.out t) q _ ns0 h.2]
        simp [ByteArray.size_append]
        omega
    · cases ns with
      | nil => simp [okL, hc] at h
      | cons n r =>
        simp [okL, hc] at h
        obtain ⟨h1, h2, _⟩ := np.read_put h.1 p (bytesL f ts r ++ q)
        have hz := np.text_size h.1
        have hb : bytesL (c :: f) ts (n :: r) = pi.text n ((c.toNat : Int) - 48) ++ bytesL f ts r := by simp [bytesL, hc]
        have e1 : p ++ (pi.text n ((c.toNat : Int) - 48) ++ bytesL f ts r) ++ q = p ++ pi.text n ((c.toNat : Int) - 48) ++ (bytesL f ts r ++ q) := by simp [ByteArray.append_assoc]
        rw [gm.rdL_num (Int.natCast_nonneg _) hc, hb, e1, h1, h2]
        have e2 : ((p.size : Int) + ((c.toNat : Int) - 48)) = ((p ++ pi.text n ((c.toNat : Int) - 48)).size : Nat) := by rw [ByteArray.size_append]; omega
        rw [e2, show p ++ pi.text n ((c.toNat : Int) - 48) ++ (bytesL f ts r ++ q) = p ++ pi.text n ((c.toNat : Int) - 48) ++ bytesL f ts r ++ q by simp [ByteArray.append_assoc], ih ts r (p ++ pi.text n ((c.toNat : Int) - 48)) q ts0 _ h.2]
        simp [ByteArray.size_append]
        omega

theorem known_small {c i : Int} (h : (fo.known c i).isSome = true) : (0 ≤ c ∧ c ≤ 100) ∧ 0 ≤ i ∧ i ≤ 999 := by
  by_cases hc : (0 ≤ c ∧ c ≤ 100) ∧ 0 ≤ i ∧ i ≤ 999
  · exact hc
  · have hn : fo.known c i = none := fo.known_no fun z hz e => by
      have h1 : ∀ z ∈ fo.tab, (0 ≤ z.1.1 ∧ z.1.1 ≤ 100) ∧ 0 ≤ z.1.2 ∧ z.1.2 ≤ 999 := by decide
      have := h1 z hz
      rw [e] at this
      exact hc this
    rw [hn] at h
    cases h
theorem fits2 {n : Int} (h0 : 0 ≤ n) (h : n ≤ 999) : pi.fits n 2 = true := by
  simp only [pi.fits, sz.mostOf, Bool.and_eq_true, decide_eq_true_eq]
  simp
  omega

/-- GetMethod of what PutMethod puts, whatever stands behind it -/
theorem run_put {c i : Int} {ts : List ByteArray} {ns : List Int} (h : ok c i ts ns = true) (q : ByteArray) :
    gm.cls (outB c i ts ns ++ q) = c ∧ gm.idn (outB c i ts ns ++ q) = i ∧ gm.at0 (outB c i ts ns ++ q) = 4 ∧ gm.run (outB c i ts ns ++ q) = (((outB c i ts ns).size : Int), ts, ns) := by
  have h' := h
  unfold ok at h'
  simp only [Bool.and_eq_true] at h'
  obtain ⟨⟨c1, c2⟩, i1, i2⟩ := known_small h'.1
  have hB : outB c i ts ns = (pi.text c 2 ++ pi.text i 2) ++ bytesL (F c i) ts ns := by unfold outB; rw [h]; rfl
  have f1 := fits2 c1 (by omega)
  have f2 := fits2 i1 i2
  have s1 := np.text_size f1
  have s2 := np.text_size f2
  have hp : (pi.text c 2 ++ pi.text i 2).size = 4 := by rw [ByteArray.size_append]; omega
  obtain ⟨a1, _, _⟩ := np.read_put f1 ⟨#[]⟩ (pi.text i 2 ++ bytesL (F c i) ts ns ++ q)
  obtain ⟨b1, b2, _⟩ := np.read_put f2 (pi.text c 2) (bytesL (F c i) ts ns ++ q)
  have e1 : (⟨#[]⟩ : ByteArray) ++ pi.text c 2 ++ (pi.text i 2 ++ bytesL (F c i) ts ns ++ q) = outB c i ts ns ++ q := by
    rw [hB]; apply ByteArray.ext; apply Array.toList_inj.1; simp
  have e2 : pi.text c 2 ++ pi.text i 2 ++ (bytesL (F c i) ts ns ++ q) = outB c i ts ns ++ q := by
    rw [hB]; apply ByteArray.ext; apply Array.toList_inj.1; simp
  rw [e1] at a1
  rw [e2, show ((pi.text c 2).size : Int) = 2 by omega] at b1 b2
  have k1 : gm.cls (outB c i ts ns ++ q) = c := a1
  have k2 : gm.idn (outB c i ts ns ++ q) = i := b1
  have k3 : gm.at0 (outB c i ts ns ++ q) = 4 := by unfold gm.at0; rw [b2]; rfl
  refine ⟨k1, k2, k3, ?_⟩
  have hr := rdL_put (F c i) ts ns (pi.text c 2 ++ pi.text i 2) q [] [] h'.2
  unfold gm.run
  rw [k1, k2, k3]
  rw [hp] at hr
  rw [hB]
  rw [show ((4 : Nat) : Int) = 4 from rfl] at hr
  rw [hr]
  simp [ByteArray.size_append] at hp ⊢
  omega
theorem get_put {c i : Int} {ts : List ByteArray} {ns : List Int} (h : ok c i ts ns = true) : gm.ok (outB c i ts ns) = true ∧ gm.cls (outB c i ts ns) = c ∧ gm.idn (outB c i ts ns) = i ∧ gm.run (outB c i ts ns) = (((outB c i ts ns).size : Int), ts, ns) := by
  have hr := run_put h ⟨#[]⟩
  rw [show outB c i ts ns ++ ⟨#[]⟩ = outB c i ts ns by apply ByteArray.ext; apply Array.toList_inj.1; simp] at hr
  have h' := h
  unfold ok at h'
  simp only [Bool.and_eq_true] at h'
  refine ⟨?_, hr.1, hr.2.1, hr.2.2.2⟩
  unfold gm.ok
  rw [hr.2.2.2, hr.1, hr.2.1, hr.2.2.1, h'.1]
  simp
theorem get_more {c i : Int} {ts : List ByteArray} {ns : List Int} (h : ok c i ts ns = true) (q : ByteArray) (hq : 1 ≤ q.size) : gm.ok (outB c i ts ns ++ q) = false := by
  have hr := run_put h q
  unfold gm.ok
  rw [hr.2.2.2]
  simp
  intro _ _
  omega

/-- a text that is read is put again -/
theorem short_back {u : ByteArray} {i : Int} (h : 0 ≤ gs.behind u i) : (gs.text u i).size ≤ 255 ∧ 0 ≤ i ∧ i.toNat ≤ (gs.behind u i).toNat ∧ (gs.behind u i).toNat ≤ u.size ∧ ps.out (gs.text u i) = u.extract i.toNat (gs.behind u i).toNat := by
  have hh : gs.here u i = true := by
    cases hc : gs.here u i with
    | true => rfl
    | false => simp [gs.behind, hc] at h
  have h' := hh
  simp only [gs.here, Bool.and_eq_true, decide_eq_true_eq] at h'
  obtain ⟨⟨hok, hle⟩, hin⟩ := h'
  have hp := gs.parts u i hok
  have hst : gi.stop u i 1 = i + 1 := by simp only [gi.stop, hok, if_true]
  have hok' := hok
  simp only [gi.okAt, Bool.and_eq_true, decide_eq_true_eq] at hok'
  have hpr := np.put_read u i 1 hok
  have e1 : gs.text u i = u.extract (i.toNat + 1) (i.toNat + 1 + (gi.num u i 1).toNat) := by
    simp only [gs.text, hh, if_true, hst]
    rw [show (i + 1).toNat = i.toNat + 1 by omega]
  have e2 : gs.behind u i = i + 1 + gi.num u i 1 := by simp only [gs.behind, hh, if_true, hst]
  have hsz : (gs.text u i).size = (gi.num u i 1).toNat := by rw [e1, ByteArray.size_extract]; omega
  refine ⟨by omega, by omega, by omega, by omega, ?_⟩
  have e3 : ps.out (gs.text u i) = pi.text ((gs.text u i).size : Int) 1 ++ gs.text u i := by
    unfold ps.out
    rw [if_pos (by omega)]
  rw [e3, hsz, show (((gi.num u i 1).toNat : Nat) : Int) = gi.num u i 1 by omega, hpr, e1, show (1 : Int).toNat = 1 from rfl, np.extract_join u _ _ _ (by omega) (by omega), e2]
  congr 1
  omega
/-- a number that is read is put again -/
theorem num_back {u : ByteArray} {i z : Int} (h : 0 ≤ gi.stop u i z) : pi.fits (gi.num u i z) z = true ∧ i.toNat ≤ (gi.stop u i z).toNat ∧ (gi.stop u i z).toNat ≤ u.size ∧ pi.text (gi.num u i z) z = u.extract i.toNat (gi.stop u i z).toNat := by
  have hok : gi.okAt u i z = true := by
    cases hc : gi.okAt u i z with
    | true => rfl
    | false => simp [gi.stop, hc] at h
  have hst : gi.stop u i z = i + z := by simp only [gi.stop, hok, if_true]
  have hpr := np.put_read u i z hok
  have h' := hok
  simp only [gi.okAt, Bool.and_eq_true, decide_eq_true_eq] at h'
  obtain ⟨⟨⟨h1, h2⟩, h3⟩, _⟩ := h'
  have hz := sz.size_of z h1
  have e : (gi.stop u i z).toNat = i.toNat + z.toNat := by omega
  refine ⟨?_, by omega, by omega, by rw [e]; exact hpr⟩
  cases hf : pi.fits (gi.num u i z) z with
  | true => rfl
  | false =>
    exfalso
    have hs := congrArg ByteArray.size hpr
    rw [ByteArray.size_extract] at hs
    simp only [pi.text, hf, Bool.false_eq_true, if_false] at hs
    have : ByteArray.empty.size = 0 := rfl
    omega

/-- the parts that are read are those that were put -/
theorem rdL_back (s : ByteArray) (f : List UInt8) : ∀ (a : Int) (ts0 : List ByteArray) (ns0 : List Int), 0 ≤ a → a ≤ s.size → 0 ≤ (gm.rdL s f a ts0 ns0).1 →
    ∃ ts ns, (gm.rdL s f a ts0 ns0).2 = (ts0 ++ ts, ns0 ++ ns) ∧ okL f ts ns = true ∧ a ≤ (gm.rdL s f a ts0 ns0).1 ∧ (gm.rdL s f a ts0 ns0).1 ≤ s.size ∧ bytesL f ts ns = s.extract a.toNat (gm.rdL s f a ts0 ns0).1.toNat := by
  induction f with
  | nil =>
    intro a ts0 ns0 h0 h1 _
    refine ⟨[], [], by simp [gm.rdL], rfl, Int.le_refl _, h1, ?_⟩
    simp only [gm.rdL, bytesL]
    apply ByteArray.ext
    apply Array.toList_inj.1
    rw [Lib.extract_data]
    simp
  | cons c f ih =>
    intro a ts0 ns0 h0 h1 h2
    by_cases hc : c = 115
    · subst hc
      rw [gm.rdL_text h0] at h2 ⊢
      have hb : 0 ≤ gs.behind s a := by
        rcases Int.lt_or_le (gs.behind s a) 0 with hn | hn
        · rw [gm.rdL_neg hn] at h2; exact h2
        · exact hn
      obtain ⟨k1, k2, k3, k4, k5⟩ := short_back hb
      obtain ⟨ts, ns, r1, r2, r3, r4, r5⟩ := ih (gs.behind s a) (ts0 ++ [gs.text s a]) ns0 hb (by omega) h2
      refine ⟨gs.text s a :: ts, ns, by rw [r1]; simp, by rw [okL_text k1]; exact r2, by omega, r4, ?_⟩
      have e : bytesL (115 :: f) (gs.text s a :: ts) ns = ps.out (gs.text s a) ++ bytesL f ts ns := by simp [bytesL]
      rw [e, k5, r5, np.extract_join s _ _ _ (by omega) (by omega)]
    · rw [gm.rdL_num h0 hc] at h2 ⊢
      have hb : 0 ≤ gi.stop s a ((c.toNat : Int) - 48) := by
        rcases Int.lt_or_le (gi.stop s a ((c.toNat : Int) - 48)) 0 with hn | hn
        · rw [gm.rdL_neg hn] at h2; exact h2
        · exact hn
      obtain ⟨k1, k3, k4, k5⟩ := num_back hb
      obtain ⟨ts, ns, r1, r2, r3, r4, r5⟩ := ih (gi.stop s a ((c.toNat : Int) - 48)) ts0 (ns0 ++ [gi.num s a ((c.toNat : Int) - 48)]) hb (by omega) h2
      refine ⟨ts, gi.num s a ((c.toNat : Int) - 48) :: ns, by rw [r1]; simp, by rw [okL_num hc k1]; exact r2, by omega, r4, ?_⟩
      have e : bytesL (c :: f) ts (gi.num s a ((c.toNat : Int) - 48) :: ns) = pi.text (gi.num s a ((c.toNat : Int) - 48)) ((c.toNat : Int) - 48) ++ bytesL f ts ns := by simp [bytesL, hc]
      rw [e, k5, r5, np.extract_join s _ _ _ (by omega) (by omega)]

/-- PutMethod of what GetMethod gets -/
theorem put_get {s : ByteArray} (h : gm.ok s = true) : ok (gm.cls s) (gm.idn s) (gm.run s).2.1 (gm.run s).2.2 = true ∧ outB (gm.cls s) (gm.idn s) (gm.run s).2.1 (gm.run s).2.2 = s := by
  have h' := h
  unfold gm.ok at h'
  simp only [Bool.and_eq_true, Bool.not_eq_true', decide_eq_false_iff_not, decide_eq_true_eq] at h'
  obtain ⟨⟨h1, h2⟩, h3⟩ := h'
  have h4 : 0 ≤ gi.stop s 2 2 := by unfold gm.at0 at h1; omega
  obtain ⟨b1, b2, b3, b4⟩ := num_back h4
  have hok2 : gi.okAt s 2 2 = true := by
    cases hc : gi.okAt s 2 2 with
    | true => rfl
    | false => simp [gi.stop, hc] at h4
  have e4 : gi.stop s 2 2 = 4 := by simp only [gi.stop, hok2, if_true]; rfl
  have hok0 : gi.okAt s 0 2 = true := by
    have hm : sz.mostOf 2 = 65535 := by decide
    simp only [gi.okAt, hm] at hok2 ⊢
    simp at hok2 ⊢
    omega
  have e0 : gi.stop s 0 2 = 2 := by simp only [gi.stop, hok0, if_true]; rfl
  obtain ⟨a1, a2, a3, a4⟩ := num_back (u := s) (i := 0) (z := 2) (by rw [e0]; decide)
  rw [e0] at a4
  rw [e4] at b3 b4
  obtain ⟨ts, ns, r1, r2, r3, r4, r5⟩ := rdL_back s (F (gm.cls s) (gm.idn s)) (gm.at0 s) [] [] (by unfold gm.at0; omega) (by unfold gm.at0; rw [e4]; simpa using (by omega : (4 : Int) ≤ s.size)) (by
    have : (gm.rdL s (F (gm.cls s) (gm.idn s)) (gm.at0 s) [] []).1 = s.size := h3
    omega)
  have hr : (gm.run s).2 = (ts, ns) := by unfold gm.run; rw [r1]; simp
  have hs : (gm.rdL s (F (gm.cls s) (gm.idn s)) (gm.at0 s) [] []).1 = s.size := h3
  rw [hr]
  have hok : ok (gm.cls s) (gm.idn s) ts ns = true := by unfold ok; rw [h2, r2]; rfl
  refine ⟨hok, ?_⟩
  unfold outB
  rw [hok, if_pos rfl, r5, hs]
  have c1 : pi.text (gm.cls s) 2 = s.extract 0 2 := a4
  have c2 : pi.text (gm.idn s) 2 = s.extract 2 4 := b4
  have c3 : (gm.at0 s).toNat = 4 := by unfold gm.at0; rw [e4]; rfl
  have b5 : 4 ≤ s.size := by simpa using b3
  rw [c1, c2, c3, np.extract_join s 0 2 4 (by omega) (by omega), np.extract_join s 0 4 _ (by omega) (by omega)]
  apply ByteArray.ext
  apply Array.toList_inj.1
  rw [Lib.extract_data]
  simp
  exact List.take_of_length_le (by simp)
end Go.Proofs.YtipjhlfajefefaaDoor.mo

/- The laws' sameMethod at two methods that are alike; new memory alone. -/
namespace Go.Proofs.YtipjhlfajefefaaDoor.sa
set_option linter.unusedVariables false
open Go.ChangeShapes Go.WideShapes Go.ChangeAt Go.RowKit Go.Proofs.YtipjhlfajefefaaDoor.ls Go.Proofs.YtipjhlfajefefaaDoor.me

theorem same_texts (l : List ByteArray) (a a' : Option Addr) (c c' : Nat) (w : World) (hl : l.length ≤ 2000000) (ha : Sl Value.string w w.heap.size a l) (hb : Sl Value.string w w.heap.size a' l) :
    Calls Tryd.prog 69 #[.slice a l.length c, .slice a' l.length c'] w fun e w' => e = .returned (.bool true) ∧ Below w.heap.size w w' := by
  rcases ha with rfl | ⟨b, off, rfl, hlt, hc⟩
  · go_enter Tryd.func69, Tryd.ntmps69
    go_wp2
    refine wp_loop_rounds 1 ?_
    rw [rounds_succ]
    go_wp2
    go_ret
    exact ⟨rfl, Below.refl _ _⟩
  rcases hb with rfl | ⟨b', off', rfl, hlt', hc'⟩
  · go_enter Tryd.func69, Tryd.ntmps69
    go_wp2
    refine wp_loop_rounds 1 ?_
    rw [rounds_succ]
    go_wp2
    go_ret
    exact ⟨rfl, Below.refl _ _⟩
  have HA : Hid (∀ (i : Nat) (x : ByteArray), l[i]? = some x → w.cell? ⟨b, off + i, none⟩ = some (.string x)) := hc
  have HB : Hid (∀ (i : Nat) (x : ByteArray), l[i]? = some x → w.cell? ⟨b', off' + i, none⟩ = some (.string x)) := hc'
  clear hc hc'
  go_enter Tryd.func69, Tryd.ntmps69
  go_wp2
  go_loopw [5] (fun x wr => ∃ k : Nat, k ≤ l.length ∧ x = .int .i64 k ∧ Below w.heap.size w wr) (fun x _ => l.length - (intOf x).toNat)
  case atStart => exact ⟨0, Nat.zero_le _, rfl, Below.refl _ _⟩
  case round =>
    obtain ⟨k, hk, rfl, hbel⟩ := hrel
    by_cases hkl : k < l.length
    · have ca := (hbel.cell (p := ⟨b, off + k, none⟩) hlt).trans (HA.out k l[k] (List.getElem?_eq_getElem hkl))
      have cb := (hbel.cell (p := ⟨b', off' + k, none⟩) hlt').trans (HB.out k l[k] (List.getElem?_eq_getElem hkl))
      obtain ⟨x, hx⟩ : ∃ x, l[k] = x := ⟨_, rfl⟩
      rw [hx] at ca cb
      clear hx
      go_wp2
      go_region
      all_goals go_wp2
      all_goals go_roundw
      all_goals first | exact ⟨k + 1, by omega, by go_num, hbel.drew⟩ | (simp [intOf]; omega)
    · obtain rfl : k = l.length := by omega
      go_wp2
      go_ret
      exact ⟨rfl, hbel⟩

theorem same_ints (l : List Int) (a a' : Option Addr) (c c' : Nat) (w : World) (hl : l.length ≤ 2000000) (ha : Sl (Value.int .i64) w w.heap.size a l) (hb : Sl (Value.int .i64) w w.heap.size a' l) :
    Calls Tryd.prog 70 #[.slice a l.length c, .slice a' l.length c'] w fun e w' => e = .returned (.bool true) ∧ Below w.heap.size w w' := by
  rcases ha with rfl | ⟨b, off, rfl, hlt, hc⟩
  · go_enter Tryd.func70, Tryd.ntmps70
    go_wp2
    refine wp_loop_rounds 1 ?_
    rw [rounds_succ]
    go_wp2
    go_ret
    exact ⟨rfl, Below.refl _ _⟩
  rcases hb with rfl | ⟨b', off', rfl, hlt', hc'⟩
  · go_enter Tryd.func70, Tryd.ntmps70
    go_wp2
    refine wp_loop_rounds 1 ?_
    rw [rounds_succ]
    go_wp2
    go_ret
    exact ⟨rfl, Below.refl _ _⟩
  have HA : Hid (∀ (i : Nat) (x : Int), l[i]? = some x → w.cell? ⟨b, off + i, none⟩ = some (.int .i64 x)) := hc
  have HB : Hid (∀ (i : Nat) (x : Int), l[i]? = some x → w.cell? ⟨b', off' + i, none⟩ = some (.int .i64 x)) := hc'
  clear hc hc'
  go_enter Tryd.func70, Tryd.ntmps70
  go_wp2
  go_loopw [5] (fun x wr => ∃ k : Nat, k ≤ l.length ∧ x = .int .i64 k ∧ Below w.heap.size w wr) (fun x _ => l.length - (intOf x).toNat)
  case atStart => exact ⟨0, Nat.zero_le _, rfl, Below.refl _ _⟩
  case round =>
    obtain ⟨k, hk, rfl, hbel⟩ := hrel
    by_cases hkl : k < l.length
    · have ca := (hbel.cell (p := ⟨b, off + k, none⟩) hlt).trans (HA.out k l[k] (List.getElem?_eq_getElem hkl))
      have cb := (hbel.cell (p := ⟨b', off' + k, none⟩) hlt').trans (HB.out k l[k] (List.getElem?_eq_getElem hkl))
      obtain ⟨x, hx⟩ : ∃ x, l[k] = x := ⟨_, rfl⟩
      rw [hx] at ca cb
      clear hx
      go_wp2
      go_region
      all_goals go_wp2
      all_goals go_roundw
      all_goals first | exact ⟨k + 1, by omega, by go_num, hbel.drew⟩ | (simp [intOf]; omega)
    · obtain rfl : k = l.length := by omega
      go_wp2
      go_ret
      exact ⟨rfl, hbel⟩

theorem same_method (c i : Int) (ts : List ByteArray) (ns : List Int) (ta na ta' na' : Option Addr) (tc nc tc' nc' : Nat) (w : World) (hl : ts.length ≤ 2000000) (hn : ns.length ≤ 2000000) (hS : Sl Value.string w w.heap.size ta ts) (hI : Sl (Value.int .i64) w w.heap.size na ns)
    (hS' : Sl Value.string w w.heap.size ta' ts) (hI' : Sl (Value.int .i64) w w.heap.size na' ns) :
    Calls Tryd.prog 29 #[.agg #[.int .i64 c, .int .i64 i, .slice ta ts.length tc, .slice na ns.length nc], .agg #[.int .i64 c, .int .i64 i, .slice ta' ts.length tc', .slice na' ns.length nc']] w fun e w' => e = .returned (.bool true) ∧ Below w.heap.size w w' := by
  have hb : Below w.heap.size w ((w.alloc (.cells #[.int .i64 c, .int .i64 i, .slice ta ts.length tc, .slice na ns.length nc] 27)).alloc (.cells #[.int .i64 c, .int .i64 i, .slice ta' ts.length tc', .slice na' ns.length nc'] 27)) := ((Below.refl _ _).alloc (Nat.le_refl _) _).alloc (by simp) _
  have e1 := same_texts ts ta ta' tc tc' _ hl (inn hS hb) (inn hS' hb)
  have HI : Hid (Sl (Value.int .i64) w w.heap.size na ns) := hI
  have HI' : Hid (Sl (Value.int .i64) w w.heap.size na' ns) := hI'
  clear hS hS' hI hI'
  go_enter Tryd.func29, Tryd.ntmps29
  go_wp2_with (first | (go_at_call 69; refine e1.mono ?_; rintro e w1 ⟨rfl, hb1⟩; obtain ⟨hc1, hf1⟩ := bcell hb1; have hbw := hb.trans (hb1.mono (by simp; omega))) | (go_at_call 70; refine (same_ints ns na na' nc nc' _ hn (inn HI.out hbw) (inn HI'.out hbw)).mono ?_; rintro e w2 ⟨rfl, hb2⟩))
  go_ret
  exact ⟨rfl, hbw.trans (hb2.mono hbw.size)⟩
end Go.Proofs.YtipjhlfajefefaaDoor.sa
