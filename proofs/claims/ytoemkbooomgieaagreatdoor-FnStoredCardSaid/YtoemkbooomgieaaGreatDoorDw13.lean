/- The two readers of a long text, the specification's and the program's, answer alike at every text of at most 1048576 bytes and every place; they lay new memory alone. -/
import Derived.Test.YtoemkbooomgieaaGreatDoorDw12
import Derived.Test.YtoemkbooomgieaaGreatDoorFlatOwn
import Derived.Deep.QuietTactic
import Derived.BigQuiet
import Derived.Test.YtoemkbooomgieaaGreatDoorRows
import Derived.WalkKit
import Derived.WalkLawsBesides
import Derived.ProofKit
import Derived.OpenShut
import Derived.ShutString
import Derived.Test.YtoemkbooomgieaaGreatDoorCloneLaid

/- Two lists of pairs held beside each other: the specification's l09Same, the program's slices.Equal. -/
namespace Go.Proofs.YtoemkbooomgieaaGreatDoor.sam
open Go.ChangeShapes Go.WideShapes Go.ChangeAt Go.RowKit Go.Proofs.YtoemkbooomgieaaGreatDoor.fl Go.Proofs.YtoemkbooomgieaaGreatDoor.peq
set_option linter.unusedVariables false

noncomputable def sameL (l m : List flP.Pr) : Bool := @decide (l = m) (Classical.propDecidable _)
theorem sameL_iff {l m : List flP.Pr} : sameL l m = true ↔ l = m := by unfold sameL; exact @decide_eq_true_iff _ (Classical.propDecidable _)
theorem sameL_yes {l m : List flP.Pr} (h : l = m) : sameL l m = true := sameL_iff.2 h
theorem sameL_no {l m : List flP.Pr} (h : l ≠ m) : sameL l m = false := by
  cases hh : sameL l m with
  | false => rfl
  | true => exact absurd (sameL_iff.1 hh) h
theorem bdrewN {B : Nat} {a w : World} (h : Below B a w) (n : Nat) : Below B a (w.drewN n) := ⟨h.os, h.tape, h.output, h.size, h.block⟩
theorem len_of {w : World} {B n : Nat} {U : TypeId} {s : Nat} {v : Value} {xs : List Value} (h : w.ownsRow B U s v n xs) : n ≤ maxLen := by
  obtain ⟨_, ⟨_, h0⟩ | ⟨g, cap, cur, _, _, _, h4, h5, _⟩⟩ := h
  · omega
  · omega

set_option maxRecDepth 100000 in
set_option maxHeartbeats 1000000 in
theorem impl_same (l m : List flP.Pr) (a b : Option Addr) (ca cb : Nat) (w : World) (hl : l.length ≤ maxLen) (hm : m.length ≤ maxLen) (hA : Row flP.c 3 w w.heap.size a l) (hB : Row flP.c 3 w w.heap.size b m) :
    Calls Tryz.prog 28 #[.slice a l.length ca, .slice b m.length cb] w fun e w' => e = .returned (.bool (sameL l m)) ∧ Below w.heap.size w w' := by
  have hl' : l.length ≤ 9223372036854775807 := hl
  have hm' : m.length ≤ 9223372036854775807 := hm
  by_cases hne : l.length = m.length
  case neg =>
    have HN : Hid (sameL l m = false) := sameL_no (fun e => hne (by rw [e]))
    have n1 : ¬ ((l.length : Int) = (m.length : Int)) := by omega
    rw [HN.out]
    go_enter Tryz.func28, Tryz.ntmps28
    go_wp2
    go_ret
    exact ⟨rfl, Below.refl _ _⟩
  have HA : Hid (Row flP.c 3 w w.heap.size a l) := hA
  have HB : Hid (Row flP.c 3 w w.heap.size b m) := hB
  obtain ⟨n, hn⟩ : ∃ n, l.length = n := ⟨_, rfl⟩
  have hnm : m.length = n := by omega
  obtain ⟨sl, hsl⟩ : ∃ sl, sameL l m = sl := ⟨_, rfl⟩
  have HSL : Hid (sameL l m = sl) := hsl
  rw [hn, hnm, hsl]
  clear hA hB hsl
  go_enter Tryz.func28, Tryz.ntmps28
  go_wp2
  go_loopw [13] (fun x wr => ∃ k : Nat, k ≤ n ∧ x = .int .i64 k ∧ Hid (∀ i, i < k → l[i]? = m[i]?) ∧ Hid (Below w.heap.size w wr)) (fun x _ => n - (intOf x).toNat)
  case atStart => exact ⟨0, Nat.zero_le _, rfl, fun i h => by omega, Below.refl _ _⟩
  case round =>
    obtain ⟨k, hk, rfl, hall, hbel⟩ := hrel
    by_cases hkl : k < n
    · have i2 : (k : Int) < (n : Int) := by omega
      have h1 : k < l.length := by omega
      have h2 : k < m.length := by omega
      have HG : Hid (l[k]? = some l[k]) := List.getElem?_eq_getElem h1
      have HG2 : Hid (m[k]? = some m[k]) := List.getElem?_eq_getElem h2
      obtain ⟨⟨pk, pv, pg⟩, he⟩ : ∃ e, l[k] = e := ⟨_, rfl⟩
      obtain ⟨⟨qk, qv, qg⟩, he2⟩ : ∃ e, m[k] = e := ⟨_, rfl⟩
      rw [he] at HG
      rw [he2] at HG2
      obtain ⟨b1, o1, rfl, hlt1, hc1⟩ := HA.out.resolve_left (by rintro rfl; simp at h1)
      obtain ⟨b2, o2, rfl, hlt2, hc2⟩ := HB.out.resolve_left (by rintro rfl; simp at h2)
      have go1 : ∀ (o : Nat) (v : Value), w.cell? ⟨b1, o, none⟩ = some v → wr.cell? ⟨b1, o, none⟩ = some v := fun o v hv => (hbel.out.cell (p := ⟨b1, o, none⟩) hlt1).trans hv
      have go2 : ∀ (o : Nat) (v : Value), w.cell? ⟨b2, o, none⟩ = some v → wr.cell? ⟨b2, o, none⟩ = some v := fun o v hv => (hbel.out.cell (p := ⟨b2, o, none⟩) hlt2).trans hv
      have p0 := go1 _ _ (hc1 k _ HG.out 0 _ rfl)
      have p1 := go1 _ _ (hc1 k _ HG.out 1 _ rfl)
      have p2 := go1 _ _ (hc1 k _ HG.out 2 _ rfl)
      have q0 := go2 _ _ (hc2 k _ HG2.out 0 _ rfl)
      have q1 := go2 _ _ (hc2 k _ HG2.out 1 _ rfl)
      have q2 := go2 _ _ (hc2 k _ HG2.out 2 _ rfl)
      rw [Nat.add_zero] at p0 q0
      have hgd := @guard_run
      have hrn := neq_run pk pv qk qv pg qg
      have HSM : Hid (same ⟨pk, pv, pg⟩ ⟨qk, qv, qg⟩ = true → l[k]? = m[k]?) := fun h => by rw [HG.out, HG2.out, same_iff.1 h]
      have HSN : Hid (same ⟨pk, pv, pg⟩ ⟨qk, qv, qg⟩ = false → sameL l m = false) := fun h => sameL_no (fun e => same_no.1 h (by have h3 := HG.out; rw [e, HG2.out] at h3; exact (Option.some.inj h3).symm))
      generalize same ⟨pk, pv, pg⟩ ⟨qk, qv, qg⟩ = sm at hrn HSM HSN
      clear he he2 hc1 hc2 go1 go2
      cases sm with
      | false =>
        obtain rfl : sl = false := HSL.out.symm.trans (HSN.out rfl)
        go_wp2
        go_quiet (fail)
        have hbN := bdrewN hbel.out nq
        go_wp2
        go_ret
        exact ⟨rfl, hbN⟩
      | true =>
        have HN : Hid (∀ i, i < k + 1 → l[i]? = m[i]?) := fun i hi => by
          rcases Nat.lt_or_ge i k with h | h
          · exact hall.out i h
          · obtain rfl : i = k := by omega
            exact HSM.out rfl
        go_wp2
        go_quiet (fail)
        have HBN : Hid (Below w.heap.size w (wr.drewN nq)) := bdrewN hbel.out nq
        go_wp2
        go_roundw
        case rel => exact ⟨k + 1, by omega, by go_num, HN, HBN⟩
        case measure => simp [intOf]; omega
    · obtain rfl : k = n := by omega
      have HY : Hid (sameL l m = true) := sameL_yes (List.ext_getElem? fun i => by
        rcases Nat.lt_or_ge i k with h | h
        · exact hall.out i h
        · rw [List.getElem?_eq_none (by omega), List.getElem?_eq_none (by omega)])
      obtain rfl : sl = true := HSL.out.symm.trans HY.out
      go_wp2
      go_ret
      exact ⟨rfl, hbel.out⟩
end Go.Proofs.YtoemkbooomgieaaGreatDoor.sam

/- Which sizes of a number there are, and the greatest number of each: the specification's and the program's tests answer alike; no world is changed. -/
namespace Go.Proofs.YtoemkbooomgieaaGreatDoor.sz
open Go.ChangeShapes Go.WideShapes Go.ChangeAt Go.RowKit

def mostOf (z : Int) : Int := if z = 1 then 255 else if z = 2 then 65535 else if z = 4 then 4294967295 else if z = 8 then 9223372036854775807 else -1

theorem sizeOk (z : Int) (w : World) : Calls Tryz.prog 72 #[.int .i64 z] w fun e w' => e = .returned (.bool (decide (0 ≤ mostOf z))) ∧ w = w' := by
  go_enter Tryz.func72, Tryz.ntmps72
  go_wp2
  all_goals go_ret
  · simp_all [mostOf]
  · simp_all [mostOf]
  · simp_all [mostOf]
  · refine ⟨?_, rfl⟩
    by_cases h : z = 8
    · simp [h, mostOf]
    · simp [mostOf, *]

theorem size_of (z : Int) (h : 0 ≤ mostOf z) : z = 1 ∨ z = 2 ∨ z = 4 ∨ z = 8 := by
  unfold mostOf at h
  by_cases h1 : z = 1
  · omega
  by_cases h2 : z = 2
  · omega
  by_cases h4 : z = 4
  · omega
  by_cases h8 : z = 8
  · omega
  simp [h1, h2, h4, h8] at h

end Go.Proofs.YtoemkbooomgieaaGreatDoor.sz

/- The two readers of a number, the specification's and the program's, answer alike at every text of at most 1048576 bytes, every place and every size; no world is changed. -/
namespace Go.Proofs.YtoemkbooomgieaaGreatDoor.gi
open Go.ChangeShapes Go.WideShapes Go.ChangeAt Go.RowKit Go.Proofs.YtoemkbooomgieaaGreatDoor.sz

def bt (s : ByteArray) (k : Nat) : Nat := if h : k < s.size then s[k].toNat else 0
theorem bt_eq (s : ByteArray) (k : Nat) (h : k < s.size) : s[k].toNat = bt s k := by simp [bt, h]
theorem bt_le (s : ByteArray) (k : Nat) : bt s k ≤ 255 := by
  unfold bt; split
  · have := s[k].toNat_lt; omega
  · omega
def gi (s : ByteArray) (i : Nat) : Nat → Int
  | 0 => 0
  | k + 1 => 256 * gi s i k + bt s (i + k)

theorem gi_bound (s : ByteArray) (i : Nat) : ∀ k, 0 ≤ gi s i k ∧ gi s i k < 256 ^ k
  | 0 => by simp [gi]
  | k + 1 => by
    have h := gi_bound s i k
    have hb := bt_le s (i + k)
    simp only [gi]
    rw [Int.pow_succ]
    omega

theorem gi_bound7 (s : ByteArray) (i : Nat) (h : bt s i ≤ 127) : ∀ k, 0 ≤ gi s i (k + 1) ∧ gi s i (k + 1) < 128 * 256 ^ k
  | 0 => by simp only [gi]; simp; omega
  | k + 1 => by
    have h := gi_bound7 s i h k
    have hb := bt_le s (i + (k + 1))
    rw [gi, Int.pow_succ]
    omega

theorem room (s : ByteArray) (i k : Nat) (hk : k < 7 ∨ k < 8 ∧ bt s i ≤ 127) : 0 ≤ gi s i k ∧ 256 * gi s i k + 255 ≤ 9223372036854775807 := by
  rcases hk with hk | ⟨hk, hb⟩
  · have h := gi_bound s i k
    have : k = 0 ∨ k = 1 ∨ k = 2 ∨ k = 3 ∨ k = 4 ∨ k = 5 ∨ k = 6 := by omega
    rcases this with rfl | rfl | rfl | rfl | rfl | rfl | rfl <;> omega
  · cases k with
    | zero => simp [gi]
    | succ k =>
      have h := gi_bound7 s i hb k
      have : k = 0 ∨ k = 1 ∨ k = 2 ∨ k = 3 ∨ k = 4 ∨ k = 5 ∨ k = 6 := by omega
      rcases this with rfl | rfl | rfl | rfl | rfl | rfl | rfl <;> omega

theorem or_byte (x b : Int) (h1 : 0 ≤ b) (h2 : b ≤ 255) : bits .or .i64 (wrap64 (wrap64 x * 256)) b = wrap64 (256 * x + b) := by
  show IntKind.i64.wrap ((BitVec.ofInt 64 (wrap64 (wrap64 x * 256)) ||| BitVec.ofInt 64 b).toNat : Int) = _
  rw [BitVec.toNat_or, BitVec.toNat_ofInt, BitVec.toNat_ofInt, nat_join8 _ _ (by simp [wrap64]; omega) (by omega), IntKind.wrap_i64]
  simp only [wrap64]
  omega

theorem impl_loop (s : ByteArray) (i z : Nat) (w : World) (hs : s.size ≤ 1048576) (hi : i + z ≤ s.size) (hz : z ≤ 8) (hm : decide (0 ≤ mostOf z) = true) : Calls Tryz.prog 48 #[.string s, .int .i64 i, .int .i64 z] w fun e w' => (if wrap64 (gi s i z) < 0 then e = .returned (.tuple #[.int .i64 0, .int .i64 (-1)]) else e = .returned (.tuple #[.int .i64 (wrap64 (gi s i z)), .int .i64 (i + z)])) ∧ w' = w := by
  go_enter Tryz.func48, Tryz.ntmps48
  go_wp2_with (first | (go_at_call 72; refine (sizeOk (z : Int) w).mono ?_; rintro e w' ⟨rfl, rfl⟩))
  go_loop [8, 9] (fun t c => ∃ k : Nat, k ≤ z ∧ c = .int .i64 (i + k : Nat) ∧ t = .int .i64 (wrap64 (gi s i k))) (fun _ c => i + z - (intOf c).toNat)
  case atStart => exact ⟨0, Nat.zero_le _, rfl, by simp [gi, wrap64]⟩
  case round =>
    obtain ⟨k, hk, rfl, rfl⟩ := hrel
    by_cases hkz : k < z
    · have hlt : i + k < s.size := by omega
      have hby : s[i + k].toNat ≤ 255 := by have := s[i + k].toNat_lt; omega
      go_wp2
      go_round
      case rel => exact ⟨k + 1, by omega, by go_num, by rw [or_byte _ _ (by omega) (by omega)]; simp [gi, bt_eq s (i + k) hlt]⟩
      case measure => simp [intOf]; omega
    · obtain rfl : k = z := by omega
      go_wp2
      · go_ret2
        simp [*]
      · go_ret2
        simp [*]

theorem impl_none (s : ByteArray) (i z : Int) (w : World) (hm : decide (0 ≤ mostOf z) = false) : Calls Tryz.prog 48 #[.string s, .int .i64 i, .int .i64 z] w fun e w' => e = .returned (.tuple #[.int .i64 0, .int .i64 (-1)]) ∧ w' = w := by
  go_enter Tryz.func48, Tryz.ntmps48
  go_wp2_with (first | (go_at_call 72; refine (sizeOk z w).mono ?_; rintro e w' ⟨rfl, rfl⟩))
  go_ret2
  exact ⟨rfl, rfl⟩

theorem impl_out (s : ByteArray) (i z : Int) (w : World) (hs : s.size ≤ 1048576) (hm : decide (0 ≤ mostOf z) = true) (hz : 1 ≤ z ∧ z ≤ 8) (hi : i < 0 ∨ s.size < i + z) (hi1 : -9223372036854775808 ≤ i) (hi2 : i ≤ 9223372036854775807) : Calls Tryz.prog 48 #[.string s, .int .i64 i, .int .i64 z] w fun e w' => e = .returned (.tuple #[.int .i64 0, .int .i64 (-1)]) ∧ w' = w := by
  rcases hi with hi | hi
  · go_enter Tryz.func48, Tryz.ntmps48
    go_wp2_with (first | (go_at_call 72; refine (sizeOk z w).mono ?_; rintro e w' ⟨rfl, rfl⟩))
    go_ret2
    exact ⟨rfl, rfl⟩
  · go_enter Tryz.func48, Tryz.ntmps48
    go_wp2_with (first | (go_at_call 72; refine (sizeOk z w).mono ?_; rintro e w' ⟨rfl, rfl⟩))
    all_goals go_ret2
    all_goals exact ⟨rfl, rfl⟩

/-- WHAT BOTH READERS ANSWER -/
def okAt (s : ByteArray) (i z : Int) : Bool := decide (0 ≤ mostOf z) && decide (0 ≤ i) && decide (i + z ≤ s.size) && !(decide (z = 8) && decide (127 < bt s i.toNat))
def num (s : ByteArray) (i z : Int) : Int := if okAt s i z then gi s i.toNat z.toNat else 0
def stop (s : ByteArray) (i z : Int) : Int := if okAt s i z then i + z else -1

theorem gi_wrap (s : ByteArray) (i k : Nat) (h : k ≤ 7 ∨ k ≤ 8 ∧ bt s i ≤ 127) : wrap64 (gi s i k) = gi s i k ∧ 0 ≤ gi s i k := by
  cases k with
  | zero => simp [gi, wrap64]
  | succ k =>
    have hr := room s i k (by omega)
    have hb := bt_le s (i + k)
    simp only [gi, wrap64]
    omega

theorem gi_neg (s : ByteArray) (i : Nat) (h : 127 < bt s i) : wrap64 (gi s i 8) < 0 := by
  have h0 := bt_le s (i + 0)
  have h1 := bt_le s (i + 1)
  have h2 := bt_le s (i + 2)
  have h3 := bt_le s (i + 3)
  have h4 := bt_le s (i + 4)
  have h5 := bt_le s (i + 5)
  have h6 := bt_le s (i + 6)
  have h7 := bt_le s (i + 7)
  simp only [gi, wrap64, Nat.add_zero] at *
  omega

theorem impl_get (s : ByteArray) (i z : Int) (w : World) (hs : s.size ≤ 1048576) (hi1 : -9223372036854775808 ≤ i) (hi2 : i ≤ 9223372036854775807) :
    Calls Tryz.prog 48 #[.string s, .int .i64 i, .int .i64 z] w fun e w' => e = .returned (.tuple #[.int .i64 (num s i z), .int .i64 (stop s i z)]) ∧ w' = w := by
  by_cases hm : 0 ≤ mostOf z
  · have hz := size_of z hm
    by_cases hin : 0 ≤ i ∧ i + z ≤ s.size
    · obtain ⟨ha, hb⟩ := hin
      obtain ⟨n, rfl⟩ := Int.eq_ofNat_of_zero_le ha
      obtain ⟨m, rfl⟩ := Int.eq_ofNat_of_zero_le (show 0 ≤ z by omega)
      refine (impl_loop s n m w hs (by omega) (by omega) (by simpa using hm)).mono ?_
      rintro e w' ⟨he, rfl⟩
      refine ⟨?_, rfl⟩
      by_cases h7 : m = 8 ∧ 127 < bt s n
      · obtain ⟨rfl, h7⟩ := h7
        have hk : okAt s n ((8 : Nat) : Int) = false := by simp [okAt, mostOf]; omega
        simp only [num, stop, hk, Bool.false_eq_true, if_false]
        rw [if_pos (gi_neg s n h7)] at he
        exact he
      · have hk : okAt s n m = true := by simp [okAt, hm, hb]; omega
        have hw := gi_wrap s n m (by omega)
        simp only [num, stop, hk, if_true]
        rw [hw.1, if_neg (by omega)] at he
        exact he
    · have hk : okAt s i z = false := by
        simp only [okAt, Bool.and_eq_false_iff, decide_eq_false_iff_not]
        omega
      simp only [num, stop, hk, Bool.false_eq_true, if_false]
      exact impl_out s i z w hs (by simpa using hm) (by omega) (by omega) hi1 hi2
  · have hk : okAt s i z = false := by simp [okAt, hm]
    simp only [num, stop, hk, Bool.false_eq_true, if_false]
    exact impl_none s i z w (by simpa using hm)
end Go.Proofs.YtoemkbooomgieaaGreatDoor.gi

/- The two readers of a short text, the specification's and the program's, answer alike at every text of at most 1048576 bytes and every place; they lay new memory alone. -/
namespace Go.Proofs.YtoemkbooomgieaaGreatDoor.gs
open Go.ChangeShapes Go.WideShapes Go.ChangeAt Go.RowKit Go.Proofs.YtoemkbooomgieaaGreatDoor.gi

/-- whether there is such a text at place i -/
def here (s : ByteArray) (i : Int) : Bool := okAt s i 1 && decide (num s i 1 ≤ 255) && decide (stop s i 1 + num s i 1 ≤ s.size)
def text (s : ByteArray) (i : Int) : ByteArray := if here s i then s.extract (stop s i 1).toNat ((stop s i 1).toNat + (num s i 1).toNat) else ByteArray.empty
def behind (s : ByteArray) (i : Int) : Int := if here s i then stop s i 1 + num s i 1 else -1

theorem parts (s : ByteArray) (i : Int) (h : okAt s i 1 = true) : 0 ≤ num s i 1 ∧ num s i 1 ≤ 255 ∧ 0 ≤ stop s i 1 ∧ stop s i 1 ≤ s.size := by
  have hb := gi_bound s i.toNat 1
  simp only [num, stop, h, if_true]
  simp only [okAt, Bool.and_eq_true, decide_eq_true_eq] at h
  have h1 : (1 : Int).toNat = 1 := rfl
  rw [h1]
  omega

theorem none (s : ByteArray) (i : Int) (h : okAt s i 1 = false) : num s i 1 = 0 ∧ stop s i 1 = -1 := by
  simp [num, stop, h]

theorem impl_text (s : ByteArray) (i n p : Int) (w : World) (hs : s.size ≤ 1048576) (hpa : 0 ≤ n ∧ n ≤ 255 ∧ 0 ≤ p ∧ p ≤ s.size) (hin : n ≤ 255 ∧ p + n ≤ s.size)
    (hget : Calls Tryz.prog 48 #[.string s, .int .i64 i, .int .i64 1] w fun e w' => e = .returned (.tuple #[.int .i64 n, .int .i64 p]) ∧ w' = w) :
    Calls Tryz.prog 73 #[.string s, .int .i64 i, .int .i64 1, .int .i64 255] w fun e w' => e = .returned (.tuple #[.string (s.extract p.toNat (p.toNat + n.toNat)), .int .i64 (p + n)]) ∧ Below w.heap.size w w' := by
  obtain ⟨a, rfl⟩ := Int.eq_ofNat_of_zero_le hpa.1
  obtain ⟨b, rfl⟩ := Int.eq_ofNat_of_zero_le hpa.2.2.1
  have hsl : ∀ W : World, (Instr.slice 9 (.string s) (some (.int .i64 (b : Int))) (some (.int .i64 ((b : Int) + (a : Int)))) Option.none).run Tryz.prog W = .ok (.string (s.extract b (b + a))) W := fun W =>
    run_slice_string (P := Tryz.prog) W 9 s .i64 .i64 (b : Int) ((b : Int) + (a : Int)) Tryz.underlying9 (by omega) (by omega) (by omega)
  have hd : decide ((b : Int) < 0) = false := by simp
  have hxs : (s.extract b (b + a)).size ≤ 281474976710656 := by rw [ByteArray.size_extract]; omega
  go_enter Tryz.func73, Tryz.ntmps73
  go_wp2_with (first | (go_at_call 48; refine hget.mono ?_; rintro e w' ⟨rfl, rfl⟩) | (go_at_call 25; refine (cl.clone (s.extract b (b + a)) _ hxs).mono ?_; rintro e w1 ⟨rfl, hb1⟩))
  go_ret2
  exact ⟨rfl, hb1⟩

theorem impl_notext (s : ByteArray) (i n p : Int) (w : World) (hs : s.size ≤ 1048576) (h : p = -1 ∨ (0 ≤ n ∧ n ≤ 255 ∧ 0 ≤ p ∧ p ≤ s.size) ∧ ¬ (n ≤ 255 ∧ p + n ≤ s.size))
    (hget : Calls Tryz.prog 48 #[.string s, .int .i64 i, .int .i64 1] w fun e w' => e = .returned (.tuple #[.int .i64 n, .int .i64 p]) ∧ w' = w) :
    Calls Tryz.prog 73 #[.string s, .int .i64 i, .int .i64 1, .int .i64 255] w fun e w' => e = .returned (.tuple #[.string ByteArray.empty, .int .i64 (-1)]) ∧ Below w.heap.size w w' := by
  rcases h with rfl | ⟨hpa, hn⟩
  · go_enter Tryz.func73, Tryz.ntmps73
    go_wp2_with (go_at_call 48; refine hget.mono ?_; rintro e w' ⟨rfl, rfl⟩)
    go_ret2
    exact ⟨rfl, Below.refl _ _⟩
  · have hd : decide (p < 0) = false := by simp; omega
    by_cases hm : n ≤ 255
    · have hm' : decide (255 < n) = false := by simp; omega
      go_enter Tryz.func73, Tryz.ntmps73
      go_wp2_with (go_at_call 48; refine hget.mono ?_; rintro e w' ⟨rfl, rfl⟩)
      go_ret2
      exact ⟨rfl, Below.refl _ _⟩
    · have hm' : decide (255 < n) = true := by simp; omega
      go_enter Tryz.func73, Tryz.ntmps73
      go_wp2_with (go_at_call 48; refine hget.mono ?_; rintro e w' ⟨rfl, rfl⟩)
      go_ret2
      exact ⟨rfl, Below.refl _ _⟩

theorem impl_getShort (s : ByteArray) (i : Int) (w : World) (hs : s.size ≤ 1048576) (hi1 : -9223372036854775808 ≤ i) (hi2 : i ≤ 9223372036854775807) :
    Calls Tryz.prog 102 #[.string s, .int .i64 i] w fun e w' => e = .returned (.tuple #[.string (text s i), .int .i64 (behind s i)]) ∧ Below w.heap.size w w' := by
  obtain ⟨n, hn⟩ : ∃ n, num s i 1 = n := ⟨_, rfl⟩
  obtain ⟨p, hp⟩ : ∃ p, stop s i 1 = p := ⟨_, rfl⟩
  have hget := impl_get s i 1 w hs hi1 hi2
  rw [hn, hp] at hget
  have hall : Calls Tryz.prog 73 #[.string s, .int .i64 i, .int .i64 1, .int .i64 255] w fun e w' => e = .returned (.tuple #[.string (text s i), .int .i64 (behind s i)]) ∧ Below w.heap.size w w' := by
    by_cases hok : okAt s i 1 = true
    · have hpa := parts s i hok
      rw [hn, hp] at hpa
      by_cases hin : n ≤ 255 ∧ p + n ≤ s.size
      · have hh : here s i = true := by simp only [here, hok, hn, hp, Bool.true_and, Bool.and_eq_true, decide_eq_true_eq]; exact hin
        have e1 : text s i = s.extract p.toNat (p.toNat + n.toNat) := by simp only [text, hh, if_true, hn, hp]
        have e2 : behind s i = p + n := by simp only [behind, hh, if_true, hn, hp]
        rw [e1, e2]
        exact impl_text s i n p w hs hpa hin hget
      · have hh : here s i = false := by
          simp only [here, hok, hn, hp, Bool.true_and, Bool.and_eq_false_iff, decide_eq_false_iff_not]; omega
        have e1 : text s i = ByteArray.empty := by simp only [text, hh, Bool.false_eq_true, if_false]
        have e2 : behind s i = -1 := by simp only [behind, hh, Bool.false_eq_true, if_false]
        rw [e1, e2]
        exact impl_notext s i n p w hs (Or.inr ⟨hpa, hin⟩) hget
    · have hok' : okAt s i 1 = false := by simpa using hok
      have hpa := none s i hok'
      rw [hn, hp] at hpa
      have hh : here s i = false := by simp only [here, hok', Bool.false_and]
      have e1 : text s i = ByteArray.empty := by simp only [text, hh, Bool.false_eq_true, if_false]
      have e2 : behind s i = -1 := by simp only [behind, hh, Bool.false_eq_true, if_false]
      rw [e1, e2]
      exact impl_notext s i n p w hs (Or.inl hpa.2) hget
  clear hget hn hp
  go_enter Tryz.func102, Tryz.ntmps102
  go_wp2_with (go_at_call 73; refine hall.mono ?_; rintro e w1 ⟨rfl, hb1⟩)
  go_ret2
  exact ⟨rfl, hb1⟩
end Go.Proofs.YtoemkbooomgieaaGreatDoor.gs

/- The two readers of a long text, the specification's and the program's, answer alike at every text of at most 1048576 bytes and every place; they lay new memory alone. -/
namespace Go.Proofs.YtoemkbooomgieaaGreatDoor.gl
open Go.ChangeShapes Go.WideShapes Go.ChangeAt Go.RowKit Go.Proofs.YtoemkbooomgieaaGreatDoor.gi

/-- whether there is such a text at place i -/
def here (s : ByteArray) (i : Int) : Bool := okAt s i 4 && decide (num s i 4 ≤ 100000) && decide (stop s i 4 + num s i 4 ≤ s.size)
def text (s : ByteArray) (i : Int) : ByteArray := if here s i then s.extract (stop s i 4).toNat ((stop s i 4).toNat + (num s i 4).toNat) else ByteArray.empty
def behind (s : ByteArray) (i : Int) : Int := if here s i then stop s i 4 + num s i 4 else -1

theorem parts (s : ByteArray) (i : Int) (h : okAt s i 4 = true) : 0 ≤ num s i 4 ∧ num s i 4 ≤ 4294967295 ∧ 0 ≤ stop s i 4 ∧ stop s i 4 ≤ s.size := by
  have hb := gi_bound s i.toNat 4
  simp only [num, stop, h, if_true]
  simp only [okAt, Bool.and_eq_true, decide_eq_true_eq] at h
  have h1 : (4 : Int).toNat = 4 := rfl
  rw [h1]
  omega

theorem none (s : ByteArray) (i : Int) (h : okAt s i 4 = false) : num s i 4 = 0 ∧ stop s i 4 = -1 := by
  simp [num, stop, h]

theorem impl_text (s : ByteArray) (i n p : Int) (w : World) (hs : s.size ≤ 1048576) (hpa : 0 ≤ n ∧ n ≤ 4294967295 ∧ 0 ≤ p ∧ p ≤ s.size) (hin : n ≤ 100000 ∧ p + n ≤ s.size)
    (hget : Calls Tryz.prog 48 #[.string s, .int .i64 i, .int .i64 4] w fun e w' => e = .returned (.tuple #[.int .i64 n, .int .i64 p]) ∧ w' = w) :
    Calls Tryz.prog 73 #[.string s, .int .i64 i, .int .i64 4, .int .i64 100000] w fun e w' => e = .returned (.tuple #[.string (s.extract p.toNat (p.toNat + n.toNat)), .int .i64 (p + n)]) ∧ Below w.heap.size w w' := by
  obtain ⟨a, rfl⟩ := Int.eq_ofNat_of_zero_le hpa.1
  obtain ⟨b, rfl⟩ := Int.eq_ofNat_of_zero_le hpa.2.2.1
  have hsl : ∀ W : World, (Instr.slice 9 (.string s) (some (.int .i64 (b : Int))) (some (.int .i64 ((b : Int) + (a : Int)))) Option.none).run Tryz.prog W = .ok (.string (s.extract b (b + a))) W := fun W =>
    run_slice_string (P := Tryz.prog) W 9 s .i64 .i64 (b : Int) ((b : Int) + (a : Int)) Tryz.underlying9 (by omega) (by omega) (by omega)
  have hd : decide ((b : Int) < 0) = false := by simp
  have hxs : (s.extract b (b + a)).size ≤ 281474976710656 := by rw [ByteArray.size_extract]; omega
  go_enter Tryz.func73, Tryz.ntmps73
  go_wp2_with (first | (go_at_call 48; refine hget.mono ?_; rintro e w' ⟨rfl, rfl⟩) | (go_at_call 25; refine (cl.clone (s.extract b (b + a)) _ hxs).mono ?_; rintro e w1 ⟨rfl, hb1⟩))
  go_ret2
  exact ⟨rfl, hb1⟩

theorem impl_notext (s : ByteArray) (i n p : Int) (w : World) (hs : s.size ≤ 1048576) (h : p = -1 ∨ (0 ≤ n ∧ n ≤ 4294967295 ∧ 0 ≤ p ∧ p ≤ s.size) ∧ ¬ (n ≤ 100000 ∧ p + n ≤ s.size))
    (hget : Calls Tryz.prog 48 #[.string s, .int .i64 i, .int .i64 4] w fun e w' => e = .returned (.tuple #[.int .i64 n, .int .i64 p]) ∧ w' = w) :
    Calls Tryz.prog 73 #[.string s, .int .i64 i, .int .i64 4, .int .i64 100000] w fun e w' => e = .returned (.tuple #[.string ByteArray.empty, .int .i64 (-1)]) ∧ Below w.heap.size w w' := by
  rcases h with rfl | ⟨hpa, hn⟩
  · go_enter Tryz.func73, Tryz.ntmps73
    go_wp2_with (go_at_call 48; refine hget.mono ?_; rintro e w' ⟨rfl, rfl⟩)
    go_ret2
    exact ⟨rfl, Below.refl _ _⟩
  · have hd : decide (p < 0) = false := by simp; omega
    by_cases hm : n ≤ 100000
    · have hm' : decide (100000 < n) = false := by simp; omega
      go_enter Tryz.func73, Tryz.ntmps73
      go_wp2_with (go_at_call 48; refine hget.mono ?_; rintro e w' ⟨rfl, rfl⟩)
      go_ret2
      exact ⟨rfl, Below.refl _ _⟩
    · have hm' : decide (100000 < n) = true := by simp; omega
      go_enter Tryz.func73, Tryz.ntmps73
      go_wp2_with (go_at_call 48; refine hget.mono ?_; rintro e w' ⟨rfl, rfl⟩)
      go_ret2
      exact ⟨rfl, Below.refl _ _⟩

theorem impl_getLong (s : ByteArray) (i : Int) (w : World) (hs : s.size ≤ 1048576) (hi1 : -9223372036854775808 ≤ i) (hi2 : i ≤ 9223372036854775807) :
    Calls Tryz.prog 49 #[.string s, .int .i64 i] w fun e w' => e = .returned (.tuple #[.string (text s i), .int .i64 (behind s i)]) ∧ Below w.heap.size w w' := by
  obtain ⟨n, hn⟩ : ∃ n, num s i 4 = n := ⟨_, rfl⟩
  obtain ⟨p, hp⟩ : ∃ p, stop s i 4 = p := ⟨_, rfl⟩
  have hget := impl_get s i 4 w hs hi1 hi2
  rw [hn, hp] at hget
  have hall : Calls Tryz.prog 73 #[.string s, .int .i64 i, .int .i64 4, .int .i64 100000] w fun e w' => e = .returned (.tuple #[.string (text s i), .int .i64 (behind s i)]) ∧ Below w.heap.size w w' := by
    by_cases hok : okAt s i 4 = true
    · have hpa := parts s i hok
      rw [hn, hp] at hpa
      by_cases hin : n ≤ 100000 ∧ p + n ≤ s.size
      · have hh : here s i = true := by simp only [here, hok, hn, hp, Bool.true_and, Bool.and_eq_true, decide_eq_true_eq]; exact hin
        have e1 : text s i = s.extract p.toNat (p.toNat + n.toNat) := by simp only [text, hh, if_true, hn, hp]
        have e2 : behind s i = p + n := by simp only [behind, hh, if_true, hn, hp]
        rw [e1, e2]
        exact impl_text s i n p w hs hpa hin hget
      · have hh : here s i = false := by
          simp only [here, hok, hn, hp, Bool.true_and, Bool.and_eq_false_iff, decide_eq_false_iff_not]; omega
        have e1 : text s i = ByteArray.empty := by simp only [text, hh, Bool.false_eq_true, if_false]
        have e2 : behind s i = -1 := by simp only [behind, hh, Bool.false_eq_true, if_false]
        rw [e1, e2]
        exact impl_notext s i n p w hs (Or.inr ⟨hpa, hin⟩) hget
    · have hok' : okAt s i 4 = false := by simpa using hok
      have hpa := none s i hok'
      rw [hn, hp] at hpa
      have hh : here s i = false := by simp only [here, hok', Bool.false_and]
      have e1 : text s i = ByteArray.empty := by simp only [text, hh, Bool.false_eq_true, if_false]
      have e2 : behind s i = -1 := by simp only [behind, hh, Bool.false_eq_true, if_false]
      rw [e1, e2]
      exact impl_notext s i n p w hs (Or.inl hpa.2) hget
  clear hget hn hp
  go_enter Tryz.func49, Tryz.ntmps49
  go_wp2_with (go_at_call 73; refine hall.mono ?_; rintro e w1 ⟨rfl, hb1⟩)
  go_ret2
  exact ⟨rfl, hb1⟩
end Go.Proofs.YtoemkbooomgieaaGreatDoor.gl
