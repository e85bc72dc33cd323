/- The draw of one case out of n. -/
import Derived.Test.YtnooibeohdfcmaaGreatDoorDrawBase

/- The specification's draw of a key. -/
namespace Go.Proofs.YtnooibeohdfcmaaGreatDoor.dp
set_option linter.unusedVariables false
open Go.ChangeShapes Go.WideShapes Go.ChangeAt Go.RowKit Go.Proofs.YtnooibeohdfcmaaGreatDoor.dw

def abc : List ByteArray := [⟨#[97]⟩, ⟨#[98]⟩, ⟨#[99]⟩]
theorem abc_in : ∀ z ∈ abc, z.size ≤ 1 := by decide
def five : List ByteArray := [⟨#[97]⟩, ⟨#[98]⟩, ⟨#[42]⟩, ⟨#[35]⟩, ⟨#[]⟩]
theorem five_in : ∀ z ∈ five, z.size ≤ 1 := by decide
def six : List ByteArray := [⟨#[97]⟩, ⟨#[98]⟩, ⟨#[42]⟩, ⟨#[35]⟩, ⟨#[]⟩, ⟨#[99]⟩]
theorem six_in : ∀ z ∈ six, z.size ≤ 1 := by decide

set_option maxRecDepth 100000 in
set_option maxHeartbeats 1000000 in
theorem draw_key (p : Nat) (a : Option Addr) (len cap : Nat) (w : World) (hc : Cur w p a len cap) :
    Calls Tryz.prog 24 #[.pointer (some ⟨p, 0, none⟩)] w fun e w' => (∃ s : ByteArray, s.size ≤ 100 ∧ e = .returned (.string s)) ∧ Cur w' p a len cap ∧ On p w w' := by
  have hp := hc.lt
  have h1 := draw_pick p a len cap w.heap.size 5 five _ (by omega) (by omega) (at_texts w five 9) (hc.alloc _)
  clear hc
  go_enter Tryz.func24, Tryz.ntmps24
  have t1 : True := trivial
  go_wp2_with (first | (go_at_call 36; refine h1.mono ?_; rintro e w1 ⟨⟨z, hz, rfl⟩, hc1, hb1⟩) | (go_at_call 45; have _t := t1; refine (draw_below p a len cap 4 w1 (by omega) hc1).mono ?_; rintro e w2 ⟨⟨n, hn, rfl⟩, hc2, hb2⟩; clear t1))
  have hz1 := five_in z hz
  have hon : On p w w2 := (((On.refl p w).alloc _).trans hb1).trans hb2
  have HC2 : Hid (Cur w2 p a len cap) := hc2
  clear h1 hc1 hb1 hc2 hb2 hz
  go_loopw [3, 5] (fun y x wr => ∃ (j : Nat) (s : ByteArray), j ≤ n ∧ x = .int .i64 j ∧ y = .string s ∧ s.size ≤ 1 + 2 * j ∧ Hid (Cur wr p a len cap) ∧ On p w wr) (fun _ x _ => n - (intOf x).toNat)
  case atStart => exact ⟨0, z, Nat.zero_le _, rfl, rfl, by omega, HC2, hon⟩
  case round =>
    obtain ⟨j, s, hj, rfl, rfl, hs, hcur, honr⟩ := hrel
    have hpr := hcur.out.lt
    by_cases hjn : j < n
    · have g1 := draw_pick p a len cap wr.heap.size 6 six _ (by omega) (by omega) (at_texts wr six 9) (hcur.out.alloc _)
      have hs9 : s.size ≤ 1000 := by omega
      have HS : Hid (s.size ≤ 1 + 2 * j) := hs
      clear hs
      go_wp2_with (go_at_call 36; refine g1.mono ?_; rintro e x1 ⟨⟨y, hy, rfl⟩, hd1, hf1⟩; have hy1 := six_in y hy; clear hy)
      have HD1 : Hid (Cur x1 p a len cap) := hd1
      have hf2 := (honr.alloc (.cells (six.map Value.string).toArray 9)).trans hf1
      clear g1 hd1 hf1 hcur
      go_roundw
      case rel => exact ⟨j + 1, _, by omega, by go_num, rfl, by rw [ByteArray.size_append, ByteArray.size_append]; have := HS.out; have : (⟨#[46]⟩ : ByteArray).size = 1 := rfl; omega, HD1, hf2⟩
      case measure => simp [intOf]; omega
    · obtain rfl : j = n := by omega
      have g2 := draw_below p a len cap 30 wr (by omega) hcur.out
      have hs7 : s.size ≤ 7 := by omega
      clear hs hcur
      go_wp2_with (go_at_call 45; fail)
      refine g2.mono ?_
      rintro e x1 ⟨⟨c, hcc, rfl⟩, hd1, hf1⟩
      have hon1 := honr.trans hf1
      have HD1 : Hid (Cur x1 p a len cap) := hd1
      clear g2 hd1 hf1
      by_cases hc0 : c = 0
      · subst hc0
        go_wp2
        go_ret
        exact ⟨⟨_, by rw [ByteArray.size_append]; have : (⟨#[32]⟩ : ByteArray).size = 1 := rfl; omega, rfl⟩, HD1.out, hon1⟩
      · by_cases hc1 : c = 1
        · subst hc1
          go_wp2
          go_loopw [3] (fun y wq => ∃ (s : ByteArray), y = .string s ∧ s.size ≤ 61 ∧ Hid (Cur wq p a len cap) ∧ On p w wq) (fun y _ => 70 - (match y with | .string s => s.size | _ => 0))
          case atStart => exact ⟨s, rfl, by omega, HD1, hon1⟩
          case round =>
            obtain ⟨s2, rfl, hs2, hcur2, honr2⟩ := hrel
            have g3 := draw_below p a len cap 2 wr (by omega) hcur2.out
            clear hcur2
            go_wp2_with (go_at_call 45; fail)
            refine g3.mono ?_
            rintro e x2 ⟨⟨d, hd, rfl⟩, hd2, hf2⟩
            have HD2 : Hid (Cur x2 p a len cap) := hd2
            have hon2 := honr2.trans hf2
            clear g3 hd2 hf2
            by_cases hlt : s2.size < 60 + d
            · have hlt2 : (s2.size : Int) < 60 + (d : Int) := by omega
              go_wp2
              go_roundw
              case rel => exact ⟨s2 ++ ⟨#[120]⟩, rfl, by rw [ByteArray.size_append]; show s2.size + 1 ≤ 61; omega, HD2, hon2⟩
              case measure => show 70 - (s2 ++ (⟨#[120]⟩ : ByteArray)).size < 70 - s2.size; rw [ByteArray.size_append]; show 70 - (s2.size + 1) < _; omega
            · have hlt2 : ¬ (s2.size : Int) < 60 + (d : Int) := by omega
              go_wp2
              go_ret
              exact ⟨⟨s2, by omega, rfl⟩, HD2.out, hon2⟩
        · have e0 : ((c : Int) == 0) = false := by simp only [beq_eq_false_iff_ne]; omega
          have e1 : ((c : Int) == 1) = false := by simp only [beq_eq_false_iff_ne]; omega
          go_wp2
          go_ret
          exact ⟨⟨s, by omega, rfl⟩, HD1.out, hon1⟩

end Go.Proofs.YtnooibeohdfcmaaGreatDoor.dp

/- The specification's draw of a name. -/
namespace Go.Proofs.YtnooibeohdfcmaaGreatDoor.dnm
set_option linter.unusedVariables false
open Go.ChangeShapes Go.WideShapes Go.ChangeAt Go.RowKit Go.Proofs.YtnooibeohdfcmaaGreatDoor.dw

def names : List ByteArray := [⟨#[97]⟩, ⟨#[98]⟩, ⟨#[99, 46, 100]⟩, ⟨#[113, 45, 49]⟩, ⟨#[97]⟩, ⟨#[98]⟩, ⟨#[]⟩, ⟨#[65]⟩, ⟨#[97, 32, 98]⟩, ⟨#[48, 49, 50, 51, 52, 53, 54, 55, 56, 57, 48, 49, 50, 51, 52, 53, 54, 55, 56, 57, 48, 49, 50, 51, 52, 53, 54, 55, 56, 57, 48]⟩, ⟨#[48, 49, 50, 51, 52, 53, 54, 55, 56, 57, 48, 49, 50, 51, 52, 53, 54, 55, 56, 57, 48, 49, 50, 51, 52, 53, 54, 55, 56, 57]⟩]
theorem names_in : ∀ z ∈ names, z.size ≤ 31 := by decide
set_option maxRecDepth 100000 in
set_option maxHeartbeats 1000000 in
theorem draw_name (p : Nat) (a : Option Addr) (len cap : Nat) (w : World) (hc : Cur w p a len cap) :
    Calls Tryz.prog 57 #[.pointer (some ⟨p, 0, none⟩)] w fun e w' => (∃ s : ByteArray, s.size ≤ 31 ∧ e = .returned (.string s)) ∧ Cur w' p a len cap ∧ On p w w' := by
  have hp := hc.lt
  have h1 := draw_pick p a len cap w.heap.size 11 names _ (by omega) (by omega) (at_texts w names 9) (hc.alloc _)
  have hon : On p w (w.alloc (.cells (names.map Value.string).toArray 9)) := (On.refl p w).alloc _
  clear hc
  go_enter Tryz.func57, Tryz.ntmps57
  go_wp2_with (go_at_call 36; fail)
  refine h1.mono ?_
  rintro e w1 ⟨⟨z, hz, rfl⟩, hc1, hb1⟩
  have hz1 := names_in z hz
  have hon1 := hon.trans hb1
  clear h1 hz hb1 hon
  go_wp2
  go_ret
  exact ⟨⟨z, hz1, rfl⟩, hc1, hon1⟩
end Go.Proofs.YtnooibeohdfcmaaGreatDoor.dnm

/- The draw of one case out of n. -/
namespace Go.Proofs.YtnooibeohdfcmaaGreatDoor.dw
open Go.ChangeShapes Go.WideShapes Go.ChangeAt Go.RowKit

theorem draw_once (p : Nat) (a : Option Addr) (len cap n : Nat) (w : World) (hn : 1 ≤ n ∧ n ≤ 4294967296) (hc : Cur w p a len cap) :
    Calls Tryz.prog 23 #[.pointer (some ⟨p, 0, none⟩), .int .i64 n] w fun e w' => (∃ b : Bool, e = .returned (.bool b)) ∧ Cur w' p a len cap ∧ On p w w' := by
  have h1 := draw_below p a len cap n w hn hc
  clear hc
  go_enter Tryz.func23, Tryz.ntmps23
  go_wp2_with (go_at_call 45; refine h1.mono ?_; rintro e w1 ⟨⟨x, hx, rfl⟩, hc1, hb1⟩)
  go_ret
  exact ⟨⟨_, rfl⟩, hc1, hb1⟩
end Go.Proofs.YtnooibeohdfcmaaGreatDoor.dw
