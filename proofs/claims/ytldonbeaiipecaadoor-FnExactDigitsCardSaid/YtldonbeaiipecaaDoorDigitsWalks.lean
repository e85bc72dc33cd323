/- Both writers of digits with noughts ahead answer one text at every two numbers; new memory alone. -/
import Derived.Test.YtldonbeaiipecaaDoorDecTextWalks
import Derived.Test.YtldonbeaiipecaaDoorDecTextImpl
import Derived.Below
namespace Go.Proofs.YtldonbeaiipecaaDoor.dgt
open Go.ChangeShapes Go.WideShapes Go.ChangeAt Go.RowKit
set_option linter.unusedVariables false

theorem within (x a b : Int) (w : World) : Calls Tryd.prog 13 #[.int .i64 x, .int .i64 a, .int .i64 b] w fun e w' => e = .returned (.bool (decide (a ≤ x ∧ x ≤ b))) ∧ w = w' := by
  by_cases h1 : a ≤ x
  · by_cases h2 : x ≤ b
    · have e : decide (a ≤ x ∧ x ≤ b) = true := by simp [h1, h2]
      rw [e]
      go_enter Tryd.func13, Tryd.ntmps13
      go_wp2
      go_ret
      simp
    · have e : decide (a ≤ x ∧ x ≤ b) = false := by simp [h1, h2]
      rw [e]
      go_enter Tryd.func13, Tryd.ntmps13
      go_wp2
      go_ret
      simp
  · have e : decide (a ≤ x ∧ x ≤ b) = false := by simp [h1]
    rw [e]
    go_enter Tryd.func13, Tryd.ntmps13
    go_wp2
    go_ret
    exact ⟨rfl, rfl⟩


def zs (k : Nat) (l : List UInt8) : List UInt8 := List.replicate k 48 ++ l
def ans (n size : Int) (l : List UInt8) : ByteArray := if n < 0 ∨ size < 1 ∨ 18 < size ∨ size < l.length then ⟨#[]⟩ else ⟨(zs (size.toNat - l.length) l).toArray⟩
theorem more (k : Nat) (l : List UInt8) : (⟨#[48]⟩ : ByteArray) ++ ⟨(zs k l).toArray⟩ = ⟨(zs (k + 1) l).toArray⟩ := ByteArray.ext (by simp [zs, List.replicate_succ])
theorem long (k : Nat) (l : List UInt8) : (⟨(zs k l).toArray⟩ : ByteArray).size = k + l.length := by simp [ByteArray.size, zs]

set_option maxRecDepth 100000 in
theorem spec_digits (n size : Int) (w : World) (h0 : -9223372036854775808 ≤ n) (h1 : n ≤ 9223372036854775807) :
    Calls Tryd.prog 10 #[.int .i64 n, .int .i64 size] w fun e w' => e = .returned (.string (ans n size (Lib.itoa n))) ∧ w' = w := by
  have hd := dt.spec_dec n w h0 h1
  obtain ⟨T, hT⟩ : ∃ T, Lib.itoa n = T := ⟨_, rfl⟩
  rw [hT] at hd ⊢
  clear hT
  have hin := within size 1 18 w
  by_cases hneg : n < 0
  · go_enter Tryd.func10, Tryd.ntmps10
    go_wp2_with (go_at_call 6; refine hd.mono ?_; rintro e w' ⟨rfl, rfl⟩)
    go_ret
    exact ⟨by simp [ans, hneg], rfl⟩
  by_cases hs : 1 ≤ size ∧ size ≤ 18
  · have hdc : decide (1 ≤ size ∧ size ≤ 18) = true := by simp [hs]
    rw [hdc] at hin
    obtain ⟨u, hu⟩ : ∃ u : ByteArray, (⟨T.toArray⟩ : ByteArray) = u := ⟨_, rfl⟩
    have hul : u.size = T.length := by rw [← hu]; rfl
    rw [hu] at hd
    obtain ⟨hs1, hs2⟩ := hs
    by_cases hl : size < (T.length : Int)
    · have hans : ans n size T = ⟨#[]⟩ := by unfold ans; rw [if_pos (by omega)]
      have hlt : size < (u.size : Int) := by omega
      clear hl hul hu hdc
      go_enter Tryd.func10, Tryd.ntmps10
      go_wp2_with (first | (go_at_call 6; refine hd.mono ?_; rintro e w' ⟨rfl, rfl⟩) | (go_at_call 13; refine hin.mono ?_; rintro e w' ⟨rfl, rfl⟩))
      go_ret
      exact ⟨by rw [hans]; rfl, rfl⟩
    · obtain ⟨S, rfl⟩ : ∃ S : Nat, size = S := ⟨size.toNat, by omega⟩
      have hans : ans n S T = ⟨(zs (S - T.length) T).toArray⟩ := by
        unfold ans
        rw [if_neg (by omega)]
        simp
      have HANS : Hid (ans n S T = ⟨(zs (S - T.length) T).toArray⟩) := hans
      have hTS : T.length ≤ S := by omega
      have hlt : ¬ (S : Int) < (u.size : Int) := by omega
      have HU : Hid (u = ⟨(zs 0 T).toArray⟩) := by show u = _; rw [← hu]; simp [zs]
      clear hans hdc hul hu hl
      go_enter Tryd.func10, Tryd.ntmps10
      go_wp2_with (first | (go_at_call 6; refine hd.mono ?_; rintro e w' ⟨rfl, rfl⟩) | (go_at_call 13; refine hin.mono ?_; rintro e w' ⟨rfl, rfl⟩))
      go_loopw [5] (fun s wr => ∃ (k : Nat) (b : ByteArray), k ≤ S - T.length ∧ s = .string b ∧ Hid (b = ⟨(zs k T).toArray⟩) ∧ wr = w) (fun s _ => match s with | .string b => S - b.size | _ => 0)
      case atStart => exact ⟨0, u, Nat.zero_le _, rfl, HU, rfl⟩
      case round =>
        obtain ⟨k, b, hk, rfl, hb, rfl⟩ := hrel
        have hlen : b.size = k + T.length := by rw [hb.out]; exact long k T
        have HLN : Hid (b.size = k + T.length) := hlen
        have HM : Hid ((⟨#[48]⟩ : ByteArray) ++ b = ⟨(zs (k + 1) T).toArray⟩) := by show _ = _; rw [hb.out]; exact more k T
        by_cases hkl : k < S - T.length
        · have hlt2 : (b.size : Int) < S := by omega
          have hb20 : b.size ≤ 20 := by omega
          clear hlen hlt
          go_wp2
          go_roundw
          case rel => exact ⟨k + 1, _, by omega, rfl, HM, by trivial⟩
          case measure =>
            have h2 := long (k + 1) T
            have h3 := HM.out
            have h4 := HLN.out
            simp only
            rw [h3, h2, h4]
            omega
        · obtain rfl : k = S - T.length := by omega
          have hlt2 : ¬ (b.size : Int) < S := by omega
          have HB : Hid (ans n S T = b) := by show _ = _; rw [hb.out]; exact HANS.out
          clear hlen hlt
          go_wp2
          go_ret
          exact ⟨by rw [HB.out]; rfl, rfl⟩
  · have hdc : decide (1 ≤ size ∧ size ≤ 18) = false := by simp; omega
    rw [hdc] at hin
    have hans : ans n size T = ⟨#[]⟩ := by unfold ans; rw [if_pos (by omega)]
    go_enter Tryd.func10, Tryd.ntmps10
    go_wp2_with (first | (go_at_call 6; refine hd.mono ?_; rintro e w' ⟨rfl, rfl⟩) | (go_at_call 13; refine hin.mono ?_; rintro e w' ⟨rfl, rfl⟩))
    go_ret
    exact ⟨by rw [hans]; rfl, rfl⟩

theorem pre (a : ByteArray) (v : Bool) (w : World) (h : 1 ≤ a.size) (hv : ((a.extract 0 1).toList == [48]) = v) : Calls Tryd.prog 20 #[.string a, .string ⟨#[48]⟩] w fun e w' => e = .returned (.bool v) ∧ w' = w := by
  have hv2 : ((a.extract 0 1).toList == (⟨#[48]⟩ : ByteArray).toList) = v := by rw [← hv, show (⟨#[48]⟩ : ByteArray).toList = [48] by decide +kernel]
  have h2 : (1 : Int) ≤ (a.size : Int) := by omega
  cases v
  · go_enter Tryd.func20, Tryd.ntmps20
    go_wp2
    go_ret
    exact ⟨rfl, rfl⟩
  · go_enter Tryd.func20, Tryd.ntmps20
    go_wp2
    go_ret
    exact ⟨rfl, rfl⟩
set_option maxHeartbeats 4000000 in
theorem mul1 (c : Nat) (w : World) (hc : c ≤ 17) : Calls Tryd.prog 19 #[.int .u64 1, .int .u64 c] w fun e w' => e = .returned (.tuple #[.int .u64 0, .int .u64 c]) ∧ w' = w := by
  have : c = 0 ∨ c = 1 ∨ c = 2 ∨ c = 3 ∨ c = 4 ∨ c = 5 ∨ c = 6 ∨ c = 7 ∨ c = 8 ∨ c = 9 ∨ c = 10 ∨ c = 11 ∨ c = 12 ∨ c = 13 ∨ c = 14 ∨ c = 15 ∨ c = 16 ∨ c = 17 := by omega
  rcases this with rfl | rfl | rfl | rfl | rfl | rfl | rfl | rfl | rfl | rfl | rfl | rfl | rfl | rfl | rfl | rfl | rfl | rfl
  all_goals
    go_enter Tryd.func19, Tryd.ntmps19
    go_wp2
    refine bodyPost_ret (v := .tuple #[.int .u64 0, .int .u64 _]) (by simp [results, Tryd.results19, go_sem]; first | done | decide | exact ⟨by decide, by decide⟩) rfl ⟨rfl, rfl⟩

set_option maxRecDepth 100000 in
set_option maxHeartbeats 4000000 in
theorem noughts (c : Nat) (w : World) (hc : c ≤ 17) : Calls Tryd.prog 15 #[.string ⟨#[48]⟩, .int .i64 c] w fun e w' => e = .returned (.string ⟨(List.replicate c 48).toArray⟩) ∧ Below w.heap.size w w' := by
  have hmu := mul1 c w hc
  have : c = 0 ∨ c = 1 ∨ c = 2 ∨ c = 3 ∨ c = 4 ∨ c = 5 ∨ c = 6 ∨ c = 7 ∨ c = 8 ∨ c = 9 ∨ c = 10 ∨ c = 11 ∨ c = 12 ∨ c = 13 ∨ c = 14 ∨ c = 15 ∨ c = 16 ∨ c = 17 := by omega
  rcases this with rfl | rfl | rfl | rfl | rfl | rfl | rfl | rfl | rfl | rfl | rfl | rfl | rfl | rfl | rfl | rfl | rfl | rfl
  all_goals
    go_enter Tryd.func15, Tryd.ntmps15
    go_wp2_with (first | (go_at_call 19; refine hmu.mono ?_; rintro e w1 ⟨rfl, hw1⟩; obtain rfl := hw1.symm) | (go_at_call 20; first | (refine (pre _ false _ (by decide +kernel) (by decide +kernel)).mono ?_; rintro e w1 ⟨rfl, hw1⟩; obtain rfl := hw1.symm) | (refine (pre _ true _ (by decide +kernel) (by decide +kernel)).mono ?_; rintro e w1 ⟨rfl, hw1⟩; obtain rfl := hw1.symm)))
    go_ret
    exact ⟨by kernel_rfl, Below.refl _ _⟩

set_option maxRecDepth 100000 in
theorem impl_digits (n size : Int) (w : World) (h0 : -9223372036854775808 ≤ n) (h1 : n ≤ 9223372036854775807) (hz0 : -9223372036854775808 ≤ size) (hz1 : size ≤ 9223372036854775807) (htab : Lib.TabIs Tryd.prog w "internal/strconv.uint64pow10" .u64 Lib.pow10Tab) (hne : (Lib.itoa n).length ≠ 0) :
    Calls Tryd.prog 11 #[.int .i64 n, .int .i64 size] w fun e w' => e = .returned (.string (ans n size (Lib.itoa n))) ∧ Below w.heap.size w w' := by
  have hd := di.impl_dec n w h0 h1 htab
  clear htab
  obtain ⟨T, hT⟩ : ∃ T, Lib.itoa n = T := ⟨_, rfl⟩
  rw [hT] at hd hne ⊢
  clear hT
  by_cases hbad : n < 0 ∨ size < 1 ∨ 18 < size
  · have hans : ans n size T = ⟨#[]⟩ := by unfold ans; rw [if_pos (by omega)]
    rw [hans]
    clear hans hd
    by_cases hneg : n < 0
    · go_enter Tryd.func11, Tryd.ntmps11
      go_wp2
      go_ret
      exact ⟨rfl, Below.refl _ _⟩
    by_cases hs : size < 1
    · go_enter Tryd.func11, Tryd.ntmps11
      go_wp2
      go_ret
      exact ⟨rfl, Below.refl _ _⟩
    · have hs2 : 18 < size := by omega
      go_enter Tryd.func11, Tryd.ntmps11
      go_wp2
      go_ret
      exact ⟨rfl, Below.refl _ _⟩
  have hneg : ¬ n < 0 := by omega
  have hs : ¬ size < 1 := by omega
  have hs2 : ¬ 18 < size := by omega
  have hlen : (⟨T.toArray⟩ : ByteArray).size = T.length := rfl
  obtain ⟨b, hb⟩ : ∃ b : ByteArray, (⟨T.toArray⟩ : ByteArray) = b := ⟨_, rfl⟩
  rw [hb] at hd hlen
  by_cases hl : size < (T.length : Int)
  · have hans : ans n size T = ⟨#[]⟩ := by unfold ans; rw [if_pos (by omega)]
    rw [hans]
    have hlt : size < (b.size : Int) := by omega
    clear hans hbad hlen hl
    go_enter Tryd.func11, Tryd.ntmps11
    go_wp2_with (go_at_call 7; refine hd.mono ?_; rintro e w1 ⟨rfl, hb1⟩)
    go_ret
    exact ⟨rfl, hb1⟩
  · obtain ⟨S, rfl⟩ : ∃ S : Nat, size = S := ⟨size.toNat, by omega⟩
    have hans : ans n S T = ⟨(List.replicate (S - T.length) 48).toArray⟩ ++ b := by
      unfold ans
      rw [if_neg (by omega), ← hb]
      exact ByteArray.ext (by simp [zs])
    rw [hans]
    obtain ⟨k, hk⟩ : ∃ k : Nat, S - T.length = k := ⟨_, rfl⟩
    rw [hk]
    have hkk : (S : Int) - (b.size : Int) = k := by omega
    have hlt : ¬ (S : Int) < (b.size : Int) := by omega
    have hk17 : k ≤ 17 := by omega
    have hrs : (⟨(List.replicate k 48).toArray⟩ : ByteArray).size = k := by simp [ByteArray.size]
    have hr : ∀ V, Calls Tryd.prog 15 #[.string ⟨#[48]⟩, .int .i64 ((S : Int) - (b.size : Int))] V fun e w' => e = .returned (.string ⟨(List.replicate k 48).toArray⟩) ∧ Below V.heap.size V w' := fun V => by rw [hkk]; exact noughts k V hk17
    obtain ⟨z, hz⟩ : ∃ z : ByteArray, (⟨(List.replicate k 48).toArray⟩ : ByteArray) = z := ⟨_, rfl⟩
    rw [hz] at hr hrs ⊢
    have HR : Hid (∀ V, Calls Tryd.prog 15 #[.string ⟨#[48]⟩, .int .i64 ((S : Int) - (b.size : Int))] V fun e w' => e = .returned (.string z) ∧ Below V.heap.size V w') := hr
    have hbs : b.size ≤ 20 := by omega
    have hzs : z.size ≤ 20 := by omega
    clear hans hbad hlen hl hk hkk hr hrs
    go_enter Tryd.func11, Tryd.ntmps11
    go_wp2_with (go_at_call 7; fail)
    refine hd.mono ?_
    rintro e w1 ⟨rfl, hb1⟩
    go_wp2_with (go_at_call 15; fail)
    refine (HR.out _).mono ?_
    rintro e w2 ⟨rfl, hb2⟩
    have hfin := hb1.trans (hb2.mono hb1.size)
    go_wp2
    go_ret
    exact ⟨rfl, hfin⟩
theorem dec_ne (u : Nat) : (Lib.decDigits u).length ≠ 0 := by
  rw [Lib.decDigits]
  by_cases h : u < 10
  · rw [dif_pos h]; simp
  · rw [dif_neg h]; simp
theorem ne_nil (n : Int) : (Lib.itoa n).length ≠ 0 := by
  unfold Lib.itoa
  by_cases h : n < 0
  · rw [if_pos h]; simp
  · rw [if_neg h]; exact dec_ne _
end Go.Proofs.YtldonbeaiipecaaDoor.dgt
