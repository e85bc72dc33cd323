/- The text that the laws mark a list with: laws.markText. -/
import Derived.Test.YtpkljkahdclcgaaGreatRows
import Derived.WalkKit
import Derived.WalkLawsBesides
import Derived.WalkSpells
import Derived.ProofKit
import Derived.OpenShut
import Derived.ShutString
import Derived.Laws.BytesArg
import Derived.Lib.ItoaNum
import Derived.Lib.Strings
import Derived.Deep.RegionWith
namespace Go.Proofs.YtpkljkahdclcgaaGreat.sm
open Go.ChangeShapes Go.WideShapes Go.ChangeAt Go.RowKit

/-- the k-th mark -/
def mt (k : Nat) : ByteArray := ⟨(109 :: Lib.decDigits k).toArray⟩
def pre (a : Nat) : List UInt8 := if a = 0 then [] else Lib.decDigits a
theorem pre_step {a : Nat} (h : a ≠ 0) : pre a = pre (a / 10) ++ [UInt8.ofNat (48 + a % 10)] := by
  unfold pre
  rw [if_neg h, Lib.decDigits]
  by_cases h10 : a < 10
  · rw [dif_pos h10, if_pos (by omega), Nat.mod_eq_of_lt h10]; rfl
  · rw [dif_neg h10, if_neg (by omega)]
theorem digits_le : ∀ (k u : Nat), u < 10 ^ (k + 1) → (Lib.decDigits u).length ≤ k + 1
  | 0, u, h => by rw [Lib.decDigits, dif_pos (by omega)]; simp
  | k + 1, u, h => by
    rw [Lib.decDigits]
    by_cases h10 : u < 10
    · rw [dif_pos h10]; simp
    · rw [dif_neg h10]
      have := digits_le k (u / 10) (by rw [Nat.pow_succ] at h; omega)
      simp
      omega
theorem conv_one (wr : World) (v : Int) : (convert 212 9 (Value.slice (some { block := wr.heap.size, off := 0 }) 1 1)).run Tryz.prog (wr.alloc (.cells #[.int .u8 v] 5)) = .ok (.string (strOfNums [v])) (wr.alloc (.cells #[.int .u8 v] 5)) :=
  run_convert_bytes_arg (P := Tryz.prog) _ 212 5 Tryz.underlying212 Tryz.underlying5 _ 0 1 1 [v] rfl (fun i hi => by
    obtain rfl : i = 0 := by omega
    simp) 9 Tryz.underlying9

theorem mark_text (n : Nat) (w : World) (hn : n ≤ 9000000000000000000) (h0 : 1 ≤ n) :
    Calls Tryz.prog 128 #[.int .i64 n] w fun e w' => e = .returned (.string (mt n)) ∧ Below w.heap.size w w' := by
  have hD : Hid ((Lib.decDigits n).length ≤ 20) := digits_le 19 n (by omega)
  go_enter Tryz.func128, Tryz.ntmps128
  go_wp2
  go_loopw [0, 3] (fun m o wr => ∃ (a : Nat) (l : List UInt8), a ≤ n ∧ m = .int .i64 a ∧ o = .string ⟨l.toArray⟩ ∧ Hid (pre a ++ l = Lib.decDigits n) ∧ Below w.heap.size w wr) (fun m _ _ => (intOf m).toNat)
  case atStart => exact ⟨n, [], Nat.le_refl _, rfl, rfl, by unfold Hid; simp [pre]; omega, Below.refl _ _⟩
  case round =>
    obtain ⟨a, l, ha, rfl, rfl, hl, hbel⟩ := hrel
    have hls : l.length ≤ 20 := by
      have h1 := congrArg List.length hl.out
      have h2 := hD.out
      simp at h1
      omega
    by_cases haz : a = 0
    · subst haz
      have hll : l = Lib.decDigits n := by simpa [Hid, pre] using hl
      subst hll
      go_wp2
      go_ret
      exact ⟨congrArg (fun s => Ending.returned (Value.string s)) (ByteArray.ext (by simp [mt])), hbel⟩
    · have hc := fun v => conv_one wr v
      have h1 : ∀ v, (strOfNums [v]).size = 1 := fun v => strOfNums_size [v]
      have hp : (0 : Int) < (a : Int) := by omega
      go_wp2
      go_roundw
      case rel =>
        refine ⟨a / 10, UInt8.ofNat (48 + a % 10) :: l, by omega, by go_num, ?_, by unfold Hid; rw [← hl.out, pre_step haz]; simp, hbel.alloc (by have := hbel.size; omega) _⟩
        refine congrArg Value.string (ByteArray.ext ?_)
        have e : (48 + (a : Int) % 10).toNat = 48 + a % 10 := by omega
        simp [strOfNums, e]
      case measure => simp [intOf]; omega
end Go.Proofs.YtpkljkahdclcgaaGreat.sm
