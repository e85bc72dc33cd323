/- Rows of exchanges of their own: what the laws' markExchangeS and heldExchangeS do with them. -/
import Derived.Test.YtpkljkahdclcgaaGreatRouteTo
import Derived.Test.YtpkljkahdclcgaaGreatMarkText
import Derived.Deep.RegionWith
import Derived.Laws.AppendOwn
namespace Go.Proofs.YtpkljkahdclcgaaGreat.rm
open Go.ChangeShapes Go.WideShapes Go.ChangeAt Go.RowKit Go.Proofs.YtpkljkahdclcgaaGreat.rr Go.Proofs.YtpkljkahdclcgaaGreat.ra Go.Proofs.YtpkljkahdclcgaaGreat.rt
set_option linter.unusedVariables false

section
variable {w w1 w2 : World} {r : Option Nat} {g : Nat}
theorem gb_refl (w : World) (r : Option Nat) : w.grownBy w r := ⟨rfl, rfl, rfl, Nat.le_refl _, fun _ _ _ => rfl⟩
theorem gb_below (h : w.grownBy w1 r) (hb : Below w1.heap.size w1 w2) : w.grownBy w2 r := h.trans ⟨hb.os, hb.tape, hb.output, hb.size, fun k hk _ => hb.block k hk⟩
theorem gb_set (h : w.grownBy w1 (some g)) (o : Nat) (v : Value) : w.grownBy (w1.setCell ⟨g, o, none⟩ v) (some g) := by
  have hb : Below 0 w1 (w1.setCell ⟨g, o, none⟩ v) := (Below.refl 0 w1).setCell (Nat.zero_le _) v
  exact h.trans ⟨hb.os, hb.tape, hb.output, hb.size, fun k hk hne => RowKit.Below.heap_setCell _ _ _ _ (by intro e; exact hne (by rw [e]))⟩
end
theorem anyE {w : World} {g k : Nat} {l l' : List Ex} (h : FE w g l k) (hl : l'.length = l.length) : FE w g l' 0 := by
  obtain ⟨cur, h1, h2, _⟩ := h
  exact ⟨cur, h1, by omega, fun i e hi => by omega⟩
/-- the marks of n exchanges from the k0-th on -/
def mksE (k0 n : Nat) : List Ex := (List.range n).map fun i => ⟨sm.mt (k0 + 2 * i), ((k0 + 2 * i : Nat) : Int) + 1⟩
theorem mksE_at (k0 n k : Nat) (h : k < n) : (mksE k0 n)[k]? = some ⟨sm.mt (k0 + 2 * k), ((k0 + 2 * k : Nat) : Int) + 1⟩ := by simp [mksE, h]
theorem mksE_len (k0 n : Nat) : (mksE k0 n).length = n := by simp [mksE]

set_option maxRecDepth 100000 in
set_option maxHeartbeats 1000000 in
theorem mark_exs (n g c k0 : Nat) (w : World) (hl : n ≤ 2000000) (hk0 : 1 ≤ k0 ∧ k0 ≤ 1000000000000) (ha : FE w g (mksE k0 n) 0) :
    Calls Tryz.prog 126 #[.slice (some ⟨g, 0, none⟩) n c, .int .i64 k0] w fun e w' => e = .returned (.int .i64 (k0 + 2 * n : Nat)) ∧ w.grownBy w' (some g) ∧ FE w' g (mksE k0 n) n := by
  have HA : Hid (FE w g (mksE k0 n) 0) := ha
  clear ha
  go_enter Tryz.func126, Tryz.ntmps126
  go_wp2
  go_loopw [1, 5] (fun y x wr => ∃ k : Nat, k ≤ n ∧ x = .int .i64 k ∧ y = .int .i64 (k0 + 2 * k : Nat) ∧ w.grownBy wr (some g) ∧ Hid (FE wr g (mksE k0 n) k)) (fun _ x _ => n - (intOf x).toNat)
  case atStart => exact ⟨0, Nat.zero_le _, rfl, rfl, gb_refl _ _, HA⟩
  case round =>
    obtain ⟨k, hk, rfl, rfl, hbel, hf⟩ := hrel
    by_cases hkl : k < n
    · have hg := mksE_at k0 n k hkl
      obtain ⟨m, hm⟩ : ∃ m, k0 + 2 * k = m := ⟨_, rfl⟩
      rw [hm] at hg
      rw [hm]
      have hm9 : m ≤ 9000000000000 := by omega
      have HG : Hid ((mksE k0 n)[k]? = some ⟨sm.mt m, (m : Int) + 1⟩) := hg
      have HM : Hid (k0 + 2 * k = m) := hm
      have hmt := fun W => sm.mark_text m W (by omega) (by omega)
      have hfl := hf.out.lt
      have hml := mksE_len k0 n
      have h20 : k * 2 < (mksE k0 n).length * 2 := by omega
      have h21 : k * 2 + 1 < (mksE k0 n).length * 2 := by omega
      clear hm hg hml
      go_wp2_with (go_at_call 128; refine (hmt _).mono ?_; rintro e w1 ⟨rfl, hb1⟩; have hf1 := hf.out.below hb1 hfl; obtain ⟨v0, g0⟩ := hf1.at (k * 2) h20; have z0 := hf1.free (k * 2); obtain ⟨v1, g1⟩ := hf1.at (k * 2 + 1) h21; have z1 := hf1.free (k * 2 + 1); have HN : Hid (FE ((w1.setCell ⟨g, k * 2, none⟩ (.string (sm.mt m))).setCell ⟨g, k * 2 + 1, none⟩ (.int .i64 ((m : Int) + 1))) g (mksE k0 n) (k + 1)) := FE.set (e := ⟨sm.mt m, (m : Int) + 1⟩) hf1 HG.out; clear hf1)
      go_roundw
      case rel => exact ⟨k + 1, by omega, by go_num, by rw [show k0 + 2 * (k + 1) = m + 2 by have := HM.out; omega]; go_num, gb_set (gb_set (gb_below hbel hb1) _ _) _ _, HN⟩
      case measure => simp [intOf]; omega
    · obtain rfl : k = n := by omega
      go_wp2
      go_ret
      exact ⟨rfl, hbel, hf.out⟩

end Go.Proofs.YtpkljkahdclcgaaGreat.rm
