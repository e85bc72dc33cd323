/- Rows of bindings of their own: what the laws' markBindingS and heldBindingS do with them. -/
import Derived.Test.YtpkljkahdclcgaaGreatRouteMarks0
namespace Go.Proofs.YtpkljkahdclcgaaGreat.rm
open Go.ChangeShapes Go.WideShapes Go.ChangeAt Go.RowKit Go.Proofs.YtpkljkahdclcgaaGreat.rr Go.Proofs.YtpkljkahdclcgaaGreat.ra Go.Proofs.YtpkljkahdclcgaaGreat.rt
set_option linter.unusedVariables false

theorem anyB {w : World} {g k : Nat} {l l' : List Bi} (h : FB w g l k) (hl : l'.length = l.length) : FB w g l' 0 := by
  obtain ⟨cur, h1, h2, _⟩ := h
  exact ⟨cur, h1, by omega, fun i e hi => by omega⟩
/-- block g is a row of bindings of at least n cells; the first k cells hold f -/
def CB (w : World) (g n : Nat) (f : Nat → Value) (k : Nat) : Prop := ∃ cur, w.heap[g]? = some (.cells cur 127 (0, 0)) ∧ n ≤ cur.size ∧ ∀ j, j < k → cur[j]? = some (f j)
theorem CB.at {w : World} {g n k : Nat} {f : Nat → Value} (h : CB w g n f k) (o : Nat) (ho : o < n) : ∃ v, w.cell? ⟨g, o, none⟩ = some v := by
  obtain ⟨cur, hg, hs, _⟩ := h
  exact ⟨cur[o]'(by omega), by simp [World.cell?, hg, Array.getElem?_eq_getElem (show o < cur.size by omega)]⟩
theorem CB.free {w : World} {g n k : Nat} {f : Nat → Value} (h : CB w g n f k) (o : Nat) : w.frozen? ⟨g, o, none⟩ = false := by
  obtain ⟨cur, hg, _⟩ := h
  simp [World.frozen?, hg]
theorem CB.below {w w' : World} {g n k B : Nat} {f : Nat → Value} (h : CB w g n f k) (hb : Below B w w') (hg : g < B) : CB w' g n f k := by
  obtain ⟨cur, h1, h2⟩ := h
  exact ⟨cur, by rw [hb.block g hg]; exact h1, h2⟩
theorem CB.lt {w : World} {g n k : Nat} {f : Nat → Value} (h : CB w g n f k) : g < w.heap.size := by
  obtain ⟨cur, hg, _⟩ := h
  exact (Array.getElem?_eq_some_iff.1 hg).1
theorem CB.put {w : World} {g n k : Nat} {f : Nat → Value} {v : Value} (h : CB w g n f k) (hk : k < n) (hv : f k = v) : CB (w.setCell ⟨g, k, none⟩ v) g n f (k + 1) := by
  obtain ⟨cur, h1, h2, h3⟩ := h
  refine ⟨_, heap_setCell_same w g k cur _ v h1, by simpa using h2, fun j hj => ?_⟩
  by_cases e : j = k
  · subst e
    simp [Array.getElem?_setIfInBounds, hv]
    omega
  · have hold := h3 j (by omega)
    simp only [Array.getElem?_setIfInBounds]
    rw [if_neg (by omega)]
    exact hold
/-- the marks of n bindings from the k0-th on -/
def mksB (k0 n : Nat) : List Bi := (List.range n).map fun i => ⟨sm.mt (k0 + i * 3), sm.mt (k0 + i * 3 + 1), sm.mt (k0 + i * 3 + 2)⟩
theorem mksB_at (k0 n k : Nat) (h : k < n) : (mksB k0 n)[k]? = some ⟨sm.mt (k0 + k * 3), sm.mt (k0 + k * 3 + 1), sm.mt (k0 + k * 3 + 2)⟩ := by simp [mksB, h]
theorem mksB_len (k0 n : Nat) : (mksB k0 n).length = n := by simp [mksB]
def fB (k0 j : Nat) : Value := .string (sm.mt (k0 + j))
theorem CB.of {w : World} {g k k0 : Nat} {l : List Bi} (h : FB w g l k) : CB w g (l.length * 3) (fB k0) 0 := by
  obtain ⟨cur, h1, h2, _⟩ := h
  exact ⟨cur, h1, h2, fun j hj => by omega⟩
theorem CB.all {w : World} {g k0 n : Nat} (h : CB w g (n * 3) (fB k0) (n * 3)) : FB w g (mksB k0 n) n := by
  obtain ⟨cur, h1, h2, h3⟩ := h
  refine ⟨cur, h1, by rw [mksB_len]; exact h2, fun i e hi he => ?_⟩
  rw [mksB_at k0 n i hi] at he
  cases he
  refine ⟨h3 _ (by omega), h3 _ (by omega), h3 _ (by omega)⟩

set_option maxRecDepth 100000 in
set_option maxHeartbeats 2000000 in
theorem mark_bis (n g c k0 : Nat) (w : World) (hl : n ≤ 2000000) (hk0 : 1 ≤ k0 ∧ k0 ≤ 1000000000000) (ha : CB w g (n * 3) (fB k0) 0) :
    Calls Tryz.prog 127 #[.slice (some ⟨g, 0, none⟩) n c, .int .i64 k0] w fun e w' => e = .returned (.int .i64 (k0 + n * 3 : Nat)) ∧ w.grownBy w' (some g) ∧ FB w' g (mksB k0 n) n := by
  have HA : Hid (CB w g (n * 3) (fB k0) (0 * 3)) := ha
  clear ha
  go_enter Tryz.func127, Tryz.ntmps127
  go_wp2
  go_loopw [1, 5] (fun y x wr => ∃ k : Nat, k ≤ n ∧ x = .int .i64 k ∧ y = .int .i64 (k0 + k * 3 : Nat) ∧ w.grownBy wr (some g) ∧ Hid (CB wr g (n * 3) (fB k0) (k * 3))) (fun _ x _ => n - (intOf x).toNat)
  case atStart => exact ⟨0, Nat.zero_le _, rfl, by simp, gb_refl _ _, HA⟩
  case round =>
    obtain ⟨k, hk, rfl, rfl, hbel, hf⟩ := hrel
    by_cases hkl : k < n
    · have e0 : fB k0 (k * 3) = .string (sm.mt (k0 + k * 3)) := rfl
      have e1 : fB k0 (k * 3 + 1) = .string (sm.mt (k0 + k * 3 + 1)) := rfl
      have e2 : fB k0 (k * 3 + 1 + 1) = .string (sm.mt (k0 + k * 3 + 1 + 1)) := rfl
      obtain ⟨m, hm⟩ : ∃ m, k0 + k * 3 = m := ⟨_, rfl⟩
      rw [hm] at e0 e1 e2
      rw [hm]
      have hm9 : m ≤ 9000000000000 := by omega
      have HM : Hid (k0 + k * 3 = m) := hm
      have hmt0 := fun W => sm.mark_text m W (by omega) (by omega)
      have hmt1 := fun W => sm.mark_text (m + 1) W (by omega) (by omega)
      have hmt2 := fun W => sm.mark_text (m + 1 + 1) W (by omega) (by omega)
      rw [show ((m + 1 : Nat) : Int) = (m : Int) + 1 by omega] at hmt1
      rw [show ((m + 1 + 1 : Nat) : Int) = (m : Int) + 1 + 1 by omega] at hmt2
      have E1 : Hid (fB k0 (k * 3 + 1) = .string (sm.mt (m + 1))) := e1
      have E2 : Hid (fB k0 (k * 3 + 1 + 1) = .string (sm.mt (m + 1 + 1))) := e2
      have E0 : Hid (fB k0 (k * 3) = .string (sm.mt m)) := e0
      clear hm e0 e1 e2
      go_wp2_with (go_at_call 128; fail)
      refine (hmt0 _).mono ?_
      rintro e w1 ⟨rfl, hb1⟩
      have f1 := hf.out.below hb1 hf.out.lt
      have b1 : w.grownBy (w1.setCell ⟨g, k * 3, none⟩ (.string (sm.mt m))) (some g) := gb_set (gb_below hbel hb1) _ _
      obtain ⟨v0, g0⟩ := f1.at (k * 3) (by omega)
      have z0 := f1.free (k * 3)
      have F1 : Hid (CB (w1.setCell ⟨g, k * 3, none⟩ (.string (sm.mt m))) g (n * 3) (fB k0) (k * 3 + 1)) := f1.put (by omega) E0.out
      clear f1
      go_wp2_with (go_at_call 128; fail)
      refine (hmt1 _).mono ?_
      rintro e w2 ⟨rfl, hb2⟩
      have f2 := F1.out.below hb2 F1.out.lt
      have b2 : w.grownBy (w2.setCell ⟨g, k * 3 + 1, none⟩ (.string (sm.mt (m + 1)))) (some g) := gb_set (gb_below b1 hb2) _ _
      obtain ⟨v1, g1⟩ := f2.at (k * 3 + 1) (by omega)
      have z1 := f2.free (k * 3 + 1)
      have F2 : Hid (CB (w2.setCell ⟨g, k * 3 + 1, none⟩ (.string (sm.mt (m + 1)))) g (n * 3) (fB k0) (k * 3 + 1 + 1)) := f2.put (by omega) E1.out
      clear f2 g0 z0
      go_wp2_with (go_at_call 128; fail)
      refine (hmt2 _).mono ?_
      rintro e w3 ⟨rfl, hb3⟩
      have f3 := F2.out.below hb3 F2.out.lt
      have b3 : w.grownBy (w3.setCell ⟨g, k * 3 + 2, none⟩ (.string (sm.mt (m + 1 + 1)))) (some g) := gb_set (gb_below b2 hb3) _ _
      obtain ⟨v2, g2⟩ := f3.at (k * 3 + 2) (by omega)
      have z2 := f3.free (k * 3 + 2)
      have F3 : Hid (CB (w3.setCell ⟨g, k * 3 + 2, none⟩ (.string (sm.mt (m + 1 + 1)))) g (n * 3) (fB k0) (k * 3 + 1 + 1 + 1)) := f3.put (by omega) E2.out
      clear f3 g1 z1
      go_wp2
      go_roundw
      case rel => exact ⟨k + 1, by omega, by go_num, by rw [show k0 + (k + 1) * 3 = m + 3 by have := HM.out; omega]; go_num, b3, by rw [show (k + 1) * 3 = k * 3 + 1 + 1 + 1 by omega]; exact F3⟩
      case measure => simp [intOf]; omega
    · obtain rfl : k = n := by omega
      go_wp2
      go_ret
      exact ⟨rfl, hbel, hf.out.all⟩

end Go.Proofs.YtpkljkahdclcgaaGreat.rm
