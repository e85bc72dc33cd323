/- Fail, the specification's and the program's: the method 10 50 with both texts, or with both empty. -/
import Derived.Test.YtiphjegaodaooaaPutShortWalks0
import Derived.Test.YtiphjegaodaooaaMarkRows0
import Derived.Test.YtiphjegaodaooaaCloneLaid
import Derived.Test.YtiphjegaodaooaaFlatLib
namespace Go.Proofs.Ytiphjegaodaooaa.fai
open Go.ChangeShapes Go.WideShapes Go.ChangeAt Go.RowKit Go.Proofs.Ytiphjegaodaooaa.ls Go.Proofs.Ytiphjegaodaooaa.me Go.Proofs.Ytiphjegaodaooaa.mr
set_option linter.unusedVariables false

/-- what is told: both texts, or both empty -/
def both (a b : ByteArray) : List ByteArray := if a.size ≤ 255 ∧ b.size ≤ 255 then [a, b] else [⟨#[]⟩, ⟨#[]⟩]
theorem both_len (a b : ByteArray) : (both a b).length = 2 := by unfold both; split <;> rfl
theorem both_yes {a b : ByteArray} (h1 : a.size ≤ 255) (h2 : b.size ≤ 255) : both a b = [a, b] := if_pos ⟨h1, h2⟩
theorem both_no {a b : ByteArray} (h : ¬ (a.size ≤ 255 ∧ b.size ≤ 255)) : both a b = [⟨#[]⟩, ⟨#[]⟩] := if_neg h
/-- the answer: a row of its own with both -/
def An (w : World) (a b : ByteArray) (e : Ending) (w' : World) : Prop := ∃ g, e = .returned (.agg #[.int .i64 10, .int .i64 50, .slice (some ⟨g, 0, none⟩) 2 2, .slice none 0 0, .bool false, .string ⟨#[]⟩]) ∧ w.heap.size ≤ g ∧ sm.Has w' g 2 (both a b) ∧ Below w.heap.size w w'
theorem has_new (w : World) (x y : ByteArray) : sm.Has (w.alloc (.cells #[.string x, .string y] 9)) w.heap.size 2 [x, y] := by
  exact ⟨_, heap_alloc_new w _, Nat.le_refl 2, rfl, rfl⟩
theorem out_ne {a : ByteArray} (h : a.size ≤ 255) : ∃ s, ps.out a = s ∧ (s.toList == ([] : List UInt8)) = false := by
  refine ⟨_, rfl, ?_⟩
  unfold ps.out
  rw [if_pos h]
  have hz : (pi.text a.size 1).size = 1 := by
    have hf : pi.fits a.size 1 = true := by simp [pi.fits, sz.mostOf]; omega
    unfold pi.text
    rw [if_pos hf, strOfNums_size, pi.lo_length]
    rfl
  have hs : (pi.text a.size 1 ++ a).size = 1 + a.size := by rw [ByteArray.size_append, hz]
  obtain ⟨s, hs'⟩ : ∃ s, pi.text a.size 1 ++ a = s := ⟨_, rfl⟩
  rw [hs'] at hs ⊢
  obtain ⟨⟨l⟩⟩ := s
  cases l with
  | nil => exact absurd hs (by show (0 : Nat) ≠ _; omega)
  | cons x r => simp [ByteArray.toList_eq]
theorem spec_fail (a b : ByteArray) (w : World) (ha : a.size ≤ 1048576) (hb : b.size ≤ 1048576) : Calls Try.prog 5 #[.string a, .string b] w fun e w' => An w a b e w' := by
  by_cases h1 : (255 : Int) < a.size
  · go_enter Try.func5, Try.ntmps5
    go_wp2
    refine bodyPost_ret (v := .agg #[.int .i64 10, .int .i64 50, .slice (some ⟨w.heap.size + 1, 0, none⟩) 2 2, .slice none 0 0, .bool false, .string ⟨#[]⟩]) (by simp [results, Try.results5, go_sem]) rfl ⟨w.heap.size + 1, rfl, by omega, ?_, ((Below.refl _ _).alloc (Nat.le_refl _) _).alloc (by simp) _⟩
    rw [both_no (by omega)]
    have := has_new (w.alloc (.cells #[.int .i64 10, .int .i64 50, .slice (some ⟨w.heap.size + 1, 0, none⟩) 2 2, .slice none 0 0, .bool false, .string ⟨#[]⟩] 27)) ⟨#[]⟩ ⟨#[]⟩
    rwa [World.size_alloc] at this
  by_cases h2 : (255 : Int) < b.size
  · go_enter Try.func5, Try.ntmps5
    go_wp2
    refine bodyPost_ret (v := .agg #[.int .i64 10, .int .i64 50, .slice (some ⟨w.heap.size + 1, 0, none⟩) 2 2, .slice none 0 0, .bool false, .string ⟨#[]⟩]) (by simp [results, Try.results5, go_sem]) rfl ⟨w.heap.size + 1, rfl, by omega, ?_, ((Below.refl _ _).alloc (Nat.le_refl _) _).alloc (by simp) _⟩
    rw [both_no (by omega)]
    have := has_new (w.alloc (.cells #[.int .i64 10, .int .i64 50, .slice (some ⟨w.heap.size + 1, 0, none⟩) 2 2, .slice none 0 0, .bool false, .string ⟨#[]⟩] 27)) ⟨#[]⟩ ⟨#[]⟩
    rwa [World.size_alloc] at this
  go_enter Try.func5, Try.ntmps5
  go_wp2
  refine bodyPost_ret (v := .agg #[.int .i64 10, .int .i64 50, .slice (some ⟨w.heap.size + 1, 0, none⟩) 2 2, .slice none 0 0, .bool false, .string ⟨#[]⟩]) (by simp [results, Try.results5, go_sem]) rfl ⟨w.heap.size + 1, rfl, by omega, ?_, ((Below.refl _ _).alloc (Nat.le_refl _) _).alloc (by simp) _⟩
  rw [both_yes (by omega) (by omega)]
  have := has_new (w.alloc (.cells #[.int .i64 10, .int .i64 50, .slice (some ⟨w.heap.size + 1, 0, none⟩) 2 2, .slice none 0 0, .bool false, .string ⟨#[]⟩] 27)) a b
  rwa [World.size_alloc] at this

set_option maxRecDepth 100000 in
set_option maxHeartbeats 1000000 in
theorem impl_fail (a b : ByteArray) (w : World) (ha : a.size ≤ 1048576) (hb : b.size ≤ 1048576) : Calls Try.prog 6 #[.string a, .string b] w fun e w' => An w a b e w' := by
  have p1 := fun W => ps.impl_putShort a W ha
  have p2 := fun W => ps.impl_putShort b W hb
  have hA := fl.bnew w #[.int .i64 0, .int .i64 0, .slice none 0 0, .slice none 0 0, .bool false, .string ⟨#[]⟩] 27
  have hb0 : Below w.heap.size w (w.alloc (.cells #[.int .i64 0, .int .i64 0, .slice none 0 0, .slice none 0 0, .bool false, .string ⟨#[]⟩] 27)) := (Below.refl _ _).alloc (Nat.le_refl _) _
  have hl0 : w.heap.size < (w.alloc (.cells #[.int .i64 0, .int .i64 0, .slice none 0 0, .slice none 0 0, .bool false, .string ⟨#[]⟩] 27)).heap.size := by simp
  obtain ⟨W, hW⟩ : ∃ W, w.alloc (.cells #[.int .i64 0, .int .i64 0, .slice none 0 0, .slice none 0 0, .bool false, .string ⟨#[]⟩] 27) = W := ⟨_, rfl⟩
  rw [hW] at hA hb0 hl0
  have HA : Hid (W.heap[w.heap.size]? = some (.cells #[.int .i64 0, .int .i64 0, .slice none 0 0, .slice none 0 0, .bool false, .string ⟨#[]⟩] 27 (0, 0))) := hA
  clear hA
  by_cases h1 : (255 : Int) < a.size
  · have e1 : ps.out a = ⟨#[]⟩ := by unfold ps.out; rw [if_neg (by omega)]; rfl
    rw [e1] at p1
    go_enter Try.func6, Try.ntmps6
    go_wp2_with (go_at_call 15; refine (p1 _).mono ?_; rintro e w1 ⟨rfl, hb1⟩)
    have k3 := fun W => cl.clone ⟨#[]⟩ W (by decide)
    have k4 := fun W => cl.clone ⟨#[]⟩ W (by decide)
    have t3 : True := trivial
    go_wp2_with (go_at_call 16; have _t := t3; refine (k3 _).mono ?_; rintro e w3 ⟨rfl, hb3⟩; clear t3 _t)
    go_wp2_with (go_at_call 16; fail)
    refine (k4 _).mono ?_
    rintro e w4 ⟨rfl, hb4⟩
    have hB4 : Below W.heap.size W w4 := (hb1.trans (hb3.mono hb1.size)).trans (hb4.mono (Nat.le_trans hb1.size hb3.size))
    have hal : Below w4.heap.size w4 (w4.alloc (.cells #[.string ⟨#[]⟩, .string ⟨#[]⟩] 9)) := (Below.refl _ _).alloc (Nat.le_refl _) _
    have hnew := has_new w4 ⟨#[]⟩ ⟨#[]⟩
    have hs4 := hB4.size
    obtain ⟨X, hX⟩ : ∃ X, w4.alloc (.cells #[.string ⟨#[]⟩, .string ⟨#[]⟩] 9) = X := ⟨_, rfl⟩
    rw [hX] at hal hnew
    have hBX : Below W.heap.size W X := hB4.trans (hal.mono hs4)
    have u := fl.bstay HA.out hBX hl0
    have z0 : X.cell? ⟨w.heap.size, 0, none⟩ = some (.int .i64 0) := fl.bcell u rfl
    have z1 : X.cell? ⟨w.heap.size, 1, none⟩ = some (.int .i64 0) := fl.bcell u rfl
    have z2 : X.cell? ⟨w.heap.size, 2, none⟩ = some (.slice none 0 0) := fl.bcell u rfl
    have z3 : X.cell? ⟨w.heap.size, 3, none⟩ = some (.slice none 0 0) := fl.bcell u rfl
    have z4 : X.cell? ⟨w.heap.size, 4, none⟩ = some (.bool false) := fl.bcell u rfl
    have z5 : X.cell? ⟨w.heap.size, 5, none⟩ = some (.string ⟨#[]⟩) := fl.bcell u rfl
    have f0 := fl.bfree u 0
    have f1 := fl.bfree u 1
    have f2 := fl.bfree u 2
    have f3 := fl.bfree u 3
    have f4 := fl.bfree u 4
    have f5 := fl.bfree u 5
    have HN : Hid (sm.Has X w4.heap.size 2 [⟨#[]⟩, ⟨#[]⟩]) := hnew
    clear u hnew k3 k4 p1 p2
    go_wp2
    refine bodyPost_ret (v := .agg #[.int .i64 10, .int .i64 50, .slice (some ⟨w4.heap.size, 0, none⟩) 2 2, .slice none 0 0, .bool false, .string ⟨#[]⟩]) (by simp [results, Try.results6, go_sem, z0, z1, z2, z3, z4, z5]) rfl ⟨w4.heap.size, rfl, by omega, ?_, ?_⟩
    · rw [both_no (by omega)]
      have e : ∀ (Y : World) (o : Nat) (v : Value), sm.Has Y w4.heap.size 2 [⟨#[]⟩, ⟨#[]⟩] → sm.Has (Y.setCell ⟨w.heap.size, o, none⟩ v) w4.heap.size 2 [⟨#[]⟩, ⟨#[]⟩] := fun Y o v h => has_other h (by show w4.heap.size ≠ w.heap.size; omega) v
      exact e _ _ _ (e _ _ _ (e _ _ _ (e _ _ _ (e _ _ _ (e _ _ _ HN.out)))))
    · have hbw := hb0.trans (hBX.mono hb0.size)
      exact (((((hbw.setCell (Nat.le_refl _) _).setCell (Nat.le_refl _) _).setCell (Nat.le_refl _) _).setCell (Nat.le_refl _) _).setCell (Nat.le_refl _) _).setCell (Nat.le_refl _) _
  obtain ⟨s1, q1, n1⟩ := out_ne (a := a) (by omega)
  rw [q1] at p1
  clear q1
  by_cases h2 : (255 : Int) < b.size
  · have e2 : ps.out b = ⟨#[]⟩ := by unfold ps.out; rw [if_neg (by omega)]; rfl
    rw [e2] at p2
    go_enter Try.func6, Try.ntmps6
    have t1 : True := trivial
    go_wp2_with (go_at_call 15; have _t := t1; refine (p1 _).mono ?_; rintro e w1 ⟨rfl, hb1⟩; clear t1 _t)
    go_wp2_with (go_at_call 15; refine (p2 _).mono ?_; rintro e w2 ⟨rfl, hb2⟩; have hb12 : Below W.heap.size W w2 := hb1.trans (hb2.mono hb1.size))
    have k3 := fun W => cl.clone ⟨#[]⟩ W (by decide)
    have k4 := fun W => cl.clone ⟨#[]⟩ W (by decide)
    have t3 : True := trivial
    go_wp2_with (go_at_call 16; have _t := t3; refine (k3 _).mono ?_; rintro e w3 ⟨rfl, hb3⟩; clear t3 _t)
    go_wp2_with (go_at_call 16; fail)
    refine (k4 _).mono ?_
    rintro e w4 ⟨rfl, hb4⟩
    have hB4 : Below W.heap.size W w4 := (hb12.trans (hb3.mono hb12.size)).trans (hb4.mono (Nat.le_trans hb12.size hb3.size))
    have hal : Below w4.heap.size w4 (w4.alloc (.cells #[.string ⟨#[]⟩, .string ⟨#[]⟩] 9)) := (Below.refl _ _).alloc (Nat.le_refl _) _
    have hnew := has_new w4 ⟨#[]⟩ ⟨#[]⟩
    have hs4 := hB4.size
    obtain ⟨X, hX⟩ : ∃ X, w4.alloc (.cells #[.string ⟨#[]⟩, .string ⟨#[]⟩] 9) = X := ⟨_, rfl⟩
    rw [hX] at hal hnew
    have hBX : Below W.heap.size W X := hB4.trans (hal.mono hs4)
    have u := fl.bstay HA.out hBX hl0
    have z0 : X.cell? ⟨w.heap.size, 0, none⟩ = some (.int .i64 0) := fl.bcell u rfl
    have z1 : X.cell? ⟨w.heap.size, 1, none⟩ = some (.int .i64 0) := fl.bcell u rfl
    have z2 : X.cell? ⟨w.heap.size, 2, none⟩ = some (.slice none 0 0) := fl.bcell u rfl
    have z3 : X.cell? ⟨w.heap.size, 3, none⟩ = some (.slice none 0 0) := fl.bcell u rfl
    have z4 : X.cell? ⟨w.heap.size, 4, none⟩ = some (.bool false) := fl.bcell u rfl
    have z5 : X.cell? ⟨w.heap.size, 5, none⟩ = some (.string ⟨#[]⟩) := fl.bcell u rfl
    have f0 := fl.bfree u 0
    have f1 := fl.bfree u 1
    have f2 := fl.bfree u 2
    have f3 := fl.bfree u 3
    have f4 := fl.bfree u 4
    have f5 := fl.bfree u 5
    have HN : Hid (sm.Has X w4.heap.size 2 [⟨#[]⟩, ⟨#[]⟩]) := hnew
    clear u hnew k3 k4 p1 p2
    go_wp2
    refine bodyPost_ret (v := .agg #[.int .i64 10, .int .i64 50, .slice (some ⟨w4.heap.size, 0, none⟩) 2 2, .slice none 0 0, .bool false, .string ⟨#[]⟩]) (by simp [results, Try.results6, go_sem, z0, z1, z2, z3, z4, z5]) rfl ⟨w4.heap.size, rfl, by omega, ?_, ?_⟩
    · rw [both_no (by omega)]
      have e : ∀ (Y : World) (o : Nat) (v : Value), sm.Has Y w4.heap.size 2 [⟨#[]⟩, ⟨#[]⟩] → sm.Has (Y.setCell ⟨w.heap.size, o, none⟩ v) w4.heap.size 2 [⟨#[]⟩, ⟨#[]⟩] := fun Y o v h => has_other h (by show w4.heap.size ≠ w.heap.size; omega) v
      exact e _ _ _ (e _ _ _ (e _ _ _ (e _ _ _ (e _ _ _ (e _ _ _ HN.out)))))
    · have hbw := hb0.trans (hBX.mono hb0.size)
      exact (((((hbw.setCell (Nat.le_refl _) _).setCell (Nat.le_refl _) _).setCell (Nat.le_refl _) _).setCell (Nat.le_refl _) _).setCell (Nat.le_refl _) _).setCell (Nat.le_refl _) _
  obtain ⟨s2, q2, n2⟩ := out_ne (a := b) (by omega)
  rw [q2] at p2
  clear q2
  go_enter Try.func6, Try.ntmps6
  have t1 : True := trivial
  go_wp2_with (go_at_call 15; have _t := t1; refine (p1 _).mono ?_; rintro e w1 ⟨rfl, hb1⟩; clear t1 _t)
  go_wp2_with (go_at_call 15; refine (p2 _).mono ?_; rintro e w2 ⟨rfl, hb2⟩; have hb12 : Below W.heap.size W w2 := hb1.trans (hb2.mono hb1.size))
  have k3 := fun W => cl.clone a W (by omega)
  have k4 := fun W => cl.clone b W (by omega)
  have t3 : True := trivial
  go_wp2_with (go_at_call 16; have _t := t3; refine (k3 _).mono ?_; rintro e w3 ⟨rfl, hb3⟩; clear t3 _t)
  go_wp2_with (go_at_call 16; fail)
  refine (k4 _).mono ?_
  rintro e w4 ⟨rfl, hb4⟩
  have hB4 : Below W.heap.size W w4 := (hb12.trans (hb3.mono hb12.size)).trans (hb4.mono (Nat.le_trans hb12.size hb3.size))
  have hal : Below w4.heap.size w4 (w4.alloc (.cells #[.string a, .string b] 9)) := (Below.refl _ _).alloc (Nat.le_refl _) _
  have hnew := has_new w4 a b
  have hs4 := hB4.size
  obtain ⟨X, hX⟩ : ∃ X, w4.alloc (.cells #[.string a, .string b] 9) = X := ⟨_, rfl⟩
  rw [hX] at hal hnew
  have hBX : Below W.heap.size W X := hB4.trans (hal.mono hs4)
  have u := fl.bstay HA.out hBX hl0
  have z0 : X.cell? ⟨w.heap.size, 0, none⟩ = some (.int .i64 0) := fl.bcell u rfl
  have z1 : X.cell? ⟨w.heap.size, 1, none⟩ = some (.int .i64 0) := fl.bcell u rfl
  have z2 : X.cell? ⟨w.heap.size, 2, none⟩ = some (.slice none 0 0) := fl.bcell u rfl
  have z3 : X.cell? ⟨w.heap.size, 3, none⟩ = some (.slice none 0 0) := fl.bcell u rfl
  have z4 : X.cell? ⟨w.heap.size, 4, none⟩ = some (.bool false) := fl.bcell u rfl
  have z5 : X.cell? ⟨w.heap.size, 5, none⟩ = some (.string ⟨#[]⟩) := fl.bcell u rfl
  have f0 := fl.bfree u 0
  have f1 := fl.bfree u 1
  have f2 := fl.bfree u 2
  have f3 := fl.bfree u 3
  have f4 := fl.bfree u 4
  have f5 := fl.bfree u 5
  have HN : Hid (sm.Has X w4.heap.size 2 [a, b]) := hnew
  clear u hnew k3 k4 p1 p2
  go_wp2
  refine bodyPost_ret (v := .agg #[.int .i64 10, .int .i64 50, .slice (some ⟨w4.heap.size, 0, none⟩) 2 2, .slice none 0 0, .bool false, .string ⟨#[]⟩]) (by simp [results, Try.results6, go_sem, z0, z1, z2, z3, z4, z5]) rfl ⟨w4.heap.size, rfl, by omega, ?_, ?_⟩
  · rw [both_yes (by omega) (by omega)]
    have e : ∀ (Y : World) (o : Nat) (v : Value), sm.Has Y w4.heap.size 2 [a, b] → sm.Has (Y.setCell ⟨w.heap.size, o, none⟩ v) w4.heap.size 2 [a, b] := fun Y o v h => has_other h (by show w4.heap.size ≠ w.heap.size; omega) v
    exact e _ _ _ (e _ _ _ (e _ _ _ (e _ _ _ (e _ _ _ (e _ _ _ HN.out)))))
  · have hbw := hb0.trans (hBX.mono hb0.size)
    exact (((((hbw.setCell (Nat.le_refl _) _).setCell (Nat.le_refl _) _).setCell (Nat.le_refl _) _).setCell (Nat.le_refl _) _).setCell (Nat.le_refl _) _).setCell (Nat.le_refl _) _
end Go.Proofs.Ytiphjegaodaooaa.fai
