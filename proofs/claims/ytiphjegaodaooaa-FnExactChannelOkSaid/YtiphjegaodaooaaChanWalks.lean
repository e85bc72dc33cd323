/- ChannelOk, the specification's and the program's: one answer. -/
import Derived.Test.YtiphjegaodaooaaChanLib
import Derived.Deep.QuietTactic
import Derived.BigQuiet
namespace Go.Proofs.Ytiphjegaodaooaa.chw
open Go.ChangeShapes Go.WideShapes Go.ChangeAt Go.RowKit Go.Proofs.Ytiphjegaodaooaa.fl
set_option linter.unusedVariables false

theorem bdrewN {B : Nat} {a w : World} (h : Below B a w) (n : Nat) : Below B a (w.drewN n) := ⟨h.os, h.tape, h.output, h.size, h.block⟩
/-- as a channel must be -/
def Ok (co ct : Int) (cx cf : Bool) (cn : Int) (cd : Bool) (rn hn : Nat) : Bool := decide ((0 ≤ co ∧ co ≤ 1000) ∧ (0 ≤ ct ∧ ct ≤ 1000000000) ∧ (0 ≤ cn ∧ cn ≤ 1000000000) ∧ ¬ (cx = true ∧ cf = true) ∧ rn ≤ 30 ∧ hn ≤ 30 ∧ (rn + hn = 0 ∨ (cx = true ∧ cd = false)))
theorem in_one (v lo hi : Int) (w : World) : Calls Try.prog 22 #[.int .i64 v, .int .i64 lo, .int .i64 hi] w fun e w' => e = .returned (.bool (decide (lo ≤ v ∧ v ≤ hi))) ∧ w' = w := by
  by_cases h1 : lo ≤ v
  · by_cases h2 : v ≤ hi
    · have e : decide (lo ≤ v ∧ v ≤ hi) = true := by simp [h1, h2]
      rw [e]
      go_enter Try.func22, Try.ntmps22
      go_wp2
      go_ret
      exact ⟨rfl, rfl⟩
    · have e : decide (lo ≤ v ∧ v ≤ hi) = false := by simp; intro _; omega
      rw [e]
      go_enter Try.func22, Try.ntmps22
      go_wp2
      go_ret
      exact ⟨rfl, rfl⟩
  · have e : decide (lo ≤ v ∧ v ≤ hi) = false := by simp; intro h; omega
    rw [e]
    go_enter Try.func22, Try.ntmps22
    go_wp2
    go_ret
    exact ⟨rfl, rfl⟩
theorem ok_no {co ct cn : Int} {cx cf cd : Bool} {rn hn : Nat} (h : ¬ ((0 ≤ co ∧ co ≤ 1000) ∧ (0 ≤ ct ∧ ct ≤ 1000000000) ∧ (0 ≤ cn ∧ cn ≤ 1000000000) ∧ ¬ (cx = true ∧ cf = true) ∧ rn ≤ 30 ∧ hn ≤ 30 ∧ (rn + hn = 0 ∨ (cx = true ∧ cd = false)))) : Ok co ct cx cf cn cd rn hn = false := decide_eq_false h
theorem ok_yes {co ct cn : Int} {cx cf cd : Bool} {rn hn : Nat} (h : ((0 ≤ co ∧ co ≤ 1000) ∧ (0 ≤ ct ∧ ct ≤ 1000000000) ∧ (0 ≤ cn ∧ cn ≤ 1000000000) ∧ ¬ (cx = true ∧ cf = true) ∧ rn ≤ 30 ∧ hn ≤ 30 ∧ (rn + hn = 0 ∨ (cx = true ∧ cd = false)))) : Ok co ct cx cf cn cd rn hn = true := decide_eq_true h
set_option maxRecDepth 100000 in
set_option maxHeartbeats 20000000 in
theorem spec_ok (co ct : Int) (cx cf : Bool) (cn : Int) (cd : Bool) (ra ha : Option Addr) (rn hn rc hc : Nat) (w : World) (hrn : rn ≤ 1048576) (hhn : hn ≤ 1048576) : Calls Try.prog 11 #[.agg #[.int .i64 co, .int .i64 ct, .bool cx, .bool cf, .int .i64 cn, .bool cd, .slice ra rn rc, .slice ha hn hc]] w fun e w' => e = .returned (.bool (Ok co ct cx cf cn cd rn hn)) ∧ Below w.heap.size w w' := by
  obtain ⟨b1, h1⟩ : ∃ b, decide (0 ≤ co ∧ co ≤ 1000) = b := ⟨_, rfl⟩
  obtain ⟨b2, h2⟩ : ∃ b, decide (0 ≤ ct ∧ ct ≤ 1000000000) = b := ⟨_, rfl⟩
  obtain ⟨b3, h3⟩ : ∃ b, decide (0 ≤ cn ∧ cn ≤ 1000000000) = b := ⟨_, rfl⟩
  have i1 := fun W => in_one co 0 1000 W
  have i2 := fun W => in_one ct 0 1000000000 W
  have i3 := fun W => in_one cn 0 1000000000 W
  rw [h1] at i1
  rw [h2] at i2
  rw [h3] at i3
  cases cx
  · have _t : True := trivial
    by_cases hs : (0 : Int) < (rn : Int) + (hn : Int)
    · clear i1 i2 i3
      rw [ok_no (fun h => by rcases h.2.2.2.2.2.2 with h | ⟨h, h'⟩; exact absurd h (by omega); first | (cases h; done) | (cases h'; done))]
      go_enter Try.func11, Try.ntmps11
      go_wp2
      go_ret
      exact ⟨rfl, by first | exact (Below.refl _ _).alloc (Nat.le_refl _) _ | exact bdrewN ((Below.refl _ _).alloc (Nat.le_refl _) _) _⟩
    obtain rfl : rn = 0 := by omega
    obtain rfl : hn = 0 := by omega
    cases b1
    · have n1 := of_decide_eq_false h1
      rw [ok_no (fun h => n1 h.1)]
      go_enter Try.func11, Try.ntmps11
      have t1 : True := trivial
      go_wp2_with (go_at_call 22; have _t := t1; refine (i1 _).mono ?_; rintro e w1 ⟨rfl, hw1⟩; obtain rfl := hw1.symm; clear t1 _t)
      go_ret
      exact ⟨rfl, by first | exact (Below.refl _ _).alloc (Nat.le_refl _) _ | exact bdrewN ((Below.refl _ _).alloc (Nat.le_refl _) _) _⟩
    have y1 := of_decide_eq_true h1
    cases b2
    · have n2 := of_decide_eq_false h2
      rw [ok_no (fun h => n2 h.2.1)]
      go_enter Try.func11, Try.ntmps11
      have t1 : True := trivial
      go_wp2_with (go_at_call 22; have _t := t1; refine (i1 _).mono ?_; rintro e w1 ⟨rfl, hw1⟩; obtain rfl := hw1.symm; clear t1 _t)
      have t2 : True := trivial
      go_wp2_with (go_at_call 22; have _t := t2; refine (i2 _).mono ?_; rintro e w2 ⟨rfl, hw2⟩; obtain rfl := hw2.symm; clear t2 _t)
      go_ret
      exact ⟨rfl, by first | exact (Below.refl _ _).alloc (Nat.le_refl _) _ | exact bdrewN ((Below.refl _ _).alloc (Nat.le_refl _) _) _⟩
    have y2 := of_decide_eq_true h2
    cases b3
    · have n3 := of_decide_eq_false h3
      rw [ok_no (fun h => n3 h.2.2.1)]
      go_enter Try.func11, Try.ntmps11
      have t1 : True := trivial
      go_wp2_with (go_at_call 22; have _t := t1; refine (i1 _).mono ?_; rintro e w1 ⟨rfl, hw1⟩; obtain rfl := hw1.symm; clear t1 _t)
      have t2 : True := trivial
      go_wp2_with (go_at_call 22; have _t := t2; refine (i2 _).mono ?_; rintro e w2 ⟨rfl, hw2⟩; obtain rfl := hw2.symm; clear t2 _t)
      have t3 : True := trivial
      go_wp2_with (go_at_call 22; have _t := t3; refine (i3 _).mono ?_; rintro e w3 ⟨rfl, hw3⟩; obtain rfl := hw3.symm; clear t3 _t)
      go_ret
      exact ⟨rfl, by first | exact (Below.refl _ _).alloc (Nat.le_refl _) _ | exact bdrewN ((Below.refl _ _).alloc (Nat.le_refl _) _) _⟩
    have y3 := of_decide_eq_true h3
    rw [ok_yes (⟨y1, y2, y3, by simp, by omega, by omega, .inl (by omega)⟩)]
    go_enter Try.func11, Try.ntmps11
    have t1 : True := trivial
    go_wp2_with (go_at_call 22; have _t := t1; refine (i1 _).mono ?_; rintro e w1 ⟨rfl, hw1⟩; obtain rfl := hw1.symm; clear t1 _t)
    have t2 : True := trivial
    go_wp2_with (go_at_call 22; have _t := t2; refine (i2 _).mono ?_; rintro e w2 ⟨rfl, hw2⟩; obtain rfl := hw2.symm; clear t2 _t)
    have t3 : True := trivial
    go_wp2_with (go_at_call 22; have _t := t3; refine (i3 _).mono ?_; rintro e w3 ⟨rfl, hw3⟩; obtain rfl := hw3.symm; clear t3 _t)
    go_ret
    exact ⟨rfl, by first | exact (Below.refl _ _).alloc (Nat.le_refl _) _ | exact bdrewN ((Below.refl _ _).alloc (Nat.le_refl _) _) _⟩
  · cases cf
    · cases cd
      · have _t : True := trivial
        cases b1
        · have n1 := of_decide_eq_false h1
          rw [ok_no (fun h => n1 h.1)]
          go_enter Try.func11, Try.ntmps11
          have t1 : True := trivial
          go_wp2_with (go_at_call 22; have _t := t1; refine (i1 _).mono ?_; rintro e w1 ⟨rfl, hw1⟩; obtain rfl := hw1.symm; clear t1 _t)
          go_ret
          exact ⟨rfl, by first | exact (Below.refl _ _).alloc (Nat.le_refl _) _ | exact bdrewN ((Below.refl _ _).alloc (Nat.le_refl _) _) _⟩
        have y1 := of_decide_eq_true h1
        cases b2
        · have n2 := of_decide_eq_false h2
          rw [ok_no (fun h => n2 h.2.1)]
          go_enter Try.func11, Try.ntmps11
          have t1 : True := trivial
          go_wp2_with (go_at_call 22; have _t := t1; refine (i1 _).mono ?_; rintro e w1 ⟨rfl, hw1⟩; obtain rfl := hw1.symm; clear t1 _t)
          have t2 : True := trivial
          go_wp2_with (go_at_call 22; have _t := t2; refine (i2 _).mono ?_; rintro e w2 ⟨rfl, hw2⟩; obtain rfl := hw2.symm; clear t2 _t)
          go_ret
          exact ⟨rfl, by first | exact (Below.refl _ _).alloc (Nat.le_refl _) _ | exact bdrewN ((Below.refl _ _).alloc (Nat.le_refl _) _) _⟩
        have y2 := of_decide_eq_true h2
        cases b3
        · have n3 := of_decide_eq_false h3
          rw [ok_no (fun h => n3 h.2.2.1)]
          go_enter Try.func11, Try.ntmps11
          have t1 : True := trivial
          go_wp2_with (go_at_call 22; have _t := t1; refine (i1 _).mono ?_; rintro e w1 ⟨rfl, hw1⟩; obtain rfl := hw1.symm; clear t1 _t)
          have t2 : True := trivial
          go_wp2_with (go_at_call 22; have _t := t2; refine (i2 _).mono ?_; rintro e w2 ⟨rfl, hw2⟩; obtain rfl := hw2.symm; clear t2 _t)
          have t3 : True := trivial
          go_wp2_with (go_at_call 22; have _t := t3; refine (i3 _).mono ?_; rintro e w3 ⟨rfl, hw3⟩; obtain rfl := hw3.symm; clear t3 _t)
          go_ret
          exact ⟨rfl, by first | exact (Below.refl _ _).alloc (Nat.le_refl _) _ | exact bdrewN ((Below.refl _ _).alloc (Nat.le_refl _) _) _⟩
        have y3 := of_decide_eq_true h3
        by_cases g1 : (30 : Int) < (rn : Int)
        · rw [ok_no (fun h => by have := h.2.2.2.2.1; omega)]
          go_enter Try.func11, Try.ntmps11
          have t1 : True := trivial
          go_wp2_with (go_at_call 22; have _t := t1; refine (i1 _).mono ?_; rintro e w1 ⟨rfl, hw1⟩; obtain rfl := hw1.symm; clear t1 _t)
          have t2 : True := trivial
          go_wp2_with (go_at_call 22; have _t := t2; refine (i2 _).mono ?_; rintro e w2 ⟨rfl, hw2⟩; obtain rfl := hw2.symm; clear t2 _t)
          have t3 : True := trivial
          go_wp2_with (go_at_call 22; have _t := t3; refine (i3 _).mono ?_; rintro e w3 ⟨rfl, hw3⟩; obtain rfl := hw3.symm; clear t3 _t)
          go_ret
          exact ⟨rfl, by first | exact (Below.refl _ _).alloc (Nat.le_refl _) _ | exact bdrewN ((Below.refl _ _).alloc (Nat.le_refl _) _) _⟩
        by_cases g2 : (30 : Int) < (hn : Int)
        · have d2 : decide ((hn : Int) ≤ 30) = false := by simp; omega
          rw [ok_no (fun h => by have := h.2.2.2.2.2.1; omega)]
          go_enter Try.func11, Try.ntmps11
          have t1 : True := trivial
          go_wp2_with (go_at_call 22; have _t := t1; refine (i1 _).mono ?_; rintro e w1 ⟨rfl, hw1⟩; obtain rfl := hw1.symm; clear t1 _t)
          have t2 : True := trivial
          go_wp2_with (go_at_call 22; have _t := t2; refine (i2 _).mono ?_; rintro e w2 ⟨rfl, hw2⟩; obtain rfl := hw2.symm; clear t2 _t)
          have t3 : True := trivial
          go_wp2_with (go_at_call 22; have _t := t3; refine (i3 _).mono ?_; rintro e w3 ⟨rfl, hw3⟩; obtain rfl := hw3.symm; clear t3 _t)
          go_ret
          exact ⟨rfl, by first | exact (Below.refl _ _).alloc (Nat.le_refl _) _ | exact bdrewN ((Below.refl _ _).alloc (Nat.le_refl _) _) _⟩
        have d2 : decide ((hn : Int) ≤ 30) = true := by simp; omega
        rw [ok_yes (⟨y1, y2, y3, by simp, by omega, by omega, .inr ⟨rfl, rfl⟩⟩)]
        go_enter Try.func11, Try.ntmps11
        have t1 : True := trivial
        go_wp2_with (go_at_call 22; have _t := t1; refine (i1 _).mono ?_; rintro e w1 ⟨rfl, hw1⟩; obtain rfl := hw1.symm; clear t1 _t)
        have t2 : True := trivial
        go_wp2_with (go_at_call 22; have _t := t2; refine (i2 _).mono ?_; rintro e w2 ⟨rfl, hw2⟩; obtain rfl := hw2.symm; clear t2 _t)
        have t3 : True := trivial
        go_wp2_with (go_at_call 22; have _t := t3; refine (i3 _).mono ?_; rintro e w3 ⟨rfl, hw3⟩; obtain rfl := hw3.symm; clear t3 _t)
        go_ret
        exact ⟨rfl, by first | exact (Below.refl _ _).alloc (Nat.le_refl _) _ | exact bdrewN ((Below.refl _ _).alloc (Nat.le_refl _) _) _⟩
      · have _t : True := trivial
        by_cases hs : (0 : Int) < (rn : Int) + (hn : Int)
        · clear i1 i2 i3
          rw [ok_no (fun h => by rcases h.2.2.2.2.2.2 with h | ⟨h, h'⟩; exact absurd h (by omega); first | (cases h; done) | (cases h'; done))]
          go_enter Try.func11, Try.ntmps11
          go_wp2
          go_ret
          exact ⟨rfl, by first | exact (Below.refl _ _).alloc (Nat.le_refl _) _ | exact bdrewN ((Below.refl _ _).alloc (Nat.le_refl _) _) _⟩
        obtain rfl : rn = 0 := by omega
        obtain rfl : hn = 0 := by omega
        cases b1
        · have n1 := of_decide_eq_false h1
          rw [ok_no (fun h => n1 h.1)]
          go_enter Try.func11, Try.ntmps11
          have t1 : True := trivial
          go_wp2_with (go_at_call 22; have _t := t1; refine (i1 _).mono ?_; rintro e w1 ⟨rfl, hw1⟩; obtain rfl := hw1.symm; clear t1 _t)
          go_ret
          exact ⟨rfl, by first | exact (Below.refl _ _).alloc (Nat.le_refl _) _ | exact bdrewN ((Below.refl _ _).alloc (Nat.le_refl _) _) _⟩
        have y1 := of_decide_eq_true h1
        cases b2
        · have n2 := of_decide_eq_false h2
          rw [ok_no (fun h => n2 h.2.1)]
          go_enter Try.func11, Try.ntmps11
          have t1 : True := trivial
          go_wp2_with (go_at_call 22; have _t := t1; refine (i1 _).mono ?_; rintro e w1 ⟨rfl, hw1⟩; obtain rfl := hw1.symm; clear t1 _t)
          have t2 : True := trivial
          go_wp2_with (go_at_call 22; have _t := t2; refine (i2 _).mono ?_; rintro e w2 ⟨rfl, hw2⟩; obtain rfl := hw2.symm; clear t2 _t)
          go_ret
          exact ⟨rfl, by first | exact (Below.refl _ _).alloc (Nat.le_refl _) _ | exact bdrewN ((Below.refl _ _).alloc (Nat.le_refl _) _) _⟩
        have y2 := of_decide_eq_true h2
        cases b3
        · have n3 := of_decide_eq_false h3
          rw [ok_no (fun h => n3 h.2.2.1)]
          go_enter Try.func11, Try.ntmps11
          have t1 : True := trivial
          go_wp2_with (go_at_call 22; have _t := t1; refine (i1 _).mono ?_; rintro e w1 ⟨rfl, hw1⟩; obtain rfl := hw1.symm; clear t1 _t)
          have t2 : True := trivial
          go_wp2_with (go_at_call 22; have _t := t2; refine (i2 _).mono ?_; rintro e w2 ⟨rfl, hw2⟩; obtain rfl := hw2.symm; clear t2 _t)
          have t3 : True := trivial
          go_wp2_with (go_at_call 22; have _t := t3; refine (i3 _).mono ?_; rintro e w3 ⟨rfl, hw3⟩; obtain rfl := hw3.symm; clear t3 _t)
          go_ret
          exact ⟨rfl, by first | exact (Below.refl _ _).alloc (Nat.le_refl _) _ | exact bdrewN ((Below.refl _ _).alloc (Nat.le_refl _) _) _⟩
        have y3 := of_decide_eq_true h3
        rw [ok_yes (⟨y1, y2, y3, by simp, by omega, by omega, .inl (by omega)⟩)]
        go_enter Try.func11, Try.ntmps11
        have t1 : True := trivial
        go_wp2_with (go_at_call 22; have _t := t1; refine (i1 _).mono ?_; rintro e w1 ⟨rfl, hw1⟩; obtain rfl := hw1.symm; clear t1 _t)
        have t2 : True := trivial
        go_wp2_with (go_at_call 22; have _t := t2; refine (i2 _).mono ?_; rintro e w2 ⟨rfl, hw2⟩; obtain rfl := hw2.symm; clear t2 _t)
        have t3 : True := trivial
        go_wp2_with (go_at_call 22; have _t := t3; refine (i3 _).mono ?_; rintro e w3 ⟨rfl, hw3⟩; obtain rfl := hw3.symm; clear t3 _t)
        go_ret
        exact ⟨rfl, by first | exact (Below.refl _ _).alloc (Nat.le_refl _) _ | exact bdrewN ((Below.refl _ _).alloc (Nat.le_refl _) _) _⟩
    · rw [ok_no (fun h => h.2.2.2.1 ⟨rfl, rfl⟩)]
      go_enter Try.func11, Try.ntmps11
      clear i1 i2 i3
      go_wp2
      go_ret
      exact ⟨rfl, by first | exact (Below.refl _ _).alloc (Nat.le_refl _) _ | exact bdrewN ((Below.refl _ _).alloc (Nat.le_refl _) _) _⟩
set_option maxRecDepth 100000 in
set_option maxHeartbeats 20000000 in
theorem impl_ok (co ct : Int) (cx cf : Bool) (cn : Int) (cd : Bool) (ra ha : Option Addr) (rn hn rc hc : Nat) (w : World) (hrn : rn ≤ 1048576) (hhn : hn ≤ 1048576) : Calls Try.prog 13 #[.agg #[.int .i64 co, .int .i64 ct, .bool cx, .bool cf, .int .i64 cn, .bool cd, .slice ra rn rc, .slice ha hn hc]] w fun e w' => e = .returned (.bool (Ok co ct cx cf cn cd rn hn)) ∧ Below w.heap.size w w' := by
  by_cases k0 : co < 0
  · rw [ok_no (fun h => by have := h.1; omega)]
    go_enter Try.func13, Try.ntmps13
    go_wp2
    go_ret
    exact ⟨rfl, by first | exact (Below.refl _ _).alloc (Nat.le_refl _) _ | exact bdrewN ((Below.refl _ _).alloc (Nat.le_refl _) _) _⟩
  by_cases k1 : 1000 < co
  · rw [ok_no (fun h => by have := h.1; omega)]
    go_enter Try.func13, Try.ntmps13
    go_wp2
    go_ret
    exact ⟨rfl, by first | exact (Below.refl _ _).alloc (Nat.le_refl _) _ | exact bdrewN ((Below.refl _ _).alloc (Nat.le_refl _) _) _⟩
  by_cases k2 : ct < 0
  · rw [ok_no (fun h => by have := h.2.1; omega)]
    go_enter Try.func13, Try.ntmps13
    go_wp2
    go_ret
    exact ⟨rfl, by first | exact (Below.refl _ _).alloc (Nat.le_refl _) _ | exact bdrewN ((Below.refl _ _).alloc (Nat.le_refl _) _) _⟩
  by_cases k3 : 1000000000 < ct
  · rw [ok_no (fun h => by have := h.2.1; omega)]
    go_enter Try.func13, Try.ntmps13
    go_wp2
    go_ret
    exact ⟨rfl, by first | exact (Below.refl _ _).alloc (Nat.le_refl _) _ | exact bdrewN ((Below.refl _ _).alloc (Nat.le_refl _) _) _⟩
  by_cases k4 : cn < 0
  · rw [ok_no (fun h => by have := h.2.2.1; omega)]
    go_enter Try.func13, Try.ntmps13
    go_wp2
    go_ret
    exact ⟨rfl, by first | exact (Below.refl _ _).alloc (Nat.le_refl _) _ | exact bdrewN ((Below.refl _ _).alloc (Nat.le_refl _) _) _⟩
  by_cases k5 : 1000000000 < cn
  · rw [ok_no (fun h => by have := h.2.2.1; omega)]
    go_enter Try.func13, Try.ntmps13
    go_wp2
    go_ret
    exact ⟨rfl, by first | exact (Below.refl _ _).alloc (Nat.le_refl _) _ | exact bdrewN ((Below.refl _ _).alloc (Nat.le_refl _) _) _⟩
  cases cx
  · have _t : True := trivial
    by_cases g1 : (30 : Int) < (rn : Int)
    · rw [ok_no (fun h => by have := h.2.2.2.2.1; omega)]
      go_enter Try.func13, Try.ntmps13
      go_wp2
      go_ret
      exact ⟨rfl, by first | exact (Below.refl _ _).alloc (Nat.le_refl _) _ | exact bdrewN ((Below.refl _ _).alloc (Nat.le_refl _) _) _⟩
    by_cases g2 : (30 : Int) < (hn : Int)
    · rw [ok_no (fun h => by have := h.2.2.2.2.2.1; omega)]
      go_enter Try.func13, Try.ntmps13
      go_wp2
      go_ret
      exact ⟨rfl, by first | exact (Below.refl _ _).alloc (Nat.le_refl _) _ | exact bdrewN ((Below.refl _ _).alloc (Nat.le_refl _) _) _⟩
    by_cases g3 : (0 : Int) < (rn : Int)
    · rw [ok_no (fun h => by rcases h.2.2.2.2.2.2 with h | ⟨h, _⟩; exact absurd h (by omega); cases h)]
      go_enter Try.func13, Try.ntmps13
      go_wp2
      go_ret
      exact ⟨rfl, by first | exact (Below.refl _ _).alloc (Nat.le_refl _) _ | exact bdrewN ((Below.refl _ _).alloc (Nat.le_refl _) _) _⟩
    by_cases g4 : (0 : Int) < (hn : Int)
    · rw [ok_no (fun h => by rcases h.2.2.2.2.2.2 with h | ⟨h, _⟩; exact absurd h (by omega); cases h)]
      go_enter Try.func13, Try.ntmps13
      go_wp2
      go_ret
      exact ⟨rfl, by first | exact (Below.refl _ _).alloc (Nat.le_refl _) _ | exact bdrewN ((Below.refl _ _).alloc (Nat.le_refl _) _) _⟩
    rw [ok_yes (⟨⟨by omega, by omega⟩, ⟨by omega, by omega⟩, ⟨by omega, by omega⟩, by simp, by omega, by omega, .inl (by omega)⟩)]
    go_enter Try.func13, Try.ntmps13
    go_wp2
    go_ret
    exact ⟨rfl, by first | exact (Below.refl _ _).alloc (Nat.le_refl _) _ | exact bdrewN ((Below.refl _ _).alloc (Nat.le_refl _) _) _⟩
  · cases cf
    · have _t : True := trivial
      by_cases g1 : (30 : Int) < (rn : Int)
      · rw [ok_no (fun h => by have := h.2.2.2.2.1; omega)]
        go_enter Try.func13, Try.ntmps13
        go_wp2
        go_ret
        exact ⟨rfl, by first | exact (Below.refl _ _).alloc (Nat.le_refl _) _ | exact bdrewN ((Below.refl _ _).alloc (Nat.le_refl _) _) _⟩
      by_cases g2 : (30 : Int) < (hn : Int)
      · rw [ok_no (fun h => by have := h.2.2.2.2.2.1; omega)]
        go_enter Try.func13, Try.ntmps13
        go_wp2
        go_ret
        exact ⟨rfl, by first | exact (Below.refl _ _).alloc (Nat.le_refl _) _ | exact bdrewN ((Below.refl _ _).alloc (Nat.le_refl _) _) _⟩
      by_cases g3 : (0 : Int) < (rn : Int)
      · cases cd
        · rw [ok_yes (⟨⟨by omega, by omega⟩, ⟨by omega, by omega⟩, ⟨by omega, by omega⟩, by simp, by omega, by omega, .inr ⟨rfl, rfl⟩⟩)]
          go_enter Try.func13, Try.ntmps13
          go_wp2
          go_ret
          exact ⟨rfl, by first | exact (Below.refl _ _).alloc (Nat.le_refl _) _ | exact bdrewN ((Below.refl _ _).alloc (Nat.le_refl _) _) _⟩
        · rw [ok_no (fun h => by rcases h.2.2.2.2.2.2 with h | ⟨_, h⟩; exact absurd h (by omega); cases h)]
          go_enter Try.func13, Try.ntmps13
          go_wp2
          go_ret
          exact ⟨rfl, by first | exact (Below.refl _ _).alloc (Nat.le_refl _) _ | exact bdrewN ((Below.refl _ _).alloc (Nat.le_refl _) _) _⟩
      by_cases g4 : (0 : Int) < (hn : Int)
      · cases cd
        · rw [ok_yes (⟨⟨by omega, by omega⟩, ⟨by omega, by omega⟩, ⟨by omega, by omega⟩, by simp, by omega, by omega, .inr ⟨rfl, rfl⟩⟩)]
          go_enter Try.func13, Try.ntmps13
          go_wp2
          go_ret
          exact ⟨rfl, by first | exact (Below.refl _ _).alloc (Nat.le_refl _) _ | exact bdrewN ((Below.refl _ _).alloc (Nat.le_refl _) _) _⟩
        · rw [ok_no (fun h => by rcases h.2.2.2.2.2.2 with h | ⟨_, h⟩; exact absurd h (by omega); cases h)]
          go_enter Try.func13, Try.ntmps13
          go_wp2
          go_ret
          exact ⟨rfl, by first | exact (Below.refl _ _).alloc (Nat.le_refl _) _ | exact bdrewN ((Below.refl _ _).alloc (Nat.le_refl _) _) _⟩
      rw [ok_yes (⟨⟨by omega, by omega⟩, ⟨by omega, by omega⟩, ⟨by omega, by omega⟩, by simp, by omega, by omega, .inl (by omega)⟩)]
      go_enter Try.func13, Try.ntmps13
      go_wp2
      go_ret
      exact ⟨rfl, by first | exact (Below.refl _ _).alloc (Nat.le_refl _) _ | exact bdrewN ((Below.refl _ _).alloc (Nat.le_refl _) _) _⟩
    · rw [ok_no (fun h => h.2.2.2.1 ⟨rfl, rfl⟩)]
      go_enter Try.func13, Try.ntmps13
      go_wp2
      go_ret
      exact ⟨rfl, by first | exact (Below.refl _ _).alloc (Nat.le_refl _) _ | exact bdrewN ((Below.refl _ _).alloc (Nat.le_refl _) _) _⟩
end Go.Proofs.Ytiphjegaodaooaa.chw
