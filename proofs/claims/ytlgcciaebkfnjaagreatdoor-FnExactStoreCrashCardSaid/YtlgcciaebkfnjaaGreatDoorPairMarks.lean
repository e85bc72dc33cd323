/- The laws' marks in a row of pairs of its own that may be nothing: laid, and held; a row of its own, and where it lies. -/
import Derived.Test.YtlgcciaebkfnjaaGreatDoorMrPair
import Derived.Test.YtlgcciaebkfnjaaGreatDoorFlatOwn
namespace Go.Proofs.YtlgcciaebkfnjaaGreatDoor.pmk
open Go.ChangeShapes Go.WideShapes Go.ChangeAt Go.RowKit Go.Proofs.YtlgcciaebkfnjaaGreatDoor.fl Go.Proofs.YtlgcciaebkfnjaaGreatDoor.fo
set_option linter.unusedVariables false

theorem mark_none (a : Option Addr) (cap k0 : Nat) (w : World) (hk : k0 ≤ 1000000000000) : Calls Tryz.prog 108 #[.slice a 0 cap, .int .i64 k0] w fun e w' => e = .returned (.int .i64 k0) ∧ w' = w := by
  go_enter Tryz.func108, Tryz.ntmps108
  go_wp2
  refine wp_loop_rounds 1 ?_
  rw [rounds_succ]
  go_wp2
  go_ret
  exact ⟨rfl, rfl⟩
theorem held_none (a : Option Addr) (cap k0 : Nat) (w : World) (hk : k0 ≤ 1000000000000) : Calls Tryz.prog 110 #[.slice a 0 cap, .int .i64 k0] w fun e w' => e = .returned (.int .i64 k0) ∧ w' = w := by
  go_enter Tryz.func110, Tryz.ntmps110
  go_wp2
  refine wp_loop_rounds 1 ?_
  rw [rounds_succ]
  go_wp2
  go_ret
  exact ⟨rfl, rfl⟩
theorem mark_mine (l : List flP.Pr) (a : Option Addr) (cap B : Nat) (w : World) (hl : l.length ≤ 1048577) (hM : Mine flP.c 3 49 w B a l) :
    Calls Tryz.prog 108 #[.slice a l.length cap, .int .i64 1] w fun e w' => e = .returned (.int .i64 (1 + 3 * l.length : Nat)) ∧ Mine flP.c 3 49 w' B a (mrP.mks 1 l.length) ∧ Tn w w' (blk a l) := by
  rcases hM with rfl | ⟨g, off, rfl, hB, ho⟩
  · exact (mark_none a cap 1 w (by omega)).mono fun e w' ⟨h1, h2⟩ => ⟨h1, .inl rfl, h2 ▸ Tn.refl _ _⟩
  · by_cases e : l = []
    · subst e
      exact (mark_none _ cap 1 w (by omega)).mono fun e w' ⟨h1, h2⟩ => ⟨h1, .inl rfl, h2 ▸ Tn.refl _ _⟩
    · exact (mrP.mark_all l.length g off cap 1 w (by omega) (by omega) (ho.any (mrP.mks_len _ _))).mono fun e' w' ⟨h1, h2, h3⟩ => ⟨h1, .inr ⟨g, off, rfl, hB, by rw [mrP.mks_len]; exact h3⟩, h2.wide (fun k hk => ⟨e, g, off, rfl, hk⟩)⟩
theorem held_mine (n : Nat) (a : Option Addr) (cap B : Nat) (w : World) (hl : n ≤ 1048577) (hM : Mine flP.c 3 49 w B a (mrP.mks 1 n)) :
    Calls Tryz.prog 110 #[.slice a n cap, .int .i64 1] w fun e w' => e = .returned (.int .i64 (1 + 3 * n : Nat)) ∧ Below w.heap.size w w' := by
  rcases hM with h0 | ⟨g, off, rfl, hB, ho⟩
  · have hn : n = 0 := by have := congrArg List.length h0; rw [mrP.mks_len] at this; exact this
    subst hn
    exact (held_none a cap 1 w (by omega)).mono fun e w' ⟨h1, h2⟩ => ⟨h1, h2 ▸ Below.refl _ _⟩
  · rw [mrP.mks_len] at ho
    exact mrP.held_all n g off cap 1 w (by omega) (by omega) ho
theorem blk_mks {a : Option Addr} {l : List flP.Pr} {k : Nat} (h : blk a (mrP.mks 1 l.length) k) : blk a l k := by
  obtain ⟨h1, h2⟩ := h
  exact ⟨fun e => h1 (by subst e; rfl), h2⟩
/-- a row of its own, and where it lies -/
theorem mine_of {α : Type} {c : α → List Value} {n B : Nat} {U : TypeId} {l : List α} {w : World} {v : Value} (hn : ∀ e, (c e).length = n) (ho : w.ownsRow B U n v l.length (l.flatMap c)) : ∃ a cap, v = .slice a l.length cap ∧ Mine c n U w B a l := by
  obtain ⟨_, ⟨h1, h0⟩ | ⟨g, cap, cur, h1, h2, h3, h4, h5, h6, h7⟩⟩ := ho
  · have e : l = [] := List.eq_nil_of_length_eq_zero h0
    subst e
    exact ⟨none, 0, h1, .inl rfl⟩
  · refine ⟨_, cap, h1, .inr ⟨g, 0, rfl, h2, cur, h3, by rw [h6, Nat.zero_add]; exact Nat.mul_le_mul_right n h4, fun i e hi he j v hv => ?_⟩⟩
    have hf := fl.flat_at hn l i e he j v hv
    rw [← h7] at hf
    have hlt := (List.getElem?_eq_some_iff.1 hf).1
    rw [List.length_take] at hlt
    rw [List.getElem?_take_of_lt (by omega)] at hf
    rw [Nat.zero_add]
    simpa using hf
end Go.Proofs.YtlgcciaebkfnjaaGreatDoor.pmk
