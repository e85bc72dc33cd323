/- The law of MillStart, walked. -/
import Derived.Test.YtjcbedfpiigjiaaMillStartWalks
namespace Go.Proofs.Ytjcbedfpiigjiaa.mst
open Go.ChangeShapes Go.WideShapes Go.ChangeAt Go.RowKit
set_option linter.unusedVariables false

set_option maxRecDepth 100000 in
set_option maxHeartbeats 1000000 in
theorem lawM (t : Int) (w : World) : Calls Try.prog 3 #[.int .i64 t] w fun e w' => e = .returned (.bool true) ∧ Below w.heap.size w w' := by
  have HS : Hid (∀ V, Calls Try.prog 4 #[.int .i64 t] V fun e w' => e = .returned (.agg #[.slice none 0 0, .slice none 0 0, .slice none 0 0, .slice none 0 0, .slice none 0 0, .slice none 0 0, .string ⟨#[]⟩, .int .i64 0, .slice none 0 0, .int .i64 (at_ t)]) ∧ Below V.heap.size V w') := fun V => specM t V
  have HI : Hid (∀ V, Calls Try.prog 5 #[.int .i64 t] V fun e w' => e = .returned (.agg #[.slice none 0 0, .slice none 0 0, .slice none 0 0, .slice none 0 0, .slice none 0 0, .slice none 0 0, .string ⟨#[]⟩, .int .i64 0, .slice none 0 0, .int .i64 (at_ t)]) ∧ Below V.heap.size V w') := fun V => implM t V
  obtain ⟨a, ha⟩ : ∃ a, at_ t = a := ⟨_, rfl⟩
  rw [ha] at HS HI
  clear ha
  go_enter Try.func3, Try.ntmps3
  go_wp2_with (go_at_call 4; fail)
  refine (HS.out w).mono ?_
  rintro e w1 ⟨rfl, hb1⟩
  have hxb : Below w1.heap.size w1 (w1.alloc (.cells #[.slice none 0 0, .slice none 0 0, .slice none 0 0, .slice none 0 0, .slice none 0 0, .slice none 0 0, .string ⟨#[]⟩, .int .i64 0, .slice none 0 0, .int .i64 a] 38)) := (Below.refl _ _).alloc (Nat.le_refl _) _
  have hxn := heap_alloc_new w1 (.cells #[.slice none 0 0, .slice none 0 0, .slice none 0 0, .slice none 0 0, .slice none 0 0, .slice none 0 0, .string ⟨#[]⟩, .int .i64 0, .slice none 0 0, .int .i64 a] 38)
  obtain ⟨W1, hW1⟩ : ∃ W1, w1.alloc (.cells #[.slice none 0 0, .slice none 0 0, .slice none 0 0, .slice none 0 0, .slice none 0 0, .slice none 0 0, .string ⟨#[]⟩, .int .i64 0, .slice none 0 0, .int .i64 a] 38) = W1 := ⟨_, rfl⟩
  rw [hW1] at hxb hxn
  have hxl : w1.heap.size < W1.heap.size := (Array.getElem?_eq_some_iff.1 hxn).1
  have cx : Hid (∀ w', Below W1.heap.size W1 w' → w'.cell? ⟨w1.heap.size, 0, none⟩ = some (.slice none 0 0) ∧ w'.cell? ⟨w1.heap.size, 1, none⟩ = some (.slice none 0 0) ∧ w'.cell? ⟨w1.heap.size, 2, none⟩ = some (.slice none 0 0) ∧ w'.cell? ⟨w1.heap.size, 3, none⟩ = some (.slice none 0 0) ∧ w'.cell? ⟨w1.heap.size, 4, none⟩ = some (.slice none 0 0) ∧ w'.cell? ⟨w1.heap.size, 5, none⟩ = some (.slice none 0 0) ∧ w'.cell? ⟨w1.heap.size, 6, none⟩ = some (.string ⟨#[]⟩) ∧ w'.cell? ⟨w1.heap.size, 7, none⟩ = some (.int .i64 0) ∧ w'.cell? ⟨w1.heap.size, 8, none⟩ = some (.slice none 0 0) ∧ w'.cell? ⟨w1.heap.size, 9, none⟩ = some (.int .i64 a)) := fun w' h => by
    have h1 := (h.block _ hxl).trans hxn
    exact ⟨by simp [World.cell?, h1], by simp [World.cell?, h1], by simp [World.cell?, h1], by simp [World.cell?, h1], by simp [World.cell?, h1], by simp [World.cell?, h1], by simp [World.cell?, h1], by simp [World.cell?, h1], by simp [World.cell?, h1], by simp [World.cell?, h1]⟩
  clear hxn
  have hB1 : Below w.heap.size w W1 := hb1.trans (hxb.mono hb1.size)
  go_wp2_with (go_at_call 5; fail)
  clear hW1
  refine (HI.out W1).mono ?_
  rintro e w2 ⟨rfl, hb2⟩
  have hgb : Below w2.heap.size w2 (w2.alloc (.cells #[.slice none 0 0, .slice none 0 0, .slice none 0 0, .slice none 0 0, .slice none 0 0, .slice none 0 0, .string ⟨#[]⟩, .int .i64 0, .slice none 0 0, .int .i64 a] 38)) := (Below.refl _ _).alloc (Nat.le_refl _) _
  have hgn := heap_alloc_new w2 (.cells #[.slice none 0 0, .slice none 0 0, .slice none 0 0, .slice none 0 0, .slice none 0 0, .slice none 0 0, .string ⟨#[]⟩, .int .i64 0, .slice none 0 0, .int .i64 a] 38)
  obtain ⟨W2, hW2⟩ : ∃ W2, w2.alloc (.cells #[.slice none 0 0, .slice none 0 0, .slice none 0 0, .slice none 0 0, .slice none 0 0, .slice none 0 0, .string ⟨#[]⟩, .int .i64 0, .slice none 0 0, .int .i64 a] 38) = W2 := ⟨_, rfl⟩
  rw [hW2] at hgb hgn
  have hgl : w2.heap.size < W2.heap.size := (Array.getElem?_eq_some_iff.1 hgn).1
  have cg : Hid (∀ w', Below W2.heap.size W2 w' → w'.cell? ⟨w2.heap.size, 0, none⟩ = some (.slice none 0 0) ∧ w'.cell? ⟨w2.heap.size, 1, none⟩ = some (.slice none 0 0) ∧ w'.cell? ⟨w2.heap.size, 2, none⟩ = some (.slice none 0 0) ∧ w'.cell? ⟨w2.heap.size, 3, none⟩ = some (.slice none 0 0) ∧ w'.cell? ⟨w2.heap.size, 4, none⟩ = some (.slice none 0 0) ∧ w'.cell? ⟨w2.heap.size, 5, none⟩ = some (.slice none 0 0) ∧ w'.cell? ⟨w2.heap.size, 6, none⟩ = some (.string ⟨#[]⟩) ∧ w'.cell? ⟨w2.heap.size, 7, none⟩ = some (.int .i64 0) ∧ w'.cell? ⟨w2.heap.size, 8, none⟩ = some (.slice none 0 0) ∧ w'.cell? ⟨w2.heap.size, 9, none⟩ = some (.int .i64 a)) := fun w' h => by
    have h1 := (h.block _ hgl).trans hgn
    exact ⟨by simp [World.cell?, h1], by simp [World.cell?, h1], by simp [World.cell?, h1], by simp [World.cell?, h1], by simp [World.cell?, h1], by simp [World.cell?, h1], by simp [World.cell?, h1], by simp [World.cell?, h1], by simp [World.cell?, h1], by simp [World.cell?, h1]⟩
  clear hgn
  have hB2 : Below W1.heap.size W1 W2 := hb2.trans (hgb.mono hb2.size)
  obtain ⟨x0, x1, x2, x3, x4, x5, x6, x7, x8, x9⟩ := cx.out W2 hB2
  obtain ⟨g0, g1, g2, g3, g4, g5, g6, g7, g8, g9⟩ := cg.out W2 (Below.refl _ _)
  go_wp2_with (go_at_call 6; fail)
  clear hW2 x0 x1 x2 x3 x4 x5 x6 x7 x8 x9 g0 g1 g2 g3 g4 g5 g6 g7 g8 g9
  refine (eqMill a W2).mono ?_
  rintro e w3 ⟨rfl, hb3⟩
  obtain ⟨g0, g1, g2, g3, g4, g5, g6, g7, g8, g9⟩ := cg.out w3 hb3
  go_wp2_with (go_at_call 7; fail)
  clear g0 g1 g2 g3 g4 g5 g6 g7 g8 g9
  refine (markMill a w3).mono ?_
  rintro e w4 ⟨rfl, hb4⟩
  have hB4 : Below W2.heap.size W2 w4 := hb3.trans (hb4.mono hb3.size)
  obtain ⟨g0, g1, g2, g3, g4, g5, g6, g7, g8, g9⟩ := cg.out w4 hB4
  go_wp2_with (go_at_call 8; fail)
  clear g0 g1 g2 g3 g4 g5 g6 g7 g8 g9
  refine (heldMill a w4).mono ?_
  rintro e w5 ⟨rfl, hb5⟩
  have hB5 : Below W2.heap.size W2 w5 := hB4.trans (hb5.mono hB4.size)
  go_wp2_with (go_at_call 5; fail)
  refine (HI.out w5).mono ?_
  rintro e w6 ⟨rfl, hb6⟩
  have hhb : Below w6.heap.size w6 (w6.alloc (.cells #[.slice none 0 0, .slice none 0 0, .slice none 0 0, .slice none 0 0, .slice none 0 0, .slice none 0 0, .string ⟨#[]⟩, .int .i64 0, .slice none 0 0, .int .i64 a] 38)) := (Below.refl _ _).alloc (Nat.le_refl _) _
  have hhn := heap_alloc_new w6 (.cells #[.slice none 0 0, .slice none 0 0, .slice none 0 0, .slice none 0 0, .slice none 0 0, .slice none 0 0, .string ⟨#[]⟩, .int .i64 0, .slice none 0 0, .int .i64 a] 38)
  obtain ⟨W6, hW6⟩ : ∃ W6, w6.alloc (.cells #[.slice none 0 0, .slice none 0 0, .slice none 0 0, .slice none 0 0, .slice none 0 0, .slice none 0 0, .string ⟨#[]⟩, .int .i64 0, .slice none 0 0, .int .i64 a] 38) = W6 := ⟨_, rfl⟩
  rw [hW6] at hhb hhn
  have hhl : w6.heap.size < W6.heap.size := (Array.getElem?_eq_some_iff.1 hhn).1
  have ch : Hid (∀ w', Below W6.heap.size W6 w' → w'.cell? ⟨w6.heap.size, 0, none⟩ = some (.slice none 0 0) ∧ w'.cell? ⟨w6.heap.size, 1, none⟩ = some (.slice none 0 0) ∧ w'.cell? ⟨w6.heap.size, 2, none⟩ = some (.slice none 0 0) ∧ w'.cell? ⟨w6.heap.size, 3, none⟩ = some (.slice none 0 0) ∧ w'.cell? ⟨w6.heap.size, 4, none⟩ = some (.slice none 0 0) ∧ w'.cell? ⟨w6.heap.size, 5, none⟩ = some (.slice none 0 0) ∧ w'.cell? ⟨w6.heap.size, 6, none⟩ = some (.string ⟨#[]⟩) ∧ w'.cell? ⟨w6.heap.size, 7, none⟩ = some (.int .i64 0) ∧ w'.cell? ⟨w6.heap.size, 8, none⟩ = some (.slice none 0 0) ∧ w'.cell? ⟨w6.heap.size, 9, none⟩ = some (.int .i64 a)) := fun w' h => by
    have h1 := (h.block _ hhl).trans hhn
    exact ⟨by simp [World.cell?, h1], by simp [World.cell?, h1], by simp [World.cell?, h1], by simp [World.cell?, h1], by simp [World.cell?, h1], by simp [World.cell?, h1], by simp [World.cell?, h1], by simp [World.cell?, h1], by simp [World.cell?, h1], by simp [World.cell?, h1]⟩
  clear hhn
  have hB6 : Below W2.heap.size W2 W6 := (hB5.trans (hb6.mono hB5.size)).trans (hhb.mono (hB5.trans (hb6.mono hB5.size)).size)
  obtain ⟨x0, x1, x2, x3, x4, x5, x6, x7, x8, x9⟩ := cx.out W6 (hB2.trans (hB6.mono hB2.size))
  obtain ⟨h0, h1, h2, h3, h4, h5, h6, h7, h8, h9⟩ := ch.out W6 (Below.refl _ _)
  go_wp2_with (go_at_call 6; fail)
  clear hW6 x0 x1 x2 x3 x4 x5 x6 x7 x8 x9 h0 h1 h2 h3 h4 h5 h6 h7 h8 h9
  refine (eqMill a W6).mono ?_
  rintro e w7 ⟨rfl, hb7⟩
  have hB7 : Below W2.heap.size W2 w7 := hB6.trans (hb7.mono hB6.size)
  obtain ⟨g0, g1, g2, g3, g4, g5, g6, g7, g8, g9⟩ := cg.out w7 hB7
  go_wp2_with (go_at_call 8; fail)
  clear g0 g1 g2 g3 g4 g5 g6 g7 g8 g9
  refine (heldMill a w7).mono ?_
  rintro e w8 ⟨rfl, hb8⟩
  have hB8 : Below W2.heap.size W2 w8 := hB7.trans (hb8.mono hB7.size)
  go_wp2
  go_ret
  exact ⟨rfl, hB1.trans ((hB2.trans (hB8.mono hB2.size)).mono hB1.size)⟩
end Go.Proofs.Ytjcbedfpiigjiaa.mst
