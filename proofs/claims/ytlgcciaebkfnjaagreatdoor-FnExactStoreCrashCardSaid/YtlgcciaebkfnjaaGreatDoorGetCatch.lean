/- The closure that GetBatch defers: behind a panic with a fault it lays nothing and false; else it does nothing. -/
import Derived.Test.YtlgcciaebkfnjaaGreatDoorIsFault
import Derived.Defers
import Derived.Recover
namespace Go.Proofs.YtlgcciaebkfnjaaGreatDoor.asf
open Go.RowKit Go.Extern.Stop Go.Stop Go.Extern Go.Proofs.YtlgcciaebkfnjaaGreatDoor.fl
set_option linter.unusedVariables false

set_option maxRecDepth 100000 in
theorem catch_idle (p q : Addr) (w : World) :
    CallsD Tryz.prog 163 #[.pointer (some p), .pointer (some q)] .returning w fun e u' w' => e = .returned (.tuple #[]) ∧ u' = .returning ∧ w' = w := by
  have hN := fault_nil w
  refine callsD_of_wpS Tryz.func163 rfl fun c₀ cs hu => ?_
  apply wpS_seq
  apply wpS_region
  simp [wpOpsS, go_sem, recoverD, hu, Tryz.ntmps163, Exit.thenS]
  refine hN.mono ?_
  rintro e w' ⟨rfl, hw⟩
  obtain rfl := hw.symm
  simp [go_sem]
  refine wpS_cond (t := false) (by simp [Act.eval, Array.replicate]) ?_
  simp only [Bool.false_eq_true, if_false]
  refine wpS_of_wp (wp_skip ?_)
  cases c₀
  simp_all [bodyPostS, results, Tryz.results163]

set_option maxRecDepth 100000 in
theorem catch_hit (p q : Nat) (n : Int) (x y : Value) (w : World) (hg : ET w) (hp : w.cell? ⟨p, 0, none⟩ = some x) (hp2 : w.frozen? ⟨p, 0, none⟩ = false) (hq : w.cell? ⟨q, 0, none⟩ = some y) (hq2 : w.frozen? ⟨q, 0, none⟩ = false) (hpq : p ≠ q) :
    CallsD Tryz.prog 163 #[.pointer (some ⟨p, 0, none⟩), .pointer (some ⟨q, 0, none⟩)] (.panicking [{ v := .iface 211 (.agg #[.int .i64 n]), recovered := false }]) w fun e u' w' =>
      e = .returned (.tuple #[]) ∧ u' = .panicking [{ v := .iface 211 (.agg #[.int .i64 n]), recovered := true }] ∧ ∃ w1, Below w.heap.size w w1 ∧ w' = (w1.setCell ⟨p, 0, none⟩ (.slice none 0 0)).setCell ⟨q, 0, none⟩ (.bool false) := by
  have hN := fault_hit n w hg
  have lp : p < w.heap.size := by
    rcases Nat.lt_or_ge p w.heap.size with h | h
    · exact h
    · simp [World.cell?, Array.getElem?_eq_none h] at hp
  have lq : q < w.heap.size := by
    rcases Nat.lt_or_ge q w.heap.size with h | h
    · exact h
    · simp [World.cell?, Array.getElem?_eq_none h] at hq
  refine callsD_of_wpS Tryz.func163 rfl fun c₀ cs hu => ?_
  apply wpS_seq
  apply wpS_region
  simp [wpOpsS, go_sem, recoverD, hu, Tryz.ntmps163, Exit.thenS]
  refine hN.mono ?_
  rintro e w' ⟨rfl, hb⟩
  have h1 : w'.cell? ⟨p, 0, none⟩ = some x := by rw [hb.cell lp]; exact hp
  have h2 : w'.frozen? ⟨p, 0, none⟩ = false := by rw [hb.frozen lp]; exact hp2
  have h3 : w'.cell? ⟨q, 0, none⟩ = some y := by rw [hb.cell lq]; exact hq
  have h4 : w'.frozen? ⟨q, 0, none⟩ = false := by rw [hb.frozen lq]; exact hq2
  simp [go_sem]
  refine wpS_cond (t := true) (by simp [Act.eval, Array.replicate]) ?_
  simp only [if_true]
  apply wpS_region
  simp [wpOpsS, go_sem, h1, h2, h3, h4, bodyPostS, results, Tryz.results163]
  exact ⟨w', hb, rfl⟩
end Go.Proofs.YtlgcciaebkfnjaaGreatDoor.asf
