/- Stores that are answered: their marks. -/
import Derived.Test.YtlgcciaebkfnjaaGreatDoorStoLib
import Derived.Test.YtlgcciaebkfnjaaGreatDoorTabAns
namespace Go.Proofs.YtlgcciaebkfnjaaGreatDoor.stm
open Go.ChangeShapes Go.WideShapes Go.ChangeAt Go.RowKit Go.Proofs.YtlgcciaebkfnjaaGreatDoor.fl Go.Proofs.YtlgcciaebkfnjaaGreatDoor.fo Go.Proofs.YtlgcciaebkfnjaaGreatDoor.rn Go.Proofs.YtlgcciaebkfnjaaGreatDoor.tb Go.Proofs.YtlgcciaebkfnjaaGreatDoor.tan Go.Proofs.YtlgcciaebkfnjaaGreatDoor.mrR Go.Proofs.YtlgcciaebkfnjaaGreatDoor.mrT
set_option linter.unusedVariables false

theorem tab_mark {w : World} {B : Nat} {l : List flP.Pr} {R : List (List flP.Pr)} {k : List Rn} {fa ga : Option Addr} {c5 d5 : Nat} (hl : l.length ≤ 2000000) (hR : R.length ≤ 2000000) (ht : tot R ≤ 2000000) (hk : k.map (·.l) = R) (h : TA w B fa ga l k) :
    Calls Tryz.prog 68 #[.agg #[.slice fa l.length c5, .slice ga R.length d5], .int .i64 1] w fun e w' => e = .returned (.int .i64 (1 + 3 * l.length + 3 * tot R : Nat)) ∧ Tn w w' (own fa l k) ∧ KT w' B fa ga l.length k := by
  have hkl : k.length = R.length := by rw [← hk, List.length_map]
  have hb : bulk ln k = tot R := by rw [bulk_map, hk]
  have := mark_table l k fa ga c5 d5 B w hl (by omega) (by omega) h.mt h.nb
  rw [hkl, hb] at this
  exact this
theorem tab_held {w : World} {B n : Nat} {R : List (List flP.Pr)} {k : List Rn} {fa ga : Option Addr} {c5 d5 : Nat} (hl : n ≤ 2000000) (hR : R.length ≤ 2000000) (ht : tot R ≤ 2000000) (hk : k.map (·.l) = R) (h : KT w B fa ga n k) :
    Calls Tryz.prog 69 #[.agg #[.slice fa n c5, .slice ga R.length d5], .int .i64 1] w fun e w' => e = .returned (.int .i64 (1 + 3 * n + 3 * tot R : Nat)) ∧ Below w.heap.size w w' := by
  have hkl : k.length = R.length := by rw [← hk, List.length_map]
  have hb : bulk ln k = tot R := by rw [bulk_map, hk]
  have := held_table n k fa ga c5 d5 B w hl (by omega) (by omega) h
  rw [hkl, hb] at this
  exact this
set_option maxRecDepth 100000 in
theorem mark_ans {w : World} {B : Nat} {l : List flP.Pr} {R : List (List flP.Pr)} {k : List Rn} {fa ga : Option Addr} {c5 d5 : Nat} {lg : ByteArray} {sf : Int} (hl : l.length ≤ 2000000) (hR : R.length ≤ 2000000) (ht : tot R ≤ 2000000) (hk : k.map (·.l) = R) (h : TA w B fa ga l k) :
    Calls Tryz.prog 30 #[.agg #[.slice fa l.length c5, .slice ga R.length d5, .string lg, .int .i64 sf], .int .i64 1] w fun e w' => e = .returned (.int .i64 (1 + 3 * l.length + 3 * tot R : Nat)) ∧ Tn w w' (own fa l k) ∧ KT w' B fa ga l.length k := by
  have hb : Below w.heap.size w (w.alloc (.cells #[.slice fa l.length c5, .slice ga R.length d5, .string lg, .int .i64 sf] 29)) := (Below.refl _ _).alloc (Nat.le_refl _) _
  have hA := bnew w #[.slice fa l.length c5, .slice ga R.length d5, .string lg, .int .i64 sf] 29
  obtain ⟨W, hW⟩ : ∃ W, w.alloc (.cells #[.slice fa l.length c5, .slice ga R.length d5, .string lg, .int .i64 sf] 29) = W := ⟨_, rfl⟩
  rw [hW] at hb hA
  have hm := tab_mark (c5 := c5) (d5 := d5) hl hR ht hk (h.on hb)
  have x0 : W.cell? ⟨w.heap.size, 0, none⟩ = some (.slice fa l.length c5) := bcell hA rfl
  have x1 : W.cell? ⟨w.heap.size, 1, none⟩ = some (.slice ga R.length d5) := bcell hA rfl
  obtain ⟨kk, hkk⟩ : ∃ kk : Nat, 1 + 3 * l.length + 3 * tot R = kk := ⟨_, rfl⟩
  rw [hkk] at hm ⊢
  clear hA hkk
  go_enter Tryz.func30, Tryz.ntmps30
  go_wp2_with (go_at_call 68; fail)
  refine hm.mono ?_
  rintro e w1 ⟨rfl, ht1, hk1⟩
  clear hW x0 x1 hm
  go_wp2
  go_ret
  exact ⟨rfl, (Tn.of _ hb).trans ht1, hk1⟩
set_option maxRecDepth 100000 in
theorem held_ans {w : World} {B n : Nat} {R : List (List flP.Pr)} {k : List Rn} {fa ga : Option Addr} {c5 d5 : Nat} {lg : ByteArray} {sf : Int} (hl : n ≤ 2000000) (hR : R.length ≤ 2000000) (ht : tot R ≤ 2000000) (hk : k.map (·.l) = R) (h : KT w B fa ga n k) :
    Calls Tryz.prog 31 #[.agg #[.slice fa n c5, .slice ga R.length d5, .string lg, .int .i64 sf], .int .i64 1] w fun e w' => e = .returned (.int .i64 (1 + 3 * n + 3 * tot R : Nat)) ∧ Below w.heap.size w w' := by
  have hb : Below w.heap.size w (w.alloc (.cells #[.slice fa n c5, .slice ga R.length d5, .string lg, .int .i64 sf] 29)) := (Below.refl _ _).alloc (Nat.le_refl _) _
  have hA := bnew w #[.slice fa n c5, .slice ga R.length d5, .string lg, .int .i64 sf] 29
  obtain ⟨W, hW⟩ : ∃ W, w.alloc (.cells #[.slice fa n c5, .slice ga R.length d5, .string lg, .int .i64 sf] 29) = W := ⟨_, rfl⟩
  rw [hW] at hb hA
  have hm := tab_held (c5 := c5) (d5 := d5) hl hR ht hk (h.on hb)
  have x0 : W.cell? ⟨w.heap.size, 0, none⟩ = some (.slice fa n c5) := bcell hA rfl
  have x1 : W.cell? ⟨w.heap.size, 1, none⟩ = some (.slice ga R.length d5) := bcell hA rfl
  obtain ⟨kk, hkk⟩ : ∃ kk : Nat, 1 + 3 * n + 3 * tot R = kk := ⟨_, rfl⟩
  rw [hkk] at hm ⊢
  have hk0 : ¬ ((kk : Int) < 0) := by omega
  clear hA hkk
  go_enter Tryz.func31, Tryz.ntmps31
  go_wp2_with (go_at_call 69; fail)
  refine hm.mono ?_
  rintro e w1 ⟨rfl, ht1⟩
  clear hW x0 x1 hm
  go_wp2
  go_ret
  exact ⟨rfl, hb.trans (ht1.mono hb.size)⟩
end Go.Proofs.YtlgcciaebkfnjaaGreatDoor.stm
