/- The laws' marks in rows of the structure Message of their own, at any offset of their block: laid, and held. -/
import Derived.Test.YtfgilmibeeljnaaFlatPart
import Derived.Test.YtfgilmibeeljnaaFlMessage
import Derived.Test.YtfgilmibeeljnaaMarkText
import Derived.Deep.RegionWith
namespace Go.Proofs.Ytfgilmibeeljnaa.mrM
open Go.ChangeShapes Go.WideShapes Go.ChangeAt Go.RowKit Go.Proofs.Ytfgilmibeeljnaa.fl Go.Proofs.Ytfgilmibeeljnaa.fo Go.Proofs.Ytfgilmibeeljnaa.fp
set_option linter.unusedVariables false

/-- the marks of n from the k0-th on -/
def mks (k0 n : Nat) : List flM.Ms := (List.range n).map fun i => ⟨(((k0 + 5 * i) : Nat) : Int), sm.mt ((k0 + 5 * i) + 1), sm.mt ((k0 + 5 * i) + 2), sm.mt ((k0 + 5 * i) + 3), decide (((k0 + 5 * i) + 4) % 3 = 0)⟩
theorem mks_at (k0 n k : Nat) (h : k < n) : (mks k0 n)[k]? = some ⟨(((k0 + 5 * k) : Nat) : Int), sm.mt ((k0 + 5 * k) + 1), sm.mt ((k0 + 5 * k) + 2), sm.mt ((k0 + 5 * k) + 3), decide (((k0 + 5 * k) + 4) % 3 = 0)⟩ := by simp [mks, h]
theorem mks_len (k0 n : Nat) : (mks k0 n).length = n := by simp [mks]
theorem rem4 (m : Nat) : (((m : Int) + 1 + 1 + 1 + 1) % 3 == 0) = decide ((m + 4) % 3 = 0) := by
  by_cases h : (m + 4) % 3 = 0
  · have h2 : ((m : Int) + 1 + 1 + 1 + 1) % 3 = 0 := by omega
    simp [h, h2]
  · have h2 : ¬ ((m : Int) + 1 + 1 + 1 + 1) % 3 = 0 := by omega
    simp [h, h2]

set_option maxRecDepth 100000 in
set_option maxHeartbeats 2000000 in
theorem mark_all (n g off c k0 : Nat) (w : World) (hl : n ≤ 2000000) (hk0 : 1 ≤ k0 ∧ k0 ≤ 1000000000000) (ha : OwnO flM.c 5 38 w g off (mks k0 n) 0) :
    Calls Try.prog 35 #[.slice (some ⟨g, off, none⟩) n c, .int .i64 k0] w fun e w' => e = .returned (.int .i64 (k0 + 5 * n : Nat)) ∧ Tn w w' (fun k => k = g) ∧ OwnO flM.c 5 38 w' g off (mks k0 n) n := by
  have HA : Hid (OwnO flM.c 5 38 w g off (mks k0 n) 0) := ha
  clear ha
  go_enter Try.func35, Try.ntmps35
  go_wp2
  go_loopw [1, 5] (fun y x wr => ∃ k : Nat, k ≤ n ∧ x = .int .i64 k ∧ y = .int .i64 (k0 + 5 * k : Nat) ∧ Tn w wr (fun k => k = g) ∧ Hid (OwnO flM.c 5 38 wr g off (mks k0 n) k)) (fun _ x _ => n - (intOf x).toNat)
  case atStart => exact ⟨0, Nat.zero_le _, rfl, rfl, Tn.refl _ _, HA⟩
  case round =>
    obtain ⟨k, hk, rfl, rfl, hbel, hf⟩ := hrel
    by_cases hkl : k < n
    · have hg := mks_at k0 n k hkl
      obtain ⟨m, hm⟩ : ∃ m, k0 + 5 * k = m := ⟨_, rfl⟩
      rw [hm] at hg
      rw [hm]
      have hm9 : m ≤ 20000000000000 := by omega
      have h3_4 := rem4 m
      obtain ⟨gb4, hgb4⟩ : ∃ gb, decide ((m + 4) % 3 = 0) = gb := ⟨_, rfl⟩
      rw [hgb4] at hg h3_4
      have HG : Hid ((mks k0 n)[k]? = some ⟨(m : Int), sm.mt (m + 1), sm.mt (m + 2), sm.mt (m + 3), gb4⟩) := hg
      have HM : Hid (k0 + 5 * k = m) := hm
      have hmt1 := fun W => sm.mark_text (m + 1) W (by omega) (by omega)
      rw [show ((m + 1 : Nat) : Int) = (m : Int) + 1 by omega] at hmt1
      have hmt2 := fun W => sm.mark_text (m + 2) W (by omega) (by omega)
      rw [show ((m + 2 : Nat) : Int) = (m : Int) + 1 + 1 by omega] at hmt2
      have hmt3 := fun W => sm.mark_text (m + 3) W (by omega) (by omega)
      rw [show ((m + 3 : Nat) : Int) = (m : Int) + 1 + 1 + 1 by omega] at hmt3
      have hml := mks_len k0 n
      have hkm : k < (mks k0 n).length := by omega
      have HP : Hid (Pt flM.c 5 38 wr g off (mks k0 n) k ⟨(m : Int), sm.mt (m + 1), sm.mt (m + 2), sm.mt (m + 3), gb4⟩ 0) := Pt.zero hf.out _
      have HT : Hid (Tn w wr (fun k => k = g)) := hbel
      clear hm hg hgb4 hf hbel
      obtain ⟨v0, g0⟩ := HP.out.own.at (off + k * 5) (by omega)
      have z0 := HP.out.own.free (off + k * 5)
      go_wp2_with (go_at_call 67; fail)
      refine (hmt1 _).mono ?_
      rintro e w1 ⟨rfl, hb1⟩
      have HP' : Hid (Pt flM.c 5 38 w1 g off (mks k0 n) k ⟨(m : Int), sm.mt (m + 1), sm.mt (m + 2), sm.mt (m + 3), gb4⟩ 1) := (HP.out.put flM.c_len HG.out (v := .int .i64 ((m : Int))) rfl).below hb1
      have HT' : Hid (Tn w w1 (fun k => k = g)) := (HT.out.set rfl _ _).trans (Tn.of _ hb1)
      clear HP HT hmt1 hb1 g0 z0
      have HP := HP'
      have HT := HT'
      clear HP' HT'
      obtain ⟨v1, g1⟩ := HP.out.own.at (off + k * 5 + 1) (by omega)
      have z1 := HP.out.own.free (off + k * 5 + 1)
      go_wp2_with (go_at_call 67; fail)
      refine (hmt2 _).mono ?_
      rintro e w2 ⟨rfl, hb2⟩
      have HP' : Hid (Pt flM.c 5 38 w2 g off (mks k0 n) k ⟨(m : Int), sm.mt (m + 1), sm.mt (m + 2), sm.mt (m + 3), gb4⟩ 2) := (HP.out.put flM.c_len HG.out (v := .string (sm.mt (m + 1))) rfl).below hb2
      have HT' : Hid (Tn w w2 (fun k => k = g)) := (HT.out.set rfl _ _).trans (Tn.of _ hb2)
      clear HP HT hmt2 hb2 g1 z1
      have HP := HP'
      have HT := HT'
      clear HP' HT'
      obtain ⟨v2, g2⟩ := HP.out.own.at (off + k * 5 + 2) (by omega)
      have z2 := HP.out.own.free (off + k * 5 + 2)
      go_wp2_with (go_at_call 67; fail)
      refine (hmt3 _).mono ?_
      rintro e w3 ⟨rfl, hb3⟩
      have HP' : Hid (Pt flM.c 5 38 w3 g off (mks k0 n) k ⟨(m : Int), sm.mt (m + 1), sm.mt (m + 2), sm.mt (m + 3), gb4⟩ 3) := (HP.out.put flM.c_len HG.out (v := .string (sm.mt (m + 2))) rfl).below hb3
      have HT' : Hid (Tn w w3 (fun k => k = g)) := (HT.out.set rfl _ _).trans (Tn.of _ hb3)
      clear HP HT hmt3 hb3 g2 z2
      have HP := HP'
      have HT := HT'
      clear HP' HT'
      obtain ⟨v3, g3⟩ := HP.out.own.at (off + k * 5 + 3) (by omega)
      have z3 := HP.out.own.free (off + k * 5 + 3)
      obtain ⟨v4, g4⟩ := HP.out.own.at (off + k * 5 + 4) (by omega)
      have z4 := HP.out.own.free (off + k * 5 + 4)
      have HN : Hid (OwnO flM.c 5 38 ((w3.setCell ⟨g, off + k * 5 + 3, none⟩ (.string (sm.mt (m + 3)))).setCell ⟨g, off + k * 5 + 4, none⟩ (.bool gb4)) g off (mks k0 n) (k + 1)) := Pt.done flM.c_len ((HP.out.put flM.c_len HG.out (v := .string (sm.mt (m + 3))) rfl).put flM.c_len HG.out (v := .bool gb4) rfl) HG.out
      go_wp2
      go_roundw
      case rel => exact ⟨k + 1, by omega, by go_num, by rw [show k0 + 5 * (k + 1) = m + 5 by have := HM.out; omega]; go_num, ((HT.out.set rfl _ _).set rfl _ _), HN⟩
      case measure => simp [intOf]; omega
    · obtain rfl : k = n := by omega
      go_wp2
      go_ret
      exact ⟨rfl, hbel, hf.out⟩

set_option maxRecDepth 100000 in
set_option maxHeartbeats 4000000 in
theorem held_all (n g off c k0 : Nat) (w : World) (hl : n ≤ 2000000) (hk0 : 1 ≤ k0 ∧ k0 ≤ 1000000000000) (ha : OwnO flM.c 5 38 w g off (mks k0 n) n) :
    Calls Try.prog 37 #[.slice (some ⟨g, off, none⟩) n c, .int .i64 k0] w fun e w' => e = .returned (.int .i64 (k0 + 5 * n : Nat)) ∧ Below w.heap.size w w' := by
  have HA : Hid (OwnO flM.c 5 38 w g off (mks k0 n) n) := ha
  have hlt := ha.lt
  clear ha
  go_enter Try.func37, Try.ntmps37
  go_wp2
  go_loopw [1, 5] (fun y x wr => ∃ k : Nat, k ≤ n ∧ x = .int .i64 k ∧ y = .int .i64 (k0 + 5 * k : Nat) ∧ Below w.heap.size w wr) (fun _ x _ => n - (intOf x).toNat)
  case atStart => exact ⟨0, Nat.zero_le _, rfl, rfl, Below.refl _ _⟩
  case round =>
    obtain ⟨k, hk, rfl, rfl, hbel⟩ := hrel
    by_cases hkl : k < n
    · have hg := mks_at k0 n k hkl
      obtain ⟨m, hm⟩ : ∃ m, k0 + 5 * k = m := ⟨_, rfl⟩
      rw [hm] at hg
      rw [hm]
      have hm9 : m ≤ 20000000000000 := by omega
      have h3_4 := rem4 m
      obtain ⟨gb4, hgb4⟩ : ∃ gb, decide ((m + 4) % 3 = 0) = gb := ⟨_, rfl⟩
      rw [hgb4] at hg h3_4
      have HM : Hid (k0 + 5 * k = m) := hm
      have hR := HA.out.below hbel hlt
      have hltr := hR.lt
      have cs : ∀ (j : Nat) (v : Value), (flM.c ⟨(m : Int), sm.mt (m + 1), sm.mt (m + 2), sm.mt (m + 3), gb4⟩)[j]? = some v → wr.cell? ⟨g, off + k * 5 + j, none⟩ = some v := fun j v hv => by
        obtain ⟨cur, h1, h2, h3⟩ := hR
        simp only [World.cell?, h1]
        simpa using h3 k _ hkl hg j v hv
      have c0 : wr.cell? ⟨g, off + k * 5, none⟩ = some (.int .i64 ((m : Int))) := cs 0 _ rfl
      have c1 : wr.cell? ⟨g, off + k * 5 + 1, none⟩ = some (.string (sm.mt (m + 1))) := cs 1 _ rfl
      have c2 : wr.cell? ⟨g, off + k * 5 + 2, none⟩ = some (.string (sm.mt (m + 2))) := cs 2 _ rfl
      have c3 : wr.cell? ⟨g, off + k * 5 + 3, none⟩ = some (.string (sm.mt (m + 3))) := cs 3 _ rfl
      have c4 : wr.cell? ⟨g, off + k * 5 + 4, none⟩ = some (.bool gb4) := cs 4 _ rfl
      have hmt1 := fun W => sm.mark_text (m + 1) W (by omega) (by omega)
      rw [show ((m + 1 : Nat) : Int) = (m : Int) + 1 by omega] at hmt1
      have hmt2 := fun W => sm.mark_text (m + 2) W (by omega) (by omega)
      rw [show ((m + 2 : Nat) : Int) = (m : Int) + 1 + 1 by omega] at hmt2
      have hmt3 := fun W => sm.mark_text (m + 3) W (by omega) (by omega)
      rw [show ((m + 3 : Nat) : Int) = (m : Int) + 1 + 1 + 1 by omega] at hmt3
      have i2 : (k : Int) < (n : Int) := by omega
      clear hm hg hR cs hgb4
      go_wp2
      go_region_with (go_at_call 67; refine (hmt1 _).mono ?_; rintro e w1 ⟨rfl, hb1⟩; have d1_1 : w1.cell? ⟨g, off + k * 5 + 1, none⟩ = some (.string (sm.mt (m + 1))) := (hb1.cell (p := ⟨g, off + k * 5 + 1, none⟩) (by simp only [World.drew] at *; omega)).trans c1; have d1_2 : w1.cell? ⟨g, off + k * 5 + 2, none⟩ = some (.string (sm.mt (m + 2))) := (hb1.cell (p := ⟨g, off + k * 5 + 2, none⟩) (by simp only [World.drew] at *; omega)).trans c2; have d1_3 : w1.cell? ⟨g, off + k * 5 + 3, none⟩ = some (.string (sm.mt (m + 3))) := (hb1.cell (p := ⟨g, off + k * 5 + 3, none⟩) (by simp only [World.drew] at *; omega)).trans c3; have d1_4 : w1.cell? ⟨g, off + k * 5 + 4, none⟩ = some (.bool gb4) := (hb1.cell (p := ⟨g, off + k * 5 + 4, none⟩) (by simp only [World.drew] at *; omega)).trans c4)
      all_goals go_wp2
      all_goals go_region_with (go_at_call 67; refine (hmt2 _).mono ?_; rintro e w2 ⟨rfl, hb2⟩; have d2_2 : w2.cell? ⟨g, off + k * 5 + 2, none⟩ = some (.string (sm.mt (m + 2))) := (hb2.cell (p := ⟨g, off + k * 5 + 2, none⟩) (by have s1 := hb1.size; simp only [World.drew] at *; omega)).trans d1_2; have d2_3 : w2.cell? ⟨g, off + k * 5 + 3, none⟩ = some (.string (sm.mt (m + 3))) := (hb2.cell (p := ⟨g, off + k * 5 + 3, none⟩) (by have s1 := hb1.size; simp only [World.drew] at *; omega)).trans d1_3; have d2_4 : w2.cell? ⟨g, off + k * 5 + 4, none⟩ = some (.bool gb4) := (hb2.cell (p := ⟨g, off + k * 5 + 4, none⟩) (by have s1 := hb1.size; simp only [World.drew] at *; omega)).trans d1_4)
      all_goals go_wp2
      all_goals go_region_with (go_at_call 67; refine (hmt3 _).mono ?_; rintro e w3 ⟨rfl, hb3⟩; have d3_3 : w3.cell? ⟨g, off + k * 5 + 3, none⟩ = some (.string (sm.mt (m + 3))) := (hb3.cell (p := ⟨g, off + k * 5 + 3, none⟩) (by have s1 := hb1.size; have s2 := hb2.size; simp only [World.drew] at *; omega)).trans d2_3; have d3_4 : w3.cell? ⟨g, off + k * 5 + 4, none⟩ = some (.bool gb4) := (hb3.cell (p := ⟨g, off + k * 5 + 4, none⟩) (by have s1 := hb1.size; have s2 := hb2.size; simp only [World.drew] at *; omega)).trans d2_4)
      all_goals go_wp2
      all_goals go_roundw
      all_goals first | exact ⟨k + 1, by omega, by go_num, by rw [show k0 + 5 * (k + 1) = m + 5 by have := HM.out; omega]; go_num, (((hbel.drew.trans (hb1.mono hbel.size)).drew.trans (hb2.mono (by have h0 := hbel.size; have s1 := hb1.size; simp only [World.drew] at *; omega))).drew.trans (hb3.mono (by have h0 := hbel.size; have s1 := hb1.size; have s2 := hb2.size; simp only [World.drew] at *; omega)))⟩ | (simp [intOf]; omega)
    · obtain rfl : k = n := by omega
      go_wp2
      go_ret
      exact ⟨rfl, hbel⟩
end Go.Proofs.Ytfgilmibeeljnaa.mrM
