/- The laws' marks in rows of the structure Held of their own, at any offset of their block: laid, and held. -/
import Derived.Test.YtfgilmibeeljnaaFlatPart
import Derived.Test.YtfgilmibeeljnaaFlHeld
import Derived.Test.YtfgilmibeeljnaaMarkText
import Derived.Deep.RegionWith
namespace Go.Proofs.Ytfgilmibeeljnaa.mrH
open Go.ChangeShapes Go.WideShapes Go.ChangeAt Go.RowKit Go.Proofs.Ytfgilmibeeljnaa.fl Go.Proofs.Ytfgilmibeeljnaa.fo Go.Proofs.Ytfgilmibeeljnaa.fp
set_option linter.unusedVariables false

/-- the marks of n from the k0-th on -/
def mks (k0 n : Nat) : List flH.Hd := (List.range n).map fun i => ⟨(((k0 + 7 * i) : Nat) : Int), (((k0 + 7 * i) : Nat) : Int) + 1, ⟨(((k0 + 7 * i) : Nat) : Int) + 1 + 1, sm.mt ((k0 + 7 * i) + 3), sm.mt ((k0 + 7 * i) + 4), sm.mt ((k0 + 7 * i) + 5), decide (((k0 + 7 * i) + 6) % 3 = 0)⟩⟩
theorem mks_at (k0 n k : Nat) (h : k < n) : (mks k0 n)[k]? = some ⟨(((k0 + 7 * k) : Nat) : Int), (((k0 + 7 * k) : Nat) : Int) + 1, ⟨(((k0 + 7 * k) : Nat) : Int) + 1 + 1, sm.mt ((k0 + 7 * k) + 3), sm.mt ((k0 + 7 * k) + 4), sm.mt ((k0 + 7 * k) + 5), decide (((k0 + 7 * k) + 6) % 3 = 0)⟩⟩ := by simp [mks, h]
theorem mks_len (k0 n : Nat) : (mks k0 n).length = n := by simp [mks]
theorem rem6 (m : Nat) : (((m : Int) + 1 + 1 + 1 + 1 + 1 + 1) % 3 == 0) = decide ((m + 6) % 3 = 0) := by
  by_cases h : (m + 6) % 3 = 0
  · have h2 : ((m : Int) + 1 + 1 + 1 + 1 + 1 + 1) % 3 = 0 := by omega
    simp [h, h2]
  · have h2 : ¬ ((m : Int) + 1 + 1 + 1 + 1 + 1 + 1) % 3 = 0 := by omega
    simp [h, h2]

set_option maxRecDepth 100000 in
set_option maxHeartbeats 2000000 in
theorem mark_all (n g off c k0 : Nat) (w : World) (hl : n ≤ 2000000) (hk0 : 1 ≤ k0 ∧ k0 ≤ 1000000000000) (ha : OwnO flH.c 7 66 w g off (mks k0 n) 0) :
    Calls Try.prog 36 #[.slice (some ⟨g, off, none⟩) n c, .int .i64 k0] w fun e w' => e = .returned (.int .i64 (k0 + 7 * n : Nat)) ∧ Tn w w' (fun k => k = g) ∧ OwnO flH.c 7 66 w' g off (mks k0 n) n := by
  have HA : Hid (OwnO flH.c 7 66 w g off (mks k0 n) 0) := ha
  clear ha
  go_enter Try.func36, Try.ntmps36
  go_wp2
  go_loopw [1, 5] (fun y x wr => ∃ k : Nat, k ≤ n ∧ x = .int .i64 k ∧ y = .int .i64 (k0 + 7 * k : Nat) ∧ Tn w wr (fun k => k = g) ∧ Hid (OwnO flH.c 7 66 wr g off (mks k0 n) k)) (fun _ x _ => n - (intOf x).toNat)
  case atStart => exact ⟨0, Nat.zero_le _, rfl, rfl, Tn.refl _ _, HA⟩
  case round =>
    obtain ⟨k, hk, rfl, rfl, hbel, hf⟩ := hrel
    by_cases hkl : k < n
    · have hg := mks_at k0 n k hkl
      obtain ⟨m, hm⟩ : ∃ m, k0 + 7 * k = m := ⟨_, rfl⟩
      rw [hm] at hg
      rw [hm]
      have hm9 : m ≤ 20000000000000 := by omega
      have h3_6 := rem6 m
      obtain ⟨gb6, hgb6⟩ : ∃ gb, decide ((m + 6) % 3 = 0) = gb := ⟨_, rfl⟩
      rw [hgb6] at hg h3_6
      have HG : Hid ((mks k0 n)[k]? = some ⟨(m : Int), (m : Int) + 1, ⟨(m : Int) + 1 + 1, sm.mt (m + 3), sm.mt (m + 4), sm.mt (m + 5), gb6⟩⟩) := hg
      have HM : Hid (k0 + 7 * k = m) := hm
      have hmt3 := fun W => sm.mark_text (m + 3) W (by omega) (by omega)
      rw [show ((m + 3 : Nat) : Int) = (m : Int) + 1 + 1 + 1 by omega] at hmt3
      have hmt4 := fun W => sm.mark_text (m + 4) W (by omega) (by omega)
      rw [show ((m + 4 : Nat) : Int) = (m : Int) + 1 + 1 + 1 + 1 by omega] at hmt4
      have hmt5 := fun W => sm.mark_text (m + 5) W (by omega) (by omega)
      rw [show ((m + 5 : Nat) : Int) = (m : Int) + 1 + 1 + 1 + 1 + 1 by omega] at hmt5
      have hml := mks_len k0 n
      have hkm : k < (mks k0 n).length := by omega
      have HP : Hid (Pt flH.c 7 66 wr g off (mks k0 n) k ⟨(m : Int), (m : Int) + 1, ⟨(m : Int) + 1 + 1, sm.mt (m + 3), sm.mt (m + 4), sm.mt (m + 5), gb6⟩⟩ 0) := Pt.zero hf.out _
      have HT : Hid (Tn w wr (fun k => k = g)) := hbel
      clear hm hg hgb6 hf hbel
      obtain ⟨v0, g0⟩ := HP.out.own.at (off + k * 7) (by omega)
      have z0 := HP.out.own.free (off + k * 7)
      obtain ⟨v1, g1⟩ := HP.out.own.at (off + k * 7 + 1) (by omega)
      have z1 := HP.out.own.free (off + k * 7 + 1)
      obtain ⟨v2, g2⟩ := HP.out.own.at (off + k * 7 + 2) (by omega)
      have z2 := HP.out.own.free (off + k * 7 + 2)
      go_wp2_with (go_at_call 67; fail)
      refine (hmt3 _).mono ?_
      rintro e w3 ⟨rfl, hb3⟩
      have HP' : Hid (Pt flH.c 7 66 w3 g off (mks k0 n) k ⟨(m : Int), (m : Int) + 1, ⟨(m : Int) + 1 + 1, sm.mt (m + 3), sm.mt (m + 4), sm.mt (m + 5), gb6⟩⟩ 3) := (((HP.out.put flH.c_len HG.out (v := .int .i64 ((m : Int))) rfl).put flH.c_len HG.out (v := .int .i64 ((m : Int) + 1)) rfl).put flH.c_len HG.out (v := .int .i64 ((m : Int) + 1 + 1)) rfl).below hb3
      have HT' : Hid (Tn w w3 (fun k => k = g)) := (((HT.out.set rfl _ _).set rfl _ _).set rfl _ _).trans (Tn.of _ hb3)
      clear HP HT hmt3 hb3 g0 z0 g1 z1 g2 z2
      have HP := HP'
      have HT := HT'
      clear HP' HT'
      obtain ⟨v3, g3⟩ := HP.out.own.at (off + k * 7 + 3) (by omega)
      have z3 := HP.out.own.free (off + k * 7 + 3)
      go_wp2_with (go_at_call 67; fail)
      refine (hmt4 _).mono ?_
      rintro e w4 ⟨rfl, hb4⟩
      have HP' : Hid (Pt flH.c 7 66 w4 g off (mks k0 n) k ⟨(m : Int), (m : Int) + 1, ⟨(m : Int) + 1 + 1, sm.mt (m + 3), sm.mt (m + 4), sm.mt (m + 5), gb6⟩⟩ 4) := (HP.out.put flH.c_len HG.out (v := .string (sm.mt (m + 3))) rfl).below hb4
      have HT' : Hid (Tn w w4 (fun k => k = g)) := (HT.out.set rfl _ _).trans (Tn.of _ hb4)
      clear HP HT hmt4 hb4 g3 z3
      have HP := HP'
      have HT := HT'
      clear HP' HT'
      obtain ⟨v4, g4⟩ := HP.out.own.at (off + k * 7 + 4) (by omega)
      have z4 := HP.out.own.free (off + k * 7 + 4)
      go_wp2_with (go_at_call 67; fail)
      refine (hmt5 _).mono ?_
      rintro e w5 ⟨rfl, hb5⟩
      have HP' : Hid (Pt flH.c 7 66 w5 g off (mks k0 n) k ⟨(m : Int), (m : Int) + 1, ⟨(m : Int) + 1 + 1, sm.mt (m + 3), sm.mt (m + 4), sm.mt (m + 5), gb6⟩⟩ 5) := (HP.out.put flH.c_len HG.out (v := .string (sm.mt (m + 4))) rfl).below hb5
      have HT' : Hid (Tn w w5 (fun k => k = g)) := (HT.out.set rfl _ _).trans (Tn.of _ hb5)
      clear HP HT hmt5 hb5 g4 z4
      have HP := HP'
      have HT := HT'
      clear HP' HT'
      obtain ⟨v5, g5⟩ := HP.out.own.at (off + k * 7 + 5) (by omega)
      have z5 := HP.out.own.free (off + k * 7 + 5)
      obtain ⟨v6, g6⟩ := HP.out.own.at (off + k * 7 + 6) (by omega)
      have z6 := HP.out.own.free (off + k * 7 + 6)
      have HN : Hid (OwnO flH.c 7 66 ((w5.setCell ⟨g, off + k * 7 + 5, none⟩ (.string (sm.mt (m + 5)))).setCell ⟨g, off + k * 7 + 6, none⟩ (.bool gb6)) g off (mks k0 n) (k + 1)) := Pt.done flH.c_len ((HP.out.put flH.c_len HG.out (v := .string (sm.mt (m + 5))) rfl).put flH.c_len HG.out (v := .bool gb6) rfl) HG.out
      go_wp2
      go_roundw
      case rel => exact ⟨k + 1, by omega, by go_num, by rw [show k0 + 7 * (k + 1) = m + 7 by have := HM.out; omega]; go_num, ((HT.out.set rfl _ _).set rfl _ _), HN⟩
      case measure => simp [intOf]; omega
    · obtain rfl : k = n := by omega
      go_wp2
      go_ret
      exact ⟨rfl, hbel, hf.out⟩

set_option maxRecDepth 100000 in
set_option maxHeartbeats 4000000 in
theorem held_all (n g off c k0 : Nat) (w : World) (hl : n ≤ 2000000) (hk0 : 1 ≤ k0 ∧ k0 ≤ 1000000000000) (ha : OwnO flH.c 7 66 w g off (mks k0 n) n) :
    Calls Try.prog 38 #[.slice (some ⟨g, off, none⟩) n c, .int .i64 k0] w fun e w' => e = .returned (.int .i64 (k0 + 7 * n : Nat)) ∧ Below w.heap.size w w' := by
  have HA : Hid (OwnO flH.c 7 66 w g off (mks k0 n) n) := ha
  have hlt := ha.lt
  clear ha
  go_enter Try.func38, Try.ntmps38
  go_wp2
  go_loopw [1, 5] (fun y x wr => ∃ k : Nat, k ≤ n ∧ x = .int .i64 k ∧ y = .int .i64 (k0 + 7 * k : Nat) ∧ Below w.heap.size w wr) (fun _ x _ => n - (intOf x).toNat)
  case atStart => exact ⟨0, Nat.zero_le _, rfl, rfl, Below.refl _ _⟩
  case round =>
    obtain ⟨k, hk, rfl, rfl, hbel⟩ := hrel
    by_cases hkl : k < n
    · have hg := mks_at k0 n k hkl
      obtain ⟨m, hm⟩ : ∃ m, k0 + 7 * k = m := ⟨_, rfl⟩
      rw [hm] at hg
      rw [hm]
      have hm9 : m ≤ 20000000000000 := by omega
      have h3_6 := rem6 m
      obtain ⟨gb6, hgb6⟩ : ∃ gb, decide ((m + 6) % 3 = 0) = gb := ⟨_, rfl⟩
      rw [hgb6] at hg h3_6
      have HM : Hid (k0 + 7 * k = m) := hm
      have hR := HA.out.below hbel hlt
      have hltr := hR.lt
      have cs : ∀ (j : Nat) (v : Value), (flH.c ⟨(m : Int), (m : Int) + 1, ⟨(m : Int) + 1 + 1, sm.mt (m + 3), sm.mt (m + 4), sm.mt (m + 5), gb6⟩⟩)[j]? = some v → wr.cell? ⟨g, off + k * 7 + j, none⟩ = some v := fun j v hv => by
        obtain ⟨cur, h1, h2, h3⟩ := hR
        simp only [World.cell?, h1]
        simpa using h3 k _ hkl hg j v hv
      have c0 : wr.cell? ⟨g, off + k * 7, none⟩ = some (.int .i64 ((m : Int))) := cs 0 _ rfl
      have c1 : wr.cell? ⟨g, off + k * 7 + 1, none⟩ = some (.int .i64 ((m : Int) + 1)) := cs 1 _ rfl
      have c2 : wr.cell? ⟨g, off + k * 7 + 2, none⟩ = some (.int .i64 ((m : Int) + 1 + 1)) := cs 2 _ rfl
      have c3 : wr.cell? ⟨g, off + k * 7 + 3, none⟩ = some (.string (sm.mt (m + 3))) := cs 3 _ rfl
      have c4 : wr.cell? ⟨g, off + k * 7 + 4, none⟩ = some (.string (sm.mt (m + 4))) := cs 4 _ rfl
      have c5 : wr.cell? ⟨g, off + k * 7 + 5, none⟩ = some (.string (sm.mt (m + 5))) := cs 5 _ rfl
      have c6 : wr.cell? ⟨g, off + k * 7 + 6, none⟩ = some (.bool gb6) := cs 6 _ rfl
      have hmt3 := fun W => sm.mark_text (m + 3) W (by omega) (by omega)
      rw [show ((m + 3 : Nat) : Int) = (m : Int) + 1 + 1 + 1 by omega] at hmt3
      have hmt4 := fun W => sm.mark_text (m + 4) W (by omega) (by omega)
      rw [show ((m + 4 : Nat) : Int) = (m : Int) + 1 + 1 + 1 + 1 by omega] at hmt4
      have hmt5 := fun W => sm.mark_text (m + 5) W (by omega) (by omega)
      rw [show ((m + 5 : Nat) : Int) = (m : Int) + 1 + 1 + 1 + 1 + 1 by omega] at hmt5
      have i2 : (k : Int) < (n : Int) := by omega
      clear hm hg hR cs hgb6
      go_wp2
      go_region_with (go_at_call 67; refine (hmt3 _).mono ?_; rintro e w3 ⟨rfl, hb3⟩; have d3_3 : w3.cell? ⟨g, off + k * 7 + 3, none⟩ = some (.string (sm.mt (m + 3))) := (hb3.cell (p := ⟨g, off + k * 7 + 3, none⟩) (by simp only [World.drew] at *; omega)).trans c3; have d3_4 : w3.cell? ⟨g, off + k * 7 + 4, none⟩ = some (.string (sm.mt (m + 4))) := (hb3.cell (p := ⟨g, off + k * 7 + 4, none⟩) (by simp only [World.drew] at *; omega)).trans c4; have d3_5 : w3.cell? ⟨g, off + k * 7 + 5, none⟩ = some (.string (sm.mt (m + 5))) := (hb3.cell (p := ⟨g, off + k * 7 + 5, none⟩) (by simp only [World.drew] at *; omega)).trans c5; have d3_6 : w3.cell? ⟨g, off + k * 7 + 6, none⟩ = some (.bool gb6) := (hb3.cell (p := ⟨g, off + k * 7 + 6, none⟩) (by simp only [World.drew] at *; omega)).trans c6)
      all_goals go_wp2
      all_goals go_region_with (go_at_call 67; refine (hmt4 _).mono ?_; rintro e w4 ⟨rfl, hb4⟩; have d4_4 : w4.cell? ⟨g, off + k * 7 + 4, none⟩ = some (.string (sm.mt (m + 4))) := (hb4.cell (p := ⟨g, off + k * 7 + 4, none⟩) (by have s3 := hb3.size; simp only [World.drew] at *; omega)).trans d3_4; have d4_5 : w4.cell? ⟨g, off + k * 7 + 5, none⟩ = some (.string (sm.mt (m + 5))) := (hb4.cell (p := ⟨g, off + k * 7 + 5, none⟩) (by have s3 := hb3.size; simp only [World.drew] at *; omega)).trans d3_5; have d4_6 : w4.cell? ⟨g, off + k * 7 + 6, none⟩ = some (.bool gb6) := (hb4.cell (p := ⟨g, off + k * 7 + 6, none⟩) (by have s3 := hb3.size; simp only [World.drew] at *; omega)).trans d3_6)
      all_goals go_wp2
      all_goals go_region_with (go_at_call 67; refine (hmt5 _).mono ?_; rintro e w5 ⟨rfl, hb5⟩; have d5_5 : w5.cell? ⟨g, off + k * 7 + 5, none⟩ = some (.string (sm.mt (m + 5))) := (hb5.cell (p := ⟨g, off + k * 7 + 5, none⟩) (by have s3 := hb3.size; have s4 := hb4.size; simp only [World.drew] at *; omega)).trans d4_5; have d5_6 : w5.cell? ⟨g, off + k * 7 + 6, none⟩ = some (.bool gb6) := (hb5.cell (p := ⟨g, off + k * 7 + 6, none⟩) (by have s3 := hb3.size; have s4 := hb4.size; simp only [World.drew] at *; omega)).trans d4_6)
      all_goals go_wp2
      all_goals go_roundw
      all_goals first | exact ⟨k + 1, by omega, by go_num, by rw [show k0 + 7 * (k + 1) = m + 7 by have := HM.out; omega]; go_num, (((hbel.drew.trans (hb3.mono hbel.size)).drew.trans (hb4.mono (by have h0 := hbel.size; have s3 := hb3.size; simp only [World.drew] at *; omega))).drew.trans (hb5.mono (by have h0 := hbel.size; have s3 := hb3.size; have s4 := hb4.size; simp only [World.drew] at *; omega)))⟩ | (simp [intOf]; omega)
    · obtain rfl : k = n := by omega
      go_wp2
      go_ret
      exact ⟨rfl, hbel⟩
end Go.Proofs.Ytfgilmibeeljnaa.mrH
