/- The laws' marks in rows of pairs of their own, at any offset of their block: laid, and held. -/
import Derived.Test.YtlgcciaebkfnjaaGreatDoorFlatOff
import Derived.Test.YtlgcciaebkfnjaaGreatDoorFlPair
import Derived.Test.YtlgcciaebkfnjaaGreatDoorMarkText
import Derived.Deep.RegionWith
namespace Go.Proofs.YtlgcciaebkfnjaaGreatDoor.mrP
open Go.ChangeShapes Go.WideShapes Go.ChangeAt Go.RowKit Go.Proofs.YtlgcciaebkfnjaaGreatDoor.fl Go.Proofs.YtlgcciaebkfnjaaGreatDoor.fo
set_option linter.unusedVariables false

/-- the marks of n pairs from the k0-th on -/
def mks (k0 n : Nat) : List flP.Pr := (List.range n).map fun i => ⟨sm.mt (k0 + 3 * i), sm.mt (k0 + 3 * i + 1), decide ((k0 + 3 * i + 2) % 3 = 0)⟩
theorem mks_at (k0 n k : Nat) (h : k < n) : (mks k0 n)[k]? = some ⟨sm.mt (k0 + 3 * k), sm.mt (k0 + 3 * k + 1), decide ((k0 + 3 * k + 2) % 3 = 0)⟩ := by simp [mks, h]
theorem mks_len (k0 n : Nat) : (mks k0 n).length = n := by simp [mks]
/-- behind the second text's call -/
theorem mid {T : TypeId} {w1 w2 : World} {g off k : Nat} {l : List flP.Pr} {v0 : Value} (hf : OwnO flP.c 3 T w1 g off l k) (hk : k < l.length) (hb : Below (w1.setCell ⟨g, off + k * 3, none⟩ v0).heap.size (w1.setCell ⟨g, off + k * 3, none⟩ v0) w2) :
    OwnO flP.c 3 T w2 g off l k ∧ w2.cell? ⟨g, off + k * 3, none⟩ = some v0 := by
  have hp := hf.put flP.c_len (off + k * 3) v0 (by omega)
  have hlt := hp.lt
  obtain ⟨cur, h1, h2⟩ := hf.cells
  refine ⟨hp.below hb hlt, (hb.cell (p := ⟨g, off + k * 3, none⟩) hlt).trans ?_⟩
  exact set_eq h1 (by omega)
theorem last {T : TypeId} {w1 : World} {g off k : Nat} {l : List flP.Pr} {e : flP.Pr} (hf : OwnO flP.c 3 T w1 g off l k) (he : l[k]? = some e) (c0 : w1.cell? ⟨g, off + k * 3, none⟩ = some (.string e.k)) :
    OwnO flP.c 3 T ((w1.setCell ⟨g, off + k * 3 + 1, none⟩ (.string e.v)).setCell ⟨g, off + k * 3 + 2, none⟩ (.bool e.g)) g off l (k + 1) := by
  have hk := (List.getElem?_eq_some_iff.1 he).1
  obtain ⟨cur, h1, h2⟩ := hf.cells
  have s1 := bset h1 (off + k * 3 + 1) (.string e.v)
  refine ((hf.put flP.c_len (off + k * 3 + 1) (.string e.v) (by omega)).put flP.c_len (off + k * 3 + 2) (.bool e.g) (by omega)).more he (fun j v hv => ?_)
  match j, hv with
  | 0, hv => cases hv; rw [Nat.add_zero, set_ne s1 (by omega), set_ne h1 (by omega)]; exact c0
  | 1, hv => cases hv; rw [set_ne s1 (by omega)]; exact set_eq h1 (by omega)
  | 2, hv => cases hv; exact set_eq s1 (by rw [Array.size_setIfInBounds]; omega)
  | j + 3, hv => simp [flP.c] at hv
theorem rem3 (m : Nat) : (((m : Int) + 1 + 1) % 3 == 0) = decide ((m + 2) % 3 = 0) := by
  by_cases h : (m + 2) % 3 = 0
  · have h2 : ((m : Int) + 1 + 1) % 3 = 0 := by omega
    simp [h, h2]
  · have h2 : ¬ ((m : Int) + 1 + 1) % 3 = 0 := by omega
    simp [h, h2]

set_option maxRecDepth 100000 in
set_option maxHeartbeats 2000000 in
theorem mark_all (n g off c k0 : Nat) (w : World) (hl : n ≤ 2000000) (hk0 : 1 ≤ k0 ∧ k0 ≤ 1000000000000) (ha : OwnO flP.c 3 49 w g off (mks k0 n) 0) :
    Calls Tryz.prog 108 #[.slice (some ⟨g, off, none⟩) n c, .int .i64 k0] w fun e w' => e = .returned (.int .i64 (k0 + 3 * n : Nat)) ∧ Tn w w' (fun k => k = g) ∧ OwnO flP.c 3 49 w' g off (mks k0 n) n := by
  have HA : Hid (OwnO flP.c 3 49 w g off (mks k0 n) 0) := ha
  clear ha
  go_enter Tryz.func108, Tryz.ntmps108
  go_wp2
  go_loopw [1, 5] (fun y x wr => ∃ k : Nat, k ≤ n ∧ x = .int .i64 k ∧ y = .int .i64 (k0 + 3 * k : Nat) ∧ Tn w wr (fun k => k = g) ∧ Hid (OwnO flP.c 3 49 wr g off (mks k0 n) k)) (fun _ x _ => n - (intOf x).toNat)
  case atStart => exact ⟨0, Nat.zero_le _, rfl, rfl, Tn.refl _ _, HA⟩
  case round =>
    obtain ⟨k, hk, rfl, rfl, hbel, hf⟩ := hrel
    by_cases hkl : k < n
    · have hg := mks_at k0 n k hkl
      obtain ⟨m, hm⟩ : ∃ m, k0 + 3 * k = m := ⟨_, rfl⟩
      rw [hm] at hg
      rw [hm]
      have hm9 : m ≤ 9000000000000 := by omega
      have h3 := rem3 m
      obtain ⟨gb, hgb⟩ : ∃ gb, decide ((m + 2) % 3 = 0) = gb := ⟨_, rfl⟩
      rw [hgb] at hg h3
      have HG : Hid ((mks k0 n)[k]? = some ⟨sm.mt m, sm.mt (m + 1), gb⟩) := hg
      have HM : Hid (k0 + 3 * k = m) := hm
      have hmt := fun W => sm.mark_text m W (by omega) (by omega)
      have hmt1 := fun W => sm.mark_text (m + 1) W (by omega) (by omega)
      rw [show ((m + 1 : Nat) : Int) = (m : Int) + 1 by omega] at hmt1
      have hml := mks_len k0 n
      have hkm : k < (mks k0 n).length := by omega
      have hfl := hf.out.lt
      clear hm hg hgb
      go_wp2_with (go_at_call 146; fail)
      refine (hmt _).mono ?_
      rintro e w1 ⟨rfl, hb1⟩
      have hf1 := hf.out.below hb1 hfl
      have HF1 : Hid (OwnO flP.c 3 49 w1 g off (mks k0 n) k) := hf1
      obtain ⟨v0, g0⟩ := hf1.at (off + k * 3) (by omega)
      have z0 := hf1.free (off + k * 3)
      have hT1 : Tn w w1 (fun k => k = g) := hbel.trans (Tn.of _ hb1)
      clear hf1 hmt
      go_wp2_with (go_at_call 146; fail)
      refine (hmt1 _).mono ?_
      rintro e w2 ⟨rfl, hb2⟩
      obtain ⟨hf2, d0⟩ := mid HF1.out hkm hb2
      obtain ⟨v1, g1⟩ := hf2.at (off + k * 3 + 1) (by omega)
      have z1 := hf2.free (off + k * 3 + 1)
      obtain ⟨v2, g2⟩ := hf2.at (off + k * 3 + 2) (by omega)
      have z2 := hf2.free (off + k * 3 + 2)
      have HN : Hid (OwnO flP.c 3 49 ((w2.setCell ⟨g, off + k * 3 + 1, none⟩ (.string (sm.mt (m + 1)))).setCell ⟨g, off + k * 3 + 2, none⟩ (.bool gb)) g off (mks k0 n) (k + 1)) := last (e := ⟨sm.mt m, sm.mt (m + 1), gb⟩) hf2 HG.out d0
      have hT2 : Tn w w2 (fun k => k = g) := (hT1.set rfl _ _).trans (Tn.of _ hb2)
      clear hf2 hmt1 hT1 g0 z0 hb1 hb2
      go_wp2
      go_roundw
      case rel => exact ⟨k + 1, by omega, by go_num, by rw [show k0 + 3 * (k + 1) = m + 3 by have := HM.out; omega]; go_num, (hT2.set rfl _ _).set rfl _ _, HN⟩
      case measure => simp [intOf]; omega
    · obtain rfl : k = n := by omega
      go_wp2
      go_ret
      exact ⟨rfl, hbel, hf.out⟩

set_option maxRecDepth 100000 in
set_option maxHeartbeats 2000000 in
theorem held_all (n g off c k0 : Nat) (w : World) (hl : n ≤ 2000000) (hk0 : 1 ≤ k0 ∧ k0 ≤ 1000000000000) (ha : OwnO flP.c 3 49 w g off (mks k0 n) n) :
    Calls Tryz.prog 110 #[.slice (some ⟨g, off, none⟩) n c, .int .i64 k0] w fun e w' => e = .returned (.int .i64 (k0 + 3 * n : Nat)) ∧ Below w.heap.size w w' := by
  have HA : Hid (OwnO flP.c 3 49 w g off (mks k0 n) n) := ha
  have hlt := ha.lt
  clear ha
  go_enter Tryz.func110, Tryz.ntmps110
  go_wp2
  go_loopw [1, 5] (fun y x wr => ∃ k : Nat, k ≤ n ∧ x = .int .i64 k ∧ y = .int .i64 (k0 + 3 * k : Nat) ∧ Below w.heap.size w wr) (fun _ x _ => n - (intOf x).toNat)
  case atStart => exact ⟨0, Nat.zero_le _, rfl, rfl, Below.refl _ _⟩
  case round =>
    obtain ⟨k, hk, rfl, rfl, hbel⟩ := hrel
    by_cases hkl : k < n
    · have hg := mks_at k0 n k hkl
      obtain ⟨m, hm⟩ : ∃ m, k0 + 3 * k = m := ⟨_, rfl⟩
      rw [hm] at hg
      rw [hm]
      have hm9 : m ≤ 9000000000000 := by omega
      have h3 := rem3 m
      obtain ⟨gb, hgb⟩ : ∃ gb, decide ((m + 2) % 3 = 0) = gb := ⟨_, rfl⟩
      rw [hgb] at hg h3
      have HM : Hid (k0 + 3 * k = m) := hm
      have hR := HA.out.below hbel hlt
      have hltr := hR.lt
      have cs : ∀ (j : Nat) (v : Value), (flP.c ⟨sm.mt m, sm.mt (m + 1), gb⟩)[j]? = some v → wr.cell? ⟨g, off + k * 3 + j, none⟩ = some v := fun j v hv => by
        obtain ⟨cur, h1, h2, h3⟩ := hR
        simp only [World.cell?, h1]
        simpa using h3 k _ hkl hg j v hv
      have c0 : wr.cell? ⟨g, off + k * 3, none⟩ = some (.string (sm.mt m)) := cs 0 _ rfl
      have c1 : wr.cell? ⟨g, off + k * 3 + 1, none⟩ = some (.string (sm.mt (m + 1))) := cs 1 _ rfl
      have c2 : wr.cell? ⟨g, off + k * 3 + 2, none⟩ = some (.bool gb) := cs 2 _ rfl
      have hmt := fun W => sm.mark_text m W (by omega) (by omega)
      have hmt1 := fun W => sm.mark_text (m + 1) W (by omega) (by omega)
      rw [show ((m + 1 : Nat) : Int) = (m : Int) + 1 by omega] at hmt1
      have i2 : (k : Int) < (n : Int) := by omega
      clear hm hg hR cs hgb
      go_wp2
      go_region_with (go_at_call 146; refine (hmt _).mono ?_; rintro e w1 ⟨rfl, hb1⟩; have d0 : w1.cell? ⟨g, off + k * 3, none⟩ = some (.string (sm.mt m)) := (hb1.cell (by exact hltr)).trans c0; have d1 : w1.cell? ⟨g, off + k * 3 + 1, none⟩ = some (.string (sm.mt (m + 1))) := (hb1.cell (by exact hltr)).trans c1; have d2 : w1.cell? ⟨g, off + k * 3 + 2, none⟩ = some (.bool gb) := (hb1.cell (by exact hltr)).trans c2)
      all_goals go_wp2
      all_goals go_region_with (go_at_call 146; refine (hmt1 _).mono ?_; rintro e w2 ⟨rfl, hb2⟩; have e1 : w2.cell? ⟨g, off + k * 3 + 1, none⟩ = some (.string (sm.mt (m + 1))) := (hb2.cell (by have := hb1.size; simp only [World.drew] at *; omega)).trans d1; have e2 : w2.cell? ⟨g, off + k * 3 + 2, none⟩ = some (.bool gb) := (hb2.cell (by have := hb1.size; simp only [World.drew] at *; omega)).trans d2)
      all_goals go_wp2
      all_goals go_roundw
      all_goals first | exact ⟨k + 1, by omega, by go_num, by rw [show k0 + 3 * (k + 1) = m + 3 by have := HM.out; omega]; go_num, (hbel.drew.trans (hb1.mono hbel.size)).drew.trans (hb2.mono (by have h5 := hb1.size; have h6 := hbel.size; simp only [World.drew] at *; omega))⟩ | (simp [intOf]; omega)
    · obtain rfl : k = n := by omega
      go_wp2
      go_ret
      exact ⟨rfl, hbel⟩
end Go.Proofs.YtlgcciaebkfnjaaGreatDoor.mrP
