/- The laws' marks in rows of entries of their own, at any offset of their block: laid, and held. -/
import Derived.Test.YtffpempklkkfaaaFlatOff
import Derived.Test.YtffpempklkkfaaaFlEntry
import Derived.Test.YtffpempklkkfaaaMarkText
import Derived.Deep.RegionWith
namespace Go.Proofs.Ytffpempklkkfaaa.mrY
open Go.ChangeShapes Go.WideShapes Go.ChangeAt Go.RowKit Go.Proofs.Ytffpempklkkfaaa.fl Go.Proofs.Ytffpempklkkfaaa.fo
set_option linter.unusedVariables false

/-- the marks of n entries from the k0-th on -/
def mks (k0 n : Nat) : List flY.En := (List.range n).map fun i => ⟨((k0 + 3 * i : Nat) : Int), ((k0 + 3 * i : Nat) : Int) + 1, sm.mt (k0 + 3 * i + 2)⟩
theorem mks_at (k0 n k : Nat) (h : k < n) : (mks k0 n)[k]? = some ⟨((k0 + 3 * k : Nat) : Int), ((k0 + 3 * k : Nat) : Int) + 1, sm.mt (k0 + 3 * k + 2)⟩ := by simp [mks, h]
theorem mks_len (k0 n : Nat) : (mks k0 n).length = n := by simp [mks]
/-- behind the text's call: what the two numbers' cells hold, and that the third may be written -/
theorem mid {T : TypeId} {wr w1 : World} {g off k : Nat} {l : List flY.En} {v0 v1 : Value} (hf : OwnO flY.c 3 T wr g off l k) (hk : k < l.length)
    (hb : Below ((wr.setCell ⟨g, off + k * 3, none⟩ v0).setCell ⟨g, off + k * 3 + 1, none⟩ v1).heap.size ((wr.setCell ⟨g, off + k * 3, none⟩ v0).setCell ⟨g, off + k * 3 + 1, none⟩ v1) w1) :
    OwnO flY.c 3 T w1 g off l k ∧ w1.cell? ⟨g, off + k * 3, none⟩ = some v0 ∧ w1.cell? ⟨g, off + k * 3 + 1, none⟩ = some v1 := by
  have hp := (hf.put flY.c_len (off + k * 3) v0 (by omega)).put flY.c_len (off + k * 3 + 1) v1 (by omega)
  have hlt := hp.lt
  obtain ⟨cur, h1, h2⟩ := hf.cells
  have s1 := bset h1 (off + k * 3) v0
  refine ⟨hp.below hb hlt, (hb.cell (p := ⟨g, off + k * 3, none⟩) hlt).trans ?_, (hb.cell (p := ⟨g, off + k * 3 + 1, none⟩) hlt).trans ?_⟩
  · rw [set_ne s1 (by omega)]
    exact set_eq h1 (by omega)
  · exact set_eq s1 (by rw [Array.size_setIfInBounds]; omega)
theorem last {T : TypeId} {w1 : World} {g off k : Nat} {l : List flY.En} {e : flY.En} (hf : OwnO flY.c 3 T w1 g off l k) (he : l[k]? = some e) (c0 : w1.cell? ⟨g, off + k * 3, none⟩ = some (.int .i64 e.o)) (c1 : w1.cell? ⟨g, off + k * 3 + 1, none⟩ = some (.int .i64 e.t)) :
    OwnO flY.c 3 T (w1.setCell ⟨g, off + k * 3 + 2, none⟩ (.string e.b)) g off l (k + 1) := by
  have hk := (List.getElem?_eq_some_iff.1 he).1
  obtain ⟨cur, h1, h2⟩ := hf.cells
  refine (hf.put flY.c_len (off + k * 3 + 2) (.string e.b) (by omega)).more he (fun j v hv => ?_)
  match j, hv with
  | 0, hv => cases hv; rw [Nat.add_zero, set_ne h1 (by omega)]; exact c0
  | 1, hv => cases hv; rw [set_ne h1 (by omega)]; exact c1
  | 2, hv => cases hv; exact set_eq h1 (by omega)
  | j + 3, hv => simp [flY.c] at hv

set_option maxRecDepth 100000 in
set_option maxHeartbeats 2000000 in
theorem mark_all (n g off c k0 : Nat) (w : World) (hl : n ≤ 2000000) (hk0 : 1 ≤ k0 ∧ k0 ≤ 1000000000000) (ha : OwnO flY.c 3 42 w g off (mks k0 n) 0) :
    Calls Try.prog 32 #[.slice (some ⟨g, off, none⟩) n c, .int .i64 k0] w fun e w' => e = .returned (.int .i64 (k0 + 3 * n : Nat)) ∧ Tn w w' (fun k => k = g) ∧ OwnO flY.c 3 42 w' g off (mks k0 n) n := by
  have HA : Hid (OwnO flY.c 3 42 w g off (mks k0 n) 0) := ha
  clear ha
  go_enter Try.func32, Try.ntmps32
  go_wp2
  go_loopw [1, 5] (fun y x wr => ∃ k : Nat, k ≤ n ∧ x = .int .i64 k ∧ y = .int .i64 (k0 + 3 * k : Nat) ∧ Tn w wr (fun k => k = g) ∧ Hid (OwnO flY.c 3 42 wr g off (mks k0 n) k)) (fun _ x _ => n - (intOf x).toNat)
  case atStart => exact ⟨0, Nat.zero_le _, rfl, rfl, Tn.refl _ _, HA⟩
  case round =>
    obtain ⟨k, hk, rfl, rfl, hbel, hf⟩ := hrel
    by_cases hkl : k < n
    · have hg := mks_at k0 n k hkl
      obtain ⟨m, hm⟩ : ∃ m, k0 + 3 * k = m := ⟨_, rfl⟩
      rw [hm] at hg
      rw [hm]
      have hm9 : m ≤ 9000000000000 := by omega
      have HG : Hid ((mks k0 n)[k]? = some ⟨(m : Int), (m : Int) + 1, sm.mt (m + 2)⟩) := hg
      have HM : Hid (k0 + 3 * k = m) := hm
      have hmt := fun W => sm.mark_text (m + 2) W (by omega) (by omega)
      rw [show ((m + 2 : Nat) : Int) = (m : Int) + 1 + 1 by omega] at hmt
      have hml := mks_len k0 n
      have hkm : k < (mks k0 n).length := by omega
      obtain ⟨v0, g0⟩ := hf.out.at (off + k * 3) (by omega)
      obtain ⟨v1, g1⟩ := hf.out.at (off + k * 3 + 1) (by omega)
      have z0 := hf.out.free (off + k * 3)
      have z1 := hf.out.free (off + k * 3 + 1)
      have i2 : (k : Int) < (n : Int) := by omega
      clear hm hg
      go_wp2_with (go_at_call 62; refine (hmt _).mono ?_; rintro e w1 ⟨rfl, hb1⟩; obtain ⟨hf1, d0, d1⟩ := mid hf.out hkm hb1; obtain ⟨v2, g2⟩ := hf1.at (off + k * 3 + 2) (by omega); have z2 := hf1.free (off + k * 3 + 2); have HN : Hid (OwnO flY.c 3 42 (w1.setCell ⟨g, off + k * 3 + 2, none⟩ (.string (sm.mt (m + 2)))) g off (mks k0 n) (k + 1)) := last hf1 HG.out d0 d1; have hT1 : Tn w w1 (fun k => k = g) := ((hbel.set rfl _ _).set rfl _ _).trans (Tn.of _ hb1); clear hf1)
      go_roundw
      case rel => exact ⟨k + 1, by omega, by go_num, by rw [show k0 + 3 * (k + 1) = m + 3 by have := HM.out; omega]; go_num, hT1.set rfl _ _, HN⟩
      case measure => simp [intOf]; omega
    · obtain rfl : k = n := by omega
      go_wp2
      go_ret
      exact ⟨rfl, hbel, hf.out⟩

set_option maxRecDepth 100000 in
set_option maxHeartbeats 2000000 in
theorem held_all (n g off c k0 : Nat) (w : World) (hl : n ≤ 2000000) (hk0 : 1 ≤ k0 ∧ k0 ≤ 1000000000000) (ha : OwnO flY.c 3 42 w g off (mks k0 n) n) :
    Calls Try.prog 33 #[.slice (some ⟨g, off, none⟩) n c, .int .i64 k0] w fun e w' => e = .returned (.int .i64 (k0 + 3 * n : Nat)) ∧ Below w.heap.size w w' := by
  have HA : Hid (OwnO flY.c 3 42 w g off (mks k0 n) n) := ha
  have hlt := ha.lt
  clear ha
  go_enter Try.func33, Try.ntmps33
  go_wp2
  go_loopw [1, 5] (fun y x wr => ∃ k : Nat, k ≤ n ∧ x = .int .i64 k ∧ y = .int .i64 (k0 + 3 * k : Nat) ∧ Below w.heap.size w wr) (fun _ x _ => n - (intOf x).toNat)
  case atStart => exact ⟨0, Nat.zero_le _, rfl, rfl, Below.refl _ _⟩
  case round =>
    obtain ⟨k, hk, rfl, rfl, hbel⟩ := hrel
    by_cases hkl : k < n
    · have hg := mks_at k0 n k hkl
      obtain ⟨m, hm⟩ : ∃ m, k0 + 3 * k = m := ⟨_, rfl⟩
      rw [hm] at hg
      rw [hm]
      have hm9 : m ≤ 9000000000000 := by omega
      have HM : Hid (k0 + 3 * k = m) := hm
      have hR := HA.out.below hbel hlt
      have hltr := hR.lt
      have cs : ∀ (j : Nat) (v : Value), (flY.c ⟨(m : Int), (m : Int) + 1, sm.mt (m + 2)⟩)[j]? = some v → wr.cell? ⟨g, off + k * 3 + j, none⟩ = some v := fun j v hv => by
        obtain ⟨cur, h1, h2, h3⟩ := hR
        simp only [World.cell?, h1]
        simpa using h3 k _ hkl hg j v hv
      have c0 : wr.cell? ⟨g, off + k * 3, none⟩ = some (.int .i64 (m : Int)) := cs 0 _ rfl
      have c1 : wr.cell? ⟨g, off + k * 3 + 1, none⟩ = some (.int .i64 ((m : Int) + 1)) := cs 1 _ rfl
      have c2 : wr.cell? ⟨g, off + k * 3 + 2, none⟩ = some (.string (sm.mt (m + 2))) := cs 2 _ rfl
      have hmt := fun W => sm.mark_text (m + 2) W (by omega) (by omega)
      rw [show ((m + 2 : Nat) : Int) = (m : Int) + 1 + 1 by omega] at hmt
      have i2 : (k : Int) < (n : Int) := by omega
      clear hm hg hR cs
      go_wp2
      go_region_with (go_at_call 62; refine (hmt _).mono ?_; rintro e w1 ⟨rfl, hb1⟩; have d2 : w1.cell? ⟨g, off + k * 3 + 2, none⟩ = some (.string (sm.mt (m + 2))) := (hb1.cell (by exact hltr)).trans c2)
      all_goals go_wp2
      all_goals go_roundw
      all_goals first | exact ⟨k + 1, by omega, by go_num, by rw [show k0 + 3 * (k + 1) = m + 3 by have := HM.out; omega]; go_num, hbel.drew.trans (hb1.mono hbel.size)⟩ | (simp [intOf]; omega)
    · obtain rfl : k = n := by omega
      go_wp2
      go_ret
      exact ⟨rfl, hbel⟩
end Go.Proofs.Ytffpempklkkfaaa.mrY
