/- The laws' marks in rows of marks of their own, at any offset of their block: laid, and held. -/
import Derived.Test.YtffpempklkkfaaaFlatOff
import Derived.Test.YtffpempklkkfaaaFlMark
import Derived.Test.YtffpempklkkfaaaMarkText
import Derived.Deep.RegionWith
namespace Go.Proofs.Ytffpempklkkfaaa.mrK
open Go.ChangeShapes Go.WideShapes Go.ChangeAt Go.RowKit Go.Proofs.Ytffpempklkkfaaa.fl Go.Proofs.Ytffpempklkkfaaa.fo
set_option linter.unusedVariables false

/-- the marks of n marks from the k0-th on -/
def mks (k0 n : Nat) : List rr.Ex := (List.range n).map fun i => ⟨sm.mt (k0 + 2 * i), ((k0 + 2 * i : Nat) : Int) + 1⟩
theorem mks_at (k0 n k : Nat) (h : k < n) : (mks k0 n)[k]? = some ⟨sm.mt (k0 + 2 * k), ((k0 + 2 * k : Nat) : Int) + 1⟩ := by simp [mks, h]
theorem mks_len (k0 n : Nat) : (mks k0 n).length = n := by simp [mks]
theorem last {T : TypeId} {w1 : World} {g off k : Nat} {l : List rr.Ex} {e : rr.Ex} (hf : OwnO flK.c 2 T w1 g off l k) (he : l[k]? = some e) :
    OwnO flK.c 2 T ((w1.setCell ⟨g, off + k * 2, none⟩ (.string e.n)).setCell ⟨g, off + k * 2 + 1, none⟩ (.int .i64 e.k)) g off l (k + 1) := by
  have hk := (List.getElem?_eq_some_iff.1 he).1
  obtain ⟨cur, h1, h2⟩ := hf.cells
  have s1 := bset h1 (off + k * 2) (.string e.n)
  refine ((hf.put flK.c_len (off + k * 2) (.string e.n) (by omega)).put flK.c_len (off + k * 2 + 1) (.int .i64 e.k) (by omega)).more he (fun j v hv => ?_)
  match j, hv with
  | 0, hv => cases hv; rw [Nat.add_zero, set_ne s1 (by omega)]; exact set_eq h1 (by omega)
  | 1, hv => cases hv; exact set_eq s1 (by rw [Array.size_setIfInBounds]; omega)
  | j + 2, hv => simp [flK.c] at hv

set_option maxRecDepth 100000 in
set_option maxHeartbeats 2000000 in
theorem mark_all (n g off c k0 : Nat) (w : World) (hl : n ≤ 2000000) (hk0 : 1 ≤ k0 ∧ k0 ≤ 1000000000000) (ha : OwnO flK.c 2 72 w g off (mks k0 n) 0) :
    Calls Try.prog 59 #[.slice (some ⟨g, off, none⟩) n c, .int .i64 k0] w fun e w' => e = .returned (.int .i64 (k0 + 2 * n : Nat)) ∧ Tn w w' (fun k => k = g) ∧ OwnO flK.c 2 72 w' g off (mks k0 n) n := by
  have HA : Hid (OwnO flK.c 2 72 w g off (mks k0 n) 0) := ha
  clear ha
  go_enter Try.func59, Try.ntmps59
  go_wp2
  go_loopw [1, 5] (fun y x wr => ∃ k : Nat, k ≤ n ∧ x = .int .i64 k ∧ y = .int .i64 (k0 + 2 * k : Nat) ∧ Tn w wr (fun k => k = g) ∧ Hid (OwnO flK.c 2 72 wr g off (mks k0 n) k)) (fun _ x _ => n - (intOf x).toNat)
  case atStart => exact ⟨0, Nat.zero_le _, rfl, rfl, Tn.refl _ _, HA⟩
  case round =>
    obtain ⟨k, hk, rfl, rfl, hbel, hf⟩ := hrel
    by_cases hkl : k < n
    · have hg := mks_at k0 n k hkl
      obtain ⟨m, hm⟩ : ∃ m, k0 + 2 * k = m := ⟨_, rfl⟩
      rw [hm] at hg
      rw [hm]
      have hm9 : m ≤ 9000000000000 := by omega
      have HG : Hid ((mks k0 n)[k]? = some ⟨sm.mt m, (m : Int) + 1⟩) := hg
      have HM : Hid (k0 + 2 * k = m) := hm
      have hmt := fun W => sm.mark_text m W (by omega) (by omega)
      have hml := mks_len k0 n
      have h20 : off + k * 2 < off + (mks k0 n).length * 2 := by omega
      have h21 : off + k * 2 + 1 < off + (mks k0 n).length * 2 := by omega
      have hfl := hf.out.lt
      clear hm hg hml
      go_wp2_with (go_at_call 62; refine (hmt _).mono ?_; rintro e w1 ⟨rfl, hb1⟩; have hf1 := hf.out.below hb1 hfl; obtain ⟨v0, g0⟩ := hf1.at (off + k * 2) h20; have z0 := hf1.free (off + k * 2); obtain ⟨v1, g1⟩ := hf1.at (off + k * 2 + 1) h21; have z1 := hf1.free (off + k * 2 + 1); have HN : Hid (OwnO flK.c 2 72 ((w1.setCell ⟨g, off + k * 2, none⟩ (.string (sm.mt m))).setCell ⟨g, off + k * 2 + 1, none⟩ (.int .i64 ((m : Int) + 1))) g off (mks k0 n) (k + 1)) := last (e := ⟨sm.mt m, (m : Int) + 1⟩) hf1 HG.out; have hT1 : Tn w w1 (fun k => k = g) := hbel.trans (Tn.of _ hb1); clear hf1)
      go_roundw
      case rel => exact ⟨k + 1, by omega, by go_num, by rw [show k0 + 2 * (k + 1) = m + 2 by have := HM.out; omega]; go_num, (hT1.set rfl _ _).set rfl _ _, HN⟩
      case measure => simp [intOf]; omega
    · obtain rfl : k = n := by omega
      go_wp2
      go_ret
      exact ⟨rfl, hbel, hf.out⟩

set_option maxRecDepth 100000 in
set_option maxHeartbeats 2000000 in
theorem held_all (n g off c k0 : Nat) (w : World) (hl : n ≤ 2000000) (hk0 : 1 ≤ k0 ∧ k0 ≤ 1000000000000) (ha : OwnO flK.c 2 72 w g off (mks k0 n) n) :
    Calls Try.prog 60 #[.slice (some ⟨g, off, none⟩) n c, .int .i64 k0] w fun e w' => e = .returned (.int .i64 (k0 + 2 * n : Nat)) ∧ Below w.heap.size w w' := by
  have HA : Hid (OwnO flK.c 2 72 w g off (mks k0 n) n) := ha
  have hlt := ha.lt
  clear ha
  go_enter Try.func60, Try.ntmps60
  go_wp2
  go_loopw [1, 5] (fun y x wr => ∃ k : Nat, k ≤ n ∧ x = .int .i64 k ∧ y = .int .i64 (k0 + 2 * k : Nat) ∧ Below w.heap.size w wr) (fun _ x _ => n - (intOf x).toNat)
  case atStart => exact ⟨0, Nat.zero_le _, rfl, rfl, Below.refl _ _⟩
  case round =>
    obtain ⟨k, hk, rfl, rfl, hbel⟩ := hrel
    by_cases hkl : k < n
    · have hg := mks_at k0 n k hkl
      obtain ⟨m, hm⟩ : ∃ m, k0 + 2 * k = m := ⟨_, rfl⟩
      rw [hm] at hg
      rw [hm]
      have hm9 : m ≤ 9000000000000 := by omega
      have HM : Hid (k0 + 2 * k = m) := hm
      have hR := HA.out.below hbel hlt
      have hltr := hR.lt
      have cs : ∀ (j : Nat) (v : Value), (flK.c ⟨sm.mt m, (m : Int) + 1⟩)[j]? = some v → wr.cell? ⟨g, off + k * 2 + j, none⟩ = some v := fun j v hv => by
        obtain ⟨cur, h1, h2, h3⟩ := hR
        simp only [World.cell?, h1]
        simpa using h3 k _ hkl hg j v hv
      have c0 : wr.cell? ⟨g, off + k * 2, none⟩ = some (.string (sm.mt m)) := cs 0 _ rfl
      have c1 : wr.cell? ⟨g, off + k * 2 + 1, none⟩ = some (.int .i64 ((m : Int) + 1)) := cs 1 _ rfl
      have hmt := fun W => sm.mark_text m W (by omega) (by omega)
      have i2 : (k : Int) < (n : Int) := by omega
      clear hm hg hR cs
      go_wp2
      go_region_with (go_at_call 62; refine (hmt _).mono ?_; rintro e w1 ⟨rfl, hb1⟩; have d0 : w1.cell? ⟨g, off + k * 2, none⟩ = some (.string (sm.mt m)) := (hb1.cell (by exact hltr)).trans c0; have d1 : w1.cell? ⟨g, off + k * 2 + 1, none⟩ = some (.int .i64 ((m : Int) + 1)) := (hb1.cell (by exact hltr)).trans c1)
      all_goals go_wp2
      all_goals go_roundw
      all_goals first | exact ⟨k + 1, by omega, by go_num, by rw [show k0 + 2 * (k + 1) = m + 2 by have := HM.out; omega]; go_num, hbel.drew.trans (hb1.mono hbel.size)⟩ | (simp [intOf]; omega)
    · obtain rfl : k = n := by omega
      go_wp2
      go_ret
      exact ⟨rfl, hbel⟩
end Go.Proofs.Ytffpempklkkfaaa.mrK
