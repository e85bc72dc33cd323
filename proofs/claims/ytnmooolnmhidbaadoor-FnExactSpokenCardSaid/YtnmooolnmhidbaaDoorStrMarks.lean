/- Rows of texts: what the laws' own functions eqStringS, markStringS and heldStringS do with them. -/
import Derived.Test.YtnmooolnmhidbaaDoorMarkText
import Derived.Test.YtnmooolnmhidbaaDoorRows
import Derived.WalkKit
import Derived.WalkLawsBesides
import Derived.WalkSpells
import Derived.ProofKit
import Derived.OpenShut
import Derived.ShutString
import Derived.Laws.BytesArg
import Derived.Lib.ItoaNum
import Derived.Lib.Strings
import Derived.Deep.RegionWith
namespace Go.Proofs.YtnmooolnmhidbaaDoor.sm
open Go.ChangeShapes Go.WideShapes Go.ChangeAt Go.RowKit

/-- block g is a row that begins with the texts l -/
def Has (w : World) (g cap : Nat) (l : List ByteArray) : Prop :=
  ∃ cur, w.heap[g]? = some (.cells cur 9 (0, 0)) ∧ l.length ≤ cap ∧ cur.size = cap ∧ cur.toList.take l.length = l.map Value.string

theorem Has.cell {w : World} {g cap : Nat} {l : List ByteArray} (h : Has w g cap l) (i : Nat) (hi : i < l.length) : w.cell? ⟨g, i, none⟩ = some (.string (l.getD i ByteArray.empty)) := by
  obtain ⟨cur, hg, hl, hc, ht⟩ := h
  have h1 : cur.toList[i]? = some (.string l[i]) := by
    have := congrArg (fun x => x[i]?) ht
    simp only [List.getElem?_take_of_lt hi, List.getElem?_map, List.getElem?_eq_getElem hi, Option.map_some] at this
    exact this
  have h2 : cur[i]? = some (.string l[i]) := by rw [← Array.getElem?_toList]; exact h1
  simp [World.cell?, hg, h2, List.getD, List.getElem?_eq_getElem hi]
theorem Has.frozen {w : World} {g cap : Nat} {l : List ByteArray} (h : Has w g cap l) (i : Nat) : w.frozen? ⟨g, i, none⟩ = false := by
  obtain ⟨cur, hg, _⟩ := h
  simp [World.frozen?, hg]
theorem Has.lt {w : World} {g cap : Nat} {l : List ByteArray} (h : Has w g cap l) : g < w.heap.size := by
  obtain ⟨cur, hg, _⟩ := h
  exact (Array.getElem?_eq_some_iff.1 hg).1
theorem Has.below {w w' : World} {g cap B : Nat} {l : List ByteArray} (h : Has w g cap l) (hb : Below B w w') (hg : g < B) : Has w' g cap l := by
  obtain ⟨cur, h1, h2⟩ := h
  exact ⟨cur, by rw [hb.block g hg]; exact h1, h2⟩
theorem Has.set {w : World} {g cap : Nat} {l : List ByteArray} (h : Has w g cap l) (i : Nat) (x : ByteArray) : Has (w.setCell ⟨g, i, none⟩ (.string x)) g cap (l.set i x) := by
  obtain ⟨cur, h1, h2, h3, h4⟩ := h
  refine ⟨cur.setIfInBounds i (.string x), heap_setCell_same w g i cur _ _ h1, by simpa using h2, by simpa using h3, ?_⟩
  rw [List.length_set, Array.toList_setIfInBounds, List.take_set, h4, List.map_set]
theorem Has.drew {w : World} {g cap : Nat} {l : List ByteArray} (h : Has w g cap l) : Has w.drew g cap l := h


theorem eq_strs (l : List ByteArray) (g g' c c' : Nat) (w : World) (hl : l.length ≤ 2000000) (ha : Has w g c l) (hb : Has w g' c' l) :
    Calls Tryd.prog 34 #[.slice (some ⟨g, 0, none⟩) l.length c, .slice (some ⟨g', 0, none⟩) l.length c'] w fun e w' => e = .returned (.bool true) ∧ Below w.heap.size w w' := by
  have HA : Hid (Has w g c l) := ha
  have HB : Hid (Has w g' c' l) := hb
  clear ha hb
  go_enter Tryd.func34, Tryd.ntmps34
  go_wp2
  go_loopw [5] (fun x wr => ∃ k : Nat, k ≤ l.length ∧ x = .int .i64 k ∧ Below w.heap.size w wr) (fun x _ => l.length - (intOf x).toNat)
  case atStart => exact ⟨0, Nat.zero_le _, rfl, Below.refl _ _⟩
  case round =>
    obtain ⟨k, hk, rfl, hbel⟩ := hrel
    by_cases hkl : k < l.length
    · have ca := (HA.out.below hbel HA.out.lt).cell k hkl
      have cb := (HB.out.below hbel HB.out.lt).cell k hkl
      obtain ⟨x, hx⟩ : ∃ x, l.getD k ByteArray.empty = x := ⟨_, rfl⟩
      rw [hx] at ca cb
      clear hx
      go_wp2
      go_region
      all_goals go_wp2
      all_goals go_roundw
      all_goals first | exact ⟨k + 1, by omega, by go_num, hbel.drew⟩ | (simp [intOf]; omega)
    · obtain rfl : k = l.length := by omega
      go_wp2
      go_ret
      exact ⟨rfl, hbel⟩

theorem mark_next (k0 : Nat) {k : Nat} (l : List ByteArray) (h : k < l.length) :
    (((List.range k).map fun i => mt (k0 + i)) ++ l.drop k).set k (mt (k0 + k)) = ((List.range (k + 1)).map fun i => mt (k0 + i)) ++ l.drop (k + 1) := by
  rw [List.drop_eq_getElem_cons h, List.range_succ, List.map_append, List.set_append_right _ _ (by simp)]
  simp only [List.length_map, List.length_range, Nat.sub_self, List.set_cons_zero, List.map_cons, List.map_nil, List.append_assoc, List.cons_append, List.nil_append]

theorem mark_strs (l : List ByteArray) (g c k0 : Nat) (w : World) (hl : l.length ≤ 2000000) (hk0 : 1 ≤ k0 ∧ k0 ≤ 1000000000000) (ha : Has w g c l) :
    Calls Tryd.prog 43 #[.slice (some ⟨g, 0, none⟩) l.length c, .int .i64 k0] w fun e w' => e = .returned (.int .i64 (k0 + l.length : Nat)) ∧ Below g w w' ∧ Has w' g c ((List.range l.length).map fun i => mt (k0 + i)) := by
  have HA : Hid (Has w g c l) := ha
  clear ha
  go_enter Tryd.func43, Tryd.ntmps43
  go_wp2
  go_loopw [1, 5] (fun y x wr => ∃ k : Nat, k ≤ l.length ∧ x = .int .i64 k ∧ y = .int .i64 (k0 + k : Nat) ∧ Below g w wr ∧ Hid (Has wr g c (((List.range k).map fun i => mt (k0 + i)) ++ l.drop k))) (fun _ x _ => l.length - (intOf x).toNat)
  case atStart => exact ⟨0, Nat.zero_le _, rfl, rfl, Below.refl _ _, by unfold Hid; simpa using HA.out⟩
  case round =>
    obtain ⟨k, hk, rfl, rfl, hbel, hhas⟩ := hrel
    by_cases hkl : k < l.length
    · have hlt := hhas.out.lt
      go_wp2_with (go_at_call 67; refine (mark_text (k0 + k) wr (by omega) (by omega)).mono ?_; rintro e w1 ⟨rfl, hb1⟩; have hh1 := hhas.out.below hb1 hlt; have hf1 := hh1.frozen k; have hc1 := hh1.cell k (by simp; omega))
      go_roundw
      case rel => exact ⟨k + 1, by omega, by go_num, by go_num, (hbel.trans (hb1.mono (Nat.le_of_lt hlt))).setCell (Nat.le_refl _) _, by unfold Hid; rw [← mark_next k0 l hkl]; exact hh1.set k _⟩
      case measure => simp [intOf]; omega
    · obtain rfl : k = l.length := by omega
      go_wp2
      go_ret
      exact ⟨rfl, hbel, by simpa using hhas.out⟩

theorem held_strs (n : Nat) (g c k0 : Nat) (w : World) (hl : n ≤ 2000000) (hk0 : 1 ≤ k0 ∧ k0 ≤ 1000000000000) (ha : Has w g c ((List.range n).map fun i => mt (k0 + i))) :
    Calls Tryd.prog 45 #[.slice (some ⟨g, 0, none⟩) n c, .int .i64 k0] w fun e w' => e = .returned (.int .i64 (k0 + n : Nat)) ∧ Below w.heap.size w w' := by
  have HA : Hid (Has w g c ((List.range n).map fun i => mt (k0 + i))) := ha
  clear ha
  go_enter Tryd.func45, Tryd.ntmps45
  go_wp2
  go_loopw [1, 5] (fun y x wr => ∃ k : Nat, k ≤ n ∧ x = .int .i64 k ∧ y = .int .i64 (k0 + k : Nat) ∧ Below w.heap.size w wr) (fun _ x _ => n - (intOf x).toNat)
  case atStart => exact ⟨0, Nat.zero_le _, rfl, rfl, Below.refl _ _⟩
  case round =>
    obtain ⟨k, hk, rfl, rfl, hbel⟩ := hrel
    by_cases hkl : k < n
    · have hhas := HA.out.below hbel HA.out.lt
      have ca := hhas.cell k (by simpa using hkl)
      have hx : ((List.range n).map fun i => mt (k0 + i)).getD k ByteArray.empty = mt (k0 + k) := by simp [List.getD, hkl]
      rw [hx] at ca
      clear hx
      have hlt := hhas.lt
      go_wp2
      go_region_with (go_at_call 67; refine (mark_text (k0 + k) _ (by omega) (by omega)).mono ?_; rintro e w1 ⟨rfl, hb1⟩; have ca1 : w1.cell? ⟨g, k, none⟩ = some (.string (mt (k0 + k))) := (hb1.cell (by exact hlt)).trans ca)
      all_goals go_wp2
      all_goals go_roundw
      all_goals first | exact ⟨k + 1, by omega, by go_num, by go_num, hbel.drew.trans (hb1.mono hbel.size)⟩ | (simp [intOf]; omega)
    · obtain rfl : k = n := by omega
      go_wp2
      go_ret
      exact ⟨rfl, hbel⟩
end Go.Proofs.YtnmooolnmhidbaaDoor.sm
