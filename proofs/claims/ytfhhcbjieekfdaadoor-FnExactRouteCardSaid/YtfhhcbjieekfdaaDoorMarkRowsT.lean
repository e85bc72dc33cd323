/- The laws' marks in a method's two lists: laid, and held; nothing but the two rows is turned. -/
import Derived.Test.YtfhhcbjieekfdaaDoorListsT
namespace Go.Proofs.YtfhhcbjieekfdaaDoor.mr
set_option linter.unusedVariables false
open Go.ChangeShapes Go.WideShapes Go.ChangeAt Go.RowKit Go.Proofs.YtfhhcbjieekfdaaDoor.ls

section
variable {w w1 w2 : World} {r : Option Nat} {g : Nat}
theorem gb_refl (w : World) (r : Option Nat) : w.grownBy w r := ⟨rfl, rfl, rfl, Nat.le_refl _, fun _ _ _ => rfl⟩
theorem gb_below (h : w.grownBy w1 r) (hb : Below w1.heap.size w1 w2) : w.grownBy w2 r := h.trans ⟨hb.os, hb.tape, hb.output, hb.size, fun k hk _ => hb.block k hk⟩
theorem gb_set (h : w.grownBy w1 (some g)) (o : Nat) (v : Value) : w.grownBy (w1.setCell ⟨g, o, none⟩ v) (some g) := by
  have hb : Below 0 w1 (w1.setCell ⟨g, o, none⟩ v) := (Below.refl 0 w1).setCell (Nat.zero_le _) v
  exact h.trans ⟨hb.os, hb.tape, hb.output, hb.size, fun k hk hne => RowKit.Below.heap_setCell _ _ _ _ (by intro e; exact hne (by rw [e]))⟩
end

/-- a list of texts, nil or in a row of its own -/
def RowT (w : World) (v : Value) (l : List ByteArray) : Prop := (v = .slice none 0 0 ∧ l = []) ∨ ∃ g c, v = .slice (some ⟨g, 0, none⟩) l.length c ∧ sm.Has w g c l
def marksT (k n : Nat) : List ByteArray := (List.range n).map fun i => sm.mt (k + i)
section
variable {w w' : World} {v : Value} {B : Nat}
theorem RowT.of_owns {l : List ByteArray} (h : w.ownsRow B 9 1 v l.length (l.map Value.string)) : RowT w v l := by
  obtain ⟨hl, ⟨rfl, h0⟩ | ⟨g, cap, cur, rfl, _, h1, h2, _, h3, h4⟩⟩ := h
  · exact .inl ⟨rfl, List.length_eq_zero_iff.1 h0⟩
  · exact .inr ⟨g, cap, rfl, cur, h1, h2, by omega, by simpa using h4⟩
theorem RowT.kept {l : List ByteArray} (h : RowT w v l) (hk : ∀ g, v.ownBlock = some g → g < w.heap.size → w'.heap[g]? = w.heap[g]?) : RowT w' v l := by
  obtain h | ⟨g, c, rfl, hh⟩ := h
  · exact .inl h
  · obtain ⟨cur, h1, h2⟩ := id hh
    exact .inr ⟨g, c, rfl, cur, by rw [hk g rfl hh.lt]; exact h1, h2⟩
theorem RowT.below {l : List ByteArray} (h : RowT w v l) (hb : Below w.heap.size w w') : RowT w' v l := h.kept fun g _ hg => hb.block g hg
theorem RowT.sl {l : List ByteArray} {a : Option Addr} {n c : Nat} (h : RowT w (.slice a n c) l) : Sl Value.string w w.heap.size a l := by
  obtain ⟨_, h⟩ | ⟨g, c, he, hh⟩ := h
  · exact .inl h
  · simp at he
    obtain ⟨rfl, _⟩ := he
    refine .inr ⟨g, 0, rfl, hh.lt, fun i x hx => ?_⟩
    have hi := (List.getElem?_eq_some_iff.1 hx).1
    have := hh.cell i hi
    rw [Nat.zero_add, this, List.getD, hx]
    rfl
end

theorem mark_strs (l : List ByteArray) (g c k0 : Nat) (w : World) (hl : l.length ≤ 2000000) (hk0 : 1 ≤ k0 ∧ k0 ≤ 1000000000000) (ha : sm.Has w g c l) :
    Calls Tryd.prog 11 #[.slice (some ⟨g, 0, none⟩) l.length c, .int .i64 k0] w fun e w' => e = .returned (.int .i64 (k0 + l.length : Nat)) ∧ w.grownBy w' (some g) ∧ sm.Has w' g c (marksT k0 l.length) := by
  have HA : Hid (sm.Has w g c l) := ha
  clear ha
  go_enter Tryd.func11, Tryd.ntmps11
  go_wp2
  go_loopw [1, 5] (fun y x wr => ∃ k : Nat, k ≤ l.length ∧ x = .int .i64 k ∧ y = .int .i64 (k0 + k : Nat) ∧ w.grownBy wr (some g) ∧ Hid (sm.Has wr g c (((List.range k).map fun i => sm.mt (k0 + i)) ++ l.drop k))) (fun _ x _ => l.length - (intOf x).toNat)
  case atStart => exact ⟨0, Nat.zero_le _, rfl, rfl, gb_refl _ _, by unfold Hid; simpa using HA.out⟩
  case round =>
    obtain ⟨k, hk, rfl, rfl, hbel, hhas⟩ := hrel
    by_cases hkl : k < l.length
    · have hlt := hhas.out.lt
      go_wp2_with (go_at_call 33; refine (sm.mark_text (k0 + k) wr (by omega) (by omega)).mono ?_; rintro e w1 ⟨rfl, hb1⟩; have hh1 := hhas.out.below hb1 hlt; have hf1 := hh1.frozen k; have hc1 := hh1.cell k (by simp; omega))
      go_roundw
      case rel => exact ⟨k + 1, by omega, by go_num, by go_num, gb_set (gb_below hbel hb1) _ _, by unfold Hid; rw [← sm.mark_next k0 l hkl]; exact hh1.set k _⟩
      case measure => simp [intOf]; omega
    · obtain rfl : k = l.length := by omega
      go_wp2
      go_ret
      exact ⟨rfl, hbel, by unfold marksT; simpa using hhas.out⟩

theorem nil_markT (k0 : Nat) (w : World) : Calls Tryd.prog 11 #[.slice none 0 0, .int .i64 k0] w fun e w' => e = .returned (.int .i64 k0) ∧ w' = w := by
  go_enter Tryd.func11, Tryd.ntmps11
  go_wp2
  go_loopw [1, 5] (fun y x wr => x = .int .i64 0 ∧ y = .int .i64 k0 ∧ wr = w) (fun _ x _ => 0)
  case atStart => exact ⟨rfl, rfl, rfl⟩
  case round =>
    obtain ⟨rfl, rfl, rfl⟩ := hrel
    go_wp2
    go_ret
    exact ⟨rfl, rfl⟩
theorem nil_heldT (k0 : Nat) (w : World) : Calls Tryd.prog 12 #[.slice none 0 0, .int .i64 k0] w fun e w' => e = .returned (.int .i64 k0) ∧ w' = w := by
  go_enter Tryd.func12, Tryd.ntmps12
  go_wp2
  go_loopw [1, 5] (fun y x wr => x = .int .i64 0 ∧ y = .int .i64 k0 ∧ wr = w) (fun _ x _ => 0)
  case atStart => exact ⟨rfl, rfl, rfl⟩
  case round =>
    obtain ⟨rfl, rfl, rfl⟩ := hrel
    go_wp2
    go_ret
    exact ⟨rfl, rfl⟩
theorem row_markT (l : List ByteArray) (v : Value) (k0 : Nat) (w : World) (hl : l.length ≤ 2000000) (hk0 : 1 ≤ k0 ∧ k0 ≤ 1000000000000) (h : RowT w v l) :
    Calls Tryd.prog 11 #[v, .int .i64 k0] w fun e w' => e = .returned (.int .i64 (k0 + l.length : Nat)) ∧ w.grownBy w' v.ownBlock ∧ RowT w' v (marksT k0 l.length) := by
  obtain ⟨rfl, rfl⟩ | ⟨g, c, rfl, hh⟩ := h
  · refine (nil_markT k0 w).mono ?_
    rintro e _ ⟨rfl, rfl⟩
    exact ⟨rfl, gb_refl _ _, .inl ⟨rfl, rfl⟩⟩
  · refine (mark_strs l g c k0 w hl hk0 hh).mono ?_
    rintro e w' ⟨rfl, hg, hh'⟩
    exact ⟨rfl, hg, .inr ⟨g, c, by simp [marksT], hh'⟩⟩
theorem row_heldT (n : Nat) (v : Value) (k0 : Nat) (w : World) (hl : n ≤ 2000000) (hk0 : 1 ≤ k0 ∧ k0 ≤ 1000000000000) (h : RowT w v (marksT k0 n)) :
    Calls Tryd.prog 12 #[v, .int .i64 k0] w fun e w' => e = .returned (.int .i64 (k0 + n : Nat)) ∧ Below w.heap.size w w' := by
  obtain ⟨rfl, h0⟩ | ⟨g, c, rfl, hh⟩ := h
  · have : n = 0 := by simpa [marksT] using h0
    subst this
    refine (nil_heldT k0 w).mono ?_
    rintro e _ ⟨rfl, rfl⟩
    exact ⟨rfl, Below.refl _ _⟩
  · have := sm.held_strs n g c k0 w hl hk0 hh
    simpa [marksT] using this
end Go.Proofs.YtfhhcbjieekfdaaDoor.mr
