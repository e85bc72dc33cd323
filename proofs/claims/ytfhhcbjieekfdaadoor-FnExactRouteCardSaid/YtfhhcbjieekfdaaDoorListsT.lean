/- Lists of texts and of numbers in memory, and what the laws' own functions szStringS, szIntS, toStringS, toIntS, eqStringS and eqIntS do with them. -/
import Derived.Test.YtfhhcbjieekfdaaDoorStrMarks
import Derived.Deep.Strs
import Derived.Deep.OwnRows
import Derived.Laws.OwnMore
namespace Go.Proofs.YtfhhcbjieekfdaaDoor.ls
open Go.ChangeShapes Go.WideShapes Go.ChangeAt Go.RowKit

/-- the cells behind a slice's address hold the list l; they lie in blocks below B -/
def Sl {α : Type} (f : α → Value) (w : World) (B : Nat) (a : Option Addr) (l : List α) : Prop :=
  l = [] ∨ ∃ b off, a = some ⟨b, off, none⟩ ∧ b < B ∧ ∀ (i : Nat) (x : α), l[i]? = some x → w.cell? ⟨b, off + i, none⟩ = some (f x)

section
variable {α : Type} {f : α → Value} {w w' : World} {B : Nat} {a : Option Addr} {l : List α}
theorem Sl.below (h : Sl f w B a l) (hb : Below B w w') : Sl f w' B a l := by
  rcases h with h | ⟨b, off, ha, hlt, hc⟩
  · exact .inl h
  · exact .inr ⟨b, off, ha, hlt, fun i x hx => by rw [hb.cell (p := ⟨b, off + i, none⟩) hlt]; exact hc i x hx⟩
theorem Sl.mono (h : Sl f w B a l) {B' : Nat} (hB : B ≤ B') : Sl f w B' a l := by
  rcases h with h | ⟨b, off, ha, hlt, hc⟩
  · exact .inl h
  · exact .inr ⟨b, off, ha, Nat.lt_of_lt_of_le hlt hB, hc⟩
theorem Sl.nil : Sl f w B a [] := .inl rfl
end

theorem Sl.of_has {w : World} {g cap : Nat} {l : List ByteArray} (h : sm.Has w g cap l) {B : Nat} (hB : g < B) : Sl Value.string w B (some ⟨g, 0, none⟩) l := by
  refine .inr ⟨g, 0, rfl, hB, fun i x hx => ?_⟩
  have hi := (List.getElem?_eq_some_iff.1 hx).1
  have := h.cell i hi
  rw [Nat.zero_add, this, List.getD, hx]
  rfl

/-- two lists of texts that read alike -/
theorem eq_strs (l : List ByteArray) (a a' : Option Addr) (c c' : Nat) (w : World) (hl : l.length ≤ 2000000) (ha : Sl Value.string w w.heap.size a l) (hb : Sl Value.string w w.heap.size a' l) :
    Calls Tryd.prog 8 #[.slice a l.length c, .slice a' l.length c'] w fun e w' => e = .returned (.bool true) ∧ Below w.heap.size w w' := by
  rcases ha with rfl | ⟨b, off, rfl, hlt, hc⟩
  · go_enter Tryd.func8, Tryd.ntmps8
    go_wp2
    refine wp_loop_rounds 1 ?_
    rw [rounds_succ]
    go_wp2
    go_ret
    exact ⟨rfl, Below.refl _ _⟩
  rcases hb with rfl | ⟨b', off', rfl, hlt', hc'⟩
  · go_enter Tryd.func8, Tryd.ntmps8
    go_wp2
    refine wp_loop_rounds 1 ?_
    rw [rounds_succ]
    go_wp2
    go_ret
    exact ⟨rfl, Below.refl _ _⟩
  have HA : Hid (∀ (i : Nat) (x : ByteArray), l[i]? = some x → w.cell? ⟨b, off + i, none⟩ = some (.string x)) := hc
  have HB : Hid (∀ (i : Nat) (x : ByteArray), l[i]? = some x → w.cell? ⟨b', off' + i, none⟩ = some (.string x)) := hc'
  clear hc hc'
  go_enter Tryd.func8, Tryd.ntmps8
  go_wp2
  go_loopw [5] (fun x wr => ∃ k : Nat, k ≤ l.length ∧ x = .int .i64 k ∧ Below w.heap.size w wr) (fun x _ => l.length - (intOf x).toNat)
  case atStart => exact ⟨0, Nat.zero_le _, rfl, Below.refl _ _⟩
  case round =>
    obtain ⟨k, hk, rfl, hbel⟩ := hrel
    by_cases hkl : k < l.length
    · have ca := (hbel.cell (p := ⟨b, off + k, none⟩) hlt).trans (HA.out k l[k] (List.getElem?_eq_getElem hkl))
      have cb := (hbel.cell (p := ⟨b', off' + k, none⟩) hlt').trans (HB.out k l[k] (List.getElem?_eq_getElem hkl))
      obtain ⟨x, hx⟩ : ∃ x, l[k] = x := ⟨_, rfl⟩
      rw [hx] at ca cb
      clear hx
      go_wp2
      go_region
      all_goals go_wp2
      all_goals go_roundw
      all_goals first | exact ⟨k + 1, by omega, by go_num, hbel.drew⟩ | (simp [intOf]; omega)
    · obtain rfl : k = l.length := by omega
      go_wp2
      go_ret
      exact ⟨rfl, hbel⟩

end Go.Proofs.YtfhhcbjieekfdaaDoor.ls
