/- Rows of structures of their own that begin at an offset of their block. -/
import Derived.Test.YtoemkbooomgieaaGreatDoorFlatLib
namespace Go.Proofs.YtoemkbooomgieaaGreatDoor.fo
open Go.ChangeShapes Go.WideShapes Go.ChangeAt Go.RowKit Go.Proofs.YtoemkbooomgieaaGreatDoor.fl
set_option linter.unusedVariables false

section
variable {α : Type} {c : α → List Value} {n : Nat} {T : TypeId} {w w' : World} {a : Option Addr} {l : List α} {B g off k : Nat} {e : α}
/-- a row of its own in block g from cell off on, room for l, the first k of it laid -/
def OwnO (c : α → List Value) (n : Nat) (T : TypeId) (w : World) (g off : Nat) (l : List α) (k : Nat) : Prop :=
  ∃ cur, w.heap[g]? = some (.cells cur T (0, 0)) ∧ off + l.length * n ≤ cur.size ∧ ∀ (i : Nat) (e : α), i < k → l[i]? = some e → ∀ (j : Nat) (v : Value), (c e)[j]? = some v → cur[off + i * n + j]? = some v
theorem OwnO.at (h : OwnO c n T w g off l k) (o : Nat) (ho : o < off + l.length * n) : ∃ v, w.cell? ⟨g, o, none⟩ = some v := by
  obtain ⟨cur, hg, hs, _⟩ := h
  exact ⟨cur[o]'(by omega), by simp [World.cell?, hg, Array.getElem?_eq_getElem (show o < cur.size by omega)]⟩
theorem OwnO.free (h : OwnO c n T w g off l k) (o : Nat) : w.frozen? ⟨g, o, none⟩ = false := by
  obtain ⟨cur, hg, _⟩ := h
  simp [World.frozen?, hg]
theorem OwnO.below (h : OwnO c n T w g off l k) (hb : Below B w w') (hg : g < B) : OwnO c n T w' g off l k := by
  obtain ⟨cur, h1, h2⟩ := h
  exact ⟨cur, by rw [hb.block g hg]; exact h1, h2⟩
theorem OwnO.kept (h : OwnO c n T w g off l k) (hg : w'.heap[g]? = w.heap[g]?) : OwnO c n T w' g off l k := by
  obtain ⟨cur, h1, h2⟩ := h
  exact ⟨cur, by rw [hg]; exact h1, h2⟩
theorem OwnO.lt (h : OwnO c n T w g off l k) : g < w.heap.size := by
  obtain ⟨cur, hg, _⟩ := h
  exact (Array.getElem?_eq_some_iff.1 hg).1
theorem OwnO.row (h : OwnO c n T w g off l l.length) : Row c n w w.heap.size (some ⟨g, off, none⟩) l := by
  have hlt := h.lt
  obtain ⟨cur, hg, _, hc⟩ := h
  refine .inr ⟨g, off, rfl, hlt, fun i e he j v hv => ?_⟩
  have hx := hc i e (List.getElem?_eq_some_iff.1 he).1 he j v hv
  simp only [World.cell?, hg]
  simpa using hx
theorem OwnO.any {l' : List α} (h : OwnO c n T w g off l k) (hl : l'.length = l.length) : OwnO c n T w g off l' 0 := by
  obtain ⟨cur, h1, h2, _⟩ := h
  exact ⟨cur, h1, by rw [hl]; exact h2, fun i e hi => by omega⟩
theorem of_own (h : Own c n T w g l k) : OwnO c n T w g 0 l k := by
  obtain ⟨cur, h1, h2, h3⟩ := h
  exact ⟨cur, h1, by omega, fun i e hi he j v hv => by rw [Nat.zero_add]; exact h3 i e hi he j v hv⟩
/-- a cell behind the first k is set -/
theorem OwnO.put (hn : ∀ e, (c e).length = n) (h : OwnO c n T w g off l k) (o : Nat) (v : Value) (ho : off + k * n ≤ o) : OwnO c n T (w.setCell ⟨g, o, none⟩ v) g off l k := by
  obtain ⟨cur, h1, h2, h3⟩ := h
  refine ⟨_, bset h1 o v, by rw [Array.size_setIfInBounds]; exact h2, fun i e hi he j u hu => ?_⟩
  have hj := (List.getElem?_eq_some_iff.1 hu).1
  rw [hn e] at hj
  have hle := Nat.mul_le_mul_right n (show i + 1 ≤ k from hi)
  rw [Nat.add_mul] at hle
  rw [Array.getElem?_setIfInBounds, if_neg (by omega)]
  exact h3 i e hi he j u hu
/-- one more is laid -/
theorem OwnO.more (h : OwnO c n T w g off l k) (he : l[k]? = some e) (hc : ∀ (j : Nat) (v : Value), (c e)[j]? = some v → w.cell? ⟨g, off + k * n + j, none⟩ = some v) : OwnO c n T w g off l (k + 1) := by
  obtain ⟨cur, h1, h2, h3⟩ := h
  refine ⟨cur, h1, h2, fun i f hi hf j v hv => ?_⟩
  by_cases ei : i = k
  · subst ei
    rw [he] at hf
    cases hf
    have := hc j v hv
    simpa [World.cell?, h1] using this
  · exact h3 i f (by omega) hf j v hv
theorem OwnO.cells (h : OwnO c n T w g off l k) : ∃ cur, w.heap[g]? = some (.cells cur T (0, 0)) ∧ off + l.length * n ≤ cur.size := by
  obtain ⟨cur, h1, h2, _⟩ := h
  exact ⟨cur, h1, h2⟩
/-- what is left of a row when its first d are left out -/
theorem OwnO.drop (h : OwnO c n T w g 0 l l.length) (d : Nat) (hd : d ≤ l.length) : OwnO c n T w g (d * n) (l.drop d) (l.drop d).length := by
  obtain ⟨cur, h1, h2, h3⟩ := h
  refine ⟨cur, h1, ?_, fun i e hi he j v hv => ?_⟩
  · rw [List.length_drop, ← Nat.add_mul, Nat.add_sub_cancel' hd]; omega
  · rw [List.getElem?_drop] at he
    have := h3 (d + i) e (List.getElem?_eq_some_iff.1 he).1 he j v hv
    rw [Nat.zero_add, Nat.add_mul] at this
    exact this
/-- a list's row of its own, or no list at all -/
def Mine (c : α → List Value) (n : Nat) (T : TypeId) (w : World) (B : Nat) (a : Option Addr) (l : List α) : Prop := l = [] ∨ ∃ g off, a = some ⟨g, off, none⟩ ∧ B ≤ g ∧ OwnO c n T w g off l l.length
/-- nothing but what is in S is turned -/
structure Tn (w w' : World) (S : Nat → Prop) : Prop where
  os : w'.os = w.os
  tape : w'.tape = w.tape
  output : w'.output = w.output
  size : w.heap.size ≤ w'.heap.size
  block : ∀ k, k < w.heap.size → ¬ S k → w'.heap[k]? = w.heap[k]?
theorem Tn.below {S : Nat → Prop} (h : Tn w w' S) (hs : B ≤ w.heap.size) (hS : ∀ k, S k → B ≤ k) : Below B w w' := ⟨h.os, h.tape, h.output, h.size, fun k hk => h.block k (by omega) (fun hk2 => by have := hS k hk2; omega)⟩
theorem Tn.refl (w : World) (S : Nat → Prop) : Tn w w S := ⟨rfl, rfl, rfl, Nat.le_refl _, fun _ _ _ => rfl⟩
theorem Tn.of (S : Nat → Prop) (h : Below w.heap.size w w') : Tn w w' S := ⟨h.os, h.tape, h.output, h.size, fun k hk _ => h.block k hk⟩
theorem Tn.trans {w'' : World} {S : Nat → Prop} (h : Tn w w' S) (h2 : Tn w' w'' S) : Tn w w'' S := ⟨h2.os.trans h.os, h2.tape.trans h.tape, h2.output.trans h.output, Nat.le_trans h.size h2.size, fun k hk hs => (h2.block k (Nat.lt_of_lt_of_le hk h.size) hs).trans (h.block k hk hs)⟩
theorem Tn.wide {S S' : Nat → Prop} (h : Tn w w' S) (hS : ∀ k, S k → S' k) : Tn w w' S' := ⟨h.os, h.tape, h.output, h.size, fun k hk hs => h.block k hk (fun h2 => hs (hS k h2))⟩
theorem Tn.set {S : Nat → Prop} (h : Tn w w' S) (hS : S g) (o : Nat) (v : Value) : Tn w (w'.setCell ⟨g, o, none⟩ v) S := by
  have hb : Below 0 w' (w'.setCell ⟨g, o, none⟩ v) := (Below.refl 0 w').setCell (Nat.zero_le _) v
  exact h.trans ⟨hb.os, hb.tape, hb.output, hb.size, fun k hk hne => RowKit.Below.heap_setCell _ _ _ _ (by intro e; exact hne (by rw [e]; exact hS))⟩
theorem Mine.row (h : Mine c n T w B a l) : Row c n w w.heap.size a l := by
  rcases h with h | ⟨g, off, rfl, _, h⟩
  · exact .inl h
  · exact h.row
/-- the blocks of a row -/
def blk (a : Option Addr) (l : List α) : Nat → Prop := fun k => l ≠ [] ∧ ∃ g off, a = some ⟨g, off, none⟩ ∧ k = g
theorem Mine.kept {S : Nat → Prop} (h : Mine c n T w B a l) (ht : Tn w w' S) (hS : ∀ k, blk a l k → ¬ S k) : Mine c n T w' B a l := by
  rcases h with h | ⟨g, off, rfl, hB, h⟩
  · exact .inl h
  · by_cases e : l = []
    · exact .inl e
    · exact .inr ⟨g, off, rfl, hB, h.kept (ht.block g h.lt (hS g ⟨e, g, off, rfl, rfl⟩))⟩
theorem Mine.below (h : Mine c n T w B a l) (hb : Below w.heap.size w w') : Mine c n T w' B a l := h.kept (Tn.of (fun _ => False) hb) (fun _ _ h => h)
theorem Mine.blk_le (h : Mine c n T w B a l) {k : Nat} (hk : blk a l k) : B ≤ k ∧ k < w.heap.size := by
  obtain ⟨hl, g, off, ha, rfl⟩ := hk
  rcases h with h | ⟨g', off', ha', hB, h⟩
  · exact absurd h hl
  · rw [ha'] at ha; cases ha; exact ⟨hB, h.lt⟩
end
end Go.Proofs.YtoemkbooomgieaaGreatDoor.fo
