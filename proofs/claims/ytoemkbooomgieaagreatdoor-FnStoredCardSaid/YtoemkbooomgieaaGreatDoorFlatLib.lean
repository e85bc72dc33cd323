/- Rows of structures in memory: a list whose elements take n cells each, behind a slice's address, and as a row of its own that is laid bit by bit. -/
import Derived.Test.YtoemkbooomgieaaGreatDoorRows
import Derived.WalkKit
import Derived.WalkLawsBesides
import Derived.WalkSpells
import Derived.ProofKit
import Derived.OpenShut
import Derived.ShutString
import Derived.Laws.MakeOwn
import Derived.Deep.RegionWith
namespace Go.Proofs.YtoemkbooomgieaaGreatDoor.fl
open Go.ChangeShapes Go.WideShapes Go.ChangeAt Go.RowKit
set_option linter.unusedVariables false

theorem bcell {w : World} {b j : Nat} {cur : Array Value} {T : TypeId} {v : Value} (h : w.heap[b]? = some (.cells cur T (0, 0))) (hv : cur[j]? = some v) : w.cell? ⟨b, j, none⟩ = some v := by
  simp [World.cell?, h, hv]
theorem bfree {w : World} {b : Nat} {cur : Array Value} {T : TypeId} (h : w.heap[b]? = some (.cells cur T (0, 0))) (j : Nat) : w.frozen? ⟨b, j, none⟩ = false := by
  simp [World.frozen?, h]
theorem bset {w : World} {b : Nat} {cur : Array Value} {T : TypeId} (h : w.heap[b]? = some (.cells cur T (0, 0))) (j : Nat) (v : Value) : (w.setCell ⟨b, j, none⟩ v).heap[b]? = some (.cells (cur.setIfInBounds j v) T (0, 0)) := heap_setCell_same w b j cur _ v h
theorem boff {w : World} {b : Nat} {o : Obj} (h : w.heap[b]? = some o) (g j : Nat) (v : Value) (hne : b ≠ g) : (w.setCell ⟨g, j, none⟩ v).heap[b]? = some o := (Below.heap_setCell w ⟨g, j, none⟩ v b hne).trans h
theorem bnew (w : World) (cur : Array Value) (T : TypeId) : (w.alloc (.cells cur T)).heap[w.heap.size]? = some (.cells cur T (0, 0)) := heap_alloc_new w _
theorem bold {w : World} {b : Nat} {o : Obj} (h : w.heap[b]? = some o) (o' : Obj) : (w.alloc o').heap[b]? = some o := (Below.heap_alloc w o' b (Array.getElem?_eq_some_iff.1 h).1).trans h
theorem bstay {w w' : World} {b B : Nat} {o : Obj} (h : w.heap[b]? = some o) (hb : Below B w w') (hlt : b < B) : w'.heap[b]? = some o := (hb.block b hlt).trans h

section
variable {α : Type} {c : α → List Value} {n : Nat} {T : TypeId} {w w' : World} {a : Option Addr} {l : List α} {B g k : Nat} {e : α}

/-- the cells behind a slice's address hold the list l, n cells an element; they lie in a block below B -/
def Row (c : α → List Value) (n : Nat) (w : World) (B : Nat) (a : Option Addr) (l : List α) : Prop :=
  l = [] ∨ ∃ b off, a = some ⟨b, off, none⟩ ∧ b < B ∧ ∀ (i : Nat) (e : α), l[i]? = some e → ∀ (j : Nat) (v : Value), (c e)[j]? = some v → w.cell? ⟨b, off + i * n + j, none⟩ = some v
theorem Row.inn (h : Row c n w w.heap.size a l) (hb : Below w.heap.size w w') : Row c n w' w'.heap.size a l := by
  rcases h with h | ⟨b, off, ha, hlt, hc⟩
  · exact .inl h
  · exact .inr ⟨b, off, ha, Nat.lt_of_lt_of_le hlt hb.size, fun i e he j v hv => (hb.cell (p := ⟨b, _, none⟩) hlt).trans (hc i e he j v hv)⟩
theorem Row.set (h : Row c n w w.heap.size a l) {p : Addr} (hne : ∀ b off, a = some ⟨b, off, none⟩ → b ≠ p.block) (v : Value) : Row c n (w.setCell p v) (w.setCell p v).heap.size a l := by
  rcases h with h | ⟨b, off, ha, hlt, hc⟩
  · exact .inl h
  · exact .inr ⟨b, off, ha, by simpa using hlt, fun i e he j u hu => (World.cell?_of_block (a := ⟨b, _, none⟩) (Below.heap_setCell w p v b (hne b off ha))).trans (hc i e he j u hu)⟩

/-- a row of its own at block g, room for l, the first k of it laid -/
def Own (c : α → List Value) (n : Nat) (T : TypeId) (w : World) (g : Nat) (l : List α) (k : Nat) : Prop :=
  ∃ cur, w.heap[g]? = some (.cells cur T (0, 0)) ∧ cur.size = l.length * n ∧ ∀ (i : Nat) (e : α), i < k → l[i]? = some e → ∀ (j : Nat) (v : Value), (c e)[j]? = some v → cur[i * n + j]? = some v
theorem Own.at (h : Own c n T w g l k) (o : Nat) (ho : o < l.length * n) : ∃ v, w.cell? ⟨g, o, none⟩ = some v := by
  obtain ⟨cur, hg, hs, _⟩ := h
  exact ⟨cur[o]'(by omega), by simp [World.cell?, hg, Array.getElem?_eq_getElem (show o < cur.size by omega)]⟩
theorem Own.free (h : Own c n T w g l k) (o : Nat) : w.frozen? ⟨g, o, none⟩ = false := by
  obtain ⟨cur, hg, _⟩ := h
  simp [World.frozen?, hg]
theorem Own.below (h : Own c n T w g l k) (hb : Below B w w') (hg : g < B) : Own c n T w' g l k := by
  obtain ⟨cur, h1, h2⟩ := h
  exact ⟨cur, by rw [hb.block g hg]; exact h1, h2⟩
theorem Own.lt (h : Own c n T w g l k) : g < w.heap.size := by
  obtain ⟨cur, hg, _⟩ := h
  exact (Array.getElem?_eq_some_iff.1 hg).1
theorem Own.row (h : Own c n T w g l l.length) : Row c n w w.heap.size (some ⟨g, 0, none⟩) l := by
  have hlt := h.lt
  obtain ⟨cur, hg, _, hc⟩ := h
  refine .inr ⟨g, 0, rfl, hlt, fun i e he j v hv => ?_⟩
  have hx := hc i e (List.getElem?_eq_some_iff.1 he).1 he j v hv
  simp only [World.cell?, hg]
  simpa using hx
theorem Own.cell (h : Own c n T w g l k) {i : Nat} (hi : i < k) (he : l[i]? = some e) {j : Nat} {v : Value} (hv : (c e)[j]? = some v) : w.cell? ⟨g, i * n + j, none⟩ = some v := by
  obtain ⟨cur, hg, _, hc⟩ := h
  have hx := hc i e hi he j v hv
  simp only [World.cell?, hg]
  simpa using hx
theorem Own.kept (h : Own c n T w g l k) (hg : w'.heap[g]? = w.heap[g]?) : Own c n T w' g l k := by
  obtain ⟨cur, h1, h2⟩ := h
  exact ⟨cur, by rw [hg]; exact h1, h2⟩

def setArr (cur : Array Value) (o : Nat) : List Value → Array Value
  | [] => cur
  | v :: r => setArr (cur.setIfInBounds o v) (o + 1) r
theorem setArr_size (vs : List Value) : ∀ (cur : Array Value) (o : Nat), (setArr cur o vs).size = cur.size := by
  induction vs with
  | nil => intros; rfl
  | cons v r ih => intro cur o; simp [setArr, ih]
theorem setArr_off (vs : List Value) : ∀ (cur : Array Value) (o p : Nat), (p < o ∨ o + vs.length ≤ p) → (setArr cur o vs)[p]? = cur[p]? := by
  induction vs with
  | nil => intros; rfl
  | cons v r ih =>
    intro cur o p hp
    simp at hp
    rw [setArr, ih _ _ _ (by omega), Array.getElem?_setIfInBounds]
    simp [show o ≠ p by omega]
theorem setArr_on (vs : List Value) : ∀ (cur : Array Value) (o j : Nat) (v : Value), vs[j]? = some v → o + vs.length ≤ cur.size → (setArr cur o vs)[o + j]? = some v := by
  induction vs with
  | nil => intro cur o j v h; simp at h
  | cons u r ih =>
    intro cur o j v h hs
    simp at hs
    cases j with
    | zero =>
      simp at h
      subst h
      rw [setArr, setArr_off _ _ _ _ (by omega)]
      simp [Array.getElem?_setIfInBounds]
      omega
    | succ j =>
      simp at h
      rw [setArr, show o + (j + 1) = o + 1 + j by omega]
      exact ih _ _ _ _ h (by simp; omega)
/-- the cells vs laid from offset o on of block g -/
def setRow (w : World) (g o : Nat) : List Value → World
  | [] => w
  | v :: r => setRow (w.setCell ⟨g, o, none⟩ v) g (o + 1) r
theorem setRow_heap (vs : List Value) : ∀ (w : World) (o : Nat) (cur : Array Value), w.heap[g]? = some (.cells cur T (0, 0)) → (setRow w g o vs).heap[g]? = some (.cells (setArr cur o vs) T (0, 0)) := by
  induction vs with
  | nil => intro w o cur h; exact h
  | cons v r ih => intro w o cur h; exact ih _ _ _ (heap_setCell_same w g o cur _ v h)
theorem Own.set (hn : ∀ e, (c e).length = n) (h : Own c n T w g l k) (he : l[k]? = some e) : Own c n T (setRow w g (k * n) (c e)) g l (k + 1) := by
  obtain ⟨cur, h1, h2, h3⟩ := h
  have hk := (List.getElem?_eq_some_iff.1 he).1
  have hkn : k * n + n ≤ l.length * n := by
    have := Nat.mul_le_mul_right n (show k + 1 ≤ l.length from hk)
    rw [Nat.add_mul] at this
    omega
  refine ⟨_, setRow_heap _ _ _ _ h1, by rw [setArr_size]; exact h2, fun i f hi hf j v hv => ?_⟩
  by_cases ei : i = k
  · subst ei
    rw [he] at hf
    cases hf
    exact setArr_on _ _ _ _ _ hv (by have := hn e; omega)
  · have hj := (List.getElem?_eq_some_iff.1 hv).1
    rw [hn f] at hj
    rw [setArr_off _ _ _ _ (.inl ?_)]
    · exact h3 i f (by omega) hf j v hv
    · have := Nat.mul_le_mul_right n (show i + 1 ≤ k by omega)
      rw [Nat.add_mul] at this
      omega
def bulk (f : α → Nat) : List α → Nat
  | [] => 0
  | x :: r => f x + bulk f r
theorem made (cz : List Value) (w : World) (l : List α) (hz : cz.length = n) : Own c n T (w.alloc (.cells (madeCells cz.toArray (l.length * n)) T)) w.heap.size l 0 :=
  ⟨_, heap_alloc_new w _, size_madeCells _ _, fun i e hi => by omega⟩
end
end Go.Proofs.YtoemkbooomgieaaGreatDoor.fl
