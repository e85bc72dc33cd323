/- A block of four cells whose last two are a list of texts and a list of numbers, each in a row of its own: how it is kept, and how one more is laid behind either list. -/
import Derived.Test.YtipjhlfajefefaaDoorMethodPlain
import Derived.Test.YtipjhlfajefefaaDoorMeths
import Derived.Deep.AppendLies
namespace Go.Proofs.YtipjhlfajefefaaDoor.bx
set_option linter.unusedVariables false
open Go.ChangeShapes Go.WideShapes Go.ChangeAt Go.RowKit Go.Proofs.YtipjhlfajefefaaDoor.ls Go.Proofs.YtipjhlfajefefaaDoor.me Go.Proofs.YtipjhlfajefefaaDoor.mp

section
variable {w w' : World} {B : Nat} {e : TypeId} {v : Value} {n : Nat} {xs : List Value}

theorem own_lt (h : w.ownsRow B e 1 v n xs) {g : Nat} (hg : v.ownBlock = some g) : B ≤ g ∧ g < w.heap.size := by
  obtain ⟨_, ⟨rfl, _⟩ | ⟨g', cap, cur, rfl, hb, hc, _⟩⟩ := h
  · simp [Value.ownBlock] at hg
  · simp [Value.ownBlock] at hg
    subst hg
    exact ⟨hb, (Array.getElem?_eq_some_iff.1 hc).1⟩
theorem own_set (h : w.ownsRow B e 1 v n xs) {p : Addr} (hne : v.ownBlock ≠ some p.block) (u : Value) : (w.setCell p u).ownsRow B e 1 v n xs := by
  obtain ⟨hl, h | ⟨g', cap, cur, rfl, hb, hc, h2⟩⟩ := h
  · exact ⟨hl, .inl h⟩
  · refine ⟨hl, .inr ⟨g', cap, cur, rfl, hb, ?_, h2⟩⟩
    rw [RowKit.Below.heap_setCell _ _ _ _ (by simpa [Value.ownBlock] using hne)]
    exact hc
theorem grown_of (hb : Below w.heap.size w w') : w.grownBy w' none := ⟨hb.os, hb.tape, hb.output, hb.size, fun i hi _ => hb.block i hi⟩
theorem own_below (h : w.ownsRow B e 1 v n xs) (hb : Below w.heap.size w w') : w'.ownsRow B e 1 v n xs :=
  h.kept (grown_of hb) (by cases hv : v.ownBlock with | none => exact .inl rfl | some g => right; simp)
end

/-- the block rb has the cells x, y, a list of texts and one of numbers, each list in a row of its own from B on; the blocks ps are other ones -/
structure Bx (w : World) (B rb : Nat) (T : TypeId) (x y tv nv : Value) (ts : List ByteArray) (ns : List Int) (ps : List (Nat × Obj)) : Prop where
  blk : w.heap[rb]? = some (.cells #[x, y, tv, nv] T (0, 0))
  ot : w.ownsRow B 9 1 tv ts.length (ts.map Value.string)
  on : w.ownsRow B 3 1 nv ns.length (ns.map (Value.int .i64))
  nt : tv.ownBlock ≠ some rb
  nn : nv.ownBlock ≠ some rb
  ap : ∀ g, tv.ownBlock = some g → nv.ownBlock ≠ some g
  lo : B ≤ rb
  keep : ∀ q ∈ ps, w.heap[q.1]? = some q.2 ∧ q.1 ≠ rb ∧ tv.ownBlock ≠ some q.1 ∧ nv.ownBlock ≠ some q.1

section
variable {w W w' w2 : World} {B rb : Nat} {T : TypeId} {x y tv nv : Value} {ts : List ByteArray} {ns : List Int} {ps : List (Nat × Obj)}

theorem Bx.lt (h : Bx w B rb T x y tv nv ts ns ps) : rb < w.heap.size := (Array.getElem?_eq_some_iff.1 h.blk).1
theorem Bx.below (h : Bx w B rb T x y tv nv ts ns ps) (hb : Below w.heap.size w w') : Bx w' B rb T x y tv nv ts ns ps :=
  { h with
    blk := by rw [hb.block _ h.lt]; exact h.blk
    ot := own_below h.ot hb
    on := own_below h.on hb
    keep := fun q hq => ⟨by rw [hb.block _ (Array.getElem?_eq_some_iff.1 (h.keep q hq).1).1]; exact (h.keep q hq).1, (h.keep q hq).2⟩ }
theorem Bx.set1 (h : Bx w B rb T x y tv nv ts ns ps) (y' : Value) : Bx (w.setCell ⟨rb, 1, none⟩ y') B rb T x y' tv nv ts ns ps :=
  { h with
    blk := by simpa using heap_setCell_same w rb 1 _ _ y' h.blk
    ot := own_set h.ot (p := ⟨rb, 1, none⟩) h.nt y'
    on := own_set h.on (p := ⟨rb, 1, none⟩) h.nn y'
    keep := fun q hq => ⟨by rw [RowKit.Below.heap_setCell _ _ _ _ (h.keep q hq).2.1]; exact (h.keep q hq).1, (h.keep q hq).2⟩ }

/-- a text is laid behind the texts -/
theorem Bx.text (h : Bx W B rb T x y tv nv ts ns ps) {g cap : Nat} {t : ByteArray} (hown : w2.ownsRow B 9 1 (.slice (some ⟨g, 0, none⟩) (ts.length + 1) cap) (ts.length + 1) (ts.map Value.string ++ [.string t])) (hg : W.grownBy w2 tv.ownBlock) (hat : tv.ownBlock = some g ∨ g = W.heap.size) :
    Bx (w2.setCell ⟨rb, 2, none⟩ (.slice (some ⟨g, 0, none⟩) (ts.length + 1) cap)) B rb T x y (.slice (some ⟨g, 0, none⟩) (ts.length + 1) cap) nv (ts ++ [t]) ns ps := by
  have hne : g ≠ rb := by
    rcases hat with h1 | h1
    · intro e; exact h.nt (e ▸ h1)
    · have := h.lt; omega
  have hnv : nv.ownBlock ≠ some g := by
    rcases hat with h1 | h1
    · exact h.ap g h1
    · intro e; have := (own_lt h.on e).2; omega
  have b1 := (hg.block rb h.lt (Ne.symm h.nt)).trans h.blk
  have hon : w2.ownsRow B 3 1 nv ns.length (ns.map (Value.int .i64)) := h.on.kept hg (by
    cases hv : nv.ownBlock with
    | none => exact .inl rfl
    | some k => right; intro e; exact h.ap k e.symm hv)
  exact {
    blk := by simpa using heap_setCell_same w2 rb 2 _ _ (.slice (some ⟨g, 0, none⟩) (ts.length + 1) cap) b1
    ot := by
      have := own_set hown (p := ⟨rb, 2, none⟩) (by simpa [Value.ownBlock] using hne) (.slice (some ⟨g, 0, none⟩) (ts.length + 1) cap)
      simpa using this
    on := own_set hon (p := ⟨rb, 2, none⟩) h.nn _
    nt := by simpa [Value.ownBlock] using hne
    nn := h.nn
    ap := fun k hk => by simp [Value.ownBlock] at hk; subst hk; exact hnv
    lo := h.lo
    keep := fun q hq => by
      obtain ⟨k1, k2, k3, k4⟩ := h.keep q hq
      have hlt := (Array.getElem?_eq_some_iff.1 k1).1
      refine ⟨by rw [RowKit.Below.heap_setCell _ _ _ _ k2, hg.block q.1 hlt (Ne.symm k3)]; exact k1, k2, ?_, k4⟩
      simp [Value.ownBlock]
      rcases hat with h1 | h1
      · intro e; exact k3 (e ▸ h1)
      · omega }

/-- a number is laid behind the numbers -/
theorem Bx.num (h : Bx W B rb T x y tv nv ts ns ps) {g cap : Nat} {t : Int} (hown : w2.ownsRow B 3 1 (.slice (some ⟨g, 0, none⟩) (ns.length + 1) cap) (ns.length + 1) (ns.map (Value.int .i64) ++ [.int .i64 t])) (hg : W.grownBy w2 nv.ownBlock) (hat : nv.ownBlock = some g ∨ g = W.heap.size) :
    Bx (w2.setCell ⟨rb, 3, none⟩ (.slice (some ⟨g, 0, none⟩) (ns.length + 1) cap)) B rb T x y tv (.slice (some ⟨g, 0, none⟩) (ns.length + 1) cap) ts (ns ++ [t]) ps := by
  have hne : g ≠ rb := by
    rcases hat with h1 | h1
    · intro e; exact h.nn (e ▸ h1)
    · have := h.lt; omega
  have htv : tv.ownBlock ≠ some g := by
    rcases hat with h1 | h1
    · intro e; exact h.ap g e h1
    · intro e; have := (own_lt h.ot e).2; omega
  have b1 := (hg.block rb h.lt (Ne.symm h.nn)).trans h.blk
  have hot : w2.ownsRow B 9 1 tv ts.length (ts.map Value.string) := h.ot.kept hg (by
    cases hv : tv.ownBlock with
    | none => exact .inl rfl
    | some k => right; intro e; exact h.ap k hv e.symm)
  exact {
    blk := by simpa using heap_setCell_same w2 rb 3 _ _ (.slice (some ⟨g, 0, none⟩) (ns.length + 1) cap) b1
    on := by
      have := own_set hown (p := ⟨rb, 3, none⟩) (by simpa [Value.ownBlock] using hne) (.slice (some ⟨g, 0, none⟩) (ns.length + 1) cap)
      simpa using this
    ot := own_set hot (p := ⟨rb, 3, none⟩) h.nt _
    nn := by simpa [Value.ownBlock] using hne
    nt := h.nt
    ap := fun k hk => by simp [Value.ownBlock]; intro e; subst e; exact htv hk
    lo := h.lo
    keep := fun q hq => by
      obtain ⟨k1, k2, k3, k4⟩ := h.keep q hq
      have hlt := (Array.getElem?_eq_some_iff.1 k1).1
      refine ⟨by rw [RowKit.Below.heap_setCell _ _ _ _ k2, hg.block q.1 hlt (Ne.symm k4)]; exact k1, k2, k3, ?_⟩
      simp [Value.ownBlock]
      rcases hat with h1 | h1
      · intro e; exact k4 (e ▸ h1)
      · omega }

/-- .. and nothing below B is turned -/
theorem low (hb : Below B w W) (hB : B ≤ W.heap.size) {v : Value} {e : TypeId} {n : Nat} {xs : List Value} (ho : W.ownsRow B e 1 v n xs) (hg : W.grownBy w2 v.ownBlock) (hr : B ≤ rb) (o : Nat) (u : Value) : Below B w (w2.setCell ⟨rb, o, none⟩ u) :=
  (hb.grown hg hB (fun k hk => (own_lt ho hk).1)).setCell hr _
end
end Go.Proofs.YtipjhlfajefefaaDoor.bx
