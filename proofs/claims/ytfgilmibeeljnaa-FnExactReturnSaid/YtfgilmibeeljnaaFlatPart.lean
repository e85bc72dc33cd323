/- A structure's cells laid one by one into a row of its own. -/
import Derived.Test.YtfgilmibeeljnaaFlatOff
namespace Go.Proofs.Ytfgilmibeeljnaa.fp
open Go.ChangeShapes Go.WideShapes Go.ChangeAt Go.RowKit Go.Proofs.Ytfgilmibeeljnaa.fl Go.Proofs.Ytfgilmibeeljnaa.fo
set_option linter.unusedVariables false

section
variable {α : Type} {c : α → List Value} {n : Nat} {T : TypeId} {w w' : World} {l : List α} {g off k j : Nat} {e : α}
/-- the first k of a row are laid, and of the next one the first j cells -/
structure Pt (c : α → List Value) (n : Nat) (T : TypeId) (w : World) (g off : Nat) (l : List α) (k : Nat) (e : α) (j : Nat) : Prop where
  own : OwnO c n T w g off l k
  part : ∀ (i : Nat) (v : Value), i < j → (c e)[i]? = some v → w.cell? ⟨g, off + k * n + i, none⟩ = some v
theorem Pt.zero (h : OwnO c n T w g off l k) (e : α) : Pt c n T w g off l k e 0 := ⟨h, fun i v hi => by omega⟩
theorem Pt.put (hn : ∀ e, (c e).length = n) (h : Pt c n T w g off l k e j) (he : l[k]? = some e) {v : Value} (hv : (c e)[j]? = some v) : Pt c n T (w.setCell ⟨g, off + k * n + j, none⟩ v) g off l k e (j + 1) := by
  have hk := (List.getElem?_eq_some_iff.1 he).1
  have hj := (List.getElem?_eq_some_iff.1 hv).1
  rw [hn e] at hj
  obtain ⟨cur, h1, h2⟩ := h.own.cells
  have hle := Nat.mul_le_mul_right n (show k + 1 ≤ l.length from hk)
  rw [Nat.add_mul] at hle
  refine ⟨h.own.put hn _ v (by omega), fun i u hi hu => ?_⟩
  by_cases ei : i = j
  · subst ei
    rw [hv] at hu
    cases hu
    exact set_eq h1 (by omega)
  · rw [set_ne h1 (by omega)]
    exact h.part i u (by omega) hu
theorem Pt.below (h : Pt c n T w g off l k e j) (hb : Below w.heap.size w w') : Pt c n T w' g off l k e j :=
  ⟨h.own.below hb h.own.lt, fun i v hi hv => (hb.cell (p := ⟨g, _, none⟩) h.own.lt).trans (h.part i v hi hv)⟩
theorem Pt.done (hn : ∀ e, (c e).length = n) (h : Pt c n T w g off l k e n) (he : l[k]? = some e) : OwnO c n T w g off l (k + 1) :=
  h.own.more he fun j v hv => h.part j v (by have := (List.getElem?_eq_some_iff.1 hv).1; rw [hn e] at this; exact this) hv
end
end Go.Proofs.Ytfgilmibeeljnaa.fp
