/- A method that grows while it is drawn: what is kept of it, and the table of the known ones. -/
import Derived.Test.YtipjhlfajefefaaDoorDrawBytes
import Derived.Test.YtipjhlfajefefaaDoorBoxRows
import Derived.Test.YtipjhlfajefefaaDoorGetPlain
import Derived.BigRegion
import Derived.Deep.RegionWith
namespace Go.Proofs.YtipjhlfajefefaaDoor.dm
set_option linter.unusedVariables false
open Go.ChangeShapes Go.WideShapes Go.ChangeAt Go.RowKit Go.Proofs.YtipjhlfajefefaaDoor.dw Go.Proofs.YtipjhlfajefefaaDoor.bx Go.Proofs.YtipjhlfajefefaaDoor.me Go.Proofs.YtipjhlfajefefaaDoor.mp

theorem Bx.on {w w' : World} {B rb p : Nat} {T : TypeId} {x y tv nv : Value} {ts : List ByteArray} {ns : List Int} {ps : List (Nat × Obj)} (h : Bx w B rb T x y tv nv ts ns ps) (hb : On p w w') (hp : p < B) (hps : ∀ q ∈ ps, q.1 ≠ p) : Bx w' B rb T x y tv nv ts ns ps := by
  have hlo := h.lo
  refine { h with
    blk := by rw [hb.block rb h.lt (by simp; omega)]; exact h.blk
    ot := h.ot.kept hb ?_
    on := h.on.kept hb ?_
    keep := fun q hq => ⟨by rw [hb.block _ (Array.getElem?_eq_some_iff.1 (h.keep q hq).1).1 (by simpa using hps q hq)]; exact (h.keep q hq).1, (h.keep q hq).2⟩ }
  · cases hv : tv.ownBlock with
    | none => exact .inl rfl
    | some g => right; have := (own_lt h.ot hv).1; simp; omega
  · cases hv : nv.ownBlock with
    | none => exact .inl rfl
    | some g => right; have := (own_lt h.on hv).1; simp; omega
theorem Bx.set0 {w : World} {B rb : Nat} {T : TypeId} {x y tv nv : Value} {ts : List ByteArray} {ns : List Int} {ps : List (Nat × Obj)} (h : Bx w B rb T x y tv nv ts ns ps) (x' : Value) : Bx (w.setCell ⟨rb, 0, none⟩ x') B rb T x' y tv nv ts ns ps :=
  { h with
    blk := by simpa using heap_setCell_same w rb 0 _ _ x' h.blk
    ot := own_set h.ot (p := ⟨rb, 0, none⟩) h.nt x'
    on := own_set h.on (p := ⟨rb, 0, none⟩) h.nn x'
    keep := fun q hq => ⟨by rw [RowKit.Below.heap_setCell _ _ _ _ (h.keep q hq).2.1]; exact (h.keep q hq).1, (h.keep q hq).2⟩ }
/-- the first number is another one -/
theorem Bx.num0 {w : World} {B rb g nc : Nat} {T : TypeId} {x y tv : Value} {ts : List ByteArray} {n : Int} {ns : List Int} {ps : List (Nat × Obj)} (h : Bx w B rb T x y tv (.slice (some ⟨g, 0, none⟩) (ns.length + 1) nc) ts (n :: ns) ps) (z : Int) : Bx (w.setCell ⟨g, 0, none⟩ (.int .i64 z)) B rb T x y tv (.slice (some ⟨g, 0, none⟩) (ns.length + 1) nc) ts (z :: ns) ps := by
  have hgr : rb ≠ g := fun e => h.nn (by rw [e]; rfl)
  refine { h with
    blk := by rw [RowKit.Below.heap_setCell _ _ _ _ hgr]; exact h.blk
    ot := own_set h.ot (p := ⟨g, 0, none⟩) (fun e => h.ap g e rfl) _
    on := ?_
    keep := fun q hq => ⟨by rw [RowKit.Below.heap_setCell _ _ _ _ (fun e => (h.keep q hq).2.2.2 (by show some g = some q.1; rw [e]))]; exact (h.keep q hq).1, (h.keep q hq).2⟩ }
  obtain ⟨hl, hh | ⟨g', cap, cur, hv, hb, hc, h1, h2, h3, h4⟩⟩ := h.on
  · simp at hh
  · simp at hv
    obtain ⟨rfl, rfl⟩ := hv
    refine ⟨by simp, .inr ⟨g, nc, cur.setIfInBounds 0 (.int .i64 z), rfl, hb, heap_setCell_same w g 0 cur _ _ hc, h1, h2, by simpa using h3, ?_⟩⟩
    rw [Array.toList_setIfInBounds]
    simp only [Nat.mul_one, List.length_cons, List.map_cons] at h4 ⊢
    rw [List.take_set, h4]
    rfl

def tab : List Int := [10, 50, 20, 10, 20, 11, 40, 10, 40, 11, 50, 10, 50, 11, 50, 20, 50, 21, 60, 40, 60, 70, 60, 71, 60, 72, 60, 80, 60, 120, 85, 10, 85, 11, 90, 10, 90, 11, 90, 20, 90, 21, 90, 30, 90, 31]
theorem tab_in : ∀ z ∈ tab, 0 ≤ z ∧ z ≤ 1000 := by decide
def words5 : List ByteArray := [⟨#[]⟩, ⟨#[97]⟩, ⟨#[98]⟩, ⟨#[116, 111, 112, 105, 99]⟩, ⟨#[97, 46, 98]⟩]
theorem words5_in : ∀ z ∈ words5, z.size ≤ 256 := by decide

theorem known (w : World) : Calls Tryd.prog 101 #[] w fun e w' => e = .returned (.slice (some ⟨w.heap.size, 0, none⟩) 23 23) ∧ w' = w.alloc (.cells (tab.map (Value.int .i64)).toArray 97) := by
  go_enter Tryd.func101, Tryd.ntmps101
  go_wp2
  go_ret
  exact ⟨rfl, rfl⟩
end Go.Proofs.YtipjhlfajefefaaDoor.dm
