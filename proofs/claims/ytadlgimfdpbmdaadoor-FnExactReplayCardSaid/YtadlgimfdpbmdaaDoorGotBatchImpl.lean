/- The program's GetBatch: the walk where the number of pairs is none; what stands while it reads. -/
import Derived.Test.YtadlgimfdpbmdaaDoorGetCatch
import Derived.Test.YtadlgimfdpbmdaaDoorBatchPair
namespace Go.Proofs.YtadlgimfdpbmdaaDoor.gim
open Go.ChangeShapes Go.WideShapes Go.ChangeAt Go.RowKit Go.Proofs.YtadlgimfdpbmdaaDoor.fl Go.Proofs.YtadlgimfdpbmdaaDoor.fo Go.Proofs.YtadlgimfdpbmdaaDoor.gbp Go.Proofs.YtadlgimfdpbmdaaDoor.brd Go.Proofs.YtadlgimfdpbmdaaDoor.asf
set_option linter.unusedVariables false

/-- the world in which the reader begins -/
def W0 (s : ByteArray) (w : World) : World := ((w.alloc (.cells #[.slice none 0 0] 22)).alloc (.cells #[.bool false] 4)).alloc (.cells #[.string s, .int .i64 0] 51)

/-- what stands while it reads: the answer's two variables -/
structure Sb (w : World) (v : Value) (W : World) : Prop where
  bel : Below w.heap.size w W
  b : W.heap[w.heap.size]? = some (.cells #[v] 22 (0, 0))
  o : W.heap[w.heap.size + 1]? = some (.cells #[.bool false] 4 (0, 0))
theorem Sb.tr {w W W' : World} {v : Value} (h : Sb w v W) (ht : Tr (w.heap.size + 1 + 1) W W') : Sb w v W' :=
  ⟨h.bel.trans (ht.below h.bel.size (fun k hk => by omega)), (ht.block _ (Array.getElem?_eq_some_iff.1 h.b).1 (by omega)).trans h.b, (ht.block _ (Array.getElem?_eq_some_iff.1 h.o).1 (by omega)).trans h.o⟩
theorem Sb.et {w W : World} {v : Value} (h : Sb w v W) (hg : ET w) : ET W := by
  unfold ET
  rw [h.bel.cell hg.lt]
  exact hg
theorem new_at (w : World) (o : Obj) (k : Nat) (hk : k = w.heap.size) : (w.alloc o).heap[k]? = some o := by
  subst hk
  show (w.heap.push o)[w.heap.size]? = some o
  simp
theorem sb_0 (s : ByteArray) (w : World) : Sb w (.slice none 0 0) (W0 s w) := by
  refine ⟨?_, ?_, ?_⟩
  · exact (((Below.refl _ _).alloc (Nat.le_refl _) _).alloc (by simp) _).alloc (by simp; omega) _
  · unfold W0
    rw [Below.heap_alloc _ _ _ (by simp; omega), Below.heap_alloc _ _ _ (by simp)]
    exact new_at _ _ _ rfl
  · unfold W0
    rw [Below.heap_alloc _ _ _ (by simp)]
    exact new_at _ _ _ (by simp)
theorem rb_0 (s : ByteArray) (w : World) : RB (W0 s w) (w.heap.size + 1 + 1) s 0 := by
  unfold RB W0
  exact new_at _ _ _ (by simp)
/-- what the closure leaves behind a fault -/
theorem sb_left {w W w1 : World} {v : Value} (h : Sb w v W) (hb : Below W.heap.size W w1) :
    ((w1.setCell ⟨w.heap.size, 0, none⟩ (.slice none 0 0)).setCell ⟨w.heap.size + 1, 0, none⟩ (.bool false)).cell? ⟨w.heap.size, 0, none⟩ = some (.slice none 0 0) ∧
    ((w1.setCell ⟨w.heap.size, 0, none⟩ (.slice none 0 0)).setCell ⟨w.heap.size + 1, 0, none⟩ (.bool false)).cell? ⟨w.heap.size + 1, 0, none⟩ = some (.bool false) ∧
    Below w.heap.size w ((w1.setCell ⟨w.heap.size, 0, none⟩ (.slice none 0 0)).setCell ⟨w.heap.size + 1, 0, none⟩ (.bool false)) := by
  have b1 := bstay h.b hb (Array.getElem?_eq_some_iff.1 h.b).1
  have o1 := bstay h.o hb (Array.getElem?_eq_some_iff.1 h.o).1
  have b2 := bset b1 0 (.slice none 0 0)
  have o2 : (w1.setCell ⟨w.heap.size, 0, none⟩ (.slice none 0 0)).heap[w.heap.size + 1]? = some (.cells #[.bool false] 4 (0, 0)) := by
    rw [Below.heap_setCell _ _ _ _ (by simp)]
    exact o1
  have o3 := bset o2 0 (.bool false)
  have b3 : ((w1.setCell ⟨w.heap.size, 0, none⟩ (.slice none 0 0)).setCell ⟨w.heap.size + 1, 0, none⟩ (.bool false)).heap[w.heap.size]? = some (.cells #[.slice none 0 0] 22 (0, 0)) := by
    rw [Below.heap_setCell _ _ _ _ (by simp)]
    exact b2
  refine ⟨bcell b3 rfl, bcell o3 rfl, ?_⟩
  exact ((h.bel.trans (hb.mono h.bel.size)).setCell (Nat.le_refl _) _).setCell (Nat.le_succ _) _

set_option maxRecDepth 100000 in
set_option maxHeartbeats 1000000 in
theorem impl_bad (s : ByteArray) (w : World) (hs : s.size ≤ 1048576) (hg : ET w) (hc : (gi.okAt s 0 1 && decide (gi.num s 0 1 ≤ 60)) = false) :
    Calls Tryd.prog 9 #[.string s] w fun e w' => e = .returned (.tuple #[.slice none 0 0, .bool false]) ∧ Below w.heap.size w w' := by
  have hmf : ∀ (fn : Fn) (first cap : Array Value) (w : World), (Instr.makeFunc fn first cap).run Tryd.prog w = .ok (.func fn first cap) w := fun _ _ _ _ => rfl
  have hn := number_bad (w.heap.size + 1 + 1) s 0 60 (W0 s w) hs (rb_0 s w) (by omega) (by omega) (by omega) hc
  go_enter_defers Tryd.func9, Tryd.ntmps9
  go_wp2_with (go_at_call 32; fail)
  refine hn.mono ?_
  rintro e W ⟨⟨j, rfl⟩, ht⟩
  have hS := (sb_0 s w).tr ht
  clear hn ht
  go_wp2
  refine leaves_cons (f := 30) (args := #[.pointer (some ⟨w.heap.size, 0, none⟩), .pointer (some ⟨w.heap.size + 1, 0, none⟩)]) (by simp) (by simp [go_sem]) ?_
  refine (catch_hit w.heap.size (w.heap.size + 1) j _ _ W (hS.et hg) (bcell hS.b rfl) (bfree hS.b 0) (bcell hS.o rfl) (bfree hS.o 0) (by omega)).mono ?_
  rintro e u' w'' ⟨rfl, rfl, w1, hb, rfl⟩
  obtain ⟨h1, h2, h3⟩ := sb_left hS hb
  simp [Leaves, settle, results, Tryd.results9, go_sem, h1, h2]
  exact h3
end Go.Proofs.YtadlgimfdpbmdaaDoor.gim
