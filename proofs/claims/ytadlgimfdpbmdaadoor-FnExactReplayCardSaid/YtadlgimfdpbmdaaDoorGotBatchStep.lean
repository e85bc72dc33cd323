/- The program's GetBatch: one pair more, in memory. -/
import Derived.Test.YtadlgimfdpbmdaaDoorGotBatchImpl
import Derived.Test.YtadlgimfdpbmdaaDoorGotBatchSpec
namespace Go.Proofs.YtadlgimfdpbmdaaDoor.gim
open Go.ChangeShapes Go.WideShapes Go.ChangeAt Go.RowKit Go.Proofs.YtadlgimfdpbmdaaDoor.fl Go.Proofs.YtadlgimfdpbmdaaDoor.fo Go.Proofs.YtadlgimfdpbmdaaDoor.gbp Go.Proofs.YtadlgimfdpbmdaaDoor.brd Go.Proofs.YtadlgimfdpbmdaaDoor.asf
set_option linter.unusedVariables false

/-- what stands when k pairs are read -/
structure Sr (s : ByteArray) (w : World) (n k : Nat) (i : Int) (l : List flP.Pr) (v : Value) (W : World) : Prop where
  sb : Sb w v W
  rb : RB W (w.heap.size + 1 + 1) s i
  row : W.ownsRow (w.heap.size + 1 + 1 + 1) 47 3 v l.length (l.flatMap flP.c)
  len : l.length = k
  left : gbp.Left s n l (n - k) i
  lo : 0 ≤ i
  hi : i ≤ s.size
  ok : ∀ e ∈ l, bo.okP e

theorem sr_0 {s : ByteArray} {w W : World} {n : Nat} (hS : Sb w (.slice none 0 0) W) (hr : RB W (w.heap.size + 1 + 1) s (0 + 1)) (h1 : 1 ≤ s.size) : Sr s w n 0 (0 + 1) [] (.slice none 0 0) W :=
  ⟨hS, hr, World.ownsRow_nil _ _ _ _, rfl, left_0 s n, by omega, by omega, fun e he => by cases he⟩

set_option maxRecDepth 100000 in
theorem one_more {s : ByteArray} {w W W1 : World} {n k : Nat} {i j : Int} {l : List flP.Pr} {v : Value} {p : flP.Pr} (hs : s.size ≤ 1048576) (h : Sr s w n k i l v W) (hk : k < n) (hn : n ≤ 60) (ht : Tr (w.heap.size + 1 + 1) W W1) (hr : RB W1 (w.heap.size + 1 + 1) s j) (hp : stp s i = some (p, j)) (hok : bo.okP p) :
    ∃ v' Y, (Builtin.append_ #[22, 22] 22 #[v, .slice (some ⟨W1.heap.size, 0, none⟩) 1 1]).run Tryd.prog (W1.alloc (.cells #[.string p.k, .string p.v, .bool p.g] 47)) = .ok v' Y ∧
      Y.cell? ⟨w.heap.size, 0, none⟩ = some v ∧ Y.frozen? ⟨w.heap.size, 0, none⟩ = false ∧ Sr s w n (k + 1) j (l ++ [p]) v' (Y.setCell ⟨w.heap.size, 0, none⟩ v') := by
  obtain ⟨i0, hi, hz0, hz1, hz2⟩ := gbs.infoP
  have hll : l.length ≤ 60 := by have := h.len; omega
  have hrl := (Array.getElem?_eq_some_iff.1 hr).1
  have hrow1 : W1.ownsRow (w.heap.size + 1 + 1 + 1) 47 3 v l.length (l.flatMap flP.c) := by
    refine h.row.kept (row := some (w.heap.size + 1 + 1)) ⟨ht.os, ht.tape, ht.output, ht.size, fun a ha hne => ht.block a ha (fun hc => hne (by rw [hc]))⟩ ?_
    cases hv : v.ownBlock with
    | none => exact .inl rfl
    | some g =>
      refine .inr (fun hc => ?_)
      have := (h.row.lt g hv).1
      injection hc with hc
      omega
  have hs1 := h.sb.tr ht
  obtain ⟨X, hX⟩ : ∃ X, W1.alloc (.cells #[.string p.k, .string p.v, .bool p.g] 47) = X := ⟨_, rfl⟩
  have hXs : X.heap.size = W1.heap.size + 1 := by rw [← hX]; simp
  have hxb : Below W1.heap.size W1 X := by rw [← hX]; exact (Below.refl _ _).alloc (Nat.le_refl _) _
  have hrowX : X.ownsRow (w.heap.size + 1 + 1 + 1) 47 3 v l.length (l.flatMap flP.c) := by rw [← hX]; exact hrow1.alloc _
  have hnew : X.heap[W1.heap.size]? = some (.cells #[.string p.k, .string p.v, .bool p.g] 47 (0, 0)) := by rw [← hX]; exact bnew W1 _ _
  have hbX := bstay hs1.b hxb (Array.getElem?_eq_some_iff.1 hs1.b).1
  have hoX := bstay hs1.o hxb (Array.getElem?_eq_some_iff.1 hs1.o).1
  have hrX : RB X (w.heap.size + 1 + 1) s j := hr.on hxb
  obtain ⟨v', Y, hrun, ho, hgr, _, _⟩ := run_append_own_at (P := Tryd.prog) X (w.heap.size + 1 + 1 + 1) 22 22 47 i0 (.agg #[.string ByteArray.empty, .string ByteArray.empty, .bool false]) 3 40 Tryd.underlying22 hi hz0 hz1 hz2 rfl (by decide) v l.length (l.flatMap flP.c) hrowX ⟨W1.heap.size, 0, none⟩ 1 1 [.string p.k, .string p.v, .bool p.g] rfl (fun a u hu => by rw [gbs.cpadd]; exact bcell hnew (by simpa using hu)) (by intro u hu; simp at hu; rcases hu with rfl | rfl | rfl <;> rfl) (by unfold maxLen; omega) (by omega) (by omega)
  have hne : ∀ a, a ≤ w.heap.size + 1 + 1 → some a ≠ v.ownBlock := by
    intro a ha hc
    have := (h.row.lt a hc.symm).1
    omega
  have hbY : Y.heap[w.heap.size]? = _ := (hgr.block _ (by omega) (hne _ (by omega))).trans hbX
  have hoY : Y.heap[w.heap.size + 1]? = _ := (hgr.block _ (by omega) (hne _ (by omega))).trans hoX
  have hrY : Y.heap[w.heap.size + 1 + 1]? = _ := (hgr.block _ (by omega) (hne _ (by omega))).trans hrX
  have hin := stp_in hs hp
  rw [← hX] at hrun
  have hbelX : Below w.heap.size w X := hs1.bel.trans (hxb.mono hs1.bel.size)
  have hbelY : Below w.heap.size w Y := hbelX.grown hgr hbelX.size (fun b hb => by have := (h.row.lt b hb).1; omega)
  refine ⟨v', Y, hrun, bcell hbY rfl, bfree hbY 0, ⟨⟨hbelY.setCell (Nat.le_refl _) _, bset hbY 0 v', ?_⟩, ?_, ?_, ?_, ?_, hin.1, hin.2.1, ?_⟩⟩
  · rw [Below.heap_setCell _ _ _ _ (by simp)]; exact hoY
  · unfold RB
    rw [Below.heap_setCell _ _ _ _ (by simp; omega)]; exact hrY
  · have h1 : (Y.setCell ⟨w.heap.size, 0, none⟩ v').ownsRow (w.heap.size + 1 + 1 + 1) 47 3 v' (l.length + 1) (l.flatMap flP.c ++ [.string p.k, .string p.v, .bool p.g]) := by
      have hbs : Tn Y (Y.setCell ⟨w.heap.size, 0, none⟩ v') (fun a => a = w.heap.size) := Tn.set (Tn.refl Y (fun a => a = w.heap.size)) (S := fun a => a = w.heap.size) rfl 0 v'
      refine ho.kept (row := some w.heap.size) ⟨hbs.os, hbs.tape, hbs.output, hbs.size, fun a ha hne => hbs.block a ha (fun hc => hne (by rw [hc]))⟩ ?_
      cases hv : v'.ownBlock with
      | none => exact .inl rfl
      | some g =>
        refine .inr (fun hc => ?_)
        have := (ho.lt g hv).1
        injection hc with hc
        omega
    rw [List.length_append, List.flatMap_append]
    simpa [flP.c] using h1
  · rw [List.length_append, h.len]; rfl
  · have h1 := left_yes (by have := h.left; rw [show n - k = (n - k - 1) + 1 by omega] at this; exact this) hp
    rw [show n - (k + 1) = n - k - 1 by omega]
    exact h1
  · intro e he
    rcases List.mem_append.1 he with he | he
    · exact h.ok e he
    · simp at he
      subst he
      exact hok
end Go.Proofs.YtadlgimfdpbmdaaDoor.gim
