/- Batches that were read one behind the other, as they lie: a row of slices of its own, each batch in a row of its own. -/
import Derived.Test.YtlgcciaebkfnjaaGreatDoorMrRun
import Derived.Test.YtlgcciaebkfnjaaGreatDoorPairMarks
import Derived.Test.YtlgcciaebkfnjaaGreatDoorGotBatchSpec
namespace Go.Proofs.YtlgcciaebkfnjaaGreatDoor.rcm
open Go.ChangeShapes Go.WideShapes Go.ChangeAt Go.RowKit Go.Proofs.YtlgcciaebkfnjaaGreatDoor.fl Go.Proofs.YtlgcciaebkfnjaaGreatDoor.fo Go.Proofs.YtlgcciaebkfnjaaGreatDoor.rn Go.Proofs.YtlgcciaebkfnjaaGreatDoor.mrR
set_option linter.unusedVariables false

structure RO (w W : World) (v : Value) (rs : List Rn) : Prop where
  bel : Below w.heap.size w W
  row : W.ownsRow w.heap.size 24 1 v rs.length (rs.flatMap cR)
  runs : ∀ r ∈ rs, MP W w.heap.size r.a r.l
  apart : Apart rs
section
variable {w W X Y : World} {v v' : Value} {rs : List Rn} {a : Option Addr} {c : Nat} {l : List flP.Pr}
theorem RO.on (h : RO w W v rs) (hb : Below W.heap.size W X) : RO w X v rs := ⟨h.bel.trans (hb.mono h.bel.size), gbs.own_on h.row hb, fun r hr => Mine.below (h.runs r hr) hb, h.apart⟩
theorem ty_ne {B g k : Nat} {cur : Array Value} (hm : MP W B a l) (hk : blk a l k) (hg : W.heap[g]? = some (.cells cur 24 (0, 0))) : k ≠ g := by
  rintro rfl
  rcases hm with rfl | ⟨g', off, rfl, hB, ho⟩
  · exact hk.1 rfl
  · obtain ⟨_, g2, off2, e, rfl⟩ := hk
    obtain ⟨cur', h1, _⟩ := ho.cells
    have e2 := Addr.mk.inj (Option.some.inj e)
    rw [e2.1, hg] at h1
    simp at h1
theorem RO.ne (h : RO w W v rs) {r : Rn} (hr : r ∈ rs) {k : Nat} (hk : blk r.a r.l k) : ¬ v.ownBlock = some k := by
  intro e
  obtain ⟨_, ⟨h1, _⟩ | ⟨g, cap, cur, h1, _, h3, _⟩⟩ := h.row
  · rw [h1] at e; cases e
  · rw [h1] at e
    have e2 : g = k := by simpa [Value.ownBlock] using e
    exact ty_ne (h.runs r hr) hk h3 e2.symm
theorem RO.more (h : RO w W v rs) (hb : Below W.heap.size W X) (hm : MP X W.heap.size a l) (hgr : X.grownBy Y v.ownBlock) (ho : Y.ownsRow w.heap.size 24 1 v' (rs.length + 1) (rs.flatMap cR ++ [.slice a l.length c])) : RO w Y v' (rs ++ [⟨a, c, l⟩]) := by
  have hX := h.on hb
  have hlt : ∀ k, v.ownBlock = some k → w.heap.size ≤ k ∧ k < W.heap.size := fun k hk => h.row.lt k hk
  have ht : Tn X Y (fun k => v.ownBlock = some k) := ⟨hgr.os, hgr.tape, hgr.output, hgr.size, fun k hk hne => hgr.block k hk (fun e => hne e.symm)⟩
  have hnew : ∀ k, blk a l k → W.heap.size ≤ k := fun k hk => (Mine.blk_le hm hk).1
  have hmY : MP Y W.heap.size a l := Mine.kept hm ht (fun k hk e => by have := hnew k hk; have := (hlt k e).2; omega)
  refine ⟨hX.bel.grown hgr hX.bel.size (fun k hk => (hlt k hk).1), ?_, fun r hr => ?_, ?_⟩
  · rw [List.length_append, List.length_singleton, List.flatMap_append]
    simpa [cR] using ho
  · rcases List.mem_append.1 hr with hr | hr
    · exact Mine.kept (hX.runs r hr) ht (fun k hk => hX.ne hr hk)
    · rw [List.mem_singleton.1 hr]
      rcases hmY with e | ⟨g, off, e, hB, hO⟩
      · exact .inl e
      · exact .inr ⟨g, off, e, Nat.le_trans h.bel.size hB, hO⟩
  · intro i j r s hi hj hij k hr hs
    have hil := (List.getElem?_eq_some_iff.1 hi).1
    have hjl := (List.getElem?_eq_some_iff.1 hj).1
    rw [List.length_append, List.length_singleton] at hil hjl
    by_cases e1 : i < rs.length
    · rw [List.getElem?_append_left e1] at hi
      by_cases e2 : j < rs.length
      · rw [List.getElem?_append_left e2] at hj
        exact h.apart i j r s hi hj hij k hr hs
      · obtain rfl : j = rs.length := by omega
        rw [List.getElem?_append_right (Nat.le_refl _)] at hj
        simp at hj
        subst hj
        have := (Mine.blk_le (h.runs r (List.mem_of_getElem? hi)) hr).2
        have := hnew k hs
        omega
    · obtain rfl : i = rs.length := by omega
      rw [List.getElem?_append_right (Nat.le_refl _)] at hi
      simp at hi
      subst hi
      have e2 : j < rs.length := by omega
      rw [List.getElem?_append_left e2] at hj
      have := (Mine.blk_le (h.runs s (List.mem_of_getElem? hj)) hs).2
      have := hnew k hr
      omega
theorem RO.vr (h : RO w W v rs) : ∃ a cap, v = .slice a rs.length cap ∧ VR W W.heap.size a rs ∧ ∀ g off, a = some ⟨g, off, none⟩ → ¬ bks rs g := by
  obtain ⟨a, cap, rfl, hr0⟩ := own_row cR_len h.row
  refine ⟨a, cap, rfl, ⟨hr0, fun r hr => Mine.row (h.runs r hr)⟩, fun g off e hb => ?_⟩
  obtain ⟨r, hr, hk⟩ := hb
  subst e
  obtain ⟨_, ⟨h1, _⟩ | ⟨g', cap', cur, h1, _, h3, _⟩⟩ := h.row
  · cases h1
  · have e2 := Value.slice.inj h1
    have e3 := Addr.mk.inj (Option.some.inj e2.1)
    rw [← e3.1] at h3
    exact ty_ne (h.runs r hr) hk h3 rfl
end
theorem info0 : (Tryz.prog.info? 24).map (fun i => (i.zero, i.size, i.bytes)) = some (some (.slice none 0 0), 1, 24) := by kernel_rfl
theorem infoR : ∃ i0, Tryz.prog.info? 24 = some i0 ∧ i0.zero = some (.slice none 0 0) ∧ i0.size = 1 ∧ i0.bytes = 24 := by
  have h := info0
  cases hh : Tryz.prog.info? 24 with
  | none => rw [hh] at h; cases h
  | some i => rw [hh] at h; simp at h; exact ⟨i, rfl, h.1, h.2.1, h.2.2⟩
/-- one batch more behind the others -/
theorem app_one {w W X : World} {v : Value} {rs : List Rn} {a : Option Addr} {c : Nat} {l : List flP.Pr} (h : RO w W v rs) (hb : Below W.heap.size W X) (hm : MP X W.heap.size a l) (hl : rs.length ≤ 100000) :
    ∃ v' Y, (Builtin.append_ #[25, 25] 25 #[v, .slice (some ⟨X.heap.size, 0, none⟩) 1 1]).run Tryz.prog (X.alloc (.cells #[.slice a l.length c] 24)) = .ok v' Y ∧ RO w Y v' (rs ++ [⟨a, c, l⟩]) := by
  obtain ⟨i0, hi, hz0, hz1, hz2⟩ := infoR
  have hal : Below X.heap.size X (X.alloc (.cells #[.slice a l.length c] 24)) := (Below.refl _ _).alloc (Nat.le_refl _) _
  have hb2 : Below W.heap.size W (X.alloc (.cells #[.slice a l.length c] 24)) := hb.trans (hal.mono hb.size)
  have hX := h.on hb2
  obtain ⟨v', Y, hr, ho, hgr, _, _⟩ := run_append_own_at (P := Tryz.prog) (X.alloc (.cells #[.slice a l.length c] 24)) w.heap.size 25 25 24 i0 (.slice none 0 0) 1 24 Tryz.underlying25 hi hz0 hz1 hz2 rfl (by decide) v rs.length (rs.flatMap cR) hX.row ⟨X.heap.size, 0, none⟩ 1 1 [.slice a l.length c] rfl (fun j u hu => by rw [gbs.cpadd]; exact bcell (bnew X _ _) (by simpa using hu)) (by intro u hu; simp at hu; subst hu; rfl) (by unfold maxLen; omega) (by omega) hX.bel.size
  exact ⟨v', Y, hr, h.more hb2 (Mine.below hm hal) hgr ho⟩
end Go.Proofs.YtlgcciaebkfnjaaGreatDoor.rcm
