/- The laws' lists of runs (lists of lists of pairs): weighed, laid anew; new memory alone. -/
import Derived.Test.YtoemkbooomgieaaGreatDoorRunRows
namespace Go.Proofs.YtoemkbooomgieaaGreatDoor.rn
open Go.ChangeShapes Go.WideShapes Go.ChangeAt Go.RowKit Go.Proofs.YtoemkbooomgieaaGreatDoor.fl
set_option linter.unusedVariables false

/-- runs laid anew: a row of slices, of which the first are laid, each run in a row of its own -/
structure OR (w : World) (B g n : Nat) (ks : List Rn) : Prop where
  blk : ∃ cur, w.heap[g]? = some (.cells cur 28 (0, 0)) ∧ cur.size = n ∧ ∀ (i : Nat) r, ks[i]? = some r → cur[i]? = some (.slice r.a r.l.length r.c)
  own : ∀ (i : Nat) r, ks[i]? = some r → ∃ h, r.a = some ⟨h, 0, none⟩ ∧ r.c = r.l.length ∧ B ≤ h ∧ Own flP.c 3 61 w h r.l r.l.length
  nd : ∀ (i j : Nat) r s, i < j → ks[i]? = some r → ks[j]? = some s → r.a ≠ s.a
section
variable {w w' : World} {B g n : Nat} {ks : List Rn}
theorem OR.lt (h : OR w B g n ks) : g < w.heap.size := by
  obtain ⟨cur, h1, _⟩ := h.blk
  exact (Array.getElem?_eq_some_iff.1 h1).1
theorem own_ne {h b : Nat} {l : List flP.Pr} {k : Nat} {cur : Array Value} {U : TypeId} (hU : 61 ≠ U) (ho : Own flP.c 3 61 w h l k) (hb : w.heap[b]? = some (.cells cur U (0, 0))) : h ≠ b := by
  rintro rfl
  obtain ⟨c, h1, _⟩ := ho
  rw [hb] at h1
  simp at h1
  exact hU h1.2.symm
theorem OR.on (h : OR w B g n ks) (hb : Below w.heap.size w w') : OR w' B g n ks := by
  refine ⟨?_, fun i r hr => ?_, h.nd⟩
  · obtain ⟨cur, h1, h2⟩ := h.blk
    exact ⟨cur, bstay h1 hb h.lt, h2⟩
  · obtain ⟨k, h1, h2, h3, h4⟩ := h.own i r hr
    exact ⟨k, h1, h2, h3, h4.below hb h4.lt⟩
/-- what is no block of it may be turned -/
theorem OR.set (h : OR w B g n ks) {b : Nat} (hb : b < B) (hg : g ≠ b) (o : Nat) (v : Value) : OR (w.setCell ⟨b, o, none⟩ v) B g n ks := by
  refine ⟨?_, fun i r hr => ?_, h.nd⟩
  · obtain ⟨cur, h1, h2⟩ := h.blk
    exact ⟨cur, boff h1 _ _ _ hg, h2⟩
  · obtain ⟨k, h1, h2, h3, h4⟩ := h.own i r hr
    exact ⟨k, h1, h2, h3, h4.kept (Below.heap_setCell _ _ _ _ (by show k ≠ b; omega))⟩
theorem OR.more (h : OR w B g n ks) {b : Nat} {l : List flP.Pr} (ho : Own flP.c 3 61 w b l l.length) (hB : B ≤ b) (hnew : ∀ (i : Nat) r k, ks[i]? = some r → r.a = some ⟨k, 0, none⟩ → k < b) (hn : ks.length < n) :
    OR (w.setCell ⟨g, ks.length, none⟩ (.slice (some ⟨b, 0, none⟩) l.length l.length)) B g n (ks ++ [⟨some ⟨b, 0, none⟩, l.length, l⟩]) := by
  obtain ⟨cur, h1, h2, h3⟩ := h.blk
  refine ⟨⟨_, bset h1 _ _, by simpa using h2, fun i r hr => ?_⟩, fun i r hr => ?_, fun i j r s hij hr hs => ?_⟩
  · rw [Array.getElem?_setIfInBounds]
    by_cases e : ks.length = i
    · subst e
      rw [List.getElem?_append_right (Nat.le_refl _)] at hr
      simp at hr
      subst hr
      rw [if_pos rfl, if_pos (by omega)]
    · rw [if_neg e]
      have hlt := (List.getElem?_eq_some_iff.1 hr).1
      rw [List.length_append, List.length_singleton] at hlt
      rw [List.getElem?_append_left (by omega)] at hr
      exact h3 i r hr
  · by_cases e : i < ks.length
    · rw [List.getElem?_append_left e] at hr
      obtain ⟨k, a1, a2, a3, a4⟩ := h.own i r hr
      exact ⟨k, a1, a2, a3, a4.kept (Below.heap_setCell _ _ _ _ (own_ne (by decide) a4 h1))⟩
    · have hlt := (List.getElem?_eq_some_iff.1 hr).1
      rw [List.length_append, List.length_singleton] at hlt
      obtain rfl : i = ks.length := by omega
      rw [List.getElem?_append_right (Nat.le_refl _)] at hr
      simp at hr
      subst hr
      exact ⟨b, rfl, rfl, hB, ho.kept (Below.heap_setCell _ _ _ _ (own_ne (by decide) ho h1))⟩
  · have hlt := (List.getElem?_eq_some_iff.1 hs).1
    rw [List.length_append, List.length_singleton] at hlt
    rw [List.getElem?_append_left (by omega)] at hr
    by_cases e : j < ks.length
    · rw [List.getElem?_append_left e] at hs
      exact h.nd i j r s hij hr hs
    · obtain rfl : j = ks.length := by omega
      rw [List.getElem?_append_right (Nat.le_refl _)] at hs
      simp at hs
      subst hs
      obtain ⟨k, a1, _⟩ := h.own i r hr
      have := hnew i r k hr a1
      rw [a1]
      intro e2
      have e3 := Addr.mk.inj (Option.some.inj e2)
      omega
theorem OR.vr (h : OR w B g ks.length ks) : VR w w.heap.size (some ⟨g, 0, none⟩) ks := by
  refine ⟨?_, fun r hr => ?_⟩
  · obtain ⟨cur, h1, h2, h3⟩ := h.blk
    refine .inr ⟨g, 0, rfl, h.lt, fun i e he j v hv => ?_⟩
    match j, hv with
    | 0, hv =>
      simp [cR] at hv
      subst hv
      have := bcell h1 (h3 i e he)
      simpa using this
    | j + 1, hv => simp [cR] at hv
  · obtain ⟨i, hi⟩ := List.getElem?_of_mem hr
    obtain ⟨k, h1, _, _, h4⟩ := h.own i r hi
    rw [h1]
    exact h4.row
end

theorem info : (Tryz.prog.info? 28).map (fun i => (i.zero, i.size, i.bytes)) = some (some (.slice none 0 0), 1, 24) := by kernel_rfl

end Go.Proofs.YtoemkbooomgieaaGreatDoor.rn
