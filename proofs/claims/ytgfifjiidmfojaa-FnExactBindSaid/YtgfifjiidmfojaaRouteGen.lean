/- Routes on their way through the program's Declare and Bind: the boxes, and rows of their own. -/
import Derived.Test.YtgfifjiidmfojaaRouteWay
namespace Go.Proofs.Ytgfifjiidmfojaa.rgn
open Go.ChangeShapes Go.WideShapes Go.ChangeAt Go.RowKit Go.Proofs.Ytgfifjiidmfojaa.rc Go.Proofs.Ytgfifjiidmfojaa.rr Go.Proofs.Ytgfifjiidmfojaa.ra Go.Proofs.Ytgfifjiidmfojaa.rt Go.Proofs.Ytgfifjiidmfojaa.fl Go.Proofs.Ytgfifjiidmfojaa.su Go.Proofs.Ytgfifjiidmfojaa.rwy Go.Proofs.Ytgfifjiidmfojaa.cr
set_option linter.unusedVariables false

/-- the argument's box and the answer's place -/
structure R0 (w : World) (es : List Ex) (bs : List Bi) (a0 b0 : Nat) (X : World) : Prop where
  bel : Below w.heap.size w X
  box : X.heap[w.heap.size]? = some (.cells #[.slice (some ⟨a0, 0, none⟩) es.length es.length, .slice (some ⟨b0, 0, none⟩) bs.length bs.length] 30 (0, 0))
  res : X.heap[w.heap.size + 1]? = some (.cells #[.slice none 0 0, .slice none 0 0] 30 (0, 0))
theorem R0.on {w X X' : World} {es : List Ex} {bs : List Bi} {a0 b0 : Nat} (h : R0 w es bs a0 b0 X) (hb : Below X.heap.size X X') : R0 w es bs a0 b0 X' :=
  ⟨h.bel.trans (hb.mono h.bel.size), bstay h.box hb (Array.getElem?_eq_some_iff.1 h.box).1, bstay h.res hb (Array.getElem?_eq_some_iff.1 h.res).1⟩
theorem R0.size {w X : World} {es : List Ex} {bs : List Bi} {a0 b0 : Nat} (h : R0 w es bs a0 b0 X) : w.heap.size + 2 ≤ X.heap.size := (Array.getElem?_eq_some_iff.1 h.res).1
/-- a row of one's own, behind a place -/
def PE (w X : World) (g : Nat) (m : List Ex) : Prop := w.heap.size + 2 ≤ g ∧ FE X g m m.length
def PB (w X : World) (g : Nat) (m : List Bi) : Prop := w.heap.size + 2 ≤ g ∧ FB X g m m.length
theorem take_at {xs : List Value} {cur : Array Value} {n j : Nat} {v : Value} (h : cur.toList.take n = xs) (hv : xs[j]? = some v) : cur[j]? = some v := by
  rw [← h] at hv
  have hlt := (List.getElem?_eq_some_iff.1 hv).1
  rw [List.length_take] at hlt
  rw [List.getElem?_take_of_lt (by omega)] at hv
  simpa using hv
theorem OE.p {w X : World} {g c : Nat} {m : List Ex} (h : OE w X g c m) : PE w X g m := by
  obtain ⟨_, ⟨h1, _⟩ | ⟨g', cap', cur, h1, h2, h3, h4, h5, h6, h7⟩⟩ := h
  · cases h1
  cases h1
  refine ⟨h2, cur, h3, by rw [h6]; exact Nat.mul_le_mul_right 2 h4, fun i e _ he => ⟨take_at h7 (by simpa using flat_at cE_len m i e he 0 _ rfl), take_at h7 (flat_at cE_len m i e he 1 _ rfl)⟩⟩
theorem OB.p {w X : World} {g c : Nat} {m : List Bi} (h : OB w X g c m) : PB w X g m := by
  obtain ⟨_, ⟨h1, _⟩ | ⟨g', cap', cur, h1, h2, h3, h4, h5, h6, h7⟩⟩ := h
  · cases h1
  cases h1
  refine ⟨h2, cur, h3, by rw [h6]; exact Nat.mul_le_mul_right 3 h4, fun i e _ he => ⟨take_at h7 (by simpa using flat_at cB_len m i e he 0 _ rfl), take_at h7 (flat_at cB_len m i e he 1 _ rfl), take_at h7 (flat_at cB_len m i e he 2 _ rfl)⟩⟩
theorem own_E {w X : World} {g : Nat} {m : List Ex} (h : XE X g m m.length) (hg : w.heap.size + 2 ≤ g) (hl : m.length ≤ 1048576) : OE w X g m.length m := by
  obtain ⟨cur, h1, h2, h3⟩ := h
  refine ⟨flat_len cE_len m, .inr ⟨g, m.length, cur, rfl, hg, h1, Nat.le_refl _, by unfold maxLen; omega, h2, ?_⟩⟩
  apply List.ext_getElem?
  intro j
  by_cases hj : j < m.length * 2
  · rw [List.getElem?_take_of_lt hj]
    obtain ⟨u, hu⟩ : ∃ u, (m.flatMap cE)[j]? = some u := ⟨_, List.getElem?_eq_getElem (by rw [flat_len cE_len]; exact hj)⟩
    obtain ⟨i, e, r, a1, a2, rfl⟩ := flat_get cE_len m j u hu
    rw [hu]
    obtain ⟨b0, b1⟩ := h3 i e (List.getElem?_eq_some_iff.1 a1).1 a1
    match r, a2 with
    | 0, a2 => cases a2; simpa using b0
    | 1, a2 => cases a2; simpa using b1
    | r + 2, a2 => simp [cE] at a2
  · rw [List.getElem?_eq_none (by rw [List.length_take]; omega), List.getElem?_eq_none (by rw [flat_len cE_len]; omega)]
theorem own_B {w X : World} {g : Nat} {m : List Bi} (h : XB X g m m.length) (hg : w.heap.size + 2 ≤ g) (hl : m.length ≤ 1048576) : OB w X g m.length m := by
  obtain ⟨cur, h1, h2, h3⟩ := h
  refine ⟨flat_len cB_len m, .inr ⟨g, m.length, cur, rfl, hg, h1, Nat.le_refl _, by unfold maxLen; omega, h2, ?_⟩⟩
  apply List.ext_getElem?
  intro j
  by_cases hj : j < m.length * 3
  · rw [List.getElem?_take_of_lt hj]
    obtain ⟨u, hu⟩ : ∃ u, (m.flatMap cB)[j]? = some u := ⟨_, List.getElem?_eq_getElem (by rw [flat_len cB_len]; exact hj)⟩
    obtain ⟨i, e, r, a1, a2, rfl⟩ := flat_get cB_len m j u hu
    rw [hu]
    obtain ⟨b0, b1, b2⟩ := h3 i e (List.getElem?_eq_some_iff.1 a1).1 a1
    match r, a2 with
    | 0, a2 => cases a2; simpa using b0
    | 1, a2 => cases a2; simpa using b1
    | 2, a2 => cases a2; simpa using b2
    | r + 3, a2 => simp [cB] at a2
  · rw [List.getElem?_eq_none (by rw [List.length_take]; omega), List.getElem?_eq_none (by rw [flat_len cB_len]; omega)]
theorem fin_FE {w X : World} {g : Nat} {m : List Ex} {x0 x1 : Value} (h : PE w X g m) : FE (res2 X (w.heap.size + 1) x0 x1) g m m.length := by
  have hb := h.1
  exact cr.FE.keptE (cr.FE.keptE h.2 (Below.heap_setCell _ _ _ _ (show g ≠ w.heap.size + 1 by omega))) (Below.heap_setCell _ _ _ _ (show g ≠ w.heap.size + 1 by omega))
theorem fin_FB {w X : World} {g : Nat} {m : List Bi} {x0 x1 : Value} (h : PB w X g m) : FB (res2 X (w.heap.size + 1) x0 x1) g m m.length := by
  have hb := h.1
  exact cr.FB.keptB (cr.FB.keptB h.2 (Below.heap_setCell _ _ _ _ (show g ≠ w.heap.size + 1 by omega))) (Below.heap_setCell _ _ _ _ (show g ≠ w.heap.size + 1 by omega))
theorem PE.ne {w X : World} {g h : Nat} {m : List Ex} {l : List Bi} (h1 : PE w X g m) (h2 : PB w X h l) : g ≠ h := by
  rintro rfl
  obtain ⟨_, c, h3, _⟩ := h1
  obtain ⟨_, c', h4, _⟩ := h2
  rw [h3] at h4
  simp at h4
end Go.Proofs.Ytgfifjiidmfojaa.rgn
