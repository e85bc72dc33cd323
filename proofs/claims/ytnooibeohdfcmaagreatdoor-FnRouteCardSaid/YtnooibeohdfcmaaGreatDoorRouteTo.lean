/- A law's argument of routes, laid anew as the program's own: the laws' toExchange, toBinding and their kin; new memory alone. -/
import Derived.Test.YtnooibeohdfcmaaGreatDoorRouteSize
import Derived.Laws.MakeOwn
namespace Go.Proofs.YtnooibeohdfcmaaGreatDoor.rt
open Go.ChangeShapes Go.WideShapes Go.ChangeAt Go.RowKit Go.Proofs.YtnooibeohdfcmaaGreatDoor.rr Go.Proofs.YtnooibeohdfcmaaGreatDoor.ra
set_option linter.unusedVariables false

theorem infoE : (Tryz.prog.info? 75).map (fun i => (i.zero, i.size, i.bytes)) = some (some (.agg #[.string ByteArray.empty, .int .i64 0]), 2, 24) := by kernel_rfl
/-- block g is a row of its own for l; the first k are laid -/
def FE (w : World) (g : Nat) (l : List Ex) (k : Nat) : Prop := ∃ cur, w.heap[g]? = some (.cells cur 75 (0, 0)) ∧ l.length * 2 ≤ cur.size ∧ ∀ (i : Nat) (e : Ex), i < k → l[i]? = some e → cur[i * 2]? = some (.string e.n) ∧ cur[i * 2 + 1]? = some (.int .i64 e.k)
theorem FE.at {w : World} {g k : Nat} {l : List Ex} (h : FE w g l k) (o : Nat) (ho : o < l.length * 2) : ∃ v, w.cell? ⟨g, o, none⟩ = some v := by
  obtain ⟨cur, hg, hs, _⟩ := h
  exact ⟨cur[o]'(by omega), by simp [World.cell?, hg, Array.getElem?_eq_getElem (show o < cur.size by omega)]⟩
theorem FE.free {w : World} {g k : Nat} {l : List Ex} (h : FE w g l k) (o : Nat) : w.frozen? ⟨g, o, none⟩ = false := by
  obtain ⟨cur, hg, _⟩ := h
  simp [World.frozen?, hg]
theorem FE.below {w w' : World} {g k B : Nat} {l : List Ex} (h : FE w g l k) (hb : Below B w w') (hg : g < B) : FE w' g l k := by
  obtain ⟨cur, h1, h2⟩ := h
  exact ⟨cur, by rw [hb.block g hg]; exact h1, h2⟩
theorem FE.lt {w : World} {g k : Nat} {l : List Ex} (h : FE w g l k) : g < w.heap.size := by
  obtain ⟨cur, hg, _⟩ := h
  exact (Array.getElem?_eq_some_iff.1 hg).1
theorem FE.set {w : World} {g k : Nat} {l : List Ex} {e : Ex} (h : FE w g l k) (he : l[k]? = some e) : FE ((w.setCell ⟨g, k * 2, none⟩ (.string e.n)).setCell ⟨g, k * 2 + 1, none⟩ (.int .i64 e.k)) g l (k + 1) := by
  obtain ⟨cur, h1, h2, h3⟩ := h
  have hk := (List.getElem?_eq_some_iff.1 he).1
  have s0 := heap_setCell_same w g (k * 2) cur _ (.string e.n) h1
  have s1 := heap_setCell_same (w.setCell ⟨g, k * 2, none⟩ (.string e.n)) g (k * 2 + 1) (cur.setIfInBounds (k * 2) (.string e.n)) _ (.int .i64 e.k) s0
  refine ⟨_, s1, by simpa using h2, fun i f hi hf => ?_⟩
  by_cases ei : i = k
  · subst ei
    rw [he] at hf
    cases hf
    simp [Array.getElem?_setIfInBounds]
    omega
  · have hold := h3 i f (by omega) hf
    simp only [Array.getElem?_setIfInBounds]
    repeat rw [if_neg (by omega)]
    exact hold
theorem FE.all {w : World} {g : Nat} {l : List Ex} (h : FE w g l l.length) : RE w g l := by
  have hlt := h.lt
  obtain ⟨cur, hg, _, hc⟩ := h
  refine ⟨hlt, fun i e he => ?_⟩
  have hx := hc i e (List.getElem?_eq_some_iff.1 he).1 he
  simp only [World.cell?, hg]
  simpa using hx
theorem infoB : (Tryz.prog.info? 45).map (fun i => (i.zero, i.size, i.bytes)) = some (some (.agg #[.string ByteArray.empty, .string ByteArray.empty, .string ByteArray.empty]), 3, 48) := by kernel_rfl
/-- block g is a row of its own for l; the first k are laid -/
def FB (w : World) (g : Nat) (l : List Bi) (k : Nat) : Prop := ∃ cur, w.heap[g]? = some (.cells cur 45 (0, 0)) ∧ l.length * 3 ≤ cur.size ∧ ∀ (i : Nat) (e : Bi), i < k → l[i]? = some e → cur[i * 3]? = some (.string e.x) ∧ cur[i * 3 + 1]? = some (.string e.k) ∧ cur[i * 3 + 2]? = some (.string e.q)
theorem FB.at {w : World} {g k : Nat} {l : List Bi} (h : FB w g l k) (o : Nat) (ho : o < l.length * 3) : ∃ v, w.cell? ⟨g, o, none⟩ = some v := by
  obtain ⟨cur, hg, hs, _⟩ := h
  exact ⟨cur[o]'(by omega), by simp [World.cell?, hg, Array.getElem?_eq_getElem (show o < cur.size by omega)]⟩
theorem FB.free {w : World} {g k : Nat} {l : List Bi} (h : FB w g l k) (o : Nat) : w.frozen? ⟨g, o, none⟩ = false := by
  obtain ⟨cur, hg, _⟩ := h
  simp [World.frozen?, hg]
theorem FB.below {w w' : World} {g k B : Nat} {l : List Bi} (h : FB w g l k) (hb : Below B w w') (hg : g < B) : FB w' g l k := by
  obtain ⟨cur, h1, h2⟩ := h
  exact ⟨cur, by rw [hb.block g hg]; exact h1, h2⟩
theorem FB.lt {w : World} {g k : Nat} {l : List Bi} (h : FB w g l k) : g < w.heap.size := by
  obtain ⟨cur, hg, _⟩ := h
  exact (Array.getElem?_eq_some_iff.1 hg).1
theorem FB.set {w : World} {g k : Nat} {l : List Bi} {e : Bi} (h : FB w g l k) (he : l[k]? = some e) : FB (((w.setCell ⟨g, k * 3, none⟩ (.string e.x)).setCell ⟨g, k * 3 + 1, none⟩ (.string e.k)).setCell ⟨g, k * 3 + 2, none⟩ (.string e.q)) g l (k + 1) := by
  obtain ⟨cur, h1, h2, h3⟩ := h
  have hk := (List.getElem?_eq_some_iff.1 he).1
  have s0 := heap_setCell_same w g (k * 3) cur _ (.string e.x) h1
  have s1 := heap_setCell_same (w.setCell ⟨g, k * 3, none⟩ (.string e.x)) g (k * 3 + 1) (cur.setIfInBounds (k * 3) (.string e.x)) _ (.string e.k) s0
  have s2 := heap_setCell_same ((w.setCell ⟨g, k * 3, none⟩ (.string e.x)).setCell ⟨g, k * 3 + 1, none⟩ (.string e.k)) g (k * 3 + 2) ((cur.setIfInBounds (k * 3) (.string e.x)).setIfInBounds (k * 3 + 1) (.string e.k)) _ (.string e.q) s1
  refine ⟨_, s2, by simpa using h2, fun i f hi hf => ?_⟩
  by_cases ei : i = k
  · subst ei
    rw [he] at hf
    cases hf
    simp [Array.getElem?_setIfInBounds]
    omega
  · have hold := h3 i f (by omega) hf
    simp only [Array.getElem?_setIfInBounds]
    repeat rw [if_neg (by omega)]
    exact hold
theorem FB.all {w : World} {g : Nat} {l : List Bi} (h : FB w g l l.length) : RB w g l := by
  have hlt := h.lt
  obtain ⟨cur, hg, _, hc⟩ := h
  refine ⟨hlt, fun i e he => ?_⟩
  have hx := hc i e (List.getElem?_eq_some_iff.1 he).1 he
  simp only [World.cell?, hg]
  simpa using hx
end Go.Proofs.YtnooibeohdfcmaaGreatDoor.rt
