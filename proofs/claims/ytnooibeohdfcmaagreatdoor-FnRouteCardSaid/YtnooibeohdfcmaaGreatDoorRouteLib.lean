/- Routes as a law's argument: what they weigh, laid anew, held beside each other; new memory alone. -/
import Derived.Test.YtnooibeohdfcmaaGreatDoorRouteTo
namespace Go.Proofs.YtnooibeohdfcmaaGreatDoor.rl
open Go.ChangeShapes Go.WideShapes Go.ChangeAt Go.RowKit Go.Proofs.YtnooibeohdfcmaaGreatDoor.rr Go.Proofs.YtnooibeohdfcmaaGreatDoor.ra Go.Proofs.YtnooibeohdfcmaaGreatDoor.rt
set_option linter.unusedVariables false

theorem SE.inn {w W : World} {a : Option Addr} {l : List Ex} (h : SE w w.heap.size a l) (hb : Below w.heap.size w W) : SE W W.heap.size a l := by
  rcases h with h | ⟨b, off, ha, hlt, hc⟩
  · exact .inl h
  · refine .inr ⟨b, off, ha, Nat.lt_of_lt_of_le hlt hb.size, fun i e he => ?_⟩
    obtain ⟨h1, h2⟩ := hc i e he
    exact ⟨(hb.cell (p := ⟨b, _, none⟩) hlt).trans h1, (hb.cell (p := ⟨b, _, none⟩) hlt).trans h2⟩
theorem SB.inn {w W : World} {a : Option Addr} {l : List Bi} (h : SB w w.heap.size a l) (hb : Below w.heap.size w W) : SB W W.heap.size a l := by
  rcases h with h | ⟨b, off, ha, hlt, hc⟩
  · exact .inl h
  · refine .inr ⟨b, off, ha, Nat.lt_of_lt_of_le hlt hb.size, fun i e he => ?_⟩
    obtain ⟨h1, h2, h3⟩ := hc i e he
    exact ⟨(hb.cell (p := ⟨b, _, none⟩) hlt).trans h1, (hb.cell (p := ⟨b, _, none⟩) hlt).trans h2, (hb.cell (p := ⟨b, _, none⟩) hlt).trans h3⟩

theorem RE.set {w : World} {g : Nat} {l : List Ex} (h : RE w g l) {p : Addr} (hne : g ≠ p.block) (v : Value) : RE (w.setCell p v) g l := by
  have hblk : (w.setCell p v).heap[g]? = w.heap[g]? := Below.heap_setCell w p v g hne
  refine ⟨by simpa using h.1, fun i e he => ?_⟩
  obtain ⟨h1, h2⟩ := h.2 i e he
  exact ⟨(World.cell?_of_block (a := ⟨g, _, none⟩) hblk).trans h1, (World.cell?_of_block (a := ⟨g, _, none⟩) hblk).trans h2⟩
theorem RB.set {w : World} {g : Nat} {l : List Bi} (h : RB w g l) {p : Addr} (hne : g ≠ p.block) (v : Value) : RB (w.setCell p v) g l := by
  have hblk : (w.setCell p v).heap[g]? = w.heap[g]? := Below.heap_setCell w p v g hne
  refine ⟨by simpa using h.1, fun i e he => ?_⟩
  obtain ⟨h1, h2, h3⟩ := h.2 i e he
  exact ⟨(World.cell?_of_block (a := ⟨g, _, none⟩) hblk).trans h1, (World.cell?_of_block (a := ⟨g, _, none⟩) hblk).trans h2, (World.cell?_of_block (a := ⟨g, _, none⟩) hblk).trans h3⟩

end Go.Proofs.YtnooibeohdfcmaaGreatDoor.rl
