/- A list of pairs that comes in as an argument, opened: as it lies in memory. -/
import Derived.Test.YtecmegllnbgobaaDoorFlatArg
import Derived.Test.YtecmegllnbgobaaDoorFlPair
namespace Go.Proofs.YtecmegllnbgobaaDoor.pga
open Go.ChangeShapes Go.WideShapes Go.ChangeAt Go.RowKit Go.Proofs.YtecmegllnbgobaaDoor.fl
set_option linter.unusedVariables false

instance : Inhabited flP.Pr := ⟨⟨ByteArray.empty, ByteArray.empty, false⟩⟩
theorem cS : Tryd.prog.cellsOf 9 = 1 := by kernel_rfl
theorem cB : Tryd.prog.cellsOf 4 = 1 := by kernel_rfl
theorem cP : Tryd.prog.cellsOf 57 = 3 := by kernel_rfl

section
variable {H : Type} {enc : TypeId × Value → H} {W : World}
set_option maxRecDepth 100000 in
theorem open_pair (cs : List Value) (k : Nat) (x : DataW H × List MemPlace) (h : DataW.trod enc Tryd.prog W 0 (fun _ => true) true k 57 cs = some x) : ∃ a : flP.Pr, cs = flP.c a ∧ flP.ok a := by
  obtain ⟨xs, m, _, _, hlen, hxl, hf⟩ := DataW.trod_struct Tryd.underlying57 h
  rw [cP] at hlen
  match xs, hxl, cs, hlen with
  | [y0, y1, y2], _, [v0, v1, v2], _ =>
    have g0 := hf 0 _ rfl
    have g1 := hf 1 _ rfl
    have g2 := hf 2 _ rfl
    simp [cB, cS] at g0 g1 g2
    obtain ⟨s0, e0, _, w0⟩ := DataW.trod_string Tryd.underlying9 g0
    obtain ⟨s1, e1, _, w1⟩ := DataW.trod_string Tryd.underlying9 g1
    obtain ⟨b2, e2, _⟩ := DataW.trod_bool Tryd.underlying4 g2
    simp at e0 e1 e2
    subst e0 e1 e2
    exact ⟨⟨s0, s1, b2⟩, rfl, w0, w1⟩
theorem open_pairs {fuel : Nat} {v : Value} {y : DataW H × List MemPlace} (h : DataW.trod enc Tryd.prog W 0 (fun _ => true) true fuel 28 [v] = some y) :
    ∃ (a : Option Addr) (l : List flP.Pr) (cap : Nat), v = .slice a l.length cap ∧ l.length ≤ maxLen ∧ (∀ e ∈ l, flP.ok e) ∧ Row flP.c 3 W W.heap.size a l := open_row flP.c_len (by omega) Tryd.underlying28 cP open_pair h

set_option maxRecDepth 100000 in
theorem open_list {b0 : Nat} {v : Value} {d : DataW H} {p : List MemPlace} (hv : Value.okWide Tryd.prog W .any b0 28 v) (h : DataW.Trod enc Tryd.prog W 0 (fun _ => true) true 28 v d p) :
    ∃ (a : Option Addr) (l : List flP.Pr) (cap : Nat), v = .slice a l.length cap ∧ l.length ≤ maxLen ∧ (∀ e ∈ l, flP.ok e) ∧ Row flP.c 3 W W.heap.size a l := by
  obtain ⟨a, len, cap, rfl⟩ := okWide_slice Tryd.underlying28 hv
  obtain ⟨fuel, hf⟩ := h
  simp [Value.cells] at hf
  exact open_pairs hf
end
end Go.Proofs.YtecmegllnbgobaaDoor.pga
