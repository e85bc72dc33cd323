/- A table that comes in as an argument, opened: its pairs and its runs as they lie in memory. -/
import Derived.Test.YtfoajjkcocppeaaFlatArg
import Derived.Test.YtfoajjkcocppeaaRunLib
namespace Go.Proofs.Ytfoajjkcocppeaa.ta2
open Go.ChangeShapes Go.WideShapes Go.ChangeAt Go.RowKit Go.Proofs.Ytfoajjkcocppeaa.fl Go.Proofs.Ytfoajjkcocppeaa.rn
set_option linter.unusedVariables false

instance : Inhabited flP.Pr := ⟨⟨ByteArray.empty, ByteArray.empty, false⟩⟩
instance : Inhabited Rn := ⟨⟨none, 0, []⟩⟩
theorem cS : Try.prog.cellsOf 9 = 1 := by kernel_rfl
theorem cB : Try.prog.cellsOf 4 = 1 := by kernel_rfl
theorem cP : Try.prog.cellsOf 87 = 3 := by kernel_rfl
theorem cPs : Try.prog.cellsOf 22 = 1 := by kernel_rfl
theorem cPss : Try.prog.cellsOf 23 = 1 := by kernel_rfl
theorem cT : Try.prog.cellsOf 25 = 2 := by kernel_rfl

section
variable {H : Type} {enc : TypeId × Value → H} {W : World}
set_option maxRecDepth 100000 in
theorem open_pair (cs : List Value) (k : Nat) (x : DataW H × List MemPlace) (h : DataW.trod enc Try.prog W 0 (fun _ => true) true k 87 cs = some x) : ∃ a : flP.Pr, cs = flP.c a ∧ flP.ok a := by
  obtain ⟨xs, m, _, _, hlen, hxl, hf⟩ := DataW.trod_struct Try.underlying87 h
  rw [cP] at hlen
  match xs, hxl, cs, hlen with
  | [y0, y1, y2], _, [v0, v1, v2], _ =>
    have g0 := hf 0 _ rfl
    have g1 := hf 1 _ rfl
    have g2 := hf 2 _ rfl
    simp [cB, cS] at g0 g1 g2
    obtain ⟨s0, e0, _, w0⟩ := DataW.trod_string Try.underlying9 g0
    obtain ⟨s1, e1, _, w1⟩ := DataW.trod_string Try.underlying9 g1
    obtain ⟨b2, e2, _⟩ := DataW.trod_bool Try.underlying4 g2
    simp at e0 e1 e2
    subst e0 e1 e2
    exact ⟨⟨s0, s1, b2⟩, rfl, w0, w1⟩
theorem open_pairs {fuel : Nat} {v : Value} {y : DataW H × List MemPlace} (h : DataW.trod enc Try.prog W 0 (fun _ => true) true fuel 22 [v] = some y) :
    ∃ (a : Option Addr) (l : List flP.Pr) (cap : Nat), v = .slice a l.length cap ∧ l.length ≤ maxLen ∧ (∀ e ∈ l, flP.ok e) ∧ Row flP.c 3 W W.heap.size a l := open_row flP.c_len (by omega) Try.underlying22 cP open_pair h
theorem open_run (cs : List Value) (k : Nat) (x : DataW H × List MemPlace) (h : DataW.trod enc Try.prog W 0 (fun _ => true) true k 22 cs = some x) : ∃ r : Rn, cs = cR r ∧ okR r ∧ Row flP.c 3 W W.heap.size r.a r.l := by
  have hl : ∃ v, cs = [v] := by
    rcases Deep.open_slice Try.underlying22 h with ⟨hcs, _⟩ | ⟨a, len, cap, m, k, D, Pl, hcs, _⟩
    · exact ⟨_, hcs⟩
    · exact ⟨_, hcs⟩
  obtain ⟨v, rfl⟩ := hl
  obtain ⟨a, l, cap, rfl, h1, h2, h3⟩ := open_pairs h
  exact ⟨⟨a, cap, l⟩, rfl, ⟨h1, h2⟩, h3⟩

set_option maxRecDepth 100000 in
theorem open_table {b0 : Nat} {v : Value} {d : DataW H} {p : List MemPlace} (hv : Value.okWide Try.prog W .any b0 25 v) (h : DataW.Trod enc Try.prog W 0 (fun _ => true) true 25 v d p) :
    ∃ (ys : List flP.Pr) (rs : List Rn) (ya ra : Option Addr) (yc rc : Nat), v = .agg #[.slice ya ys.length yc, .slice ra rs.length rc] ∧ ys.length ≤ maxLen ∧ rs.length ≤ maxLen ∧ (∀ e ∈ ys, flP.ok e) ∧ (∀ e ∈ rs, okR e) ∧ Row flP.c 3 W W.heap.size ya ys ∧ VR W W.heap.size ra rs := by
  obtain ⟨cs, rfl, hsz⟩ := okWide_struct Try.underlying25 hv
  have hsz' := hsz.trans cT
  obtain ⟨fuel, hf0⟩ := h
  obtain ⟨xs, m, _, _, hlen, hxl, hf⟩ := DataW.trod_struct Try.underlying25 hf0
  obtain ⟨l⟩ := cs
  match xs, hxl, l, hsz' with
  | [y0, y1], _, [v0, v1], _ =>
    have g0 := hf 0 _ rfl
    have g1 := hf 1 _ rfl
    simp [Value.cells, cPs, cPss] at g0 g1
    obtain ⟨ya, ys, yc, rfl, h1, h2, h3⟩ := open_pairs g0
    obtain ⟨ra, rs, rc, rfl, k1, k2, k3⟩ := open_row (c := cR) (ok := fun r => okR r ∧ Row flP.c 3 W W.heap.size r.a r.l) cR_len (by omega) Try.underlying23 cPs open_run g1
    exact ⟨ys, rs, ya, ra, yc, rc, rfl, h1, k1, h2, fun e he => (k2 e he).1, h3, k3, fun e he => (k2 e he).2⟩
end
end Go.Proofs.Ytfoajjkcocppeaa.ta2
