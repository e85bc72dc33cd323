/- A stream that comes in as an argument, opened: its two lists as they lie in memory. -/
import Derived.Test.YtffpempklkkfaaaFlatArg
import Derived.Test.YtffpempklkkfaaaFlEntry
import Derived.Test.YtffpempklkkfaaaFlMark
namespace Go.Proofs.Ytffpempklkkfaaa.sa
open Go.ChangeShapes Go.WideShapes Go.ChangeAt Go.RowKit Go.Proofs.Ytffpempklkkfaaa.fl
set_option linter.unusedVariables false

instance : Inhabited flY.En := ⟨⟨0, 0, ByteArray.empty⟩⟩
instance : Inhabited rr.Ex := ⟨⟨ByteArray.empty, 0⟩⟩
theorem cI : Try.prog.cellsOf 3 = 1 := by kernel_rfl
theorem cS : Try.prog.cellsOf 9 = 1 := by kernel_rfl
theorem cY : Try.prog.cellsOf 98 = 3 := by kernel_rfl
theorem cK : Try.prog.cellsOf 100 = 2 := by kernel_rfl
theorem cYs : Try.prog.cellsOf 43 = 1 := by kernel_rfl
theorem cKs : Try.prog.cellsOf 44 = 1 := by kernel_rfl
theorem cT : Try.prog.cellsOf 46 = 5 := by kernel_rfl

section
variable {H : Type} {enc : TypeId × Value → H} {W : World}
set_option maxRecDepth 100000 in
theorem open_entry (cs : List Value) (k : Nat) (x : DataW H × List MemPlace) (h : DataW.trod enc Try.prog W 0 (fun _ => true) true k 98 cs = some x) : ∃ a : flY.En, cs = flY.c a ∧ flY.ok a := by
  obtain ⟨xs, m, _, _, hlen, hxl, hf⟩ := DataW.trod_struct Try.underlying98 h
  rw [cY] at hlen
  match xs, hxl, cs, hlen with
  | [y0, y1, y2], _, [v0, v1, v2], _ =>
    have g0 := hf 0 _ rfl
    have g1 := hf 1 _ rfl
    have g2 := hf 2 _ rfl
    simp [cI, cS] at g0 g1 g2
    obtain ⟨z, e0, _, _⟩ := DataW.trod_int Try.underlying3 g0
    obtain ⟨o, e1, _, _⟩ := DataW.trod_int Try.underlying3 g1
    obtain ⟨s1, e2, _, w1⟩ := DataW.trod_string Try.underlying9 g2
    simp at e0 e1 e2
    subst e0 e1 e2
    exact ⟨⟨z, o, s1⟩, rfl, w1⟩
set_option maxRecDepth 100000 in
theorem open_mark (cs : List Value) (k : Nat) (x : DataW H × List MemPlace) (h : DataW.trod enc Try.prog W 0 (fun _ => true) true k 100 cs = some x) : ∃ a : rr.Ex, cs = flK.c a ∧ flK.ok a := by
  obtain ⟨xs, m, _, _, hlen, hxl, hf⟩ := DataW.trod_struct Try.underlying100 h
  rw [cK] at hlen
  match xs, hxl, cs, hlen with
  | [y0, y1], _, [v0, v1], _ =>
    have g0 := hf 0 _ rfl
    have g1 := hf 1 _ rfl
    simp [cI, cS] at g0 g1
    obtain ⟨s1, e0, _, w1⟩ := DataW.trod_string Try.underlying9 g0
    obtain ⟨o, e1, _, _⟩ := DataW.trod_int Try.underlying3 g1
    simp at e0 e1
    subst e0 e1
    exact ⟨⟨s1, o⟩, rfl, w1⟩

set_option maxRecDepth 100000 in
theorem open_stream {b0 : Nat} {v : Value} {d : DataW H} {p : List MemPlace} (hv : Value.okWide Try.prog W .any b0 46 v) (h : DataW.Trod enc Try.prog W 0 (fun _ => true) true 46 v d p) :
    ∃ (nm : ByteArray) (lo nx : Int) (rs : List flY.En) (hs : List rr.Ex) (ra ha : Option Addr) (rc hc : Nat), v = .agg #[.string nm, .int .i64 lo, .int .i64 nx, .slice ra rs.length rc, .slice ha hs.length hc] ∧ nm.size ≤ maxLen ∧ (Lit.int .i64 lo).wf = true ∧ (Lit.int .i64 nx).wf = true ∧ rs.length ≤ maxLen ∧ hs.length ≤ maxLen ∧ (∀ e ∈ rs, flY.ok e) ∧ (∀ e ∈ hs, flK.ok e) ∧
      Row flY.c 3 W W.heap.size ra rs ∧ Row flK.c 2 W W.heap.size ha hs := by
  obtain ⟨cs, rfl, hsz⟩ := okWide_struct Try.underlying46 hv
  have hsz' := hsz.trans cT
  obtain ⟨fuel, hf0⟩ := h
  obtain ⟨xs, m, _, _, hlen, hxl, hf⟩ := DataW.trod_struct Try.underlying46 hf0
  obtain ⟨l⟩ := cs
  match xs, hxl, l, hsz' with
  | [y0, y1, y2, y3, y4], _, [v0, v1, v2, v3, v4], _ =>
    have g0 := hf 0 _ rfl
    have g1 := hf 1 _ rfl
    have g2 := hf 2 _ rfl
    have g3 := hf 3 _ rfl
    have g4 := hf 4 _ rfl
    simp [Value.cells, cI, cS, cYs, cKs] at g0 g1 g2 g3 g4
    obtain ⟨nm, e0, _, w0⟩ := DataW.trod_string Try.underlying9 g0
    obtain ⟨lo, e1, _, w1⟩ := DataW.trod_int Try.underlying3 g1
    obtain ⟨nx, e2, _, w2⟩ := DataW.trod_int Try.underlying3 g2
    simp at e0 e1 e2
    subst e0 e1 e2
    obtain ⟨ra, rs, rc, rfl, h1, h2, h3⟩ := open_row flY.c_len (by omega) Try.underlying43 cY open_entry g3
    obtain ⟨ha, hs, hc, rfl, k1, k2, k3⟩ := open_row flK.c_len (by omega) Try.underlying44 cK open_mark g4
    exact ⟨nm, lo, nx, rs, hs, ra, ha, rc, hc, rfl, w0, w1, w2, h1, k1, h2, k2, h3, k3⟩
end
end Go.Proofs.Ytffpempklkkfaaa.sa
