/- A queue that comes in as an argument, opened: its two lists as they lie in memory. -/
import Derived.Test.YtfgilmibeeljnaaFlatArg
import Derived.Test.YtfgilmibeeljnaaFlHeld
namespace Go.Proofs.Ytfgilmibeeljnaa.qa
open Go.ChangeShapes Go.WideShapes Go.ChangeAt Go.RowKit Go.Proofs.Ytfgilmibeeljnaa.fl
set_option linter.unusedVariables false

instance : Inhabited flM.Ms := ⟨⟨0, ByteArray.empty, ByteArray.empty, ByteArray.empty, false⟩⟩
instance : Inhabited flH.Hd := ⟨⟨0, 0, default⟩⟩
theorem cI : Try.prog.cellsOf 3 = 1 := by kernel_rfl
theorem cS : Try.prog.cellsOf 9 = 1 := by kernel_rfl
theorem cB : Try.prog.cellsOf 4 = 1 := by kernel_rfl
theorem cM : Try.prog.cellsOf 79 = 5 := by kernel_rfl
theorem cH : Try.prog.cellsOf 82 = 7 := by kernel_rfl
theorem cQ : Try.prog.cellsOf 25 = 4 := by kernel_rfl

section
variable {H : Type} {enc : TypeId × Value → H} {W : World}
set_option maxRecDepth 100000 in
theorem open_message (cs : List Value) (k : Nat) (x : DataW H × List MemPlace) (h : DataW.trod enc Try.prog W 0 (fun _ => true) true k 79 cs = some x) : ∃ a : flM.Ms, cs = flM.c a ∧ flM.ok a := by
  obtain ⟨xs, m, _, _, hlen, hxl, hf⟩ := DataW.trod_struct Try.underlying79 h
  rw [cM] at hlen
  match xs, hxl, cs, hlen with
  | [y0, y1, y2, y3, y4], _, [v0, v1, v2, v3, v4], _ =>
    have g0 := hf 0 _ rfl
    have g1 := hf 1 _ rfl
    have g2 := hf 2 _ rfl
    have g3 := hf 3 _ rfl
    have g4 := hf 4 _ rfl
    simp [cI, cS, cB] at g0 g1 g2 g3 g4
    obtain ⟨z, e0, _, _⟩ := DataW.trod_int Try.underlying3 g0
    obtain ⟨s1, e1, _, w1⟩ := DataW.trod_string Try.underlying9 g1
    obtain ⟨s2, e2, _, w2⟩ := DataW.trod_string Try.underlying9 g2
    obtain ⟨s3, e3, _, w3⟩ := DataW.trod_string Try.underlying9 g3
    obtain ⟨b, e4, _⟩ := DataW.trod_bool Try.underlying4 g4
    simp at e0 e1 e2 e3 e4
    subst e0 e1 e2 e3 e4
    exact ⟨⟨z, s1, s2, s3, b⟩, rfl, w1, w2, w3⟩
set_option maxRecDepth 100000 in
theorem open_held (cs : List Value) (k : Nat) (x : DataW H × List MemPlace) (h : DataW.trod enc Try.prog W 0 (fun _ => true) true k 82 cs = some x) : ∃ a : flH.Hd, cs = flH.c a ∧ flH.ok a := by
  obtain ⟨xs, m, _, _, hlen, hxl, hf⟩ := DataW.trod_struct Try.underlying82 h
  rw [cH] at hlen
  match xs, hxl, cs, hlen with
  | [y0, y1, y2], _, [v0, v1, v2, v3, v4, v5, v6], _ =>
    have g0 := hf 0 _ rfl
    have g1 := hf 1 _ rfl
    have g2 := hf 2 _ rfl
    simp [cI, cM] at g0 g1 g2
    obtain ⟨z, e0, _, _⟩ := DataW.trod_int Try.underlying3 g0
    obtain ⟨o, e1, _, _⟩ := DataW.trod_int Try.underlying3 g1
    obtain ⟨ms, e2, hok⟩ := open_message _ _ _ g2
    simp [flM.c] at e0 e1 e2
    obtain ⟨rfl, rfl, rfl, rfl, rfl⟩ := e2
    subst e0 e1
    exact ⟨⟨z, o, ms⟩, rfl, hok⟩

set_option maxRecDepth 100000 in
theorem open_queue {b0 : Nat} {v : Value} {d : DataW H} {p : List MemPlace} (hv : Value.okWide Try.prog W .any b0 25 v) (h : DataW.Trod enc Try.prog W 0 (fun _ => true) true 25 v d p) :
    ∃ (nm : ByteArray) (nx : Int) (rs : List flM.Ms) (hs : List flH.Hd) (ra ha : Option Addr) (rc hc : Nat), v = .agg #[.string nm, .int .i64 nx, .slice ra rs.length rc, .slice ha hs.length hc] ∧ nm.size ≤ maxLen ∧ (Lit.int .i64 nx).wf = true ∧ rs.length ≤ maxLen ∧ hs.length ≤ maxLen ∧ (∀ e ∈ rs, flM.ok e) ∧ (∀ e ∈ hs, flH.ok e) ∧
      Row flM.c 5 W W.heap.size ra rs ∧ Row flH.c 7 W W.heap.size ha hs := by
  obtain ⟨x0, x1, x2, x3, y0, y1, y2, y3, m, rfl, _, _, hy0, hy1, hy2, hy3⟩ := Joins.open_agg4 Try.underlying25 (by kernel_rfl) cQ hv h
  obtain ⟨nm, e0, _, w0⟩ := DataW.trod_string Try.underlying9 hy0
  obtain ⟨nx, e1, _, w1⟩ := DataW.trod_int Try.underlying3 hy1
  simp at e0 e1
  subst e0 e1
  obtain ⟨ra, rs, rc, rfl, h1, h2, h3⟩ := open_row flM.c_len (by omega) Try.underlying22 cM open_message hy2
  obtain ⟨ha, hs, hc, rfl, g1, g2, g3⟩ := open_row flH.c_len (by omega) Try.underlying23 cH open_held hy3
  exact ⟨nm, nx, rs, hs, ra, ha, rc, hc, rfl, w0, w1, h1, g1, h2, g2, h3, g3⟩
end
end Go.Proofs.Ytfgilmibeeljnaa.qa
