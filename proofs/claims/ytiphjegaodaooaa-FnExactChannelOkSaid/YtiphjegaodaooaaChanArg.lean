/- A channel that comes in as an argument, opened: its two lists as they lie in memory. -/
import Derived.Test.YtiphjegaodaooaaFlatArg
import Derived.Test.YtiphjegaodaooaaFlPub
import Derived.Test.YtiphjegaodaooaaFlAckOp
namespace Go.Proofs.Ytiphjegaodaooaa.cha
open Go.ChangeShapes Go.WideShapes Go.ChangeAt Go.RowKit Go.Proofs.Ytiphjegaodaooaa.fl
set_option linter.unusedVariables false

instance : Inhabited flU.Pb := ⟨⟨ByteArray.empty, ByteArray.empty, ByteArray.empty⟩⟩
instance : Inhabited flA.Ak := ⟨⟨0, false, false, false⟩⟩
theorem cI : Try.prog.cellsOf 3 = 1 := by kernel_rfl
theorem cS : Try.prog.cellsOf 9 = 1 := by kernel_rfl
theorem cB : Try.prog.cellsOf 4 = 1 := by kernel_rfl
theorem cU : Try.prog.cellsOf 62 = 3 := by kernel_rfl
theorem cA : Try.prog.cellsOf 68 = 4 := by kernel_rfl
theorem cQ : Try.prog.cellsOf 35 = 8 := by kernel_rfl

section
variable {H : Type} {enc : TypeId × Value → H} {W : World}
set_option maxRecDepth 100000 in
theorem open_pub (cs : List Value) (k : Nat) (x : DataW H × List MemPlace) (h : DataW.trod enc Try.prog W 0 (fun _ => true) true k 62 cs = some x) : ∃ a : flU.Pb, cs = flU.c a ∧ flU.ok a := by
  obtain ⟨xs, m, _, _, hlen, hxl, hf⟩ := DataW.trod_struct Try.underlying62 h
  rw [cU] at hlen
  match xs, hxl, cs, hlen with
  | [y0, y1, y2], _, [v0, v1, v2], _ =>
    have g0 := hf 0 _ rfl
    have g1 := hf 1 _ rfl
    have g2 := hf 2 _ rfl
    simp [cS] at g0 g1 g2
    obtain ⟨s1, e1, _, w1⟩ := DataW.trod_string Try.underlying9 g0
    obtain ⟨s2, e2, _, w2⟩ := DataW.trod_string Try.underlying9 g1
    obtain ⟨s3, e3, _, w3⟩ := DataW.trod_string Try.underlying9 g2
    simp at e1 e2 e3
    subst e1 e2 e3
    exact ⟨⟨s1, s2, s3⟩, rfl, w1, w2, w3⟩
set_option maxRecDepth 100000 in
theorem open_ack (cs : List Value) (k : Nat) (x : DataW H × List MemPlace) (h : DataW.trod enc Try.prog W 0 (fun _ => true) true k 68 cs = some x) : ∃ a : flA.Ak, cs = flA.c a ∧ flA.ok a := by
  obtain ⟨xs, m, _, _, hlen, hxl, hf⟩ := DataW.trod_struct Try.underlying68 h
  rw [cA] at hlen
  match xs, hxl, cs, hlen with
  | [y0, y1, y2, y3], _, [v0, v1, v2, v3], _ =>
    have g0 := hf 0 _ rfl
    have g1 := hf 1 _ rfl
    have g2 := hf 2 _ rfl
    have g3 := hf 3 _ rfl
    simp [cI, cB] at g0 g1 g2 g3
    obtain ⟨z, e0, _, _⟩ := DataW.trod_int Try.underlying3 g0
    obtain ⟨b1, e1, _⟩ := DataW.trod_bool Try.underlying4 g1
    obtain ⟨b2, e2, _⟩ := DataW.trod_bool Try.underlying4 g2
    obtain ⟨b3, e3, _⟩ := DataW.trod_bool Try.underlying4 g3
    simp at e0 e1 e2 e3
    subst e0 e1 e2 e3
    exact ⟨⟨z, b1, b2, b3⟩, rfl, trivial⟩
theorem cPU : Try.prog.cellsOf 32 = 1 := by kernel_rfl
theorem cPA : Try.prog.cellsOf 33 = 1 := by kernel_rfl
theorem array8 {α : Type} {cs : Array α} (h : cs.size = 8) : ∃ c0 c1 c2 c3 c4 c5 c6 c7, cs = #[c0, c1, c2, c3, c4, c5, c6, c7] := by
  obtain ⟨l⟩ := cs
  match l, h with
  | [c0, c1, c2, c3, c4, c5, c6, c7], _ => exact ⟨c0, c1, c2, c3, c4, c5, c6, c7, rfl⟩

set_option maxRecDepth 100000 in
theorem open_chan {b0 : Nat} {v : Value} {d : DataW H} {p : List MemPlace} (hv : Value.okWide Try.prog W .any b0 35 v) (h : DataW.Trod enc Try.prog W 0 (fun _ => true) true 35 v d p) :
    ∃ (co ct : Int) (cx cf : Bool) (cn : Int) (cd : Bool) (rs : List flU.Pb) (hs : List flA.Ak) (ra ha : Option Addr) (rc hc : Nat), v = .agg #[.int .i64 co, .int .i64 ct, .bool cx, .bool cf, .int .i64 cn, .bool cd, .slice ra rs.length rc, .slice ha hs.length hc] ∧ (Lit.int .i64 co).wf = true ∧ (Lit.int .i64 ct).wf = true ∧ (Lit.int .i64 cn).wf = true ∧ rs.length ≤ maxLen ∧ hs.length ≤ maxLen ∧ (∀ e ∈ rs, flU.ok e) ∧ (∀ e ∈ hs, flA.ok e) ∧
      Row flU.c 3 W W.heap.size ra rs ∧ Row flA.c 4 W W.heap.size ha hs := by
  obtain ⟨cs, rfl, hsz⟩ := okWide_struct Try.underlying35 hv
  obtain ⟨v0, v1, v2, v3, v4, v5, v6, v7, rfl⟩ := array8 (hsz.trans cQ)
  obtain ⟨fuel, hf⟩ := h
  obtain ⟨xs, m, _, _, _, hxl, hf⟩ := DataW.trod_struct Try.underlying35 hf
  match xs, hxl with
  | [y0, y1, y2, y3, y4, y5, y6, y7], _ =>
    have g0 := hf 0 _ rfl
    have g1 := hf 1 _ rfl
    have g2 := hf 2 _ rfl
    have g3 := hf 3 _ rfl
    have g4 := hf 4 _ rfl
    have g5 := hf 5 _ rfl
    have g6 := hf 6 _ rfl
    have g7 := hf 7 _ rfl
    simp [Value.cells, cI, cB, cPU, cPA] at g0 g1 g2 g3 g4 g5 g6 g7
    obtain ⟨co, e0, _, w0⟩ := DataW.trod_int Try.underlying3 g0
    obtain ⟨ct, e1, _, w1⟩ := DataW.trod_int Try.underlying3 g1
    obtain ⟨cx, e2, _⟩ := DataW.trod_bool Try.underlying4 g2
    obtain ⟨cf, e3, _⟩ := DataW.trod_bool Try.underlying4 g3
    obtain ⟨cn, e4, _, w4⟩ := DataW.trod_int Try.underlying3 g4
    obtain ⟨cd, e5, _⟩ := DataW.trod_bool Try.underlying4 g5
    simp at e0 e1 e2 e3 e4 e5
    subst e0 e1 e2 e3 e4 e5
    obtain ⟨ra, rs, rc, rfl, h1, h2, h3⟩ := open_row flU.c_len (by omega) Try.underlying32 cU open_pub g6
    obtain ⟨ha, hs, hc, rfl, k1, k2, k3⟩ := open_row flA.c_len (by omega) Try.underlying33 cA open_ack g7
    exact ⟨co, ct, cx, cf, cn, cd, rs, hs, ra, ha, rc, hc, rfl, w0, w1, w4, h1, k1, h2, k2, h3, k3⟩
end
end Go.Proofs.Ytiphjegaodaooaa.cha
