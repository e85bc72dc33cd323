/- A store that comes in as an argument, opened. -/
import Derived.Test.YtfoajjkcocppeaaTabArg
namespace Go.Proofs.Ytfoajjkcocppeaa.sa2
open Go.ChangeShapes Go.WideShapes Go.ChangeAt Go.RowKit Go.Proofs.Ytfoajjkcocppeaa.fl Go.Proofs.Ytfoajjkcocppeaa.rn Go.Proofs.Ytfoajjkcocppeaa.ta2
set_option linter.unusedVariables false

theorem cI : Try.prog.cellsOf 3 = 1 := by kernel_rfl
theorem cSt : Try.prog.cellsOf 27 = 4 := by kernel_rfl
section
variable {H : Type} {enc : TypeId × Value → H} {W : World}
set_option maxRecDepth 100000 in
theorem open_store {b0 : Nat} {v : Value} {d : DataW H} {p : List MemPlace} (hv : Value.okWide Try.prog W .any b0 27 v) (h : DataW.Trod enc Try.prog W 0 (fun _ => true) true 27 v d p) :
    ∃ (ys : List flP.Pr) (rs : List Rn) (ya ra : Option Addr) (yc rc : Nat) (lg : ByteArray) (sf : Int), v = .agg #[.slice ya ys.length yc, .slice ra rs.length rc, .string lg, .int .i64 sf] ∧ ys.length ≤ maxLen ∧ rs.length ≤ maxLen ∧ (∀ e ∈ ys, flP.ok e) ∧ (∀ e ∈ rs, okR e) ∧ lg.size ≤ maxLen ∧ (Lit.int .i64 sf).wf = true ∧ Row flP.c 3 W W.heap.size ya ys ∧ VR W W.heap.size ra rs := by
  obtain ⟨cs, rfl, hsz⟩ := okWide_struct Try.underlying27 hv
  have hsz' := hsz.trans cSt
  obtain ⟨fuel, hf0⟩ := h
  obtain ⟨xs, m, _, _, hlen, hxl, hf⟩ := DataW.trod_struct Try.underlying27 hf0
  obtain ⟨l⟩ := cs
  match xs, hxl, l, hsz' with
  | [y0, y1, y2], _, [v0, v1, v2, v3], _ =>
    have g0 := hf 0 _ rfl
    have g1 := hf 1 _ rfl
    have g2 := hf 2 _ rfl
    simp [Value.cells, cT, cS, cI] at g0 g1 g2
    obtain ⟨zs, m2, _, _, hlen2, hzl, hf2⟩ := DataW.trod_struct Try.underlying25 g0
    match zs, hzl with
    | [z0, z1], _ =>
      have e0 := hf2 0 _ rfl
      have e1 := hf2 1 _ rfl
      simp [cPs, cPss] at e0 e1
      obtain ⟨ya, ys, yc, rfl, h1, h2, h3⟩ := open_pairs e0
      obtain ⟨ra, rs, rc, rfl, k1, k2, k3⟩ := open_row (c := cR) (ok := fun r => okR r ∧ Row flP.c 3 W W.heap.size r.a r.l) cR_len (by omega) Try.underlying23 cPs open_run e1
      obtain ⟨s2, q2, _, w2⟩ := DataW.trod_string Try.underlying9 g1
      obtain ⟨n3, q3, _, w3⟩ := DataW.trod_int Try.underlying3 g2
      simp at q2 q3
      subst q2 q3
      exact ⟨ys, rs, ya, ra, yc, rc, s2, n3, rfl, h1, k1, h2, fun e he => (k2 e he).1, w2, w3, h3, k3, fun e he => (k2 e he).2⟩
end
end Go.Proofs.Ytfoajjkcocppeaa.sa2
