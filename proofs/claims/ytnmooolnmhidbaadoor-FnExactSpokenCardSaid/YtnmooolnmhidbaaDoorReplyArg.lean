/- A list of replies that comes in as an argument, opened: each with its texts and numbers as they lie in memory. -/
import Derived.Test.YtnmooolnmhidbaaDoorFlatArg
import Derived.Test.YtnmooolnmhidbaaDoorMethArg
import Derived.Test.YtnmooolnmhidbaaDoorReplyRows
namespace Go.Proofs.YtnmooolnmhidbaaDoor.rpa
open Go.ChangeShapes Go.WideShapes Go.ChangeAt Go.RowKit Go.Proofs.YtnmooolnmhidbaaDoor.fl Go.Proofs.YtnmooolnmhidbaaDoor.rp
set_option linter.unusedVariables false

instance : Inhabited Rp := ⟨⟨0, 0, none, 0, [], none, 0, [], false, ByteArray.empty⟩⟩
/-- a reply that came in: its numbers fit, its lists lie in memory -/
structure In (W : World) (r : Rp) : Prop where
  ok : okP r
  wc : (Lit.int .i64 r.c).wf = true
  wi : (Lit.int .i64 r.i).wf = true
  nw : ∀ x ∈ r.ns, (Lit.int .i64 x).wf = true
  st : ls.Sl Value.string W W.heap.size r.ta r.ts
  sn : ls.Sl (Value.int .i64) W W.heap.size r.na r.ns
theorem cI : Tryd.prog.cellsOf 3 = 1 := by kernel_rfl
theorem cS : Tryd.prog.cellsOf 9 = 1 := by kernel_rfl
theorem cB : Tryd.prog.cellsOf 4 = 1 := by kernel_rfl
theorem cTs : Tryd.prog.cellsOf 22 = 1 := by kernel_rfl
theorem cNs : Tryd.prog.cellsOf 23 = 1 := by kernel_rfl
theorem cM : Tryd.prog.cellsOf 25 = 4 := by kernel_rfl
theorem cR : Tryd.prog.cellsOf 81 = 6 := by kernel_rfl
section
variable {H : Type} {enc : TypeId × Value → H} {W : World}
set_option maxRecDepth 100000 in
theorem open_meth (cs : List Value) (k : Nat) (x : DataW H × List MemPlace) (h : DataW.trod enc Tryd.prog W 0 (fun _ => true) true k 25 cs = some x) :
    ∃ (c i : Int) (ts : List ByteArray) (ns : List Int) (ta na : Option Addr) (tc nc : Nat), cs = [.int .i64 c, .int .i64 i, .slice ta ts.length tc, .slice na ns.length nc] ∧ (Lit.int .i64 c).wf = true ∧ (Lit.int .i64 i).wf = true ∧ ts.length ≤ maxLen ∧ (∀ x ∈ ts, x.size ≤ maxLen) ∧ ns.length ≤ maxLen ∧ (∀ x ∈ ns, (Lit.int .i64 x).wf = true) ∧ ls.Sl Value.string W W.heap.size ta ts ∧ ls.Sl (Value.int .i64) W W.heap.size na ns := by
  obtain ⟨xs, m, _, _, hlen, hxl, hf⟩ := DataW.trod_struct Tryd.underlying25 h
  rw [cM] at hlen
  match xs, hxl, cs, hlen with
  | [y0, y1, y2, y3], _, [v0, v1, v2, v3], _ =>
    have g0 := hf 0 _ rfl
    have g1 := hf 1 _ rfl
    have g2 := hf 2 _ rfl
    have g3 := hf 3 _ rfl
    simp [cI, cTs, cNs] at g0 g1 g2 g3
    obtain ⟨c, e0, _, wc⟩ := DataW.trod_int Tryd.underlying3 g0
    obtain ⟨i, e1, _, wi⟩ := DataW.trod_int Tryd.underlying3 g1
    simp at e0 e1
    subst e0 e1
    obtain ⟨ta, ts, tc, rfl, h1, h2, h3⟩ := ma.open_texts g2
    obtain ⟨na, ns, nc, rfl, q1, q2, q3⟩ := ma.open_nums g3
    exact ⟨c, i, ts, ns, ta, na, tc, nc, rfl, wc, wi, h1, h2, q1, q2, h3, q3⟩
set_option maxRecDepth 100000 in
theorem open_reply (cs : List Value) (k : Nat) (x : DataW H × List MemPlace) (h : DataW.trod enc Tryd.prog W 0 (fun _ => true) true k 81 cs = some x) : ∃ a : Rp, cs = cP a ∧ In W a := by
  obtain ⟨xs, m, _, _, hlen, hxl, hf⟩ := DataW.trod_struct Tryd.underlying81 h
  rw [cR] at hlen
  match xs, hxl, cs, hlen with
  | [y0, y1, y2], _, [v0, v1, v2, v3, v4, v5], _ =>
    have g0 := hf 0 _ rfl
    have g1 := hf 1 _ rfl
    have g2 := hf 2 _ rfl
    simp [cM, cB, cS] at g0 g1 g2
    obtain ⟨c, i, ts, ns, ta, na, tc, nc, e0, wc, wi, h1, h2, q1, q2, h3, q3⟩ := open_meth _ _ _ g0
    obtain ⟨hb, e1, _⟩ := DataW.trod_bool Tryd.underlying4 g1
    obtain ⟨b, e2, _, w2⟩ := DataW.trod_string Tryd.underlying9 g2
    simp at e0 e1 e2
    obtain ⟨rfl, rfl, rfl, rfl⟩ := e0
    subst e1 e2
    exact ⟨⟨c, i, ta, tc, ts, na, nc, ns, hb, b⟩, rfl, ⟨h1, h2, q1, w2⟩, wc, wi, q2, h3, q3⟩
theorem open_replies {fuel : Nat} {v : Value} {y : DataW H × List MemPlace} (h : DataW.trod enc Tryd.prog W 0 (fun _ => true) true fuel 39 [v] = some y) :
    ∃ (a : Option Addr) (l : List Rp) (cap : Nat), v = .slice a l.length cap ∧ l.length ≤ maxLen ∧ (∀ e ∈ l, In W e) ∧ Row cP 6 W W.heap.size a l := open_row cP_len (by omega) Tryd.underlying39 cR open_reply h
set_option maxRecDepth 100000 in
theorem open_list {b0 : Nat} {v : Value} {d : DataW H} {p : List MemPlace} (hv : Value.okWide Tryd.prog W .any b0 39 v) (h : DataW.Trod enc Tryd.prog W 0 (fun _ => true) true 39 v d p) :
    ∃ (a : Option Addr) (l : List Rp) (cap : Nat), v = .slice a l.length cap ∧ l.length ≤ maxLen ∧ (∀ e ∈ l, In W e) ∧ Row cP 6 W W.heap.size a l := by
  obtain ⟨a, len, cap, rfl⟩ := okWide_slice Tryd.underlying39 hv
  obtain ⟨fuel, hf⟩ := h
  simp [Value.cells] at hf
  exact open_replies hf
end
end Go.Proofs.YtnmooolnmhidbaaDoor.rpa
