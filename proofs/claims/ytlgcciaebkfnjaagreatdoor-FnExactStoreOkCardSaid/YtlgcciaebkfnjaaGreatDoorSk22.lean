/- A store that comes in as an argument, opened. -/
import Derived.Test.YtlgcciaebkfnjaaGreatDoorFlatLib
import Derived.Deep.SlicePairs
import Derived.Deep.Strs
import Derived.Lib.SmallJoins
import Derived.Test.YtlgcciaebkfnjaaGreatDoorRunLib

/- A list of structures that comes in as an argument, opened: as it lies in memory. -/
namespace Go.Proofs.YtlgcciaebkfnjaaGreatDoor.fl
open Go.ChangeShapes Go.WideShapes Go.ChangeAt Go.RowKit
set_option linter.unusedVariables false

theorem add_at {b off : Nat} (i : Nat) : (⟨b, off, none⟩ : Addr).add i = ⟨b, off + i, none⟩ := by unfold Addr.add; split <;> simp_all

theorem row_of {α : Type} {c : α → List Value} {n : Nat} {W : World} {a : Addr} {l : List α} (hn : ∀ e, (c e).length = n) (h0 : 0 < n) (hc : ∀ (i : Nat) (e : α), l[i]? = some e → ∀ (j : Nat) (v : Value), (c e)[j]? = some v → W.cell? (a.add (i * n + j)) = some v) : Row c n W W.heap.size (some a) l := by
  cases l with
  | nil => exact .inl rfl
  | cons y r =>
    obtain ⟨b, off, spot⟩ := a
    have hy : 0 < (c y).length := by rw [hn]; exact h0
    have h0 := hc 0 y rfl 0 _ (List.getElem?_eq_getElem hy)
    have hspot : spot = none := by simpa [Addr.add] using World.cell?_spot h0
    subst hspot
    refine .inr ⟨b, off, rfl, by have := block_lt_of_cell h0; rw [add_at] at this; exact this, fun i x hx j v hv => ?_⟩
    have h := hc i x hx j v hv
    rw [add_at, ← Nat.add_assoc] at h
    exact h

section
variable {H : Type} {enc : TypeId × Value → H}
theorem open_row {α : Type} [Inhabited α] {c : α → List Value} {n : Nat} {ok : α → Prop} {P : Program} {W : World} {held : Bool} {fuel : Nat} {t e : TypeId} {v : Value} {y : DataW H × List MemPlace} (hn : ∀ e, (c e).length = n) (h0 : 0 < n)
    (ht : P.underlying t = some (.slice e)) (ce : P.cellsOf e = n)
    (hel : ∀ (cs : List Value) (k : Nat) (x : DataW H × List MemPlace), DataW.trod enc P W 0 (fun _ => true) held k e cs = some x → ∃ a, cs = c a ∧ ok a)
    (h : DataW.trod enc P W 0 (fun _ => true) held fuel t [v] = some y) :
    ∃ (a : Option Addr) (l : List α) (cap : Nat), v = .slice a l.length cap ∧ l.length ≤ maxLen ∧ (∀ e ∈ l, ok e) ∧ Row c n W W.heap.size a l := by
  rcases Deep.open_slice ht h with ⟨hcs, _⟩ | ⟨a, len, cap, m, k, D, Pl, hcs, hb, hl, hm, hmm, _, hx⟩
  · simp at hcs
    exact ⟨none, [], 0, hcs, by simp, by simp, .inl rfl⟩
  · simp at hcs hmm
    have each : ∀ i, i < len → ∃ x : α, ok x ∧ ∀ (j : Nat) (v : Value), (c x)[j]? = some v → W.cell? (a.add (i * n + j)) = some v := fun i hi => by
      obtain ⟨cs', h1, h2⟩ := hx i (by omega)
      rw [ce] at h1
      obtain ⟨_, hlen, hcell⟩ := World.cells?_some h1
      obtain ⟨x, rfl, hok⟩ := hel cs' k _ h2
      refine ⟨x, hok, fun j v hv => ?_⟩
      have hj := (List.getElem?_eq_some_iff.1 hv).1
      have hh := hcell j (by rw [hn] at hj; exact hj)
      rw [Deep.add_add] at hh
      rw [hh]
      simpa using hv
    obtain ⟨E, hE⟩ := Deep.choose_lt each
    refine ⟨some a, (List.range len).map E, cap, by simpa using hcs, by simp; omega, ?_, row_of hn h0 fun i x hi => ?_⟩
    · intro x hxm
      obtain ⟨i, hi, rfl⟩ := List.mem_map.1 hxm
      exact (hE i (List.mem_range.1 hi)).1
    · have hlt := (List.getElem?_eq_some_iff.1 hi).1
      simp at hlt
      have he := (List.getElem?_eq_some_iff.1 hi).2
      simp at he
      subst he
      exact (hE i hlt).2
end
end Go.Proofs.YtlgcciaebkfnjaaGreatDoor.fl

/- A table that comes in as an argument, opened: its pairs and its runs as they lie in memory. -/
namespace Go.Proofs.YtlgcciaebkfnjaaGreatDoor.ta2
open Go.ChangeShapes Go.WideShapes Go.ChangeAt Go.RowKit Go.Proofs.YtlgcciaebkfnjaaGreatDoor.fl Go.Proofs.YtlgcciaebkfnjaaGreatDoor.rn
set_option linter.unusedVariables false

instance : Inhabited flP.Pr := ⟨⟨ByteArray.empty, ByteArray.empty, false⟩⟩
instance : Inhabited Rn := ⟨⟨none, 0, []⟩⟩
theorem cS : Tryz.prog.cellsOf 9 = 1 := by kernel_rfl
theorem cB : Tryz.prog.cellsOf 4 = 1 := by kernel_rfl
theorem cP : Tryz.prog.cellsOf 165 = 3 := by kernel_rfl
theorem cPs : Tryz.prog.cellsOf 52 = 1 := by kernel_rfl
theorem cPss : Tryz.prog.cellsOf 53 = 1 := by kernel_rfl
theorem cT : Tryz.prog.cellsOf 55 = 2 := by kernel_rfl

section
variable {H : Type} {enc : TypeId × Value → H} {W : World}
set_option maxRecDepth 100000 in
theorem open_pair (cs : List Value) (k : Nat) (x : DataW H × List MemPlace) (h : DataW.trod enc Tryz.prog W 0 (fun _ => true) true k 165 cs = some x) : ∃ a : flP.Pr, cs = flP.c a ∧ flP.ok a := by
  obtain ⟨xs, m, _, _, hlen, hxl, hf⟩ := DataW.trod_struct Tryz.underlying165 h
  rw [cP] at hlen
  match xs, hxl, cs, hlen with
  | [y0, y1, y2], _, [v0, v1, v2], _ =>
    have g0 := hf 0 _ rfl
    have g1 := hf 1 _ rfl
    have g2 := hf 2 _ rfl
    simp [cB, cS] at g0 g1 g2
    obtain ⟨s0, e0, _, w0⟩ := DataW.trod_string Tryz.underlying9 g0
    obtain ⟨s1, e1, _, w1⟩ := DataW.trod_string Tryz.underlying9 g1
    obtain ⟨b2, e2, _⟩ := DataW.trod_bool Tryz.underlying4 g2
    simp at e0 e1 e2
    subst e0 e1 e2
    exact ⟨⟨s0, s1, b2⟩, rfl, w0, w1⟩
theorem open_pairs {fuel : Nat} {v : Value} {y : DataW H × List MemPlace} (h : DataW.trod enc Tryz.prog W 0 (fun _ => true) true fuel 52 [v] = some y) :
    ∃ (a : Option Addr) (l : List flP.Pr) (cap : Nat), v = .slice a l.length cap ∧ l.length ≤ maxLen ∧ (∀ e ∈ l, flP.ok e) ∧ Row flP.c 3 W W.heap.size a l := open_row flP.c_len (by omega) Tryz.underlying52 cP open_pair h
theorem open_run (cs : List Value) (k : Nat) (x : DataW H × List MemPlace) (h : DataW.trod enc Tryz.prog W 0 (fun _ => true) true k 52 cs = some x) : ∃ r : Rn, cs = cR r ∧ okR r ∧ Row flP.c 3 W W.heap.size r.a r.l := by
  have hl : ∃ v, cs = [v] := by
    rcases Deep.open_slice Tryz.underlying52 h with ⟨hcs, _⟩ | ⟨a, len, cap, m, k, D, Pl, hcs, _⟩
    · exact ⟨_, hcs⟩
    · exact ⟨_, hcs⟩
  obtain ⟨v, rfl⟩ := hl
  obtain ⟨a, l, cap, rfl, h1, h2, h3⟩ := open_pairs h
  exact ⟨⟨a, cap, l⟩, rfl, ⟨h1, h2⟩, h3⟩

set_option maxRecDepth 100000 in
theorem open_table {b0 : Nat} {v : Value} {d : DataW H} {p : List MemPlace} (hv : Value.okWide Tryz.prog W .any b0 55 v) (h : DataW.Trod enc Tryz.prog W 0 (fun _ => true) true 55 v d p) :
    ∃ (ys : List flP.Pr) (rs : List Rn) (ya ra : Option Addr) (yc rc : Nat), v = .agg #[.slice ya ys.length yc, .slice ra rs.length rc] ∧ ys.length ≤ maxLen ∧ rs.length ≤ maxLen ∧ (∀ e ∈ ys, flP.ok e) ∧ (∀ e ∈ rs, okR e) ∧ Row flP.c 3 W W.heap.size ya ys ∧ VR W W.heap.size ra rs := by
  obtain ⟨cs, rfl, hsz⟩ := okWide_struct Tryz.underlying55 hv
  have hsz' := hsz.trans cT
  obtain ⟨fuel, hf0⟩ := h
  obtain ⟨xs, m, _, _, hlen, hxl, hf⟩ := DataW.trod_struct Tryz.underlying55 hf0
  obtain ⟨l⟩ := cs
  match xs, hxl, l, hsz' with
  | [y0, y1], _, [v0, v1], _ =>
    have g0 := hf 0 _ rfl
    have g1 := hf 1 _ rfl
    simp [Value.cells, cPs, cPss] at g0 g1
    obtain ⟨ya, ys, yc, rfl, h1, h2, h3⟩ := open_pairs g0
    obtain ⟨ra, rs, rc, rfl, k1, k2, k3⟩ := open_row (c := cR) (ok := fun r => okR r ∧ Row flP.c 3 W W.heap.size r.a r.l) cR_len (by omega) Tryz.underlying53 cPs open_run g1
    exact ⟨ys, rs, ya, ra, yc, rc, rfl, h1, k1, h2, fun e he => (k2 e he).1, h3, k3, fun e he => (k2 e he).2⟩
end
end Go.Proofs.YtlgcciaebkfnjaaGreatDoor.ta2

/- A store that comes in as an argument, opened. -/
namespace Go.Proofs.YtlgcciaebkfnjaaGreatDoor.sa2
open Go.ChangeShapes Go.WideShapes Go.ChangeAt Go.RowKit Go.Proofs.YtlgcciaebkfnjaaGreatDoor.fl Go.Proofs.YtlgcciaebkfnjaaGreatDoor.rn Go.Proofs.YtlgcciaebkfnjaaGreatDoor.ta2
set_option linter.unusedVariables false

theorem cI : Tryz.prog.cellsOf 3 = 1 := by kernel_rfl
theorem cSt : Tryz.prog.cellsOf 57 = 4 := by kernel_rfl
section
variable {H : Type} {enc : TypeId × Value → H} {W : World}
set_option maxRecDepth 100000 in
theorem open_store {b0 : Nat} {v : Value} {d : DataW H} {p : List MemPlace} (hv : Value.okWide Tryz.prog W .any b0 57 v) (h : DataW.Trod enc Tryz.prog W 0 (fun _ => true) true 57 v d p) :
    ∃ (ys : List flP.Pr) (rs : List Rn) (ya ra : Option Addr) (yc rc : Nat) (lg : ByteArray) (sf : Int), v = .agg #[.slice ya ys.length yc, .slice ra rs.length rc, .string lg, .int .i64 sf] ∧ ys.length ≤ maxLen ∧ rs.length ≤ maxLen ∧ (∀ e ∈ ys, flP.ok e) ∧ (∀ e ∈ rs, okR e) ∧ lg.size ≤ maxLen ∧ (Lit.int .i64 sf).wf = true ∧ Row flP.c 3 W W.heap.size ya ys ∧ VR W W.heap.size ra rs := by
  obtain ⟨cs, rfl, hsz⟩ := okWide_struct Tryz.underlying57 hv
  have hsz' := hsz.trans cSt
  obtain ⟨fuel, hf0⟩ := h
  obtain ⟨xs, m, _, _, hlen, hxl, hf⟩ := DataW.trod_struct Tryz.underlying57 hf0
  obtain ⟨l⟩ := cs
  match xs, hxl, l, hsz' with
  | [y0, y1, y2], _, [v0, v1, v2, v3], _ =>
    have g0 := hf 0 _ rfl
    have g1 := hf 1 _ rfl
    have g2 := hf 2 _ rfl
    simp [Value.cells, cT, cS, cI] at g0 g1 g2
    obtain ⟨zs, m2, _, _, hlen2, hzl, hf2⟩ := DataW.trod_struct Tryz.underlying55 g0
    match zs, hzl with
    | [z0, z1], _ =>
      have e0 := hf2 0 _ rfl
      have e1 := hf2 1 _ rfl
      simp [cPs, cPss] at e0 e1
      obtain ⟨ya, ys, yc, rfl, h1, h2, h3⟩ := open_pairs e0
      obtain ⟨ra, rs, rc, rfl, k1, k2, k3⟩ := open_row (c := cR) (ok := fun r => okR r ∧ Row flP.c 3 W W.heap.size r.a r.l) cR_len (by omega) Tryz.underlying53 cPs open_run e1
      obtain ⟨s2, q2, _, w2⟩ := DataW.trod_string Tryz.underlying9 g1
      obtain ⟨n3, q3, _, w3⟩ := DataW.trod_int Tryz.underlying3 g2
      simp at q2 q3
      subst q2 q3
      exact ⟨ys, rs, ya, ra, yc, rc, s2, n3, rfl, h1, k1, h2, fun e he => (k2 e he).1, w2, w3, h3, k3, fun e he => (k2 e he).2⟩
end
end Go.Proofs.YtlgcciaebkfnjaaGreatDoor.sa2
