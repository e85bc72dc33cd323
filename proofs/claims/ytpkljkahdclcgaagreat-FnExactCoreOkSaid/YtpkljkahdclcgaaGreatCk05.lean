/- A queue that comes in as an argument, opened: its two lists as they lie in memory. -/
import Derived.Test.YtpkljkahdclcgaaGreatRouteSize
import Derived.Deep.SlicePairs
import Derived.Deep.Strs
import Derived.Lib.SmallJoins
import Derived.ProofKit
import Derived.OpenShut
import Derived.Test.YtpkljkahdclcgaaGreatFlatLib
import Derived.Test.YtpkljkahdclcgaaGreatFlHeld

/- Routes that come in as an argument, opened: its two lists as they lie in memory. -/
namespace Go.Proofs.YtpkljkahdclcgaaGreat.rg
open Go.ChangeShapes Go.WideShapes Go.ChangeAt Go.RowKit Go.Proofs.YtpkljkahdclcgaaGreat.rr Go.Proofs.YtpkljkahdclcgaaGreat.ra
set_option linter.unusedVariables false

theorem add_at {b off : Nat} (i : Nat) : (⟨b, off, none⟩ : Addr).add i = ⟨b, off + i, none⟩ := by unfold Addr.add; split <;> simp_all

instance : Inhabited Ex := ⟨⟨ByteArray.empty, 0⟩⟩
instance : Inhabited Bi := ⟨⟨ByteArray.empty, ByteArray.empty, ByteArray.empty⟩⟩

theorem se_of {W : World} {a : Addr} {l : List Ex} (hc : ∀ (i : Nat) (e : Ex), l[i]? = some e → W.cell? (a.add (i * 2)) = some (.string e.n) ∧ W.cell? (a.add (i * 2 + 1)) = some (.int .i64 e.k)) : SE W W.heap.size (some a) l := by
  cases l with
  | nil => exact .inl rfl
  | cons y r =>
    obtain ⟨b, off, spot⟩ := a
    have h0 := (hc 0 y rfl).1
    have hspot : spot = none := by simpa [Addr.add] using World.cell?_spot h0
    subst hspot
    refine .inr ⟨b, off, rfl, block_lt_of_cell h0, fun i x hx => ?_⟩
    have h := hc i x hx
    rw [add_at, add_at] at h
    exact h

theorem sb_of {W : World} {a : Addr} {l : List Bi} (hc : ∀ (i : Nat) (e : Bi), l[i]? = some e → W.cell? (a.add (i * 3)) = some (.string e.x) ∧ W.cell? (a.add (i * 3 + 1)) = some (.string e.k) ∧ W.cell? (a.add (i * 3 + 2)) = some (.string e.q)) : SB W W.heap.size (some a) l := by
  cases l with
  | nil => exact .inl rfl
  | cons y r =>
    obtain ⟨b, off, spot⟩ := a
    have h0 := (hc 0 y rfl).1
    have hspot : spot = none := by simpa [Addr.add] using World.cell?_spot h0
    subst hspot
    refine .inr ⟨b, off, rfl, block_lt_of_cell h0, fun i x hx => ?_⟩
    have h := hc i x hx
    rw [add_at, add_at, add_at] at h
    exact h

section
variable {H : Type} {enc : TypeId × Value → H}

theorem open_triples {P : Program} {w : World} {base : Nat} {held : Bool} {t e : TypeId} {f0 f1 f2 : Field} {fuel : Nat} {cs : List Value} {x : DataW H × List MemPlace} (ht : P.underlying t = some (.slice e)) (he : P.underlying e = some (.struct #[f0, f1, f2]))
    (ce : P.cellsOf e = 3) (o0 : f0.offset = 0) (o1 : f1.offset = 1) (o2 : f2.offset = 2) (c0 : P.cellsOf f0.type = 1) (c1 : P.cellsOf f1.type = 1) (c2 : P.cellsOf f2.type = 1)
    (h : DataW.trod enc P w base (fun _ => true) held fuel t cs = some x) :
    cs = [.slice none 0 0] ∨
    ∃ (a : Addr) (len cap : Nat), cs = [.slice (some a) len cap] ∧ len ≤ cap ∧ cap ≤ maxLen ∧
      ∀ i, i < len → ∃ (v0 v1 v2 : Value) (y0 y1 y2 : DataW H × List MemPlace) (n : Nat), w.cell? (a.add (i * 3)) = some v0 ∧ w.cell? (a.add (i * 3 + 1)) = some v1 ∧ w.cell? (a.add (i * 3 + 2)) = some v2 ∧
        DataW.trod enc P w base (fun _ => true) held n f0.type [v0] = some y0 ∧ DataW.trod enc P w base (fun _ => true) held n f1.type [v1] = some y1 ∧ DataW.trod enc P w base (fun _ => true) held n f2.type [v2] = some y2 := by
  rcases Deep.open_slice ht h with ⟨h0, _⟩ | ⟨a, len, cap, m, n, D, Pl, rfl, hb, hl, hm, hmm, rfl, hx⟩
  · exact .inl h0
  refine .inr ⟨a, len, cap, rfl, hl, hm, fun i hi => ?_⟩
  simp at hmm
  obtain ⟨cs', h1, h2⟩ := hx i (by omega)
  rw [ce] at h1
  obtain ⟨_, hlen, hcell⟩ := World.cells?_some h1
  obtain ⟨xs, k, hk, hxy, _, hxl, hf⟩ := DataW.trod_struct he h2
  match xs, hxl, cs', hlen with
  | [y0, y1, y2], _, [v0, v1, v2], _ =>
    have g0 := hf 0 f0 rfl
    have g1 := hf 1 f1 rfl
    have g2 := hf 2 f2 rfl
    simp [o0, o1, o2, c0, c1, c2] at g0 g1 g2
    have e0 := hcell 0 (by omega)
    have e1 := hcell 1 (by omega)
    have e2 := hcell 2 (by omega)
    rw [Deep.add_add] at e0 e1 e2
    exact ⟨v0, v1, v2, y0, y1, y2, k, by simpa using e0, by simpa using e1, by simpa using e2, g0, g1, g2⟩

set_option maxRecDepth 100000 in
theorem open_exchanges {W : World} {n : Nat} {v : Value} {y : DataW H × List MemPlace} (h : DataW.trod enc Tryz.prog W 0 (fun _ => true) true n 22 [v] = some y) :
    ∃ (a : Option Addr) (es : List Ex) (cap : Nat), v = .slice a es.length cap ∧ es.length ≤ maxLen ∧ (∀ e ∈ es, e.n.size ≤ maxLen) ∧ SE W W.heap.size a es := by
  rcases Deep.open_slice_pairs Tryz.underlying22 Tryz.underlying183 (by kernel_rfl) rfl rfl (by kernel_rfl) (by kernel_rfl) h with ⟨hcs, _⟩ | ⟨a, len, cap, m, k, V0, V1, D0, D1, P0, P1, hcs, _, hl, hm, hmm, _, hx⟩
  · simp at hcs
    exact ⟨none, [], 0, hcs, by simp, by simp, .inl rfl⟩
  · simp at hcs hmm
    have each : ∀ i, i < len → ∃ e : Ex, e.n.size ≤ maxLen ∧ W.cell? (a.add (i * 2)) = some (.string e.n) ∧ W.cell? (a.add (i * 2 + 1)) = some (.int .i64 e.k) := fun i hi => by
      obtain ⟨c0, c1, t0, t1⟩ := hx i (by omega)
      obtain ⟨s, e0, _, ws⟩ := DataW.trod_string Tryz.underlying9 t0
      obtain ⟨z, e1, _, wz⟩ := DataW.trod_int Tryz.underlying3 t1
      simp at e0 e1
      exact ⟨⟨s, z⟩, ws, by rw [c0, e0], by rw [c1, e1]⟩
    obtain ⟨E, hE⟩ := Deep.choose_lt each
    refine ⟨some a, (List.range len).map E, cap, by simpa using hcs, by simp; omega, ?_, se_of fun i x hi => ?_⟩
    · intro x hxm
      obtain ⟨i, hi, rfl⟩ := List.mem_map.1 hxm
      exact (hE i (List.mem_range.1 hi)).1
    · have hlt := (List.getElem?_eq_some_iff.1 hi).1
      simp at hlt
      have he := (List.getElem?_eq_some_iff.1 hi).2
      simp at he
      subst he
      exact (hE i hlt).2

set_option maxRecDepth 100000 in
theorem open_bindings {W : World} {n : Nat} {v : Value} {y : DataW H × List MemPlace} (h : DataW.trod enc Tryz.prog W 0 (fun _ => true) true n 23 [v] = some y) :
    ∃ (a : Option Addr) (bs : List Bi) (cap : Nat), v = .slice a bs.length cap ∧ bs.length ≤ maxLen ∧ (∀ e ∈ bs, e.x.size ≤ maxLen ∧ e.k.size ≤ maxLen ∧ e.q.size ≤ maxLen) ∧ SB W W.heap.size a bs := by
  rcases open_triples Tryz.underlying23 Tryz.underlying185 (by kernel_rfl) rfl rfl rfl (by kernel_rfl) (by kernel_rfl) (by kernel_rfl) h with hcs | ⟨a, len, cap, hcs, hl, hm, hx⟩
  · simp at hcs
    exact ⟨none, [], 0, hcs, by simp, by simp, .inl rfl⟩
  · simp at hcs
    have each : ∀ i, i < len → ∃ e : Bi, (e.x.size ≤ maxLen ∧ e.k.size ≤ maxLen ∧ e.q.size ≤ maxLen) ∧ W.cell? (a.add (i * 3)) = some (.string e.x) ∧ W.cell? (a.add (i * 3 + 1)) = some (.string e.k) ∧ W.cell? (a.add (i * 3 + 2)) = some (.string e.q) := fun i hi => by
      obtain ⟨v0, v1, v2, y0, y1, y2, k, c0, c1, c2, t0, t1, t2⟩ := hx i hi
      obtain ⟨s, e0, _, ws⟩ := DataW.trod_string Tryz.underlying9 t0
      obtain ⟨u, e1, _, wu⟩ := DataW.trod_string Tryz.underlying9 t1
      obtain ⟨q, e2, _, wq⟩ := DataW.trod_string Tryz.underlying9 t2
      simp at e0 e1 e2
      exact ⟨⟨s, u, q⟩, ⟨ws, wu, wq⟩, by rw [c0, e0], by rw [c1, e1], by rw [c2, e2]⟩
    obtain ⟨E, hE⟩ := Deep.choose_lt each
    refine ⟨some a, (List.range len).map E, cap, by simpa using hcs, by simp; omega, ?_, sb_of fun i x hi => ?_⟩
    · intro x hxm
      obtain ⟨i, hi, rfl⟩ := List.mem_map.1 hxm
      exact (hE i (List.mem_range.1 hi)).1
    · have hlt := (List.getElem?_eq_some_iff.1 hi).1
      simp at hlt
      have he := (List.getElem?_eq_some_iff.1 hi).2
      simp at he
      subst he
      exact (hE i hlt).2

theorem cellsR : Tryz.prog.cellsOf 25 = 2 := by kernel_rfl

set_option maxRecDepth 100000 in
theorem open_routes {W : World} {b0 : Nat} {v : Value} {d : DataW H} {p : List MemPlace} (hv : Value.okWide Tryz.prog W .any b0 25 v) (h : DataW.Trod enc Tryz.prog W 0 (fun _ => true) true 25 v d p) :
    ∃ (es : List Ex) (bs : List Bi) (ea ba : Option Addr) (ec bc : Nat), v = .agg #[.slice ea es.length ec, .slice ba bs.length bc] ∧ es.length ≤ maxLen ∧ bs.length ≤ maxLen ∧ (∀ e ∈ es, e.n.size ≤ maxLen) ∧
      (∀ e ∈ bs, e.x.size ≤ maxLen ∧ e.k.size ≤ maxLen ∧ e.q.size ≤ maxLen) ∧ SE W W.heap.size ea es ∧ SB W W.heap.size ba bs := by
  obtain ⟨x0, x1, y0, y1, m, rfl, _, _, hy0, hy1⟩ := Joins.open_agg2 Tryz.underlying25 (by kernel_rfl) cellsR hv h
  obtain ⟨ea, es, ec, rfl, h1, h2, h3⟩ := open_exchanges hy0
  obtain ⟨ba, bs, bc, rfl, g1, g2, g3⟩ := open_bindings hy1
  exact ⟨es, bs, ea, ba, ec, bc, rfl, h1, g1, h2, g2, h3, g3⟩
end
end Go.Proofs.YtpkljkahdclcgaaGreat.rg

/- A list of structures that comes in as an argument, opened: as it lies in memory. -/
namespace Go.Proofs.YtpkljkahdclcgaaGreat.fl
open Go.ChangeShapes Go.WideShapes Go.ChangeAt Go.RowKit
set_option linter.unusedVariables false

theorem add_at {b off : Nat} (i : Nat) : (⟨b, off, none⟩ : Addr).add i = ⟨b, off + i, none⟩ := by unfold Addr.add; split <;> simp_all

theorem row_of {α : Type} {c : α → List Value} {n : Nat} {W : World} {a : Addr} {l : List α} (hn : ∀ e, (c e).length = n) (h0 : 0 < n) (hc : ∀ (i : Nat) (e : α), l[i]? = some e → ∀ (j : Nat) (v : Value), (c e)[j]? = some v → W.cell? (a.add (i * n + j)) = some v) : Row c n W W.heap.size (some a) l := by
  cases l with
  | nil => exact .inl rfl
  | cons y r =>
    obtain ⟨b, off, spot⟩ := a
    have hy : 0 < (c y).length := by rw [hn]; exact h0
    have h0 := hc 0 y rfl 0 _ (List.getElem?_eq_getElem hy)
    have hspot : spot = none := by simpa [Addr.add] using World.cell?_spot h0
    subst hspot
    refine .inr ⟨b, off, rfl, by have := block_lt_of_cell h0; rw [add_at] at this; exact this, fun i x hx j v hv => ?_⟩
    have h := hc i x hx j v hv
    rw [add_at, ← Nat.add_assoc] at h
    exact h

section
variable {H : Type} {enc : TypeId × Value → H}
theorem open_row {α : Type} [Inhabited α] {c : α → List Value} {n : Nat} {ok : α → Prop} {P : Program} {W : World} {held : Bool} {fuel : Nat} {t e : TypeId} {v : Value} {y : DataW H × List MemPlace} (hn : ∀ e, (c e).length = n) (h0 : 0 < n)
    (ht : P.underlying t = some (.slice e)) (ce : P.cellsOf e = n)
    (hel : ∀ (cs : List Value) (k : Nat) (x : DataW H × List MemPlace), DataW.trod enc P W 0 (fun _ => true) held k e cs = some x → ∃ a, cs = c a ∧ ok a)
    (h : DataW.trod enc P W 0 (fun _ => true) held fuel t [v] = some y) :
    ∃ (a : Option Addr) (l : List α) (cap : Nat), v = .slice a l.length cap ∧ l.length ≤ maxLen ∧ (∀ e ∈ l, ok e) ∧ Row c n W W.heap.size a l := by
  rcases Deep.open_slice ht h with ⟨hcs, _⟩ | ⟨a, len, cap, m, k, D, Pl, hcs, hb, hl, hm, hmm, _, hx⟩
  · simp at hcs
    exact ⟨none, [], 0, hcs, by simp, by simp, .inl rfl⟩
  · simp at hcs hmm
    have each : ∀ i, i < len → ∃ x : α, ok x ∧ ∀ (j : Nat) (v : Value), (c x)[j]? = some v → W.cell? (a.add (i * n + j)) = some v := fun i hi => by
      obtain ⟨cs', h1, h2⟩ := hx i (by omega)
      rw [ce] at h1
      obtain ⟨_, hlen, hcell⟩ := World.cells?_some h1
      obtain ⟨x, rfl, hok⟩ := hel cs' k _ h2
      refine ⟨x, hok, fun j v hv => ?_⟩
      have hj := (List.getElem?_eq_some_iff.1 hv).1
      have hh := hcell j (by rw [hn] at hj; exact hj)
      rw [Deep.add_add] at hh
      rw [hh]
      simpa using hv
    obtain ⟨E, hE⟩ := Deep.choose_lt each
    refine ⟨some a, (List.range len).map E, cap, by simpa using hcs, by simp; omega, ?_, row_of hn h0 fun i x hi => ?_⟩
    · intro x hxm
      obtain ⟨i, hi, rfl⟩ := List.mem_map.1 hxm
      exact (hE i (List.mem_range.1 hi)).1
    · have hlt := (List.getElem?_eq_some_iff.1 hi).1
      simp at hlt
      have he := (List.getElem?_eq_some_iff.1 hi).2
      simp at he
      subst he
      exact (hE i hlt).2
end
end Go.Proofs.YtpkljkahdclcgaaGreat.fl

/- A queue that comes in as an argument, opened: its two lists as they lie in memory. -/
namespace Go.Proofs.YtpkljkahdclcgaaGreat.qa
open Go.ChangeShapes Go.WideShapes Go.ChangeAt Go.RowKit Go.Proofs.YtpkljkahdclcgaaGreat.fl
set_option linter.unusedVariables false

instance : Inhabited flM.Ms := ⟨⟨0, ByteArray.empty, ByteArray.empty, ByteArray.empty, false⟩⟩
instance : Inhabited flH.Hd := ⟨⟨0, 0, default⟩⟩
theorem cI : Tryz.prog.cellsOf 3 = 1 := by kernel_rfl
theorem cS : Tryz.prog.cellsOf 9 = 1 := by kernel_rfl
theorem cB : Tryz.prog.cellsOf 4 = 1 := by kernel_rfl
theorem cM : Tryz.prog.cellsOf 220 = 5 := by kernel_rfl
theorem cH : Tryz.prog.cellsOf 223 = 7 := by kernel_rfl
theorem cQ : Tryz.prog.cellsOf 110 = 4 := by kernel_rfl

section
variable {H : Type} {enc : TypeId × Value → H} {W : World}
set_option maxRecDepth 100000 in
theorem open_message (cs : List Value) (k : Nat) (x : DataW H × List MemPlace) (h : DataW.trod enc Tryz.prog W 0 (fun _ => true) true k 220 cs = some x) : ∃ a : flM.Ms, cs = flM.c a ∧ flM.ok a := by
  obtain ⟨xs, m, _, _, hlen, hxl, hf⟩ := DataW.trod_struct Tryz.underlying220 h
  rw [cM] at hlen
  match xs, hxl, cs, hlen with
  | [y0, y1, y2, y3, y4], _, [v0, v1, v2, v3, v4], _ =>
    have g0 := hf 0 _ rfl
    have g1 := hf 1 _ rfl
    have g2 := hf 2 _ rfl
    have g3 := hf 3 _ rfl
    have g4 := hf 4 _ rfl
    simp [cI, cS, cB] at g0 g1 g2 g3 g4
    obtain ⟨z, e0, _, _⟩ := DataW.trod_int Tryz.underlying3 g0
    obtain ⟨s1, e1, _, w1⟩ := DataW.trod_string Tryz.underlying9 g1
    obtain ⟨s2, e2, _, w2⟩ := DataW.trod_string Tryz.underlying9 g2
    obtain ⟨s3, e3, _, w3⟩ := DataW.trod_string Tryz.underlying9 g3
    obtain ⟨b, e4, _⟩ := DataW.trod_bool Tryz.underlying4 g4
    simp at e0 e1 e2 e3 e4
    subst e0 e1 e2 e3 e4
    exact ⟨⟨z, s1, s2, s3, b⟩, rfl, w1, w2, w3⟩
set_option maxRecDepth 100000 in
theorem open_held (cs : List Value) (k : Nat) (x : DataW H × List MemPlace) (h : DataW.trod enc Tryz.prog W 0 (fun _ => true) true k 223 cs = some x) : ∃ a : flH.Hd, cs = flH.c a ∧ flH.ok a := by
  obtain ⟨xs, m, _, _, hlen, hxl, hf⟩ := DataW.trod_struct Tryz.underlying223 h
  rw [cH] at hlen
  match xs, hxl, cs, hlen with
  | [y0, y1, y2], _, [v0, v1, v2, v3, v4, v5, v6], _ =>
    have g0 := hf 0 _ rfl
    have g1 := hf 1 _ rfl
    have g2 := hf 2 _ rfl
    simp [cI, cM] at g0 g1 g2
    obtain ⟨z, e0, _, _⟩ := DataW.trod_int Tryz.underlying3 g0
    obtain ⟨o, e1, _, _⟩ := DataW.trod_int Tryz.underlying3 g1
    obtain ⟨ms, e2, hok⟩ := open_message _ _ _ g2
    simp [flM.c] at e0 e1 e2
    obtain ⟨rfl, rfl, rfl, rfl, rfl⟩ := e2
    subst e0 e1
    exact ⟨⟨z, o, ms⟩, rfl, hok⟩

set_option maxRecDepth 100000 in
theorem open_queue {b0 : Nat} {v : Value} {d : DataW H} {p : List MemPlace} (hv : Value.okWide Tryz.prog W .any b0 110 v) (h : DataW.Trod enc Tryz.prog W 0 (fun _ => true) true 110 v d p) :
    ∃ (nm : ByteArray) (nx : Int) (rs : List flM.Ms) (hs : List flH.Hd) (ra ha : Option Addr) (rc hc : Nat), v = .agg #[.string nm, .int .i64 nx, .slice ra rs.length rc, .slice ha hs.length hc] ∧ nm.size ≤ maxLen ∧ (Lit.int .i64 nx).wf = true ∧ rs.length ≤ maxLen ∧ hs.length ≤ maxLen ∧ (∀ e ∈ rs, flM.ok e) ∧ (∀ e ∈ hs, flH.ok e) ∧
      Row flM.c 5 W W.heap.size ra rs ∧ Row flH.c 7 W W.heap.size ha hs := by
  obtain ⟨x0, x1, x2, x3, y0, y1, y2, y3, m, rfl, _, _, hy0, hy1, hy2, hy3⟩ := Joins.open_agg4 Tryz.underlying110 (by kernel_rfl) cQ hv h
  obtain ⟨nm, e0, _, w0⟩ := DataW.trod_string Tryz.underlying9 hy0
  obtain ⟨nx, e1, _, w1⟩ := DataW.trod_int Tryz.underlying3 hy1
  simp at e0 e1
  subst e0 e1
  obtain ⟨ra, rs, rc, rfl, h1, h2, h3⟩ := open_row flM.c_len (by omega) Tryz.underlying107 cM open_message hy2
  obtain ⟨ha, hs, hc, rfl, g1, g2, g3⟩ := open_row flH.c_len (by omega) Tryz.underlying108 cH open_held hy3
  exact ⟨nm, nx, rs, hs, ra, ha, rc, hc, rfl, w0, w1, h1, g1, h2, g2, h3, g3⟩
end
end Go.Proofs.YtpkljkahdclcgaaGreat.qa
