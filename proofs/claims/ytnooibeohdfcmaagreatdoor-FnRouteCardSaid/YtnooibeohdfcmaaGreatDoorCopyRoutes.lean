/- copyRoutes: the same routes in rows of their own; nothing that was there is turned. -/
import Derived.Test.YtnooibeohdfcmaaGreatDoorCopyBinding
import Derived.Test.YtnooibeohdfcmaaGreatDoorRouteLib
namespace Go.Proofs.YtnooibeohdfcmaaGreatDoor.cr
open Go.ChangeShapes Go.WideShapes Go.ChangeAt Go.RowKit Go.Proofs.YtnooibeohdfcmaaGreatDoor.rr Go.Proofs.YtnooibeohdfcmaaGreatDoor.ra Go.Proofs.YtnooibeohdfcmaaGreatDoor.rt Go.Proofs.YtnooibeohdfcmaaGreatDoor.fl
set_option linter.unusedVariables false

theorem make_E (W : World) (l : List Ex) (hl : l.length ≤ 1048576) : (Instr.makeSlice 24 (.int .i64 (l.length : Int)) (.int .i64 (l.length : Int))).run Tryz.prog W = .ok (.slice (some ⟨W.heap.size, 0, none⟩) l.length l.length) (W.alloc (.cells (madeCells #[.string ByteArray.empty, .int .i64 0] (l.length * 2)) 75)) := by
  obtain ⟨i0, hi, hz0, hz1, hz2⟩ : ∃ i0, Tryz.prog.info? 75 = some i0 ∧ i0.zero = some (.agg #[.string ByteArray.empty, .int .i64 0]) ∧ i0.size = 2 ∧ i0.bytes = 24 := by
    have h := infoE
    cases hh : Tryz.prog.info? 75 with
    | none => rw [hh] at h; cases h
    | some i => rw [hh] at h; simp at h; exact ⟨i, rfl, h.1, h.2.1, h.2.2⟩
  have hmk := run_makeSlice (P := Tryz.prog) W 24 75 i0 _ Tryz.underlying24 hi hz0 .i64 .i64 (l.length : Int) (l.length : Int) (by omega) (Int.le_refl _) (by rw [hz1]; simp; omega) (by rw [hz2]; omega) (by omega)
  rw [hz1, show ((l.length : Int)).toNat = l.length by omega] at hmk
  exact hmk
theorem make_B (W : World) (l : List Bi) (hl : l.length ≤ 1048576) : (Instr.makeSlice 25 (.int .i64 (l.length : Int)) (.int .i64 (l.length : Int))).run Tryz.prog W = .ok (.slice (some ⟨W.heap.size, 0, none⟩) l.length l.length) (W.alloc (.cells (madeCells #[.string ByteArray.empty, .string ByteArray.empty, .string ByteArray.empty] (l.length * 3)) 45)) := by
  obtain ⟨i0, hi, hz0, hz1, hz2⟩ : ∃ i0, Tryz.prog.info? 45 = some i0 ∧ i0.zero = some (.agg #[.string ByteArray.empty, .string ByteArray.empty, .string ByteArray.empty]) ∧ i0.size = 3 ∧ i0.bytes = 48 := by
    have h := infoB
    cases hh : Tryz.prog.info? 45 with
    | none => rw [hh] at h; cases h
    | some i => rw [hh] at h; simp at h; exact ⟨i, rfl, h.1, h.2.1, h.2.2⟩
  have hmk := run_makeSlice (P := Tryz.prog) W 25 45 i0 _ Tryz.underlying25 hi hz0 .i64 .i64 (l.length : Int) (l.length : Int) (by omega) (Int.le_refl _) (by rw [hz1]; simp; omega) (by rw [hz2]; omega) (by omega)
  rw [hz1, show ((l.length : Int)).toNat = l.length by omega] at hmk
  exact hmk

theorem FE.keptE {w w' : World} {g k : Nat} {l : List Ex} (h : FE w g l k) (hg : w'.heap[g]? = w.heap[g]?) : FE w' g l k := by
  obtain ⟨cur, h1, h2⟩ := h
  exact ⟨cur, by rw [hg]; exact h1, h2⟩
theorem FB.keptB {w w' : World} {g k : Nat} {l : List Bi} (h : FB w g l k) (hg : w'.heap[g]? = w.heap[g]?) : FB w' g l k := by
  obtain ⟨cur, h1, h2⟩ := h
  exact ⟨cur, by rw [hg]; exact h1, h2⟩

/-- a row of its own, no greater than its list; its first k are laid -/
def XE (w : World) (g : Nat) (l : List Ex) (k : Nat) : Prop := ∃ cur, w.heap[g]? = some (.cells cur 75 (0, 0)) ∧ cur.size = l.length * 2 ∧ ∀ (i : Nat) (e : Ex), i < k → l[i]? = some e → cur[i * 2]? = some (.string e.n) ∧ cur[i * 2 + 1]? = some (.int .i64 e.k)
theorem XE.at {w : World} {g k : Nat} {l : List Ex} (h : XE w g l k) (o : Nat) (ho : o < l.length * 2) : ∃ v, w.cell? ⟨g, o, none⟩ = some v := by
  obtain ⟨cur, hg, hs, _⟩ := h
  exact ⟨cur[o]'(by omega), by simp [World.cell?, hg, Array.getElem?_eq_getElem (show o < cur.size by omega)]⟩
theorem XE.free {w : World} {g k : Nat} {l : List Ex} (h : XE w g l k) (o : Nat) : w.frozen? ⟨g, o, none⟩ = false := by
  obtain ⟨cur, hg, _⟩ := h
  simp [World.frozen?, hg]
theorem XE.below {w w' : World} {g k B : Nat} {l : List Ex} (h : XE w g l k) (hb : Below B w w') (hg : g < B) : XE w' g l k := by
  obtain ⟨cur, h1, h2⟩ := h
  exact ⟨cur, by rw [hb.block g hg]; exact h1, h2⟩
theorem XE.lt {w : World} {g k : Nat} {l : List Ex} (h : XE w g l k) : g < w.heap.size := by
  obtain ⟨cur, hg, _⟩ := h
  exact (Array.getElem?_eq_some_iff.1 hg).1
theorem XE.set {w : World} {g k : Nat} {l : List Ex} {e : Ex} (h : XE w g l k) (he : l[k]? = some e) : XE ((w.setCell ⟨g, k * 2, none⟩ (.string e.n)).setCell ⟨g, k * 2 + 1, none⟩ (.int .i64 e.k)) g l (k + 1) := by
  obtain ⟨cur, h1, h2, h3⟩ := h
  have hk := (List.getElem?_eq_some_iff.1 he).1
  have s0 := heap_setCell_same w g (k * 2) cur _ (.string e.n) h1
  have s1 := heap_setCell_same (w.setCell ⟨g, k * 2, none⟩ (.string e.n)) g (k * 2 + 1) (cur.setIfInBounds (k * 2) (.string e.n)) _ (.int .i64 e.k) s0
  refine ⟨_, s1, by simpa using h2, fun i f hi hf => ?_⟩
  by_cases ei : i = k
  · subst ei
    rw [he] at hf
    cases hf
    simp [Array.getElem?_setIfInBounds]
    omega
  · have hold := h3 i f (by omega) hf
    simp only [Array.getElem?_setIfInBounds]
    repeat rw [if_neg (by omega)]
    exact hold
theorem XE.all {w : World} {g : Nat} {l : List Ex} (h : XE w g l l.length) : RE w g l := by
  have hlt := h.lt
  obtain ⟨cur, hg, _, hc⟩ := h
  refine ⟨hlt, fun i e he => ?_⟩
  have hx := hc i e (List.getElem?_eq_some_iff.1 he).1 he
  simp only [World.cell?, hg]
  simpa using hx
theorem madeXE (w : World) (l : List Ex) : XE (w.alloc (.cells (madeCells #[.string ByteArray.empty, .int .i64 0] (l.length * 2)) 75)) w.heap.size l 0 :=
  ⟨_, heap_alloc_new w _, size_madeCells _ _, fun i e hi => by omega⟩

theorem XE.keptE {w w' : World} {g k : Nat} {l : List Ex} (h : XE w g l k) (hg : w'.heap[g]? = w.heap[g]?) : XE w' g l k := by
  obtain ⟨cur, h1, h2⟩ := h
  exact ⟨cur, by rw [hg]; exact h1, h2⟩
theorem XE.f {w : World} {g k : Nat} {l : List Ex} (h : XE w g l k) : FE w g l k := by
  obtain ⟨cur, h1, h2, h3⟩ := h
  exact ⟨cur, h1, Nat.le_of_eq h2.symm, h3⟩
/-- a row of its own, no greater than its list; its first k are laid -/
def XB (w : World) (g : Nat) (l : List Bi) (k : Nat) : Prop := ∃ cur, w.heap[g]? = some (.cells cur 45 (0, 0)) ∧ cur.size = l.length * 3 ∧ ∀ (i : Nat) (e : Bi), i < k → l[i]? = some e → cur[i * 3]? = some (.string e.x) ∧ cur[i * 3 + 1]? = some (.string e.k) ∧ cur[i * 3 + 2]? = some (.string e.q)
theorem XB.at {w : World} {g k : Nat} {l : List Bi} (h : XB w g l k) (o : Nat) (ho : o < l.length * 3) : ∃ v, w.cell? ⟨g, o, none⟩ = some v := by
  obtain ⟨cur, hg, hs, _⟩ := h
  exact ⟨cur[o]'(by omega), by simp [World.cell?, hg, Array.getElem?_eq_getElem (show o < cur.size by omega)]⟩
theorem XB.free {w : World} {g k : Nat} {l : List Bi} (h : XB w g l k) (o : Nat) : w.frozen? ⟨g, o, none⟩ = false := by
  obtain ⟨cur, hg, _⟩ := h
  simp [World.frozen?, hg]
theorem XB.below {w w' : World} {g k B : Nat} {l : List Bi} (h : XB w g l k) (hb : Below B w w') (hg : g < B) : XB w' g l k := by
  obtain ⟨cur, h1, h2⟩ := h
  exact ⟨cur, by rw [hb.block g hg]; exact h1, h2⟩
theorem XB.lt {w : World} {g k : Nat} {l : List Bi} (h : XB w g l k) : g < w.heap.size := by
  obtain ⟨cur, hg, _⟩ := h
  exact (Array.getElem?_eq_some_iff.1 hg).1
theorem XB.set {w : World} {g k : Nat} {l : List Bi} {e : Bi} (h : XB w g l k) (he : l[k]? = some e) : XB (((w.setCell ⟨g, k * 3, none⟩ (.string e.x)).setCell ⟨g, k * 3 + 1, none⟩ (.string e.k)).setCell ⟨g, k * 3 + 2, none⟩ (.string e.q)) g l (k + 1) := by
  obtain ⟨cur, h1, h2, h3⟩ := h
  have hk := (List.getElem?_eq_some_iff.1 he).1
  have s0 := heap_setCell_same w g (k * 3) cur _ (.string e.x) h1
  have s1 := heap_setCell_same (w.setCell ⟨g, k * 3, none⟩ (.string e.x)) g (k * 3 + 1) (cur.setIfInBounds (k * 3) (.string e.x)) _ (.string e.k) s0
  have s2 := heap_setCell_same ((w.setCell ⟨g, k * 3, none⟩ (.string e.x)).setCell ⟨g, k * 3 + 1, none⟩ (.string e.k)) g (k * 3 + 2) ((cur.setIfInBounds (k * 3) (.string e.x)).setIfInBounds (k * 3 + 1) (.string e.k)) _ (.string e.q) s1
  refine ⟨_, s2, by simpa using h2, fun i f hi hf => ?_⟩
  by_cases ei : i = k
  · subst ei
    rw [he] at hf
    cases hf
    simp [Array.getElem?_setIfInBounds]
    omega
  · have hold := h3 i f (by omega) hf
    simp only [Array.getElem?_setIfInBounds]
    repeat rw [if_neg (by omega)]
    exact hold
theorem XB.all {w : World} {g : Nat} {l : List Bi} (h : XB w g l l.length) : RB w g l := by
  have hlt := h.lt
  obtain ⟨cur, hg, _, hc⟩ := h
  refine ⟨hlt, fun i e he => ?_⟩
  have hx := hc i e (List.getElem?_eq_some_iff.1 he).1 he
  simp only [World.cell?, hg]
  simpa using hx
theorem madeXB (w : World) (l : List Bi) : XB (w.alloc (.cells (madeCells #[.string ByteArray.empty, .string ByteArray.empty, .string ByteArray.empty] (l.length * 3)) 45)) w.heap.size l 0 :=
  ⟨_, heap_alloc_new w _, size_madeCells _ _, fun i e hi => by omega⟩

theorem XB.keptB {w w' : World} {g k : Nat} {l : List Bi} (h : XB w g l k) (hg : w'.heap[g]? = w.heap[g]?) : XB w' g l k := by
  obtain ⟨cur, h1, h2⟩ := h
  exact ⟨cur, by rw [hg]; exact h1, h2⟩
theorem XB.f {w : World} {g k : Nat} {l : List Bi} (h : XB w g l k) : FB w g l k := by
  obtain ⟨cur, h1, h2, h3⟩ := h
  exact ⟨cur, h1, Nat.le_of_eq h2.symm, h3⟩

/-- where the rows and the answer come to lie, and what the answer is built of -/
structure G where
  ge : Nat
  gb : Nat
  gn : Nat
  xe : Nat
  xb : Nat
def ws (s n m : Nat) (a0 b0 : Option Addr) (ec bc : Nat) (g : G) : List (Nat × Value) := [(8, .pointer (some ⟨s, 0, none⟩)), (9, .slice a0 n ec), (10, .int .i64 n), (11, .slice (some ⟨g.ge, 0, none⟩) n n), (12, .pointer (some ⟨s, 1, none⟩)), (13, .slice b0 m bc), (14, .int .i64 m), (15, .slice (some ⟨g.gb, 0, none⟩) m m), (16, .agg #[.slice (some ⟨g.xe, 0, none⟩) n n, .slice (some ⟨g.xb, 0, none⟩) m m]), (3, .pointer (some ⟨g.gn, 0, none⟩))]
/-- the worlds on the way -/
structure D (w : World) (es : List Ex) (bs : List Bi) (a0 b0 : Option Addr) (ec bc : Nat) (g : G) (b3 b7 b8 b9 b10 : Bool) (W : World) : Prop where
  bel : Below w.heap.size w W
  box : W.heap[w.heap.size]? = some (.cells #[.slice a0 es.length ec, .slice b0 bs.length bc] 27 (0, 0))
  res : W.heap[w.heap.size + 1]? = some (.cells #[.slice none 0 0, .slice none 0 0] 27 (0, 0))
  row3 : b3 = true → XE W g.ge es 0 ∧ w.heap.size + 2 ≤ g.ge
  row7 : b7 = true → XB W g.gb bs 0 ∧ w.heap.size + 2 ≤ g.gb
  at8 : b8 = true → b3 = true ∧ b7 = true ∧ g.xe = g.ge ∧ g.xb = g.gb
  at9 : b9 = true → W.heap[g.gn]? = some (.cells (if b10 then #[.slice (some ⟨g.xe, 0, none⟩) es.length es.length, .slice (some ⟨g.xb, 0, none⟩) bs.length bs.length] else #[.slice none 0 0, .slice none 0 0]) 27 (0, 0)) ∧ w.heap.size + 2 ≤ g.gn
  at10 : b10 = true → b8 = true ∧ b9 = true
def C (w : World) (es : List Ex) (bs : List Bi) (a0 b0 : Option Addr) (ec bc : Nat) (g : G) (L : Nat → Bool) (W : World) : Prop := D w es bs a0 b0 ec bc g (L 3) (L 7) (L 8) (L 9) (L 10) W

section
variable {w : World} {es : List Ex} {bs : List Bi} {a0 b0 : Option Addr} {ec bc : Nat} {g : G} {b3 b7 b8 b9 b10 : Bool} {W W' : World}
theorem D.on (h : D w es bs a0 b0 ec bc g b3 b7 b8 b9 b10 W) (hb : Below W.heap.size W W') : D w es bs a0 b0 ec bc g b3 b7 b8 b9 b10 W' :=
  ⟨h.bel.trans (hb.mono h.bel.size), bstay h.box hb (Array.getElem?_eq_some_iff.1 h.box).1, bstay h.res hb (Array.getElem?_eq_some_iff.1 h.res).1,
    fun e => ⟨(h.row3 e).1.below hb (h.row3 e).1.lt, (h.row3 e).2⟩, fun e => ⟨(h.row7 e).1.below hb (h.row7 e).1.lt, (h.row7 e).2⟩, h.at8,
    fun e => ⟨bstay (h.at9 e).1 hb (Array.getElem?_eq_some_iff.1 (h.at9 e).1).1, (h.at9 e).2⟩, h.at10⟩
theorem D.size (h : D w es bs a0 b0 ec bc g b3 b7 b8 b9 b10 W) : w.heap.size + 2 ≤ W.heap.size := (Array.getElem?_eq_some_iff.1 h.res).1
end

section
variable {w : World} {es : List Ex} {bs : List Bi} {a0 b0 : Option Addr} {ec bc : Nat} {act : Act} {Q : Exit → Act → World → Prop}
/-- an operation that leaves one value and no trace -/
theorem quiet {i : Nat} {o : Oper} (hi : i < 3 ∨ i = 4 ∨ i = 5 ∨ i = 6) (hsel : ∀ cs b, o.op ≠ .select cs b) (v : Value) (hd : ∀ s d, o.dst = some d → (dk.sets act (ws w.heap.size es.length bs.length a0 b0 ec bc s)).tmps[d]? = some v)
    (hrun : ∀ s W, W.heap[w.heap.size]? = some (.cells #[.slice a0 es.length ec, .slice b0 bs.length bc] 27 (0, 0)) → (execOp (dk.sets act (ws w.heap.size es.length bs.length a0 b0 ec bc s)).eval o).run Tryz.prog W = .ok (.value v) W) :
    gh.Step Tryz.prog (fun s => dk.sets act (ws w.heap.size es.length bs.length a0 b0 ec bc s)) (C w es bs a0 b0 ec bc) Q i o := by
  refine gh.step_val hsel fun s L W hdp h0 hC => ⟨s, v, gh.Agree.refl _ _, hd s, ?_⟩
  rw [hrun s W hC.box]
  refine ⟨rfl, ?_⟩
  unfold C dn.more
  rw [if_neg (by omega), if_neg (by omega), if_neg (by omega), if_neg (by omega), if_neg (by omega)]
  exact hC
theorem apartE {W : World} {g h k : Nat} {l : List Ex} {cur : Array Value} (h1 : XE W g l k) (h2 : W.heap[h]? = some (.cells cur 27 (0, 0))) : g ≠ h := by
  rintro rfl
  obtain ⟨c, h3, _⟩ := h1
  rw [h2] at h3
  simp at h3
theorem apartB {W : World} {g h k : Nat} {l : List Bi} {cur : Array Value} (h1 : XB W g l k) (h2 : W.heap[h]? = some (.cells cur 27 (0, 0))) : g ≠ h := by
  rintro rfl
  obtain ⟨c, h3, _⟩ := h1
  rw [h2] at h3
  simp at h3
theorem apartEB {W : World} {g h k m : Nat} {l : List Ex} {l' : List Bi} (h1 : XE W g l k) (h2 : XB W h l' m) : g ≠ h := by
  rintro rfl
  obtain ⟨c, h3, _⟩ := h1
  obtain ⟨c', h4, _⟩ := h2
  rw [h3] at h4
  simp at h4
theorem st3 {o : Oper} (hel : es.length ≤ 1048576) (hsz : 16 < act.tmps.size) (hop : o.op = .makeSlice 24 (.tmp 10) (.tmp 10)) (hdst : o.dst = some 11) :
    gh.Step Tryz.prog (fun s => dk.sets act (ws w.heap.size es.length bs.length a0 b0 ec bc s)) (C w es bs a0 b0 ec bc) Q 3 o := by
  refine gh.step_val (by rw [hop]; simp) fun s L W hdp h0 hC => ⟨{ s with ge := W.heap.size }, .slice (some ⟨W.heap.size, 0, none⟩) es.length es.length, dk.agree_sets 3 11 _ hdst rfl rfl, (fun d hd => by rw [hdst] at hd; cases hd; exact dk.sets_on _ (by omega) _ rfl), ?_⟩
  have e10 : (dk.sets act (ws w.heap.size es.length bs.length a0 b0 ec bc s)).eval (.tmp 10) = .int .i64 es.length := dk.eval_on _ _ (by omega) rfl
  have hr := make_E W es hel
  have hrun : (execOp (dk.sets act (ws w.heap.size es.length bs.length a0 b0 ec bc s)).eval o).run Tryz.prog W = .ok (.value (.slice (some ⟨W.heap.size, 0, none⟩) es.length es.length)) (W.alloc (.cells (madeCells #[.string ByteArray.empty, .int .i64 0] (es.length * 2)) 75)) := by
    simp only [execOp, hop, e10, Sem.run_bind, hr, Result.andThen]
    rfl
  rw [hrun]
  refine ⟨rfl, ?_⟩
  have hC : D w es bs a0 b0 ec bc s (L 3) (L 7) (L 8) (L 9) (L 10) W := hC
  show D w es bs a0 b0 ec bc _ true (L 7) (L 8) (L 9) (L 10) _
  have hb : Below W.heap.size W (W.alloc (.cells (madeCells #[.string ByteArray.empty, .int .i64 0] (es.length * 2)) 75)) := (Below.refl _ _).alloc (Nat.le_refl _) _
  have h1 := hC.on hb
  refine ⟨h1.bel, h1.box, h1.res, fun _ => ⟨madeXE W es, hC.size⟩, h1.row7, fun e => ?_, h1.at9, h1.at10⟩
  have := (h1.at8 e).1
  rw [h0] at this
  cases this
theorem st7 {o : Oper} (hbl : bs.length ≤ 1048576) (hsz : 16 < act.tmps.size) (hop : o.op = .makeSlice 25 (.tmp 14) (.tmp 14)) (hdst : o.dst = some 15) :
    gh.Step Tryz.prog (fun s => dk.sets act (ws w.heap.size es.length bs.length a0 b0 ec bc s)) (C w es bs a0 b0 ec bc) Q 7 o := by
  refine gh.step_val (by rw [hop]; simp) fun s L W hdp h0 hC => ⟨{ s with gb := W.heap.size }, .slice (some ⟨W.heap.size, 0, none⟩) bs.length bs.length, dk.agree_sets 7 15 _ hdst rfl rfl, (fun d hd => by rw [hdst] at hd; cases hd; exact dk.sets_on _ (by omega) _ rfl), ?_⟩
  have e10 : (dk.sets act (ws w.heap.size es.length bs.length a0 b0 ec bc s)).eval (.tmp 14) = .int .i64 bs.length := dk.eval_on _ _ (by omega) rfl
  have hr := make_B W bs hbl
  have hrun : (execOp (dk.sets act (ws w.heap.size es.length bs.length a0 b0 ec bc s)).eval o).run Tryz.prog W = .ok (.value (.slice (some ⟨W.heap.size, 0, none⟩) bs.length bs.length)) (W.alloc (.cells (madeCells #[.string ByteArray.empty, .string ByteArray.empty, .string ByteArray.empty] (bs.length * 3)) 45)) := by
    simp only [execOp, hop, e10, Sem.run_bind, hr, Result.andThen]
    rfl
  rw [hrun]
  refine ⟨rfl, ?_⟩
  have hC : D w es bs a0 b0 ec bc s (L 3) (L 7) (L 8) (L 9) (L 10) W := hC
  show D w es bs a0 b0 ec bc _ (L 3) true (L 8) (L 9) (L 10) _
  have hb : Below W.heap.size W (W.alloc (.cells (madeCells #[.string ByteArray.empty, .string ByteArray.empty, .string ByteArray.empty] (bs.length * 3)) 45)) := (Below.refl _ _).alloc (Nat.le_refl _) _
  have h1 := hC.on hb
  refine ⟨h1.bel, h1.box, h1.res, h1.row3, fun _ => ⟨madeXB W bs, hC.size⟩, fun e => ?_, h1.at9, h1.at10⟩
  have := (h1.at8 e).2.1
  rw [h0] at this
  cases this
theorem st8 {o : Oper} (hsz : 16 < act.tmps.size) (hop : o.op = .build 27 #[(0, .tmp 11), (1, .tmp 15)]) (hdst : o.dst = some 16) (hd3 : ∃ e ∈ o.after, Region.binds .any e = true ∧ e.on = 3) (hd7 : ∃ e ∈ o.after, Region.binds .any e = true ∧ e.on = 7) :
    gh.Step Tryz.prog (fun s => dk.sets act (ws w.heap.size es.length bs.length a0 b0 ec bc s)) (C w es bs a0 b0 ec bc) Q 8 o := by
  refine gh.step_val (by rw [hop]; simp) fun s L W hdp h0 hC => ⟨{ s with xe := s.ge, xb := s.gb }, .agg #[.slice (some ⟨s.ge, 0, none⟩) es.length es.length, .slice (some ⟨s.gb, 0, none⟩) bs.length bs.length], dk.agree_sets 8 16 _ hdst rfl rfl, (fun d hd => by rw [hdst] at hd; cases hd; exact dk.sets_on _ (by omega) _ rfl), ?_⟩
  have e11 : (dk.sets act (ws w.heap.size es.length bs.length a0 b0 ec bc s)).tmps[11]? = some (.slice (some ⟨s.ge, 0, none⟩) es.length es.length) := dk.sets_on _ (by omega) _ rfl
  have e15 : (dk.sets act (ws w.heap.size es.length bs.length a0 b0 ec bc s)).tmps[15]? = some (.slice (some ⟨s.gb, 0, none⟩) bs.length bs.length) := dk.sets_on _ (by omega) _ rfl
  have hrun : (execOp (dk.sets act (ws w.heap.size es.length bs.length a0 b0 ec bc s)).eval o).run Tryz.prog W = .ok (.value (.agg #[.slice (some ⟨s.ge, 0, none⟩) es.length es.length, .slice (some ⟨s.gb, 0, none⟩) bs.length bs.length])) W := by
    simp [execOp, hop, e11, e15, go_sem]
  rw [hrun]
  refine ⟨rfl, ?_⟩
  obtain ⟨x3, m3, y3, z3⟩ := hd3
  obtain ⟨x7, m7, y7, z7⟩ := hd7
  have l3 := hdp x3 m3 y3
  have l7 := hdp x7 m7 y7
  rw [z3] at l3
  rw [z7] at l7
  have hC : D w es bs a0 b0 ec bc s (L 3) (L 7) (L 8) (L 9) (L 10) W := hC
  show D w es bs a0 b0 ec bc _ (L 3) (L 7) true (L 9) (L 10) _
  have h10 : L 10 = false := by
    cases h : L 10 with
    | false => rfl
    | true => have := (hC.at10 h).1; rw [h0] at this; cases this
  refine ⟨hC.bel, hC.box, hC.res, hC.row3, hC.row7, fun _ => ⟨l3, l7, rfl, rfl⟩, fun e => ?_, fun e => by rw [h10] at e; cases e⟩
  have := hC.at9 e
  rw [h10] at this ⊢
  exact this
theorem st9 {o : Oper} (hsz : 16 < act.tmps.size) (hop : o.op = .alloc 27) (hdst : o.dst = some 3) :
    gh.Step Tryz.prog (fun s => dk.sets act (ws w.heap.size es.length bs.length a0 b0 ec bc s)) (C w es bs a0 b0 ec bc) Q 9 o := by
  refine gh.step_val (by rw [hop]; simp) fun s L W hdp h0 hC => ⟨{ s with gn := W.heap.size }, .pointer (some ⟨W.heap.size, 0, none⟩), dk.agree_sets 9 3 _ hdst rfl rfl, (fun d hd => by rw [hdst] at hd; cases hd; exact dk.sets_on _ (by omega) _ rfl), ?_⟩
  have hrun : (execOp (dk.sets act (ws w.heap.size es.length bs.length a0 b0 ec bc s)).eval o).run Tryz.prog W = .ok (.value (.pointer (some ⟨W.heap.size, 0, none⟩))) (W.alloc (.cells #[.slice none 0 0, .slice none 0 0] 27)) := by
    simp [execOp, hop, go_sem]
  rw [hrun]
  refine ⟨rfl, ?_⟩
  have hC : D w es bs a0 b0 ec bc s (L 3) (L 7) (L 8) (L 9) (L 10) W := hC
  show D w es bs a0 b0 ec bc _ (L 3) (L 7) (L 8) true (L 10) _
  have h10 : L 10 = false := by
    cases h : L 10 with
    | false => rfl
    | true => have := (hC.at10 h).2; rw [h0] at this; cases this
  have h1 := hC.on ((Below.refl _ _).alloc (Nat.le_refl _) (.cells #[.slice none 0 0, .slice none 0 0] 27))
  refine ⟨h1.bel, h1.box, h1.res, h1.row3, h1.row7, h1.at8, fun _ => ⟨?_, hC.size⟩, fun e => by rw [h10] at e; cases e⟩
  rw [h10]
  exact bnew W _ _
theorem st10 {o : Oper} (hsz : 16 < act.tmps.size) (hop : o.op = .store 27 (.tmp 3) (.tmp 16)) (hdst : o.dst = none) (hd8 : ∃ e ∈ o.after, Region.binds .any e = true ∧ e.on = 8) (hd9 : ∃ e ∈ o.after, Region.binds .any e = true ∧ e.on = 9) :
    gh.Step Tryz.prog (fun s => dk.sets act (ws w.heap.size es.length bs.length a0 b0 ec bc s)) (C w es bs a0 b0 ec bc) Q 10 o := by
  refine gh.step_val (by rw [hop]; simp) fun s L W hdp h0 hC => ⟨s, undef, gh.Agree.refl _ _, (fun d hd => by rw [hdst] at hd; cases hd), ?_⟩
  have e3 : (dk.sets act (ws w.heap.size es.length bs.length a0 b0 ec bc s)).tmps[3]? = some (.pointer (some ⟨s.gn, 0, none⟩)) := dk.sets_on _ (by omega) _ rfl
  have e16 : (dk.sets act (ws w.heap.size es.length bs.length a0 b0 ec bc s)).tmps[16]? = some (.agg #[.slice (some ⟨s.xe, 0, none⟩) es.length es.length, .slice (some ⟨s.xb, 0, none⟩) bs.length bs.length]) := dk.sets_on _ (by omega) _ rfl
  obtain ⟨x8, m8, y8, z8⟩ := hd8
  obtain ⟨x9, m9, y9, z9⟩ := hd9
  have l8 := hdp x8 m8 y8
  have l9 := hdp x9 m9 y9
  rw [z8] at l8
  rw [z9] at l9
  have hC : D w es bs a0 b0 ec bc s (L 3) (L 7) (L 8) (L 9) (L 10) W := hC
  obtain ⟨hg, hgs⟩ := hC.at9 l9
  rw [h0] at hg
  have c0 : W.cell? ⟨s.gn, 0, none⟩ = some (.slice none 0 0) := bcell hg rfl
  have c1 : W.cell? ⟨s.gn, 1, none⟩ = some (.slice none 0 0) := bcell hg rfl
  have f0 := bfree hg 0
  have f1 := bfree hg 1
  have hrun : (execOp (dk.sets act (ws w.heap.size es.length bs.length a0 b0 ec bc s)).eval o).run Tryz.prog W = .ok .skip ((W.setCell ⟨s.gn, 0, none⟩ (.slice (some ⟨s.xe, 0, none⟩) es.length es.length)).setCell ⟨s.gn, 1, none⟩ (.slice (some ⟨s.xb, 0, none⟩) bs.length bs.length)) := by
    simp [execOp, hop, e3, e16, go_sem, c0, c1, f0, f1]
  rw [hrun]
  refine ⟨rfl, ?_⟩
  show D w es bs a0 b0 ec bc _ (L 3) (L 7) (L 8) (L 9) true _
  have hs2 : w.heap.size ≤ s.gn := by omega
  refine ⟨(hC.bel.setCell hs2 _).setCell hs2 _, boff (boff hC.box _ _ _ (by omega)) _ _ _ (by omega), boff (boff hC.res _ _ _ (by omega)) _ _ _ (by omega), fun e => ⟨XE.keptE (XE.keptE (hC.row3 e).1 (Below.heap_setCell _ _ _ _ (apartE (hC.row3 e).1 hg))) (Below.heap_setCell _ _ _ _ (apartE (hC.row3 e).1 hg)), (hC.row3 e).2⟩,
    fun e => ⟨XB.keptB (XB.keptB (hC.row7 e).1 (Below.heap_setCell _ _ _ _ (apartB (hC.row7 e).1 hg))) (Below.heap_setCell _ _ _ _ (apartB (hC.row7 e).1 hg)), (hC.row7 e).2⟩, hC.at8, fun _ => ⟨bset (bset hg 0 _) 1 _, hgs⟩, fun _ => ⟨l8, l9⟩⟩
end

/-- the worlds of the two loops: k exchanges and m bindings are laid -/
structure Inv (w : World) (es : List Ex) (bs : List Bi) (a0 b0 : Option Addr) (ec bc ge gb gn k m : Nat) (W : World) : Prop where
  bel : Below w.heap.size w W
  box : W.heap[w.heap.size]? = some (.cells #[.slice a0 es.length ec, .slice b0 bs.length bc] 27 (0, 0))
  res : W.heap[w.heap.size + 1]? = some (.cells #[.slice none 0 0, .slice none 0 0] 27 (0, 0))
  gnb : W.heap[gn]? = some (.cells #[.slice (some ⟨ge, 0, none⟩) es.length es.length, .slice (some ⟨gb, 0, none⟩) bs.length bs.length] 27 (0, 0))
  rowE : XE W ge es k
  rowB : XB W gb bs m
  hge : w.heap.size + 2 ≤ ge
  hgb : w.heap.size + 2 ≤ gb
  hgn : w.heap.size + 2 ≤ gn
section
variable {w : World} {es : List Ex} {bs : List Bi} {a0 b0 : Option Addr} {ec bc ge gb gn k m : Nat} {W W' : World}
theorem Inv.on (h : Inv w es bs a0 b0 ec bc ge gb gn k m W) (hb : Below W.heap.size W W') : Inv w es bs a0 b0 ec bc ge gb gn k m W' :=
  ⟨h.bel.trans (hb.mono h.bel.size), bstay h.box hb (Array.getElem?_eq_some_iff.1 h.box).1, bstay h.res hb (Array.getElem?_eq_some_iff.1 h.res).1, bstay h.gnb hb (Array.getElem?_eq_some_iff.1 h.gnb).1, h.rowE.below hb h.rowE.lt, h.rowB.below hb h.rowB.lt, h.hge, h.hgb, h.hgn⟩
theorem Inv.setE (h : Inv w es bs a0 b0 ec bc ge gb gn k m W) (en : ByteArray) (ek : Int) (he : es[k]? = some ⟨en, ek⟩) : Inv w es bs a0 b0 ec bc ge gb gn (k + 1) m ((W.setCell ⟨ge, k * 2, none⟩ (.string en)).setCell ⟨ge, k * 2 + 1, none⟩ (.int .i64 ek)) := by
  have hs : w.heap.size ≤ ge := by have := h.hge; omega
  have n1 := apartE h.rowE h.box
  have n2 := apartE h.rowE h.res
  have n3 := apartE h.rowE h.gnb
  have n4 := apartEB h.rowE h.rowB
  exact ⟨(h.bel.setCell hs _).setCell hs _, boff (boff h.box _ _ _ (Ne.symm n1)) _ _ _ (Ne.symm n1), boff (boff h.res _ _ _ (Ne.symm n2)) _ _ _ (Ne.symm n2), boff (boff h.gnb _ _ _ (Ne.symm n3)) _ _ _ (Ne.symm n3), XE.set (e := ⟨en, ek⟩) h.rowE he,
    XB.keptB (XB.keptB h.rowB (Below.heap_setCell _ _ _ _ (Ne.symm n4))) (Below.heap_setCell _ _ _ _ (Ne.symm n4)), h.hge, h.hgb, h.hgn⟩
theorem Inv.setB (h : Inv w es bs a0 b0 ec bc ge gb gn k m W) (x y z : ByteArray) (he : bs[m]? = some ⟨x, y, z⟩) : Inv w es bs a0 b0 ec bc ge gb gn k (m + 1) (((W.setCell ⟨gb, m * 3, none⟩ (.string x)).setCell ⟨gb, m * 3 + 1, none⟩ (.string y)).setCell ⟨gb, m * 3 + 2, none⟩ (.string z)) := by
  have hs : w.heap.size ≤ gb := by have := h.hgb; omega
  have n1 := apartB h.rowB h.box
  have n2 := apartB h.rowB h.res
  have n3 := apartB h.rowB h.gnb
  have n4 := apartEB h.rowE h.rowB
  exact ⟨((h.bel.setCell hs _).setCell hs _).setCell hs _, boff (boff (boff h.box _ _ _ (Ne.symm n1)) _ _ _ (Ne.symm n1)) _ _ _ (Ne.symm n1), boff (boff (boff h.res _ _ _ (Ne.symm n2)) _ _ _ (Ne.symm n2)) _ _ _ (Ne.symm n2), boff (boff (boff h.gnb _ _ _ (Ne.symm n3)) _ _ _ (Ne.symm n3)) _ _ _ (Ne.symm n3),
    XE.keptE (XE.keptE (XE.keptE h.rowE (Below.heap_setCell _ _ _ _ n4)) (Below.heap_setCell _ _ _ _ n4)) (Below.heap_setCell _ _ _ _ n4), XB.set (e := ⟨x, y, z⟩) h.rowB he, h.hge, h.hgb, h.hgn⟩
end
def ws5 (n ge gn e5 k : Nat) (en : ByteArray) (ek : Int) : List (Nat × Value) := [(25, .pointer (some ⟨gn, 0, none⟩)), (26, .slice (some ⟨ge, 0, none⟩) n n), (27, .int .i64 k), (28, .pointer (some ⟨e5, 0, none⟩)), (29, .string en), (30, .string en), (31, .pointer (some ⟨e5, 1, none⟩)), (32, .int .i64 ek), (33, .agg #[.string en, .int .i64 ek]), (34, .pointer (some ⟨ge, k * 2, none⟩))]
def D5 (w : World) (es : List Ex) (bs : List Bi) (a0 b0 : Option Addr) (ec bc ge gb gn k e5 : Nat) (en : ByteArray) (ek : Int) (b : Bool) (W : World) : Prop := Inv w es bs a0 b0 ec bc ge gb gn (if b then k + 1 else k) 0 W ∧ W.heap[e5]? = some (.cells #[.string en, .int .i64 ek] 75 (0, 0))
def ws10 (m gb gn e7 k : Nat) (x y z : ByteArray) : List (Nat × Value) := [(44, .pointer (some ⟨gn, 1, none⟩)), (45, .slice (some ⟨gb, 0, none⟩) m m), (46, .int .i64 k), (47, .agg #[.string x, .string y, .string z]), (48, .agg #[.string x, .string y, .string z]), (49, .pointer (some ⟨gb, k * 3, none⟩))]
def D10 (w : World) (es : List Ex) (bs : List Bi) (a0 b0 : Option Addr) (ec bc ge gb gn k e7 : Nat) (x y z : ByteArray) (b : Bool) (W : World) : Prop := Inv w es bs a0 b0 ec bc ge gb gn es.length (if b then k + 1 else k) W ∧ W.heap[e7]? = some (.cells #[.string x, .string y, .string z] 45 (0, 0))

set_option maxRecDepth 100000 in
set_option maxHeartbeats 2000000 in
theorem copy_own (es : List Ex) (bs : List Bi) (a0 b0 : Option Addr) (ec bc : Nat) (w : World) (hel : es.length ≤ 1048576) (hbl : bs.length ≤ 1048576) (hes : ∀ e ∈ es, e.n.size ≤ 1048576) (hbs : ∀ b ∈ bs, b.x.size ≤ 1048576 ∧ b.k.size ≤ 1048576 ∧ b.q.size ≤ 1048576) {ka kb : Nat} (hE : RE w ka es) (hB : RB w kb bs) (hna : Hid (apa.NQ a0 ⟨ka, 0, none⟩ es.length ec)) (hnb : Hid (apa.NQ b0 ⟨kb, 0, none⟩ bs.length bc)) :
    Calls Tryz.prog 37 #[.agg #[.slice a0 es.length ec, .slice b0 bs.length bc]] w fun r w' => ∃ g h, r = .returned (.agg #[.slice (some ⟨g, 0, none⟩) es.length es.length, .slice (some ⟨h, 0, none⟩) bs.length bs.length]) ∧ w.heap.size ≤ g ∧ w.heap.size ≤ h ∧ g ≠ h ∧ XE w' g es es.length ∧ XB w' h bs bs.length ∧ Below w.heap.size w w' := by
  have h0 : D w es bs a0 b0 ec bc ⟨0, 0, 0, 0, 0⟩ false false false false false ((w.alloc (.cells #[.slice a0 es.length ec, .slice b0 bs.length bc] 27)).alloc (.cells #[.slice none 0 0, .slice none 0 0] 27)).drew := by
    refine ⟨(((Below.refl _ _).alloc (Nat.le_refl _) _).alloc (by simp) _).drew, ?_, ?_, by simp, by simp, by simp, by simp, by simp⟩
    · exact bold (bnew w _ _) _
    · have := bnew (w.alloc (.cells #[.slice a0 es.length ec, .slice b0 bs.length bc] 27)) #[.slice none 0 0, .slice none 0 0] 27
      rw [World.size_alloc] at this
      exact this
  have HE : Hid (RE w ka es) := hE
  have HB : Hid (RB w kb bs) := hB
  have HES : Hid (∀ e ∈ es, e.n.size ≤ 1048576) := hes
  have HBS : Hid (∀ b ∈ bs, b.x.size ≤ 1048576 ∧ b.k.size ≤ 1048576 ∧ b.q.size ≤ 1048576) := hbs
  clear hE hB hes hbs
  go_enter Tryz.func37, Tryz.ntmps37
  go_wp2
  refine dk.region_gsets (ws w.heap.size es.length bs.length a0 b0 ec bc) [8, 9, 10, 11, 12, 13, 14, 15, 16, 3] (C w es bs a0 b0 ec bc) ⟨0, 0, 0, 0, 0⟩ (by kernel_rfl) (by kernel_rfl) (fun _ => rfl) (by kernel_rfl) h0 ?each ?fin
  case each =>
    refine ⟨quiet (by decide) (by simp) (.pointer (some ⟨w.heap.size, 0, none⟩)) (by rintro s _ ⟨⟩; exact dk.sets_on _ (by simp) _ rfl) (fun s W h => by simp [execOp, go_sem, Act.eval, dk.sets_get, ws, List.lookup]), ?_⟩
    refine ⟨quiet (by decide) (by simp) (.slice a0 es.length ec) (by rintro s _ ⟨⟩; exact dk.sets_on _ (by simp) _ rfl) (fun s W h => by have c : W.cell? ⟨w.heap.size, 0, none⟩ = some (.slice a0 es.length ec) := bcell h rfl; simp [execOp, go_sem, Act.eval, dk.sets_get, ws, List.lookup, c]), ?_⟩
    refine ⟨quiet (by decide) (by simp) (.int .i64 es.length) (by rintro s _ ⟨⟩; exact dk.sets_on _ (by simp) _ rfl) (fun s W h => by simp [go_sem, Act.eval, dk.sets_get, ws, List.lookup]), ?_⟩
    refine ⟨st3 hel (by simp) rfl rfl, ?_⟩
    refine ⟨quiet (by decide) (by simp) (.pointer (some ⟨w.heap.size, 1, none⟩)) (by rintro s _ ⟨⟩; exact dk.sets_on _ (by simp) _ rfl) (fun s W h => by simp [execOp, go_sem, Act.eval, dk.sets_get, ws, List.lookup]), ?_⟩
    refine ⟨quiet (by decide) (by simp) (.slice b0 bs.length bc) (by rintro s _ ⟨⟩; exact dk.sets_on _ (by simp) _ rfl) (fun s W h => by have c : W.cell? ⟨w.heap.size, 1, none⟩ = some (.slice b0 bs.length bc) := bcell h rfl; simp [execOp, go_sem, Act.eval, dk.sets_get, ws, List.lookup, c]), ?_⟩
    refine ⟨quiet (by decide) (by simp) (.int .i64 bs.length) (by rintro s _ ⟨⟩; exact dk.sets_on _ (by simp) _ rfl) (fun s W h => by simp [go_sem, Act.eval, dk.sets_get, ws, List.lookup]), ?_⟩
    exact ⟨st7 hbl (by simp) rfl rfl, st8 (by simp) rfl rfl ⟨⟨3, .data⟩, by simp, rfl, rfl⟩ ⟨⟨7, .data⟩, by simp, rfl, rfl⟩, st9 (by simp) rfl rfl, st10 (by simp) rfl rfl ⟨⟨8, .data⟩, by simp, rfl, rfl⟩ ⟨⟨9, .data⟩, by simp, rfl, rfl⟩, trivial⟩
  case fin =>
    intro g L W hL hC
    have hD : D w es bs a0 b0 ec bc g true true true true true W := by
      have h : D w es bs a0 b0 ec bc g (L 3) (L 7) (L 8) (L 9) (L 10) W := hC
      rw [hL 3 (by decide), hL 7 (by decide), hL 8 (by decide), hL 9 (by decide), hL 10 (by decide)] at h
      exact h
    have hI : Inv w es bs a0 b0 ec bc g.ge g.gb g.gn 0 0 W := by
      obtain ⟨h1, h2⟩ := hD.at9 rfl
      obtain ⟨_, _, e1, e2⟩ := hD.at8 rfl
      rw [e1, e2] at h1
      exact ⟨hD.bel, hD.box, hD.res, h1, (hD.row3 rfl).1, (hD.row7 rfl).1, (hD.row3 rfl).2, (hD.row7 rfl).2, h2⟩
    obtain ⟨_, _, e1, e2⟩ := hD.at8 rfl
    simp only [dk.sets, ws, e1, e2]
    obtain ⟨ge, gb, gn, xe, xb⟩ := g
    simp only at hI e1 e2
    clear hD hC hL h0 e1 e2
    have x0 : W.cell? ⟨w.heap.size, 0, none⟩ = some (.slice a0 es.length ec) := bcell hI.box rfl
    have HI : Hid (Inv w es bs a0 b0 ec bc ge gb gn 0 0 W) := hI
    clear hI
    go_wp2
    go_loopw [20] (fun x wr => ∃ k : Nat, k ≤ es.length ∧ x = .int .i64 k ∧ Hid (Inv w es bs a0 b0 ec bc ge gb gn k 0 wr)) (fun x _ => es.length - (intOf x).toNat)
    case atStart => exact ⟨0, Nat.zero_le _, rfl, HI⟩
    case round =>
      obtain ⟨k, hk, rfl, hinv⟩ := hrel
      clear x0 HI
      by_cases hkl : k < es.length
      · have HG : Hid (es[k]? = some es[k]) := List.getElem?_eq_getElem hkl
        have hqa : a0 = some ⟨ka, 0, none⟩ := hna.out.at (by omega)
        have hR := HE.out.below hinv.out.bel
        obtain ⟨c0, c1⟩ := hR.2 k _ HG.out
        have hxs := HES.out es[k] (List.getElem_mem hkl)
        obtain ⟨⟨en, ek⟩, he⟩ : ∃ e, es[k] = e := ⟨_, rfl⟩
        rw [he] at c0 c1 HG hxs
        have c0 : wr.cell? ⟨ka, k * 2, none⟩ = some (.string en) := c0
        have c1 : wr.cell? ⟨ka, k * 2 + 1, none⟩ = some (.int .i64 ek) := c1
        have hxs : en.size ≤ 1048576 := hxs
        have hcl := fun W => cl.clone en W (by omega)
        have hlt := hinv.out.rowE.lt
        have hne : ge ≠ wr.heap.size := by omega
        have hd0 : D5 w es bs a0 b0 ec bc ge gb gn k wr.heap.size en ek false (wr.alloc (.cells #[.string en, .int .i64 ek] 75)).drew := by
          refine ⟨(hinv.out.on ((Below.refl _ _).alloc (Nat.le_refl _) _)).on (Below.refl _ _).drew, bnew wr _ _⟩
        clear he hR
        go_wp2
        refine dk.region_sets (ws5 es.length ge gn wr.heap.size k en ek) [25, 26, 27, 28, 29, 30, 31, 32, 33, 34] (dk.Cl (D5 w es bs a0 b0 ec bc ge gb gn k wr.heap.size en ek) 10) (by kernel_rfl) (by kernel_rfl) rfl (by kernel_rfl) hd0 ?each5 ?fin5
        case each5 =>
          refine ⟨dk.q (by decide) (.pointer (some ⟨gn, 0, none⟩)) (by rintro _ ⟨⟩; exact dk.sets_on _ (by simp) _ rfl) (fun b W h => by simp [execOp, go_sem, Act.eval, dk.sets_get, ws5, List.lookup]), ?_⟩
          refine ⟨dk.q (by decide) (.slice (some ⟨ge, 0, none⟩) es.length es.length) (by rintro _ ⟨⟩; exact dk.sets_on _ (by simp) _ rfl) (fun b W h => by have c : W.cell? ⟨gn, 0, none⟩ = some (.slice (some ⟨ge, 0, none⟩) es.length es.length) := bcell h.1.gnb rfl; simp [execOp, go_sem, Act.eval, dk.sets_get, ws5, List.lookup, c]), ?_⟩
          refine ⟨dk.q (by decide) (.int .i64 k) (by rintro _ ⟨⟩; exact dk.sets_on _ (by simp) _ rfl) (fun b W h => by simp [execOp, go_sem, Act.eval, dk.sets_get, ws5, List.lookup]), ?_⟩
          refine ⟨dk.q (by decide) (.pointer (some ⟨wr.heap.size, 0, none⟩)) (by rintro _ ⟨⟩; exact dk.sets_on _ (by simp) _ rfl) (fun b W h => by simp [execOp, go_sem, Act.eval, dk.sets_get, ws5, List.lookup]), ?_⟩
          refine ⟨dk.q (by decide) (.string en) (by rintro _ ⟨⟩; exact dk.sets_on _ (by simp) _ rfl) (fun b W h => by have c : W.cell? ⟨wr.heap.size, 0, none⟩ = some (.string en) := bcell h.2 rfl; simp [execOp, go_sem, Act.eval, dk.sets_get, ws5, List.lookup, c]), ?_⟩
          refine ⟨dk.call (by decide) 27 #[.string en] (.string en) (by rintro _ ⟨⟩; exact dk.sets_on _ (by simp) _ rfl) (fun b W h => by simp [go_sem, Act.eval, dk.sets_get, ws5, List.lookup]) (fun b W h => (hcl W).mono fun e w' ⟨h1, h2⟩ => ⟨h1, h.1.on h2, bstay h.2 h2 (Array.getElem?_eq_some_iff.1 h.2).1⟩), ?_⟩
          refine ⟨dk.q (by decide) (.pointer (some ⟨wr.heap.size, 1, none⟩)) (by rintro _ ⟨⟩; exact dk.sets_on _ (by simp) _ rfl) (fun b W h => by simp [execOp, go_sem, Act.eval, dk.sets_get, ws5, List.lookup]), ?_⟩
          refine ⟨dk.q (by decide) (.int .i64 ek) (by rintro _ ⟨⟩; exact dk.sets_on _ (by simp) _ rfl) (fun b W h => by have c : W.cell? ⟨wr.heap.size, 1, none⟩ = some (.int .i64 ek) := bcell h.2 rfl; simp [execOp, go_sem, Act.eval, dk.sets_get, ws5, List.lookup, c]), ?_⟩
          refine ⟨dk.q (by decide) (.agg #[.string en, .int .i64 ek]) (by rintro _ ⟨⟩; exact dk.sets_on _ (by simp) _ rfl) (fun b W h => by simp [execOp, go_sem, Act.eval, dk.sets_get, ws5, List.lookup]), ?_⟩
          refine ⟨dk.q (by decide) (.pointer (some ⟨ge, k * 2, none⟩)) (by rintro _ ⟨⟩; exact dk.sets_on _ (by simp) _ rfl) (fun b W h => by simp [execOp, go_sem, Act.eval, dk.sets_get, ws5, List.lookup, hkl]), ?_⟩
          refine ⟨dk.last rfl (fun W h => ?_), trivial⟩
          obtain ⟨h1, h2⟩ := h
          obtain ⟨v0, g0⟩ := h1.rowE.at (k * 2) (by omega)
          have z0 := h1.rowE.free (k * 2)
          obtain ⟨v1, g1⟩ := h1.rowE.at (k * 2 + 1) (by omega)
          have z1 := h1.rowE.free (k * 2 + 1)
          refine ⟨(W.setCell ⟨ge, k * 2, none⟩ (.string en)).setCell ⟨ge, k * 2 + 1, none⟩ (.int .i64 ek), by simp [execOp, go_sem, Act.eval, dk.sets_get, ws5, List.lookup, g0, g1, z0, z1], ?_, ?_⟩
          · exact Inv.setE h1 en ek HG.out
          · exact boff (boff h2 _ _ _ (Ne.symm hne)) _ _ _ (Ne.symm hne)
        case fin5 =>
          intro L W hL hC
          have hC' : Inv w es bs a0 b0 ec bc ge gb gn (k + 1) 0 W := by
            have := hL 10 (by decide)
            unfold dk.Cl at hC
            rw [this] at hC
            exact hC.1
          have HI : Hid (Inv w es bs a0 b0 ec bc ge gb gn (k + 1) 0 W) := hC'
          clear hC hC' hL hd0
          simp only [dk.sets, ws5]
          go_wp2
          try rw [← hqa]
          try rw [← hqb]
          go_roundw
          case rel => exact ⟨k + 1, by omega, by go_num, HI⟩
          case measure => simp [intOf]; omega
      · obtain rfl : k = es.length := by omega
        have x1 : wr.cell? ⟨w.heap.size, 1, none⟩ = some (.slice b0 bs.length bc) := bcell hinv.out.box rfl
        go_wp2
        go_loopw [39] (fun x wq => ∃ k : Nat, k ≤ bs.length ∧ x = .int .i64 k ∧ Hid (Inv w es bs a0 b0 ec bc ge gb gn es.length k wq)) (fun x _ => bs.length - (intOf x).toNat)
        case atStart => exact ⟨0, Nat.zero_le _, rfl, hinv⟩
        case round =>
          obtain ⟨k, hk2, rfl, hinv2⟩ := hrel
          clear x1 hinv
          by_cases hkl2 : k < bs.length
          · have HG : Hid (bs[k]? = some bs[k]) := List.getElem?_eq_getElem hkl2
            have hqb : b0 = some ⟨kb, 0, none⟩ := hnb.out.at (by omega)
            have hR := HB.out.below hinv2.out.bel
            obtain ⟨c0, c1, c2⟩ := hR.2 k _ HG.out
            have hxs := HBS.out bs[k] (List.getElem_mem hkl2)
            obtain ⟨⟨x, y, z⟩, he⟩ : ∃ e, bs[k] = e := ⟨_, rfl⟩
            rw [he] at c0 c1 c2 HG hxs
            have c0 : wr.cell? ⟨kb, k * 3, none⟩ = some (.string x) := c0
            have c1 : wr.cell? ⟨kb, k * 3 + 1, none⟩ = some (.string y) := c1
            have c2 : wr.cell? ⟨kb, k * 3 + 2, none⟩ = some (.string z) := c2
            have hcl := fun W => cb.copy_binding ⟨x, y, z⟩ W hxs
            have hlt := hinv2.out.rowB.lt
            have hne : gb ≠ wr.heap.size := by omega
            have hd0 : D10 w es bs a0 b0 ec bc ge gb gn k wr.heap.size x y z false (wr.alloc (.cells #[.string x, .string y, .string z] 45)).drew := by
              refine ⟨(hinv2.out.on ((Below.refl _ _).alloc (Nat.le_refl _) _)).on (Below.refl _ _).drew, bnew wr _ _⟩
            clear he hR hxs
            go_wp2
            refine dk.region_sets (ws10 bs.length gb gn wr.heap.size k x y z) [44, 45, 46, 47, 48, 49] (dk.Cl (D10 w es bs a0 b0 ec bc ge gb gn k wr.heap.size x y z) 6) (by kernel_rfl) (by kernel_rfl) rfl (by kernel_rfl) hd0 ?each10 ?fin10
            case each10 =>
              refine ⟨dk.q (by decide) (.pointer (some ⟨gn, 1, none⟩)) (by rintro _ ⟨⟩; exact dk.sets_on _ (by simp) _ rfl) (fun b W h => by simp [execOp, go_sem, Act.eval, dk.sets_get, ws10, List.lookup]), ?_⟩
              refine ⟨dk.q (by decide) (.slice (some ⟨gb, 0, none⟩) bs.length bs.length) (by rintro _ ⟨⟩; exact dk.sets_on _ (by simp) _ rfl) (fun b W h => by have c : W.cell? ⟨gn, 1, none⟩ = some (.slice (some ⟨gb, 0, none⟩) bs.length bs.length) := bcell h.1.gnb rfl; simp [execOp, go_sem, Act.eval, dk.sets_get, ws10, List.lookup, c]), ?_⟩
              refine ⟨dk.q (by decide) (.int .i64 k) (by rintro _ ⟨⟩; exact dk.sets_on _ (by simp) _ rfl) (fun b W h => by simp [execOp, go_sem, Act.eval, dk.sets_get, ws10, List.lookup]), ?_⟩
              refine ⟨dk.q (by decide) (.agg #[.string x, .string y, .string z]) (by rintro _ ⟨⟩; exact dk.sets_on _ (by simp) _ rfl) (fun b W h => by have d0 : W.cell? ⟨wr.heap.size, 0, none⟩ = some (.string x) := bcell h.2 rfl; have d1 : W.cell? ⟨wr.heap.size, 1, none⟩ = some (.string y) := bcell h.2 rfl; have d2 : W.cell? ⟨wr.heap.size, 2, none⟩ = some (.string z) := bcell h.2 rfl; simp [execOp, go_sem, Act.eval, dk.sets_get, ws10, List.lookup, d0, d1, d2]), ?_⟩
              refine ⟨dk.call (by decide) 38 #[.agg #[.string x, .string y, .string z]] (.agg #[.string x, .string y, .string z]) (by rintro _ ⟨⟩; exact dk.sets_on _ (by simp) _ rfl) (fun b W h => by simp [go_sem, Act.eval, dk.sets_get, ws10, List.lookup]) (fun b W h => (hcl W).mono fun e w' ⟨h1, h2⟩ => ⟨h1, h.1.on h2, bstay h.2 h2 (Array.getElem?_eq_some_iff.1 h.2).1⟩), ?_⟩
              refine ⟨dk.q (by decide) (.pointer (some ⟨gb, k * 3, none⟩)) (by rintro _ ⟨⟩; exact dk.sets_on _ (by simp) _ rfl) (fun b W h => by simp [execOp, go_sem, Act.eval, dk.sets_get, ws10, List.lookup, hkl2]), ?_⟩
              refine ⟨dk.last rfl (fun W h => ?_), trivial⟩
              obtain ⟨h1, h2⟩ := h
              obtain ⟨v0, g0⟩ := h1.rowB.at (k * 3) (by omega)
              have z0 := h1.rowB.free (k * 3)
              obtain ⟨v1, g1⟩ := h1.rowB.at (k * 3 + 1) (by omega)
              have z1 := h1.rowB.free (k * 3 + 1)
              obtain ⟨v2, g2⟩ := h1.rowB.at (k * 3 + 2) (by omega)
              have z2 := h1.rowB.free (k * 3 + 2)
              refine ⟨((W.setCell ⟨gb, k * 3, none⟩ (.string x)).setCell ⟨gb, k * 3 + 1, none⟩ (.string y)).setCell ⟨gb, k * 3 + 2, none⟩ (.string z), by simp [execOp, go_sem, Act.eval, dk.sets_get, ws10, List.lookup, g0, g1, g2, z0, z1, z2], ?_, ?_⟩
              · exact Inv.setB h1 x y z HG.out
              · exact boff (boff (boff h2 _ _ _ (Ne.symm hne)) _ _ _ (Ne.symm hne)) _ _ _ (Ne.symm hne)
            case fin10 =>
              intro L W hL hC
              have hC' : Inv w es bs a0 b0 ec bc ge gb gn es.length (k + 1) W := by
                have := hL 6 (by decide)
                unfold dk.Cl at hC
                rw [this] at hC
                exact hC.1
              have HI : Hid (Inv w es bs a0 b0 ec bc ge gb gn es.length (k + 1) W) := hC'
              clear hC hC' hL hd0
              simp only [dk.sets, ws10]
              go_wp2
              try rw [← hqa]
              try rw [← hqb]
              go_roundw
              case rel => exact ⟨k + 1, by omega, by go_num, HI⟩
              case measure => simp [intOf]; omega
          · obtain rfl : k = bs.length := by omega
            have n0 : wr.cell? ⟨gn, 0, none⟩ = some (.slice (some ⟨ge, 0, none⟩) es.length es.length) := bcell hinv2.out.gnb rfl
            have n1 : wr.cell? ⟨gn, 1, none⟩ = some (.slice (some ⟨gb, 0, none⟩) bs.length bs.length) := bcell hinv2.out.gnb rfl
            have r0 : wr.cell? ⟨w.heap.size + 1, 0, none⟩ = some (.slice none 0 0) := bcell hinv2.out.res rfl
            have r1 : wr.cell? ⟨w.heap.size + 1, 1, none⟩ = some (.slice none 0 0) := bcell hinv2.out.res rfl
            have f0 := bfree hinv2.out.res 0
            have f1 := bfree hinv2.out.res 1
            go_wp2
            have n2 := apartE hinv2.out.rowE hinv2.out.res
            have n3 := apartB hinv2.out.rowB hinv2.out.res
            refine bodyPost_ret (v := .agg #[.slice (some ⟨ge, 0, none⟩) es.length es.length, .slice (some ⟨gb, 0, none⟩) bs.length bs.length]) (by simp [results, Tryz.results37, go_sem, r0, r1]) rfl ⟨ge, gb, rfl, by have := hinv2.out.hge; omega, by have := hinv2.out.hgb; omega, apartEB hinv2.out.rowE hinv2.out.rowB, ?_, ?_, ?_⟩
            · exact XE.keptE (XE.keptE hinv2.out.rowE (Below.heap_setCell _ _ _ _ n2)) (Below.heap_setCell _ _ _ _ n2)
            · exact XB.keptB (XB.keptB hinv2.out.rowB (Below.heap_setCell _ _ _ _ n3)) (Below.heap_setCell _ _ _ _ n3)
            · exact (hinv2.out.bel.setCell (by show w.heap.size ≤ w.heap.size + 1; omega) _).setCell (by show w.heap.size ≤ w.heap.size + 1; omega) _
theorem copy_routes (es : List Ex) (bs : List Bi) (a0 b0 : Option Addr) (ec bc : Nat) (w : World) (hel : es.length ≤ 1048576) (hbl : bs.length ≤ 1048576) (hes : ∀ e ∈ es, e.n.size ≤ 1048576) (hbs : ∀ b ∈ bs, b.x.size ≤ 1048576 ∧ b.k.size ≤ 1048576 ∧ b.q.size ≤ 1048576) {ka kb : Nat} (hE : RE w ka es) (hB : RB w kb bs) (hna : Hid (apa.NQ a0 ⟨ka, 0, none⟩ es.length ec)) (hnb : Hid (apa.NQ b0 ⟨kb, 0, none⟩ bs.length bc)) :
    Calls Tryz.prog 37 #[.agg #[.slice a0 es.length ec, .slice b0 bs.length bc]] w fun r w' => ∃ g h, r = .returned (.agg #[.slice (some ⟨g, 0, none⟩) es.length es.length, .slice (some ⟨h, 0, none⟩) bs.length bs.length]) ∧ w.heap.size ≤ g ∧ w.heap.size ≤ h ∧ g ≠ h ∧ FE w' g es es.length ∧ FB w' h bs bs.length ∧ Below w.heap.size w w' := (copy_own es bs a0 b0 ec bc w hel hbl hes hbs hE hB hna hnb).mono fun r w' ⟨g, h, h1, h2, h3, h4, h5, h6, h7⟩ => ⟨g, h, h1, h2, h3, h4, h5.f, h6.f, h7⟩
end Go.Proofs.YtnooibeohdfcmaaGreatDoor.cr
