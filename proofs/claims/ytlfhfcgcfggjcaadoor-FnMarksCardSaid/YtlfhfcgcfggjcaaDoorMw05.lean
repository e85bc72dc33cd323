/- slices.Insert of one mark into a row of marks that has no room: the same row with the mark in its place, in a row of its own. -/
import Derived.Test.YtlfhfcgcfggjcaaDoorCopyEntries
import Derived.Test.YtlfhfcgcfggjcaaDoorMw04
import Derived.Test.YtlfhfcgcfggjcaaDoorStreamPutSpec
import Derived.Test.YtlfhfcgcfggjcaaDoorMw01
import Derived.Deep.DeepAppendWide
import Derived.Laws.CopyOwn

/- copyStream: the same stream, its name cloned, its lists in rows of their own; new memory alone. -/
namespace Go.Proofs.YtlfhfcgcfggjcaaDoor.cst
open Go.ChangeShapes Go.WideShapes Go.ChangeAt Go.RowKit Go.Proofs.YtlfhfcgcfggjcaaDoor.fl Go.Proofs.YtlfhfcgcfggjcaaDoor.fo Go.Proofs.YtlfhfcgcfggjcaaDoor.rr Go.Proofs.YtlfhfcgcfggjcaaDoor.st Go.Proofs.YtlfhfcgcfggjcaaDoor.ce
set_option linter.unusedVariables false

theorem make_K (W : World) (l : List Ex) (hl : l.length ≤ 1048576) : (Instr.makeSlice 25 (.int .i64 (l.length : Int)) (.int .i64 (l.length : Int))).run Tryd.prog W = .ok (.slice (some ⟨W.heap.size, 0, none⟩) l.length l.length) (W.alloc (.cells (madeCells #[.string ByteArray.empty, .int .i64 0] (l.length * 2)) 45)) := by
  obtain ⟨i0, hi, hz0, hz1, hz2⟩ : ∃ i0, Tryd.prog.info? 45 = some i0 ∧ i0.zero = some (.agg #[.string ByteArray.empty, .int .i64 0]) ∧ i0.size = 2 ∧ i0.bytes = 24 := by
    have h := flK.info
    cases hh : Tryd.prog.info? 45 with
    | none => rw [hh] at h; cases h
    | some i => rw [hh] at h; simp at h; exact ⟨i, rfl, h.1, h.2.1, h.2.2⟩
  have hmk := run_makeSlice (P := Tryd.prog) W 25 45 i0 _ Tryd.underlying25 hi hz0 .i64 .i64 (l.length : Int) (l.length : Int) (by omega) (Int.le_refl _) (by rw [hz1]; simp; omega) (by rw [hz2]; omega) (by omega)
  rw [hz1, show ((l.length : Int)).toNat = l.length by omega] at hmk
  exact hmk
theorem apart {α : Type} {c : α → List Value} {n : Nat} {U V : TypeId} {W : World} {g h k : Nat} {l : List α} {cur : Array Value} (hUV : U ≠ V) (h1 : Own c n U W g l k) (h2 : W.heap[h]? = some (.cells cur V (0, 0))) : g ≠ h := by
  rintro rfl
  obtain ⟨x, h3, _⟩ := h1
  rw [h2] at h3
  simp at h3
  exact hUV h3.2.symm

/-- where the rows and the answer come to lie, and what the answer is built of -/
structure G where
  ge : Nat
  gm : Nat
  gn : Nat
  xe : Nat
  xm : Nat
def ws (s : Nat) (sn : ByteArray) (lo nx : Int) (es : List flY.En) (ms : List Ex) (a0 b0 : Option Addr) (ec bc : Nat) (g : G) : List (Nat × Value) := [(6, .pointer (some ⟨s, 0, none⟩)), (7, .string sn), (8, .string sn), (9, .pointer (some ⟨s, 1, none⟩)), (10, .int .i64 lo), (11, .pointer (some ⟨s, 2, none⟩)), (12, .int .i64 nx), (13, .pointer (some ⟨s, 3, none⟩)), (14, .slice a0 es.length ec), (15, .slice (some ⟨g.ge, 0, none⟩) es.length es.length), (16, .pointer (some ⟨s, 4, none⟩)), (17, .slice b0 ms.length bc), (18, .int .i64 ms.length), (19, .slice (some ⟨g.gm, 0, none⟩) ms.length ms.length), (20, .agg #[.string sn, .int .i64 lo, .int .i64 nx, .slice (some ⟨g.xe, 0, none⟩) es.length es.length, .slice (some ⟨g.xm, 0, none⟩) ms.length ms.length]), (3, .pointer (some ⟨g.gn, 0, none⟩))]
/-- the worlds on the way -/
structure D (w : World) (sn : ByteArray) (lo nx : Int) (es : List flY.En) (ms : List Ex) (a0 b0 : Option Addr) (ec bc : Nat) (g : G) (b9 b13 b14 b15 b16 : Bool) (W : World) : Prop where
  bel : Below w.heap.size w W
  box : W.heap[w.heap.size]? = some (.cells #[.string sn, .int .i64 lo, .int .i64 nx, .slice a0 es.length ec, .slice b0 ms.length bc] 27 (0, 0))
  res : W.heap[w.heap.size + 1]? = some (.cells #[.string ⟨#[]⟩, .int .i64 0, .int .i64 0, .slice none 0 0, .slice none 0 0] 27 (0, 0))
  row9 : b9 = true → Own flY.c 3 43 W g.ge es es.length ∧ w.heap.size + 2 ≤ g.ge
  row13 : b13 = true → Own flK.c 2 45 W g.gm ms 0 ∧ w.heap.size + 2 ≤ g.gm
  at14 : b14 = true → b9 = true ∧ b13 = true ∧ g.xe = g.ge ∧ g.xm = g.gm
  at15 : b15 = true → W.heap[g.gn]? = some (.cells (if b16 then #[.string sn, .int .i64 lo, .int .i64 nx, .slice (some ⟨g.xe, 0, none⟩) es.length es.length, .slice (some ⟨g.xm, 0, none⟩) ms.length ms.length] else #[.string ⟨#[]⟩, .int .i64 0, .int .i64 0, .slice none 0 0, .slice none 0 0]) 27 (0, 0)) ∧ w.heap.size + 2 ≤ g.gn
  at16 : b16 = true → b14 = true ∧ b15 = true
def C (w : World) (sn : ByteArray) (lo nx : Int) (es : List flY.En) (ms : List Ex) (a0 b0 : Option Addr) (ec bc : Nat) (g : G) (L : Nat → Bool) (W : World) : Prop := D w sn lo nx es ms a0 b0 ec bc g (L 9) (L 13) (L 14) (L 15) (L 16) W

section
variable {w : World} {sn : ByteArray} {lo nx : Int} {es : List flY.En} {ms : List Ex} {a0 b0 : Option Addr} {ec bc : Nat} {g : G} {b9 b13 b14 b15 b16 : Bool} {W W' : World}
theorem D.on (h : D w sn lo nx es ms a0 b0 ec bc g b9 b13 b14 b15 b16 W) (hb : Below W.heap.size W W') : D w sn lo nx es ms a0 b0 ec bc g b9 b13 b14 b15 b16 W' :=
  ⟨h.bel.trans (hb.mono h.bel.size), bstay h.box hb (Array.getElem?_eq_some_iff.1 h.box).1, bstay h.res hb (Array.getElem?_eq_some_iff.1 h.res).1,
    fun e => ⟨(h.row9 e).1.below hb (h.row9 e).1.lt, (h.row9 e).2⟩, fun e => ⟨(h.row13 e).1.below hb (h.row13 e).1.lt, (h.row13 e).2⟩, h.at14,
    fun e => ⟨bstay (h.at15 e).1 hb (Array.getElem?_eq_some_iff.1 (h.at15 e).1).1, (h.at15 e).2⟩, h.at16⟩
theorem D.size (h : D w sn lo nx es ms a0 b0 ec bc g b9 b13 b14 b15 b16 W) : w.heap.size + 2 ≤ W.heap.size := (Array.getElem?_eq_some_iff.1 h.res).1
end

section
variable {w : World} {sn : ByteArray} {lo nx : Int} {es : List flY.En} {ms : List Ex} {a0 b0 : Option Addr} {ec bc : Nat} {act : Act} {Q : Exit → Act → World → Prop}
theorem more_off {i : Nat} {L : Nat → Bool} {s : G} {W : World} (hi : i < 9 ∨ i = 10 ∨ i = 11 ∨ i = 12) (hC : D w sn lo nx es ms a0 b0 ec bc s (L 9) (L 13) (L 14) (L 15) (L 16) W) : C w sn lo nx es ms a0 b0 ec bc s (dn.more L i) W := by
  unfold C dn.more
  rw [if_neg (by omega), if_neg (by omega), if_neg (by omega), if_neg (by omega), if_neg (by omega)]
  exact hC
/-- an operation that leaves one value and no trace -/
theorem quiet {i : Nat} {o : Oper} (hi : i < 9 ∨ i = 10 ∨ i = 11 ∨ i = 12) (hsel : ∀ cs b, o.op ≠ .select cs b) (v : Value) (hd : ∀ s d, o.dst = some d → (dk.sets act (ws w.heap.size sn lo nx es ms a0 b0 ec bc s)).tmps[d]? = some v)
    (hrun : ∀ s W, W.heap[w.heap.size]? = some (.cells #[.string sn, .int .i64 lo, .int .i64 nx, .slice a0 es.length ec, .slice b0 ms.length bc] 27 (0, 0)) → (execOp (dk.sets act (ws w.heap.size sn lo nx es ms a0 b0 ec bc s)).eval o).run Tryd.prog W = .ok (.value v) W) : gh.Step Tryd.prog (fun s => dk.sets act (ws w.heap.size sn lo nx es ms a0 b0 ec bc s)) (C w sn lo nx es ms a0 b0 ec bc) Q i o := by
  refine gh.step_val hsel fun s L W hdp h0 hC => ⟨s, v, gh.Agree.refl _ _, hd s, ?_⟩
  rw [hrun s W hC.box]
  exact ⟨rfl, more_off hi hC⟩
/-- a call that answers one value and leaves new memory alone -/
theorem qcall {i : Nat} {o : Oper} (hi : i < 9 ∨ i = 10 ∨ i = 11 ∨ i = 12) (hsel : ∀ cs b, o.op ≠ .select cs b) (f : FuncId) (args : Array Value) (v : Value) (hd : ∀ s d, o.dst = some d → (dk.sets act (ws w.heap.size sn lo nx es ms a0 b0 ec bc s)).tmps[d]? = some v)
    (hrun : ∀ s W, (execOp (dk.sets act (ws w.heap.size sn lo nx es ms a0 b0 ec bc s)).eval o).run Tryd.prog W = .ok (.enter f args) W) (hcall : ∀ W, Calls Tryd.prog f args W fun e w' => e = .returned v ∧ Below W.heap.size W w') : gh.Step Tryd.prog (fun s => dk.sets act (ws w.heap.size sn lo nx es ms a0 b0 ec bc s)) (C w sn lo nx es ms a0 b0 ec bc) Q i o := by
  refine gh.step_val hsel fun s L W hdp h0 hC => ⟨s, v, gh.Agree.refl _ _, hd s, ?_⟩
  rw [hrun s W]
  exact (hcall W).mono fun e w' ⟨h1, h2⟩ => ⟨h1, more_off hi (D.on hC h2)⟩
theorem st9 {o : Oper} (hsz : 20 < act.tmps.size) (hsel : ∀ cs b, o.op ≠ .select cs b) (hrun : ∀ s W, (execOp (dk.sets act (ws w.heap.size sn lo nx es ms a0 b0 ec bc s)).eval o).run Tryd.prog W = .ok (.enter 32 #[.slice a0 es.length ec]) W) (hdst : o.dst = some 15)
    (hcall : ∀ W, Below w.heap.size w W → Calls Tryd.prog 32 #[.slice a0 es.length ec] W fun e w' => e = .returned (.slice (some ⟨W.heap.size, 0, none⟩) es.length es.length) ∧ Own flY.c 3 43 w' W.heap.size es es.length ∧ Below W.heap.size W w') : gh.Step Tryd.prog (fun s => dk.sets act (ws w.heap.size sn lo nx es ms a0 b0 ec bc s)) (C w sn lo nx es ms a0 b0 ec bc) Q 9 o := by
  refine gh.step_val hsel fun s L W hdp h0 hC => ⟨{ s with ge := W.heap.size }, .slice (some ⟨W.heap.size, 0, none⟩) es.length es.length, dk.agree_sets 9 15 _ hdst rfl rfl, (fun d hd => by rw [hdst] at hd; cases hd; exact dk.sets_on _ (by omega) _ rfl), ?_⟩
  rw [hrun s W]
  have hC : D w sn lo nx es ms a0 b0 ec bc s (L 9) (L 13) (L 14) (L 15) (L 16) W := hC
  refine (hcall W hC.bel).mono fun e w' ⟨h1, h2, h3⟩ => ⟨h1, ?_⟩
  show D w sn lo nx es ms a0 b0 ec bc _ true (L 13) (L 14) (L 15) (L 16) _
  have h1 := hC.on h3
  refine ⟨h1.bel, h1.box, h1.res, fun _ => ⟨h2, hC.size⟩, h1.row13, fun e => ?_, h1.at15, h1.at16⟩
  have := (h1.at14 e).1
  rw [h0] at this
  cases this
theorem st13 {o : Oper} (hml : ms.length ≤ 1048576) (hsz : 20 < act.tmps.size) (hop : o.op = .makeSlice 25 (.tmp 18) (.tmp 18)) (hdst : o.dst = some 19) : gh.Step Tryd.prog (fun s => dk.sets act (ws w.heap.size sn lo nx es ms a0 b0 ec bc s)) (C w sn lo nx es ms a0 b0 ec bc) Q 13 o := by
  refine gh.step_val (by rw [hop]; simp) fun s L W hdp h0 hC => ⟨{ s with gm := W.heap.size }, .slice (some ⟨W.heap.size, 0, none⟩) ms.length ms.length, dk.agree_sets 13 19 _ hdst rfl rfl, (fun d hd => by rw [hdst] at hd; cases hd; exact dk.sets_on _ (by omega) _ rfl), ?_⟩
  have e18 : (dk.sets act (ws w.heap.size sn lo nx es ms a0 b0 ec bc s)).eval (.tmp 18) = .int .i64 ms.length := dk.eval_on _ _ (by omega) rfl
  have hr := make_K W ms hml
  have hrun : (execOp (dk.sets act (ws w.heap.size sn lo nx es ms a0 b0 ec bc s)).eval o).run Tryd.prog W = .ok (.value (.slice (some ⟨W.heap.size, 0, none⟩) ms.length ms.length)) (W.alloc (.cells (madeCells #[.string ByteArray.empty, .int .i64 0] (ms.length * 2)) 45)) := by
    simp only [execOp, hop, e18, Sem.run_bind, hr, Result.andThen]
    rfl
  rw [hrun]
  refine ⟨rfl, ?_⟩
  have hC : D w sn lo nx es ms a0 b0 ec bc s (L 9) (L 13) (L 14) (L 15) (L 16) W := hC
  show D w sn lo nx es ms a0 b0 ec bc _ (L 9) true (L 14) (L 15) (L 16) _
  have h1 := hC.on ((Below.refl _ _).alloc (Nat.le_refl _) (.cells (madeCells #[.string ByteArray.empty, .int .i64 0] (ms.length * 2)) 45))
  refine ⟨h1.bel, h1.box, h1.res, h1.row9, fun _ => ⟨made (c := flK.c) [.string ByteArray.empty, .int .i64 0] W ms rfl, hC.size⟩, fun e => ?_, h1.at15, h1.at16⟩
  have := (h1.at14 e).2.1
  rw [h0] at this
  cases this
theorem st14 {o : Oper} (hsz : 20 < act.tmps.size) (hop : o.op = .build 27 #[(0, .tmp 8), (1, .tmp 10), (2, .tmp 12), (3, .tmp 15), (4, .tmp 19)]) (hdst : o.dst = some 20) (hd9 : ∃ e ∈ o.after, Region.binds .any e = true ∧ e.on = 9) (hd13 : ∃ e ∈ o.after, Region.binds .any e = true ∧ e.on = 13) : gh.Step Tryd.prog (fun s => dk.sets act (ws w.heap.size sn lo nx es ms a0 b0 ec bc s)) (C w sn lo nx es ms a0 b0 ec bc) Q 14 o := by
  refine gh.step_val (by rw [hop]; simp) fun s L W hdp h0 hC => ⟨{ s with xe := s.ge, xm := s.gm }, .agg #[.string sn, .int .i64 lo, .int .i64 nx, .slice (some ⟨s.ge, 0, none⟩) es.length es.length, .slice (some ⟨s.gm, 0, none⟩) ms.length ms.length], dk.agree_sets 14 20 _ hdst rfl rfl, (fun d hd => by rw [hdst] at hd; cases hd; exact dk.sets_on _ (by omega) _ rfl), ?_⟩
  have e8 : (dk.sets act (ws w.heap.size sn lo nx es ms a0 b0 ec bc s)).tmps[8]? = some (.string sn) := dk.sets_on _ (by omega) _ rfl
  have e10 : (dk.sets act (ws w.heap.size sn lo nx es ms a0 b0 ec bc s)).tmps[10]? = some (.int .i64 lo) := dk.sets_on _ (by omega) _ rfl
  have e12 : (dk.sets act (ws w.heap.size sn lo nx es ms a0 b0 ec bc s)).tmps[12]? = some (.int .i64 nx) := dk.sets_on _ (by omega) _ rfl
  have e15 : (dk.sets act (ws w.heap.size sn lo nx es ms a0 b0 ec bc s)).tmps[15]? = some (.slice (some ⟨s.ge, 0, none⟩) es.length es.length) := dk.sets_on _ (by omega) _ rfl
  have e19 : (dk.sets act (ws w.heap.size sn lo nx es ms a0 b0 ec bc s)).tmps[19]? = some (.slice (some ⟨s.gm, 0, none⟩) ms.length ms.length) := dk.sets_on _ (by omega) _ rfl
  have hrun : (execOp (dk.sets act (ws w.heap.size sn lo nx es ms a0 b0 ec bc s)).eval o).run Tryd.prog W = .ok (.value (.agg #[.string sn, .int .i64 lo, .int .i64 nx, .slice (some ⟨s.ge, 0, none⟩) es.length es.length, .slice (some ⟨s.gm, 0, none⟩) ms.length ms.length])) W := by
    simp [execOp, hop, e8, e10, e12, e15, e19, go_sem]
  rw [hrun]
  refine ⟨rfl, ?_⟩
  obtain ⟨x9, m9, y9, z9⟩ := hd9
  obtain ⟨x13, m13, y13, z13⟩ := hd13
  have l9 := hdp x9 m9 y9
  have l13 := hdp x13 m13 y13
  rw [z9] at l9
  rw [z13] at l13
  have hC : D w sn lo nx es ms a0 b0 ec bc s (L 9) (L 13) (L 14) (L 15) (L 16) W := hC
  show D w sn lo nx es ms a0 b0 ec bc _ (L 9) (L 13) true (L 15) (L 16) _
  have h16 : L 16 = false := by
    cases h : L 16 with
    | false => rfl
    | true => have := (hC.at16 h).1; rw [h0] at this; cases this
  refine ⟨hC.bel, hC.box, hC.res, hC.row9, hC.row13, fun _ => ⟨l9, l13, rfl, rfl⟩, fun e => ?_, fun e => by rw [h16] at e; cases e⟩
  have := hC.at15 e
  rw [h16] at this ⊢
  exact this
theorem st15 {o : Oper} (hsz : 20 < act.tmps.size) (hop : o.op = .alloc 27) (hdst : o.dst = some 3) : gh.Step Tryd.prog (fun s => dk.sets act (ws w.heap.size sn lo nx es ms a0 b0 ec bc s)) (C w sn lo nx es ms a0 b0 ec bc) Q 15 o := by
  refine gh.step_val (by rw [hop]; simp) fun s L W hdp h0 hC => ⟨{ s with gn := W.heap.size }, .pointer (some ⟨W.heap.size, 0, none⟩), dk.agree_sets 15 3 _ hdst rfl rfl, (fun d hd => by rw [hdst] at hd; cases hd; exact dk.sets_on _ (by omega) _ rfl), ?_⟩
  have hrun : (execOp (dk.sets act (ws w.heap.size sn lo nx es ms a0 b0 ec bc s)).eval o).run Tryd.prog W = .ok (.value (.pointer (some ⟨W.heap.size, 0, none⟩))) (W.alloc (.cells #[.string ⟨#[]⟩, .int .i64 0, .int .i64 0, .slice none 0 0, .slice none 0 0] 27)) := by
    simp [execOp, hop, go_sem]
  rw [hrun]
  refine ⟨rfl, ?_⟩
  have hC : D w sn lo nx es ms a0 b0 ec bc s (L 9) (L 13) (L 14) (L 15) (L 16) W := hC
  show D w sn lo nx es ms a0 b0 ec bc _ (L 9) (L 13) (L 14) true (L 16) _
  have h16 : L 16 = false := by
    cases h : L 16 with
    | false => rfl
    | true => have := (hC.at16 h).2; rw [h0] at this; cases this
  have h1 := hC.on ((Below.refl _ _).alloc (Nat.le_refl _) (.cells #[.string ⟨#[]⟩, .int .i64 0, .int .i64 0, .slice none 0 0, .slice none 0 0] 27))
  refine ⟨h1.bel, h1.box, h1.res, h1.row9, h1.row13, h1.at14, fun _ => ⟨?_, hC.size⟩, fun e => by rw [h16] at e; cases e⟩
  rw [h16]
  exact bnew W _ _
theorem st16 {o : Oper} (hsz : 20 < act.tmps.size) (hop : o.op = .store 27 (.tmp 3) (.tmp 20)) (hdst : o.dst = none) (hd14 : ∃ e ∈ o.after, Region.binds .any e = true ∧ e.on = 14) (hd15 : ∃ e ∈ o.after, Region.binds .any e = true ∧ e.on = 15) : gh.Step Tryd.prog (fun s => dk.sets act (ws w.heap.size sn lo nx es ms a0 b0 ec bc s)) (C w sn lo nx es ms a0 b0 ec bc) Q 16 o := by
  refine gh.step_val (by rw [hop]; simp) fun s L W hdp h0 hC => ⟨s, undef, gh.Agree.refl _ _, (fun d hd => by rw [hdst] at hd; cases hd), ?_⟩
  have e3 : (dk.sets act (ws w.heap.size sn lo nx es ms a0 b0 ec bc s)).tmps[3]? = some (.pointer (some ⟨s.gn, 0, none⟩)) := dk.sets_on _ (by omega) _ rfl
  have e20 : (dk.sets act (ws w.heap.size sn lo nx es ms a0 b0 ec bc s)).tmps[20]? = some (.agg #[.string sn, .int .i64 lo, .int .i64 nx, .slice (some ⟨s.xe, 0, none⟩) es.length es.length, .slice (some ⟨s.xm, 0, none⟩) ms.length ms.length]) := dk.sets_on _ (by omega) _ rfl
  obtain ⟨x14, m14, y14, z14⟩ := hd14
  obtain ⟨x15, m15, y15, z15⟩ := hd15
  have l14 := hdp x14 m14 y14
  have l15 := hdp x15 m15 y15
  rw [z14] at l14
  rw [z15] at l15
  have hC : D w sn lo nx es ms a0 b0 ec bc s (L 9) (L 13) (L 14) (L 15) (L 16) W := hC
  obtain ⟨hg, hgs⟩ := hC.at15 l15
  rw [h0] at hg
  have c0 : W.cell? ⟨s.gn, 0, none⟩ = some (.string ⟨#[]⟩) := bcell hg rfl
  have c1 : W.cell? ⟨s.gn, 1, none⟩ = some (.int .i64 0) := bcell hg rfl
  have c2 : W.cell? ⟨s.gn, 2, none⟩ = some (.int .i64 0) := bcell hg rfl
  have c3 : W.cell? ⟨s.gn, 3, none⟩ = some (.slice none 0 0) := bcell hg rfl
  have c4 : W.cell? ⟨s.gn, 4, none⟩ = some (.slice none 0 0) := bcell hg rfl
  have f0 := bfree hg 0
  have f1 := bfree hg 1
  have f2 := bfree hg 2
  have f3 := bfree hg 3
  have f4 := bfree hg 4
  have hrun : (execOp (dk.sets act (ws w.heap.size sn lo nx es ms a0 b0 ec bc s)).eval o).run Tryd.prog W = .ok .skip (setRow W s.gn 0 [.string sn, .int .i64 lo, .int .i64 nx, .slice (some ⟨s.xe, 0, none⟩) es.length es.length, .slice (some ⟨s.xm, 0, none⟩) ms.length ms.length]) := by
    simp [execOp, hop, e3, e20, go_sem, c0, c1, c2, c3, c4, f0, f1, f2, f3, f4, setRow]
  rw [hrun]
  refine ⟨rfl, ?_⟩
  show D w sn lo nx es ms a0 b0 ec bc _ (L 9) (L 13) (L 14) (L 15) true _
  have hs2 : w.heap.size ≤ s.gn := by omega
  have hkeep : ∀ b, b ≠ s.gn → (setRow W s.gn 0 [.string sn, .int .i64 lo, .int .i64 nx, .slice (some ⟨s.xe, 0, none⟩) es.length es.length, .slice (some ⟨s.xm, 0, none⟩) ms.length ms.length]).heap[b]? = W.heap[b]? := fun b hb => by
    simp only [setRow]
    rw [Below.heap_setCell _ _ _ _ hb, Below.heap_setCell _ _ _ _ hb, Below.heap_setCell _ _ _ _ hb, Below.heap_setCell _ _ _ _ hb, Below.heap_setCell _ _ _ _ hb]
  refine ⟨hC.bel.trans (setRow_below _ _ _ hs2), (hkeep _ (by omega)).trans hC.box, (hkeep _ (by omega)).trans hC.res, fun e => ⟨(hC.row9 e).1.kept (hkeep _ (apart (by decide) (hC.row9 e).1 hg)), (hC.row9 e).2⟩,
    fun e => ⟨(hC.row13 e).1.kept (hkeep _ (apart (by decide) (hC.row13 e).1 hg)), (hC.row13 e).2⟩, hC.at14, fun _ => ⟨?_, hgs⟩, fun _ => ⟨l14, l15⟩⟩
  exact bset (bset (bset (bset (bset hg 0 _) 1 _) 2 _) 3 _) 4 _
end

/-- the worlds of the loop: k marks are laid -/
structure Inv (w : World) (sn : ByteArray) (lo nx : Int) (es : List flY.En) (ms : List Ex) (a0 b0 : Option Addr) (ec bc : Nat) (ge gm gn k : Nat) (W : World) : Prop where
  bel : Below w.heap.size w W
  box : W.heap[w.heap.size]? = some (.cells #[.string sn, .int .i64 lo, .int .i64 nx, .slice a0 es.length ec, .slice b0 ms.length bc] 27 (0, 0))
  res : W.heap[w.heap.size + 1]? = some (.cells #[.string ⟨#[]⟩, .int .i64 0, .int .i64 0, .slice none 0 0, .slice none 0 0] 27 (0, 0))
  gnb : W.heap[gn]? = some (.cells #[.string sn, .int .i64 lo, .int .i64 nx, .slice (some ⟨ge, 0, none⟩) es.length es.length, .slice (some ⟨gm, 0, none⟩) ms.length ms.length] 27 (0, 0))
  rowE : Own flY.c 3 43 W ge es es.length
  rowM : Own flK.c 2 45 W gm ms k
  hge : w.heap.size + 2 ≤ ge
  hgm : w.heap.size + 2 ≤ gm
  hgn : w.heap.size + 2 ≤ gn
section
variable {w : World} {sn : ByteArray} {lo nx : Int} {es : List flY.En} {ms : List Ex} {a0 b0 : Option Addr} {ec bc : Nat} {ge gm gn k : Nat} {W W' : World}
theorem Inv.on (h : Inv w sn lo nx es ms a0 b0 ec bc ge gm gn k W) (hb : Below W.heap.size W W') : Inv w sn lo nx es ms a0 b0 ec bc ge gm gn k W' :=
  ⟨h.bel.trans (hb.mono h.bel.size), bstay h.box hb (Array.getElem?_eq_some_iff.1 h.box).1, bstay h.res hb (Array.getElem?_eq_some_iff.1 h.res).1, bstay h.gnb hb (Array.getElem?_eq_some_iff.1 h.gnb).1, h.rowE.below hb h.rowE.lt, h.rowM.below hb h.rowM.lt, h.hge, h.hgm, h.hgn⟩
theorem Inv.apartEM (h : Inv w sn lo nx es ms a0 b0 ec bc ge gm gn k W) : ge ≠ gm := by
  obtain ⟨cur, h1, _⟩ := h.rowM
  exact apart (by decide) h.rowE h1
theorem Inv.setM (h : Inv w sn lo nx es ms a0 b0 ec bc ge gm gn k W) (mn : ByteArray) (mo : Int) (he : ms[k]? = some ⟨mn, mo⟩) : Inv w sn lo nx es ms a0 b0 ec bc ge gm gn (k + 1) ((W.setCell ⟨gm, k * 2, none⟩ (.string mn)).setCell ⟨gm, k * 2 + 1, none⟩ (.int .i64 mo)) := by
  have hs : w.heap.size ≤ gm := by have := h.hgm; omega
  have n1 := apart (by decide) h.rowM h.box
  have n2 := apart (by decide) h.rowM h.res
  have n3 := apart (by decide) h.rowM h.gnb
  have n4 := h.apartEM
  exact ⟨(h.bel.setCell hs _).setCell hs _, boff (boff h.box _ _ _ (Ne.symm n1)) _ _ _ (Ne.symm n1), boff (boff h.res _ _ _ (Ne.symm n2)) _ _ _ (Ne.symm n2), boff (boff h.gnb _ _ _ (Ne.symm n3)) _ _ _ (Ne.symm n3),
    (h.rowE.kept (Below.heap_setCell _ _ _ _ n4)).kept (Below.heap_setCell _ _ _ _ n4), flK.own_set mn mo h.rowM he, h.hge, h.hgm, h.hgn⟩
end
def ws5 (m gm gn e5 k : Nat) (mn : ByteArray) (mo : Int) : List (Nat × Value) := [(29, .pointer (some ⟨gn, 4, none⟩)), (30, .slice (some ⟨gm, 0, none⟩) m m), (31, .int .i64 k), (32, .pointer (some ⟨e5, 0, none⟩)), (33, .string mn), (34, .string mn), (35, .pointer (some ⟨e5, 1, none⟩)), (36, .int .i64 mo), (37, .agg #[.string mn, .int .i64 mo]), (38, .pointer (some ⟨gm, k * 2, none⟩))]
def D5 (w : World) (sn : ByteArray) (lo nx : Int) (es : List flY.En) (ms : List Ex) (a0 b0 : Option Addr) (ec bc : Nat) (ge gm gn k e5 : Nat) (mn : ByteArray) (mo : Int) (b : Bool) (W : World) : Prop := Inv w sn lo nx es ms a0 b0 ec bc ge gm gn (if b then k + 1 else k) W ∧ W.heap[e5]? = some (.cells #[.string mn, .int .i64 mo] 45 (0, 0))

set_option maxRecDepth 100000 in
set_option maxHeartbeats 2000000 in
theorem copy_stream (sn : ByteArray) (lo nx : Int) (es : List flY.En) (ms : List Ex) (ga gb ec bc : Nat) (w : World) (F : Fit sn es ms) (hY : RY w ga es) (hE : RE w gb ms) (a0 b0 : Option Addr) (hga : Hid (0 < es.length → a0 = some ⟨ga, 0, none⟩)) (hha : Hid (0 < ms.length → b0 = some ⟨gb, 0, none⟩)) :
    Calls Tryd.prog 24 #[.agg #[.string sn, .int .i64 lo, .int .i64 nx, .slice a0 es.length ec, .slice b0 ms.length bc]] w fun r w' => ∃ g h, r = .returned (.agg #[.string sn, .int .i64 lo, .int .i64 nx, .slice (some ⟨g, 0, none⟩) es.length es.length, .slice (some ⟨h, 0, none⟩) ms.length ms.length]) ∧ w.heap.size ≤ g ∧ w.heap.size ≤ h ∧ g ≠ h ∧ Own flY.c 3 43 w' g es es.length ∧ Own flK.c 2 45 w' h ms ms.length ∧ Below w.heap.size w w' := by
  have h0 : D w sn lo nx es ms a0 b0 ec bc ⟨0, 0, 0, 0, 0⟩ false false false false false ((w.alloc (.cells #[.string sn, .int .i64 lo, .int .i64 nx, .slice a0 es.length ec, .slice b0 ms.length bc] 27)).alloc (.cells #[.string ⟨#[]⟩, .int .i64 0, .int .i64 0, .slice none 0 0, .slice none 0 0] 27)).drew := by
    refine ⟨(((Below.refl _ _).alloc (Nat.le_refl _) _).alloc (by simp) _).drew, ?_, ?_, by simp, by simp, by simp, by simp, by simp⟩
    · exact bold (bnew w _ _) _
    · have := bnew (w.alloc (.cells #[.string sn, .int .i64 lo, .int .i64 nx, .slice a0 es.length ec, .slice b0 ms.length bc] 27)) #[.string ⟨#[]⟩, .int .i64 0, .int .i64 0, .slice none 0 0, .slice none 0 0] 27
      rw [World.size_alloc] at this
      exact this
  have HF : Hid (Fit sn es ms) := F
  have HY : Hid (RY w ga es) := hY
  have HE : Hid (RE w gb ms) := hE
  have hel := F.el
  have hml := F.ml
  have hcn := fun W => cl.clone sn W (by have := F.ns; omega)
  have hce := fun (W : World) (hb : Below w.heap.size w W) => copy_entries es ga 0 ec W hel HF.out.eb (ryo (hY.below hb)) a0 hga
  clear hY hE F
  go_enter Tryd.func24, Tryd.ntmps24
  go_wp2
  refine dk.region_gsets (ws w.heap.size sn lo nx es ms a0 b0 ec bc) [6, 7, 8, 9, 10, 11, 12, 13, 14, 15, 16, 17, 18, 19, 20, 3] (C w sn lo nx es ms a0 b0 ec bc) ⟨0, 0, 0, 0, 0⟩ (by kernel_rfl) (by kernel_rfl) (fun _ => rfl) (by kernel_rfl) h0 ?each ?fin
  case each =>
    refine ⟨quiet (by decide) (by simp) (.pointer (some ⟨w.heap.size, 0, none⟩)) (by rintro s _ ⟨⟩; exact dk.sets_on _ (by simp) _ rfl) (fun s W h => by simp [execOp, go_sem, Act.eval, dk.sets_get, ws, List.lookup]), ?_⟩
    refine ⟨quiet (by decide) (by simp) (.string sn) (by rintro s _ ⟨⟩; exact dk.sets_on _ (by simp) _ rfl) (fun s W h => by have c : W.cell? ⟨w.heap.size, 0, none⟩ = some (.string sn) := bcell h rfl; simp [execOp, go_sem, Act.eval, dk.sets_get, ws, List.lookup, c]), ?_⟩
    refine ⟨qcall (by decide) (by simp) 25 #[.string sn] (.string sn) (by rintro s _ ⟨⟩; exact dk.sets_on _ (by simp) _ rfl) (fun s W => by simp [go_sem, Act.eval, dk.sets_get, ws, List.lookup]) hcn, ?_⟩
    refine ⟨quiet (by decide) (by simp) (.pointer (some ⟨w.heap.size, 1, none⟩)) (by rintro s _ ⟨⟩; exact dk.sets_on _ (by simp) _ rfl) (fun s W h => by simp [execOp, go_sem, Act.eval, dk.sets_get, ws, List.lookup]), ?_⟩
    refine ⟨quiet (by decide) (by simp) (.int .i64 lo) (by rintro s _ ⟨⟩; exact dk.sets_on _ (by simp) _ rfl) (fun s W h => by have c : W.cell? ⟨w.heap.size, 1, none⟩ = some (.int .i64 lo) := bcell h rfl; simp [execOp, go_sem, Act.eval, dk.sets_get, ws, List.lookup, c]), ?_⟩
    refine ⟨quiet (by decide) (by simp) (.pointer (some ⟨w.heap.size, 2, none⟩)) (by rintro s _ ⟨⟩; exact dk.sets_on _ (by simp) _ rfl) (fun s W h => by simp [execOp, go_sem, Act.eval, dk.sets_get, ws, List.lookup]), ?_⟩
    refine ⟨quiet (by decide) (by simp) (.int .i64 nx) (by rintro s _ ⟨⟩; exact dk.sets_on _ (by simp) _ rfl) (fun s W h => by have c : W.cell? ⟨w.heap.size, 2, none⟩ = some (.int .i64 nx) := bcell h rfl; simp [execOp, go_sem, Act.eval, dk.sets_get, ws, List.lookup, c]), ?_⟩
    refine ⟨quiet (by decide) (by simp) (.pointer (some ⟨w.heap.size, 3, none⟩)) (by rintro s _ ⟨⟩; exact dk.sets_on _ (by simp) _ rfl) (fun s W h => by simp [execOp, go_sem, Act.eval, dk.sets_get, ws, List.lookup]), ?_⟩
    refine ⟨quiet (by decide) (by simp) (.slice a0 es.length ec) (by rintro s _ ⟨⟩; exact dk.sets_on _ (by simp) _ rfl) (fun s W h => by have c : W.cell? ⟨w.heap.size, 3, none⟩ = some (.slice a0 es.length ec) := bcell h rfl; simp [execOp, go_sem, Act.eval, dk.sets_get, ws, List.lookup, c]), ?_⟩
    refine ⟨st9 (by simp) (by simp) (fun s W => by simp [go_sem, Act.eval, dk.sets_get, ws, List.lookup]) rfl hce, ?_⟩
    refine ⟨quiet (by decide) (by simp) (.pointer (some ⟨w.heap.size, 4, none⟩)) (by rintro s _ ⟨⟩; exact dk.sets_on _ (by simp) _ rfl) (fun s W h => by simp [execOp, go_sem, Act.eval, dk.sets_get, ws, List.lookup]), ?_⟩
    refine ⟨quiet (by decide) (by simp) (.slice b0 ms.length bc) (by rintro s _ ⟨⟩; exact dk.sets_on _ (by simp) _ rfl) (fun s W h => by have c : W.cell? ⟨w.heap.size, 4, none⟩ = some (.slice b0 ms.length bc) := bcell h rfl; simp [execOp, go_sem, Act.eval, dk.sets_get, ws, List.lookup, c]), ?_⟩
    refine ⟨quiet (by decide) (by simp) (.int .i64 ms.length) (by rintro s _ ⟨⟩; exact dk.sets_on _ (by simp) _ rfl) (fun s W h => by simp [go_sem, Act.eval, dk.sets_get, ws, List.lookup]), ?_⟩
    exact ⟨st13 hml (by simp) rfl rfl, st14 (by simp) rfl rfl ⟨⟨9, .data⟩, by simp, rfl, rfl⟩ ⟨⟨13, .data⟩, by simp, rfl, rfl⟩, st15 (by simp) rfl rfl, st16 (by simp) rfl rfl ⟨⟨14, .data⟩, by simp, rfl, rfl⟩ ⟨⟨15, .data⟩, by simp, rfl, rfl⟩, trivial⟩
  case fin =>
    intro g L W hL hC
    have hD : D w sn lo nx es ms a0 b0 ec bc g true true true true true W := by
      have h : D w sn lo nx es ms a0 b0 ec bc g (L 9) (L 13) (L 14) (L 15) (L 16) W := hC
      rw [hL 9 (by decide), hL 13 (by decide), hL 14 (by decide), hL 15 (by decide), hL 16 (by decide)] at h
      exact h
    have hI : Inv w sn lo nx es ms a0 b0 ec bc g.ge g.gm g.gn 0 W := by
      obtain ⟨h1, h2⟩ := hD.at15 rfl
      obtain ⟨_, _, e1, e2⟩ := hD.at14 rfl
      rw [e1, e2] at h1
      exact ⟨hD.bel, hD.box, hD.res, h1, (hD.row9 rfl).1, (hD.row13 rfl).1, (hD.row9 rfl).2, (hD.row13 rfl).2, h2⟩
    obtain ⟨_, _, e1, e2⟩ := hD.at14 rfl
    simp only [dk.sets, ws, e1, e2]
    obtain ⟨ge, gm, gn, xe, xm⟩ := g
    simp only at hI e1 e2
    clear hD hC hL h0 e1 e2 hcn hce
    have x4 : W.cell? ⟨w.heap.size, 4, none⟩ = some (.slice b0 ms.length bc) := bcell hI.box rfl
    have HI : Hid (Inv w sn lo nx es ms a0 b0 ec bc ge gm gn 0 W) := hI
    clear hI
    go_wp2
    go_loopw [24, 4, 5] (fun x _ _ wr => ∃ k : Nat, k ≤ ms.length ∧ x = .int .i64 k ∧ Hid (Inv w sn lo nx es ms a0 b0 ec bc ge gm gn k wr)) (fun x _ _ _ => ms.length - (intOf x).toNat)
    case atStart => exact ⟨0, Nat.zero_le _, rfl, HI⟩
    case round =>
      obtain ⟨k, hk, rfl, hinv⟩ := hrel
      clear x4 HI
      by_cases hkl : k < ms.length
      · have HG : Hid (ms[k]? = some ms[k]) := List.getElem?_eq_getElem hkl
        have hqh : b0 = some ⟨gb, 0, none⟩ := hha.out (by omega)
        have hR := HE.out.below hinv.out.bel
        obtain ⟨c0, c1⟩ := hR.2 k _ HG.out
        have hxs := HF.out.mb ms[k] (List.getElem_mem hkl)
        obtain ⟨⟨mn, mo⟩, he⟩ : ∃ e, ms[k] = e := ⟨_, rfl⟩
        rw [he] at c0 c1 HG hxs
        have c0 : wr.cell? ⟨gb, k * 2, none⟩ = some (.string mn) := c0
        have c1 : wr.cell? ⟨gb, k * 2 + 1, none⟩ = some (.int .i64 mo) := c1
        have hxs : mn.size ≤ 1048576 := hxs
        have hcl := fun W => cl.clone mn W (by omega)
        have hlt := hinv.out.rowM.lt
        have hne : gm ≠ wr.heap.size := by omega
        have hd0 : D5 w sn lo nx es ms a0 b0 ec bc ge gm gn k wr.heap.size mn mo false (wr.alloc (.cells #[.string mn, .int .i64 mo] 45)).drew := by
          refine ⟨(hinv.out.on ((Below.refl _ _).alloc (Nat.le_refl _) _)).on (Below.refl _ _).drew, bnew wr _ _⟩
        clear he hR
        go_wp2
        refine dk.region_sets (ws5 ms.length gm gn wr.heap.size k mn mo) [29, 30, 31, 32, 33, 34, 35, 36, 37, 38] (dk.Cl (D5 w sn lo nx es ms a0 b0 ec bc ge gm gn k wr.heap.size mn mo) 10) (by kernel_rfl) (by kernel_rfl) rfl (by kernel_rfl) hd0 ?each5 ?fin5
        case each5 =>
          refine ⟨dk.q (by decide) (.pointer (some ⟨gn, 4, none⟩)) (by rintro _ ⟨⟩; exact dk.sets_on _ (by simp) _ rfl) (fun b W h => by simp [execOp, go_sem, Act.eval, dk.sets_get, ws5, List.lookup]), ?_⟩
          refine ⟨dk.q (by decide) (.slice (some ⟨gm, 0, none⟩) ms.length ms.length) (by rintro _ ⟨⟩; exact dk.sets_on _ (by simp) _ rfl) (fun b W h => by have c : W.cell? ⟨gn, 4, none⟩ = some (.slice (some ⟨gm, 0, none⟩) ms.length ms.length) := bcell h.1.gnb rfl; simp [execOp, go_sem, Act.eval, dk.sets_get, ws5, List.lookup, c]), ?_⟩
          refine ⟨dk.q (by decide) (.int .i64 k) (by rintro _ ⟨⟩; exact dk.sets_on _ (by simp) _ rfl) (fun b W h => by simp [execOp, go_sem, Act.eval, dk.sets_get, ws5, List.lookup]), ?_⟩
          refine ⟨dk.q (by decide) (.pointer (some ⟨wr.heap.size, 0, none⟩)) (by rintro _ ⟨⟩; exact dk.sets_on _ (by simp) _ rfl) (fun b W h => by simp [execOp, go_sem, Act.eval, dk.sets_get, ws5, List.lookup]), ?_⟩
          refine ⟨dk.q (by decide) (.string mn) (by rintro _ ⟨⟩; exact dk.sets_on _ (by simp) _ rfl) (fun b W h => by have c : W.cell? ⟨wr.heap.size, 0, none⟩ = some (.string mn) := bcell h.2 rfl; simp [execOp, go_sem, Act.eval, dk.sets_get, ws5, List.lookup, c]), ?_⟩
          refine ⟨dk.call (by decide) 25 #[.string mn] (.string mn) (by rintro _ ⟨⟩; exact dk.sets_on _ (by simp) _ rfl) (fun b W h => by simp [go_sem, Act.eval, dk.sets_get, ws5, List.lookup]) (fun b W h => (hcl W).mono fun e w' ⟨h1, h2⟩ => ⟨h1, h.1.on h2, bstay h.2 h2 (Array.getElem?_eq_some_iff.1 h.2).1⟩), ?_⟩
          refine ⟨dk.q (by decide) (.pointer (some ⟨wr.heap.size, 1, none⟩)) (by rintro _ ⟨⟩; exact dk.sets_on _ (by simp) _ rfl) (fun b W h => by simp [execOp, go_sem, Act.eval, dk.sets_get, ws5, List.lookup]), ?_⟩
          refine ⟨dk.q (by decide) (.int .i64 mo) (by rintro _ ⟨⟩; exact dk.sets_on _ (by simp) _ rfl) (fun b W h => by have c : W.cell? ⟨wr.heap.size, 1, none⟩ = some (.int .i64 mo) := bcell h.2 rfl; simp [execOp, go_sem, Act.eval, dk.sets_get, ws5, List.lookup, c]), ?_⟩
          refine ⟨dk.q (by decide) (.agg #[.string mn, .int .i64 mo]) (by rintro _ ⟨⟩; exact dk.sets_on _ (by simp) _ rfl) (fun b W h => by simp [execOp, go_sem, Act.eval, dk.sets_get, ws5, List.lookup]), ?_⟩
          refine ⟨dk.q (by decide) (.pointer (some ⟨gm, k * 2, none⟩)) (by rintro _ ⟨⟩; exact dk.sets_on _ (by simp) _ rfl) (fun b W h => by simp [execOp, go_sem, Act.eval, dk.sets_get, ws5, List.lookup, hkl]), ?_⟩
          refine ⟨dk.last rfl (fun W h => ?_), trivial⟩
          obtain ⟨h1, h2⟩ := h
          obtain ⟨v0, g0⟩ := h1.rowM.at (k * 2) (by omega)
          have z0 := h1.rowM.free (k * 2)
          obtain ⟨v1, g1⟩ := h1.rowM.at (k * 2 + 1) (by omega)
          have z1 := h1.rowM.free (k * 2 + 1)
          refine ⟨(W.setCell ⟨gm, k * 2, none⟩ (.string mn)).setCell ⟨gm, k * 2 + 1, none⟩ (.int .i64 mo), by simp [execOp, go_sem, Act.eval, dk.sets_get, ws5, List.lookup, g0, g1, z0, z1], ?_, ?_⟩
          · exact Inv.setM h1 mn mo HG.out
          · exact boff (boff h2 _ _ _ (Ne.symm hne)) _ _ _ (Ne.symm hne)
        case fin5 =>
          intro L W hL hC
          have hC' : Inv w sn lo nx es ms a0 b0 ec bc ge gm gn (k + 1) W := by
            have := hL 10 (by decide)
            unfold dk.Cl at hC
            rw [this] at hC
            exact hC.1
          have HI : Hid (Inv w sn lo nx es ms a0 b0 ec bc ge gm gn (k + 1) W) := hC'
          clear hC hC' hL hd0
          simp only [dk.sets, ws5]
          go_wp2
          try rw [← hqa]
          try rw [← hqh]
          go_roundw
          case rel => exact ⟨k + 1, by omega, by go_num, HI⟩
          case measure => simp [intOf]; omega
      · obtain rfl : k = ms.length := by omega
        have hI := hinv.out
        have n0 : wr.cell? ⟨gn, 0, none⟩ = some (.string sn) := bcell hI.gnb rfl
        have n1 : wr.cell? ⟨gn, 1, none⟩ = some (.int .i64 lo) := bcell hI.gnb rfl
        have n2 : wr.cell? ⟨gn, 2, none⟩ = some (.int .i64 nx) := bcell hI.gnb rfl
        have n3 : wr.cell? ⟨gn, 3, none⟩ = some (.slice (some ⟨ge, 0, none⟩) es.length es.length) := bcell hI.gnb rfl
        have n4 : wr.cell? ⟨gn, 4, none⟩ = some (.slice (some ⟨gm, 0, none⟩) ms.length ms.length) := bcell hI.gnb rfl
        have z0 : wr.cell? ⟨w.heap.size + 1, 0, none⟩ = some (.string ⟨#[]⟩) := bcell hI.res rfl
        have z1 : wr.cell? ⟨w.heap.size + 1, 1, none⟩ = some (.int .i64 0) := bcell hI.res rfl
        have z2 : wr.cell? ⟨w.heap.size + 1, 2, none⟩ = some (.int .i64 0) := bcell hI.res rfl
        have z3 : wr.cell? ⟨w.heap.size + 1, 3, none⟩ = some (.slice none 0 0) := bcell hI.res rfl
        have z4 : wr.cell? ⟨w.heap.size + 1, 4, none⟩ = some (.slice none 0 0) := bcell hI.res rfl
        have z0f := bfree hI.res 0
        have z1f := bfree hI.res 1
        have z2f := bfree hI.res 2
        have z3f := bfree hI.res 3
        have z4f := bfree hI.res 4
        have hge := hI.hge
        have hgm := hI.hgm
        have hem := hI.apartEM
        clear hI
        go_wp2
        refine bodyPost_ret (v := .agg #[.string sn, .int .i64 lo, .int .i64 nx, .slice (some ⟨ge, 0, none⟩) es.length es.length, .slice (some ⟨gm, 0, none⟩) ms.length ms.length]) (by simp [results, Tryd.results24, go_sem, z0, z1, z2, z3, z4]) rfl ⟨ge, gm, rfl, by omega, by omega, hem, ?_, ?_, ?_⟩
        · exact ((((hinv.out.rowE.kept (Below.heap_setCell _ _ _ _ (by show ge ≠ w.heap.size + 1; omega))).kept (Below.heap_setCell _ _ _ _ (by show ge ≠ w.heap.size + 1; omega))).kept (Below.heap_setCell _ _ _ _ (by show ge ≠ w.heap.size + 1; omega))).kept (Below.heap_setCell _ _ _ _ (by show ge ≠ w.heap.size + 1; omega))).kept (Below.heap_setCell _ _ _ _ (by show ge ≠ w.heap.size + 1; omega))
        · exact ((((hinv.out.rowM.kept (Below.heap_setCell _ _ _ _ (by show gm ≠ w.heap.size + 1; omega))).kept (Below.heap_setCell _ _ _ _ (by show gm ≠ w.heap.size + 1; omega))).kept (Below.heap_setCell _ _ _ _ (by show gm ≠ w.heap.size + 1; omega))).kept (Below.heap_setCell _ _ _ _ (by show gm ≠ w.heap.size + 1; omega))).kept (Below.heap_setCell _ _ _ _ (by show gm ≠ w.heap.size + 1; omega))
        · exact ((((hinv.out.bel.setCell (by show w.heap.size ≤ w.heap.size + 1; omega) _).setCell (by show w.heap.size ≤ w.heap.size + 1; omega) _).setCell (by show w.heap.size ≤ w.heap.size + 1; omega) _).setCell (by show w.heap.size ≤ w.heap.size + 1; omega) _).setCell (by show w.heap.size ≤ w.heap.size + 1; omega) _
end Go.Proofs.YtlfhfcgcfggjcaaDoor.cst

/- The program's StreamPut: one more entry, where that is right, in rows of its own; new memory alone. -/
namespace Go.Proofs.YtlfhfcgcfggjcaaDoor.iput
open Go.ChangeShapes Go.WideShapes Go.ChangeAt Go.RowKit Go.Proofs.YtlfhfcgcfggjcaaDoor.fl Go.Proofs.YtlfhfcgcfggjcaaDoor.fo Go.Proofs.YtlfhfcgcfggjcaaDoor.rr Go.Proofs.YtlfhfcgcfggjcaaDoor.st Go.Proofs.YtlfhfcgcfggjcaaDoor.srd Go.Proofs.YtlfhfcgcfggjcaaDoor.scp Go.Proofs.YtlfhfcgcfggjcaaDoor.spw Go.Proofs.YtlfhfcgcfggjcaaDoor.sput
set_option linter.unusedVariables false

theorem own_owns {α : Type} {c : α → List Value} {n B g : Nat} {U : TypeId} {l : List α} {w : World} (hn : ∀ e, (c e).length = n) (ho : Own c n U w g l l.length) (hB : B ≤ g) (hl : l.length ≤ maxLen) : w.ownsRow B U n (.slice (some ⟨g, 0, none⟩) l.length l.length) l.length (l.flatMap c) := by
  obtain ⟨cur, h1, h2, h3⟩ := ho
  refine ⟨flat_len hn l, .inr ⟨g, l.length, cur, rfl, hB, h1, Nat.le_refl _, hl, h2, ?_⟩⟩
  apply List.ext_getElem?
  intro j
  by_cases hj : j < l.length * n
  · rw [List.getElem?_take_of_lt hj]
    have hj2 : j < (l.flatMap c).length := by rw [flat_len hn]; exact hj
    obtain ⟨u, hu⟩ : ∃ u, (l.flatMap c)[j]? = some u := ⟨_, List.getElem?_eq_getElem hj2⟩
    obtain ⟨i, e, r, k1, k2, k3⟩ := flat_get hn l j _ hu
    rw [hu]
    subst k3
    have := h3 i e (List.getElem?_eq_some_iff.1 k1).1 k1 r _ k2
    simpa using this
  · rw [List.getElem?_eq_none (by rw [List.length_take]; omega), List.getElem?_eq_none (by rw [flat_len hn]; omega)]
theorem owns_ownO {α : Type} {c : α → List Value} {n B g cap : Nat} {U : TypeId} {l : List α} {w : World} (hn : ∀ e, (c e).length = n) (ho : w.ownsRow B U n (.slice (some ⟨g, 0, none⟩) l.length cap) l.length (l.flatMap c)) : OwnO c n U w g 0 l l.length := by
  obtain ⟨_, ⟨h1, _⟩ | ⟨g', cap', cur, h1, h2, h3, h4, h5, h6, h7⟩⟩ := ho
  · cases h1
  cases h1
  refine ⟨cur, h3, by rw [h6, Nat.zero_add]; exact Nat.mul_le_mul_right n h4, fun i e hi he j v hv => ?_⟩
  have hf := flat_at hn l i e he j v hv
  rw [← h7] at hf
  have hlt := (List.getElem?_eq_some_iff.1 hf).1
  rw [List.length_take] at hlt
  rw [List.getElem?_take_of_lt (by omega)] at hf
  rw [Nat.zero_add]
  simpa using hf

theorem res_own {α : Type} {c : α → List Value} {n g k B off : Nat} {U : TypeId} {l : List α} {w : World} {x0 x1 x2 x3 x4 : Value} (h : OwnO c n U w g off l k) (hg : g ≠ B + 1) : OwnO c n U (res5 w (B + 1) x0 x1 x2 x3 x4) g off l k :=
  ((((h.kept (Below.heap_setCell _ _ _ _ hg)).kept (Below.heap_setCell _ _ _ _ hg)).kept (Below.heap_setCell _ _ _ _ hg)).kept (Below.heap_setCell _ _ _ _ hg)).kept (Below.heap_setCell _ _ _ _ hg)
structure G where
  ga : Nat
  gv : Nat
  cv : Nat
/-- what stands: the row of the list l, and what the new stream's field holds -/
structure R (w : World) (sn : ByteArray) (lo nx : Int) (es : List flY.En) (ms : List Ex) (g h : Option Addr) (cg ch : Nat) (n8 gm : Nat) (x3 : Value) (gv cv : Nat) (l : List flY.En) (W : World) : Prop where
  bel : Below w.heap.size w W
  box : W.heap[w.heap.size]? = some (.cells #[.string sn, .int .i64 lo, .int .i64 nx, .slice g es.length cg, .slice h ms.length ch] 27 (0, 0))
  res : W.heap[w.heap.size + 1]? = some (.cells #[.string ⟨#[]⟩, .int .i64 0, .int .i64 0, .slice none 0 0, .slice none 0 0] 27 (0, 0))
  out : W.heap[n8]? = some (.cells #[.string sn, .int .i64 lo, .int .i64 nx, x3, .slice (some ⟨gm, 0, none⟩) ms.length ms.length] 27 (0, 0))
  oe : W.ownsRow (w.heap.size + 2) 43 3 (.slice (some ⟨gv, 0, none⟩) l.length cv) l.length (l.flatMap flY.c)
  om : W.ownsRow (w.heap.size + 2) 45 2 (.slice (some ⟨gm, 0, none⟩) ms.length ms.length) ms.length (ms.flatMap flK.c)
  h8 : w.heap.size + 2 ≤ n8
theorem R.on {w : World} {sn : ByteArray} {lo nx : Int} {es : List flY.En} {ms : List Ex} {g h : Option Addr} {cg ch : Nat} {n8 gm gv cv : Nat} {x3 : Value} {l : List flY.En} {W W' : World} (hs : R w sn lo nx es ms g h cg ch n8 gm x3 gv cv l W) (hb : Below W.heap.size W W') : R w sn lo nx es ms g h cg ch n8 gm x3 gv cv l W' :=
  ⟨hs.bel.trans (hb.mono hs.bel.size), bstay hs.box hb (Array.getElem?_eq_some_iff.1 hs.box).1, bstay hs.res hb (Array.getElem?_eq_some_iff.1 hs.res).1, bstay hs.out hb (Array.getElem?_eq_some_iff.1 hs.out).1, own_stay hs.oe hb, own_stay hs.om hb, hs.h8⟩
structure D (w : World) (sn : ByteArray) (lo nx : Int) (es : List flY.En) (ms : List Ex) (g h : Option Addr) (cg ch : Nat) (t : Int) (b : ByteArray) (n8 ge gm : Nat) (s : G) (b1 b8 b9 b11 : Bool) (W : World) : Prop where
  si : R w sn lo nx es ms g h cg ch n8 gm (if b11 then .slice (some ⟨s.gv, 0, none⟩) (es.length + 1) s.cv else .slice (some ⟨ge, 0, none⟩) es.length es.length) (if b9 then s.gv else ge) (if b9 then s.cv else es.length) (if b9 then (es ++ [⟨nx, t, b⟩]) else es) W
  at8 : b8 = true → b9 = false → W.heap[s.ga]? = some (.cells #[.int .i64 nx, .int .i64 t, .string b] 43 (0, 0))
  at9 : b9 = true → b1 = true ∧ b8 = true
  at11 : b11 = true → b9 = true
theorem D.on {w : World} {sn : ByteArray} {lo nx : Int} {es : List flY.En} {ms : List Ex} {g h : Option Addr} {cg ch : Nat} {t : Int} {b : ByteArray} {n8 ge gm : Nat} {s : G} {b1 b8 b9 b11 : Bool} {W W' : World} (hd : D w sn lo nx es ms g h cg ch t b n8 ge gm s b1 b8 b9 b11 W) (hb : Below W.heap.size W W') : D w sn lo nx es ms g h cg ch t b n8 ge gm s b1 b8 b9 b11 W' :=
  ⟨hd.si.on hb, fun e1 e2 => bstay (hd.at8 e1 e2) hb (Array.getElem?_eq_some_iff.1 (hd.at8 e1 e2)).1, hd.at9, hd.at11⟩
section
variable {w : World} {sn : ByteArray} {lo nx : Int} {es : List flY.En} {ms : List Ex} {g h : Option Addr} {cg ch : Nat} {t : Int} {b : ByteArray} {n8 ge gm : Nat} {act : Act} {Q : Exit → Act → World → Prop}
end

end Go.Proofs.YtlfhfcgcfggjcaaDoor.iput

/- slices.Insert of one mark into a row of marks that has no room: the same row with the mark in its place, in a row of its own. -/
namespace Go.Proofs.YtlfhfcgcfggjcaaDoor.insm
open Go.ChangeShapes Go.WideShapes Go.ChangeAt Go.RowKit Go.Proofs.YtlfhfcgcfggjcaaDoor.fl Go.Proofs.YtlfhfcgcfggjcaaDoor.fo Go.Proofs.YtlfhfcgcfggjcaaDoor.rr Go.Proofs.YtlfhfcgcfggjcaaDoor.st Go.Proofs.YtlfhfcgcfggjcaaDoor.srd Go.Proofs.YtlfhfcgcfggjcaaDoor.scp Go.Proofs.YtlfhfcgcfggjcaaDoor.spw
set_option linter.unusedVariables false

/-- the cells of an owned row -/
theorem owns_cells {α : Type} {c : α → List Value} {n B g cap : Nat} {U : TypeId} {l : List α} {w : World} (hn : ∀ e, (c e).length = n) (h : w.ownsRow B U n (.slice (some ⟨g, 0, none⟩) l.length cap) l.length (l.flatMap c)) : ∀ (j : Nat) (u : Value), (l.flatMap c)[j]? = some u → w.cell? ⟨g, j, none⟩ = some u := fun j u hu => by
  obtain ⟨_, ⟨h1, _⟩ | ⟨g', cap', cur, h1, h2, h3, h4, h5, h6, h7⟩⟩ := h
  · cases h1
  cases h1
  rw [← h7] at hu
  have hlt := (List.getElem?_eq_some_iff.1 hu).1
  rw [List.length_take] at hlt
  rw [List.getElem?_take_of_lt (by omega)] at hu
  exact bcell h3 (by simpa using hu)
theorem flat_take {α : Type} {c : α → List Value} (l : List α) (i : Nat) : (l.take i).flatMap c ++ (l.drop i).flatMap c = l.flatMap c := by rw [← List.flatMap_append, List.take_append_drop]
/-- two copies into a row: what was ahead, what is put in, what stood from there on -/
theorem two_copies {xs v cs rest : List Value} {o1 o2 : Nat} (h1 : xs.length = o1) (h2 : o1 + v.length = o2) (hr : v.length + cs.length ≤ rest.length) :
    (((xs ++ rest).take o1 ++ v ++ (xs ++ rest).drop (o1 + v.length)).take o2 ++ cs ++ ((xs ++ rest).take o1 ++ v ++ (xs ++ rest).drop (o1 + v.length)).drop (o2 + cs.length)) = xs ++ v ++ cs ++ rest.drop (v.length + cs.length) := by
  subst h1
  subst h2
  rw [List.take_left, List.drop_append, List.drop_eq_nil_of_le (by omega), List.nil_append, show xs.length + v.length - xs.length = v.length by omega]
  have e1 : (xs ++ v).length = xs.length + v.length := List.length_append
  rw [← e1, List.take_left, List.drop_append, List.drop_eq_nil_of_le (by omega), List.nil_append, List.drop_drop]
  congr 2
  omega
/-- the row behind it is owned -/
theorem owns_new {B g cap n : Nat} {U : TypeId} {w : World} {cur : Array Value} {ys tl : List Value} (hg : w.heap[g]? = some (.cells cur U (0, 0))) (hB : B ≤ g) (hc : cur.toList = ys ++ tl) (hy : ys.length = n * 2) (hn : n ≤ cap) (hm : cap ≤ maxLen) (hs : cur.size = cap * 2) : w.ownsRow B U 2 (.slice (some ⟨g, 0, none⟩) n cap) n ys :=
  ⟨hy, .inr ⟨g, cap, cur, rfl, hB, hg, hn, hm, hs, by rw [hc, ← hy, List.take_left]⟩⟩

def ws (b g i n G : Nat) : List (Nat × Value) := [(46, .slice (some ⟨b, 0, none⟩) (n + 1) G), (47, .int .i64 i), (48, .int .i64 1), (49, .int .i64 ((i : Int) + 1)), (50, .slice (some ⟨b, (i + 1) * 2, none⟩) (n - i) (G - (i + 1))), (51, .slice (some ⟨g, 0, none⟩) n n), (52, .int .i64 i), (53, .slice (some ⟨g, i * 2, none⟩) (n - i) (n - i)), (54, .int .i64 ((n - i : Nat) : Int))]

set_option maxRecDepth 100000 in
set_option maxHeartbeats 4000000 in
theorem insert_mid (l : List Ex) (g i B : Nat) (mn : ByteArray) (mo : Int) (ga : Nat) (w : World) (hi : i < l.length) (hl : l.length ≤ 1048576) (hB : B ≤ w.heap.size) (ho : w.ownsRow B 45 2 (.slice (some ⟨g, 0, none⟩) l.length l.length) l.length (l.flatMap flK.c)) (ha : w.heap[ga]? = some (.cells #[.string mn, .int .i64 mo] 45 (0, 0))) :
    Calls Tryd.prog 28 #[.slice (some ⟨g, 0, none⟩) l.length l.length, .int .i64 i, .slice (some ⟨ga, 0, none⟩) 1 1] w fun r w' => ∃ g2 c2, r = .returned (.slice (some ⟨g2, 0, none⟩) (l.length + 1) c2) ∧ w'.ownsRow B 45 2 (.slice (some ⟨g2, 0, none⟩) (l.length + 1) c2) (l.length + 1) ((l.take i ++ ⟨mn, mo⟩ :: l.drop i).flatMap flK.c) ∧ Below w.heap.size w w' := by
  obtain ⟨i1, ki, kz0, kz1, kz2⟩ := infoK
  have hcells := owns_cells flK.c_len ho
  have hgl : g < w.heap.size := by obtain ⟨_, cur, hcur⟩ := owns_at ho; exact (Array.getElem?_eq_some_iff.1 hcur).1
  have hgal := (Array.getElem?_eq_some_iff.1 ha).1
  obtain ⟨n, hn⟩ : ∃ n, l.length = n := ⟨_, rfl⟩
  have hxl : ((l.take i).flatMap flK.c).length = i * 2 := by rw [flat_len flK.c_len, List.length_take]; congr 1; omega
  have hdl : ((l.drop i).flatMap flK.c).length = (n - i) * 2 := by rw [flat_len flK.c_len, List.length_drop, hn]
  have hxc : ∀ (j : Nat) (u : Value), ((l.take i).flatMap flK.c)[j]? = some u → w.cell? ((⟨g, 0, none⟩ : Addr).add j) = some u := fun j u hu => by
    rw [add_at, Nat.zero_add]
    refine hcells j u ?_
    rw [← flat_take l i, List.getElem?_append_left (List.getElem?_eq_some_iff.1 hu).1]
    exact hu
  have hdc : ∀ (j : Nat) (u : Value), ((l.drop i).flatMap flK.c)[j]? = some u → w.cell? ((⟨g, i * 2, none⟩ : Addr).add j) = some u := fun j u hu => by
    rw [add_at]
    refine hcells (i * 2 + j) u ?_
    rw [← flat_take l i, List.getElem?_append_right (by rw [hxl]; omega), hxl, show i * 2 + j - i * 2 = j by omega]
    exact hu
  rw [hn] at hi hl
  simp only [hn]
  have hz := fun ty => az.run_append_zeros (P := Tryd.prog) w 25 3 ty 45 i1 _ Tryd.underlying25 Tryd.underlying3 ki kz0 ⟨g, 0, none⟩ i n ((l.take i).flatMap flK.c) (by rw [hxl, kz1]) hxc (n + 1 - i) (by rw [kz1]; omega) (by omega) (by omega) (by rw [kz2]; omega) (by rw [kz2]; exact growslice_fits_wide (by omega) (by omega))
  rw [show i + (n + 1 - i) = n + 1 by omega] at hz
  have hG1 := grownCap_ge w (n + 1) n 45
  have hG2 := grownCap_le_maxLen w (n + 1) n 45 (by unfold maxLen; omega)
  obtain ⟨G, hG⟩ : ∃ G, grownCap w (n + 1) n 45 = G := ⟨_, rfl⟩
  rw [hG] at hz hG1 hG2
  obtain ⟨rest, hrest⟩ : ∃ rest : List Value, rest.length = (G - i) * 2 ∧ ∀ zc : Array Value, zc = (Value.agg #[.string ByteArray.empty, .int .i64 0]).cells → (((l.take i).flatMap flK.c).toArray ++ Builtin.zeroCells zc (n + 1 - i) ++ Builtin.zeroCells zc (G - (n + 1))) = (((l.take i).flatMap flK.c) ++ rest).toArray := by
    refine ⟨(Builtin.zeroCells (Value.agg #[.string ByteArray.empty, .int .i64 0]).cells (n + 1 - i) ++ Builtin.zeroCells (Value.agg #[.string ByteArray.empty, .int .i64 0]).cells (G - (n + 1))).toList, ?_, ?_⟩
    · simp [size_zeroCells, Value.cells]; omega
    · rintro zc rfl; simp
  have hrow := hrest.2 _ rfl
  rw [hrow] at hz
  have hk : (n : Int) + 1 - (i : Int) = ((n + 1 - i : Nat) : Int) := by omega
  rw [← hk] at hz
  obtain ⟨xs, hxs⟩ : ∃ xs, (l.take i).flatMap flK.c = xs := ⟨_, rfl⟩
  obtain ⟨cs, hcs⟩ : ∃ cs, (l.drop i).flatMap flK.c = cs := ⟨_, rfl⟩
  rw [hxs] at hz hxl
  rw [hcs] at hdl hdc
  have hfl : (l.take i ++ ⟨mn, mo⟩ :: l.drop i).flatMap flK.c = xs ++ [Value.string mn, Value.int .i64 mo] ++ cs := by rw [← hxs, ← hcs]; simp [flK.c]
  rw [hfl]
  have hone : ∀ u ∈ cs, u.oneCell' = true := by rw [← hcs]; exact oneK _
  have hg1 : (w.drew.alloc (.cells (xs ++ rest).toArray 45)).heap[w.heap.size]? = some (.cells (xs ++ rest).toArray 45 (0, 0)) := bnew w.drew _ _
  have hb1 : Below w.heap.size w (w.drew.alloc (.cells (xs ++ rest).toArray 45)) := (Below.refl _ w).drew.alloc (Nat.le_refl _) _
  obtain ⟨W1, hW1⟩ : ∃ W1, w.drew.alloc (.cells (xs ++ rest).toArray 45) = W1 := ⟨_, rfl⟩
  rw [hW1] at hz hg1 hb1
  have hav := bstay ha hb1 hgal
  have hrl := hrest.1
  have hmin1 : Nat.min 1 (n + 1 - i) = 1 := Nat.min_eq_left (by omega)
  have hmin2 : Nat.min (n - i) (n - i) = n - i := Nat.min_self _
  have hc1 := fun ty => cpr.run_copy_rows (P := Tryd.prog) W1 25 25 ty 45 i1 w.heap.size (i * 2) (n + 1 - i) (G - i) ⟨ga, 0, none⟩ 1 1 (xs ++ rest).toArray 45 [Value.string mn, Value.int .i64 mo] Tryd.underlying25 ki hg1 (by rw [kz1, hmin1]; rfl) (fun j u hu => by
    rw [add_at, Nat.zero_add]
    match j, hu with
    | 0, hu => cases hu; exact bcell hav rfl
    | 1, hu => cases hu; exact bcell hav rfl
    | j + 2, hu => simp at hu) (by simp; omega) (by simp [Value.oneCell'])
  rw [hmin1] at hc1
  simp only [show ([Value.string mn, Value.int .i64 mo] : List Value).length = 2 from rfl] at hc1
  obtain ⟨A1, hA1⟩ : ∃ A1 : List Value, (xs ++ rest).take (i * 2) ++ [Value.string mn, Value.int .i64 mo] ++ (xs ++ rest).drop (i * 2 + 2) = A1 := ⟨_, rfl⟩
  rw [hA1] at hc1
  have hA1l : A1.length = i * 2 + (G - i) * 2 := by rw [← hA1]; simp; omega
  have hg2 : (W1.setRow w.heap.size A1.toArray).heap[w.heap.size]? = some (.cells A1.toArray 45 (0, 0)) := setRow_heap W1 w.heap.size _ _ 45 _ hg1
  have hb2 : Below w.heap.size w (W1.setRow w.heap.size A1.toArray) := below_setRow hb1 (Nat.le_refl _) _
  obtain ⟨W2, hW2⟩ : ∃ W2, W1.setRow w.heap.size A1.toArray = W2 := ⟨_, rfl⟩
  rw [hW2] at hc1 hg2 hb2
  have hc2 := fun ty => cpr.run_copy_rows (P := Tryd.prog) W2.drew 25 25 ty 45 i1 w.heap.size ((i + 1) * 2) (n - i) (G - (i + 1)) ⟨g, i * 2, none⟩ (n - i) (n - i) A1.toArray 45 cs Tryd.underlying25 ki hg2 (by rw [kz1, hmin2, hdl]) (fun j u hu => by
    have := hdc j u hu
    rw [add_at] at this ⊢
    exact (hb2.drew.cell (p := ⟨g, i * 2 + j, none⟩) hgl).trans this) (by rw [hdl]; simp; omega) hone
  rw [hmin2] at hc2
  have hc2 := fun ty => (hc2 ty).trans rfl
  have htwo : A1.take ((i + 1) * 2) ++ cs ++ A1.drop ((i + 1) * 2 + cs.length) = xs ++ [Value.string mn, Value.int .i64 mo] ++ cs ++ rest.drop (2 + cs.length) := by
    rw [← hA1]
    exact two_copies (v := [Value.string mn, Value.int .i64 mo]) hxl (by show i * 2 + 2 = (i + 1) * 2; omega) (by show 2 + cs.length ≤ rest.length; omega)
  rw [htwo] at hc2
  have hg3 : (W2.drew.setRow w.heap.size (xs ++ [Value.string mn, Value.int .i64 mo] ++ cs ++ rest.drop (2 + cs.length)).toArray).heap[w.heap.size]? = some (.cells (xs ++ [Value.string mn, Value.int .i64 mo] ++ cs ++ rest.drop (2 + cs.length)).toArray 45 (0, 0)) := setRow_heap W2.drew w.heap.size _ _ 45 _ hg2
  have hb3 : Below w.heap.size w (W2.drew.setRow w.heap.size (xs ++ [Value.string mn, Value.int .i64 mo] ++ cs ++ rest.drop (2 + cs.length)).toArray) := below_setRow hb2.drew (Nat.le_refl _) _
  have hown : (W2.drew.setRow w.heap.size (xs ++ [Value.string mn, Value.int .i64 mo] ++ cs ++ rest.drop (2 + cs.length)).toArray).ownsRow B 45 2 (.slice (some ⟨w.heap.size, 0, none⟩) (n + 1) G) (n + 1) (xs ++ [Value.string mn, Value.int .i64 mo] ++ cs) :=
    owns_new (tl := rest.drop (2 + cs.length)) hg3 hB (by simp) (by simp; omega) hG1 hG2 (by simp; omega)
  obtain ⟨W3, hW3⟩ : ∃ W3, W2.drew.setRow w.heap.size (xs ++ [Value.string mn, Value.int .i64 mo] ++ cs ++ rest.drop (2 + cs.length)).toArray = W3 := ⟨_, rfl⟩
  rw [hW3] at hc2 hb3 hown
  have HB3 : Hid (Below w.heap.size w W3) := hb3
  have HOWN : Hid (W3.ownsRow B 45 2 (.slice (some ⟨w.heap.size, 0, none⟩) (n + 1) G) (n + 1) (xs ++ [Value.string mn, Value.int .i64 mo] ++ cs)) := hown
  have i9 : IntKind.i64.wrap ((i : Int) + 1) = (i : Int) + 1 := by rw [IntKind.wrap_i64]; omega
  have r1 : i ≤ n := by omega
  have r2 : (0 : Int) ≤ (i : Int) + 1 := by omega
  have r3 : ¬ G = i + 1 := by omega
  have r4 : ¬ n = i := by omega
  have q1 : ¬ (i : Int) = (n : Int) := by omega
  have q2 : i < G := by omega
  have q3 : i + 1 < G := by omega
  have q4 : (n : Int) < (n : Int) + 1 := by omega
  have q5 : n - i ≠ 0 := by omega
  clear hcells hxc hdc ho ha hrest hrow hav hg1 hg2 hg3 hb1 hb2 hb3 hown hA1 htwo hW1 hW2 hW3 hone hfl hxs hcs hk hG
  go_enter Tryd.func28, Tryd.ntmps28
  go_wp2_with (at_builtin; first | refine cpr.wpList_append_run rfl _ _ 25 3 rfl _ _ _ rfl rfl (hz _) ?_ | refine cpr.wpList_copy_run rfl _ _ 25 25 rfl _ _ _ rfl rfl (hc1 _) ?_)
  refine dk.region_sets (ws w.heap.size g i n G) [46, 47, 48, 49, 50, 51, 52, 53, 54] (dk.Cl (fun b W => W = if b then W3 else W2.drew) 8) (by kernel_rfl) (by kernel_rfl) rfl (by kernel_rfl) rfl ?each ?fin
  case each =>
    refine ⟨dk.q (by decide) (.slice (some ⟨w.heap.size, 0, none⟩) (n + 1) G) (by rintro _ ⟨⟩; exact dk.sets_on _ (by simp) _ rfl) (fun b W h => by simp [execOp, go_sem, Act.eval, dk.sets_get, ws, List.lookup]), ?_⟩
    refine ⟨dk.q (by decide) (.int .i64 i) (by rintro _ ⟨⟩; exact dk.sets_on _ (by simp) _ rfl) (fun b W h => by simp [execOp, go_sem, Act.eval, dk.sets_get, ws, List.lookup]), ?_⟩
    refine ⟨dk.q (by decide) (.int .i64 1) (by rintro _ ⟨⟩; exact dk.sets_on _ (by simp) _ rfl) (fun b W h => by simp [execOp, go_sem, Act.eval, dk.sets_get, ws, List.lookup]), ?_⟩
    refine ⟨dk.q (by decide) (.int .i64 ((i : Int) + 1)) (by rintro _ ⟨⟩; exact dk.sets_on _ (by simp) _ rfl) (fun b W h => by simp [execOp, go_sem, Act.eval, dk.sets_get, ws, List.lookup, i9]), ?_⟩
    refine ⟨dk.q (by decide) (.slice (some ⟨w.heap.size, (i + 1) * 2, none⟩) (n - i) (G - (i + 1))) (by rintro _ ⟨⟩; exact dk.sets_on _ (by simp) _ rfl) (fun b W h => by simp [execOp, go_sem, Act.eval, dk.sets_get, ws, List.lookup, r1, r2, r3]), ?_⟩
    refine ⟨dk.q (by decide) (.slice (some ⟨g, 0, none⟩) n n) (by rintro _ ⟨⟩; exact dk.sets_on _ (by simp) _ rfl) (fun b W h => by simp [execOp, go_sem, Act.eval, dk.sets_get, ws, List.lookup]), ?_⟩
    refine ⟨dk.q (by decide) (.int .i64 i) (by rintro _ ⟨⟩; exact dk.sets_on _ (by simp) _ rfl) (fun b W h => by simp [execOp, go_sem, Act.eval, dk.sets_get, ws, List.lookup]), ?_⟩
    refine ⟨dk.q (by decide) (.slice (some ⟨g, i * 2, none⟩) (n - i) (n - i)) (by rintro _ ⟨⟩; exact dk.sets_on _ (by simp) _ rfl) (fun b W h => by simp [execOp, go_sem, Act.eval, dk.sets_get, ws, List.lookup, r1, r4]), ?_⟩
    refine ⟨cpr.lastv (.int .i64 ((n - i : Nat) : Int)) (by rintro _ ⟨⟩; exact dk.sets_on _ (by simp) _ rfl) (fun W h => ?_), trivial⟩
    obtain rfl : W = W2.drew := h
    refine ⟨W3, ?_, rfl⟩
    simp [execOp, resolve, invoke, builtin, Act.eval, dk.sets_get, ws, List.lookup, hc2]
    rfl
  case fin =>
    intro L W hL hC
    obtain rfl : W = W3 := by
      have h8 := hL 8 (by decide)
      unfold dk.Cl at hC
      rw [h8] at hC
      exact hC
    simp only [dk.sets, ws]
    go_wp2
    go_ret
    exact ⟨_, _, rfl, HOWN.out, HB3.out⟩
set_option maxRecDepth 100000 in
set_option maxHeartbeats 4000000 in
theorem insert_end (l : List Ex) (g B : Nat) (mn : ByteArray) (mo : Int) (ga : Nat) (w : World) (hl : l.length ≤ 1048576) (hB : B ≤ w.heap.size) (ho : w.ownsRow B 45 2 (.slice (some ⟨g, 0, none⟩) l.length l.length) l.length (l.flatMap flK.c)) (ha : w.heap[ga]? = some (.cells #[.string mn, .int .i64 mo] 45 (0, 0))) :
    Calls Tryd.prog 28 #[.slice (some ⟨g, 0, none⟩) l.length l.length, .int .i64 l.length, .slice (some ⟨ga, 0, none⟩) 1 1] w fun r w' => ∃ g2 c2, r = .returned (.slice (some ⟨g2, 0, none⟩) (l.length + 1) c2) ∧ w'.ownsRow B 45 2 (.slice (some ⟨g2, 0, none⟩) (l.length + 1) c2) (l.length + 1) ((l ++ [(⟨mn, mo⟩ : Ex)]).flatMap flK.c) ∧ w.grownBy w' (some g) := by
  obtain ⟨i1, ki, kz0, kz1, kz2⟩ := infoK
  have hfl : (l ++ [(⟨mn, mo⟩ : Ex)]).flatMap flK.c = l.flatMap flK.c ++ [Value.string mn, Value.int .i64 mo] := by rw [List.flatMap_append]; simp [flK.c]
  rw [hfl]
  have hnw : ∀ (j : Nat) (u : Value), [Value.string mn, Value.int .i64 mo][j]? = some u → w.cell? ((⟨ga, 0, none⟩ : Addr).add j) = some u := fun j u hu => by
    rw [add_at, Nat.zero_add]
    match j, hu with
    | 0, hu => cases hu; exact bcell ha rfl
    | 1, hu => cases hu; exact bcell ha rfl
    | j + 2, hu => simp at hu
  clear hfl ha
  go_enter Tryd.func28, Tryd.ntmps28
  go_wp2_with (at_builtin; refine wpList_append_own _ rfl _ _ 25 rfl B 45 i1 (.agg #[.string ByteArray.empty, .int .i64 0]) 2 24 Tryd.underlying25 ki kz0 kz1 kz2 rfl (by decide) _ _ _ rfl ho ⟨ga, 0, none⟩ 1 1 [Value.string mn, Value.int .i64 mo] rfl rfl hnw (by simp [Value.oneCell']) (by unfold maxLen; omega) (by omega) hB ?_)
  intro v' w' hown hgrow _
  obtain ⟨g2, c2, rfl⟩ := own_form hown
  have HO : Hid (w'.ownsRow B 45 2 (.slice (some ⟨g2, 0, none⟩) (l.length + 1) c2) (l.length + 1) (l.flatMap flK.c ++ [Value.string mn, Value.int .i64 mo])) := hown
  have HG : Hid (w.grownBy w' (some g)) := hgrow
  clear hown hgrow ho hnw
  go_wp2
  go_ret
  exact ⟨_, _, rfl, HO.out, HG.out⟩
/-- either way -/
theorem insert_mark (l : List Ex) (g i B : Nat) (mn : ByteArray) (mo : Int) (ga : Nat) (w : World) (hi : i ≤ l.length) (hl : l.length ≤ 1048576) (hB : B ≤ w.heap.size) (ho : w.ownsRow B 45 2 (.slice (some ⟨g, 0, none⟩) l.length l.length) l.length (l.flatMap flK.c)) (ha : w.heap[ga]? = some (.cells #[.string mn, .int .i64 mo] 45 (0, 0))) :
    Calls Tryd.prog 28 #[.slice (some ⟨g, 0, none⟩) l.length l.length, .int .i64 i, .slice (some ⟨ga, 0, none⟩) 1 1] w fun r w' => ∃ g2 c2, r = .returned (.slice (some ⟨g2, 0, none⟩) (l.length + 1) c2) ∧ w'.ownsRow B 45 2 (.slice (some ⟨g2, 0, none⟩) (l.length + 1) c2) (l.length + 1) ((l.take i ++ ⟨mn, mo⟩ :: l.drop i).flatMap flK.c) ∧ w.grownBy w' (some g) := by
  by_cases h : i < l.length
  · exact (insert_mid l g i B mn mo ga w h hl hB ho ha).mono fun r w' ⟨g2, c2, h1, h2, h3⟩ => ⟨g2, c2, h1, h2, ⟨h3.os, h3.tape, h3.output, h3.size, fun k hk _ => h3.block k hk⟩⟩
  · obtain rfl : i = l.length := by omega
    rw [List.take_length, List.drop_length]
    exact insert_end l g B mn mo ga w hl hB ho ha
end Go.Proofs.YtlfhfcgcfggjcaaDoor.insm
