/- A queue at work: opened, one more put in, the first taken out. -/
import Derived.Test.YtnlcmheahihlpaaFlHeld
import Derived.Test.YtnlcmheahihlpaaQw03
import Derived.Test.YtnlcmheahihlpaaDoneKit

/- copyMessage: the same message, its texts cloned; new memory alone. -/
namespace Go.Proofs.Ytnlcmheahihlpaa.cmg
open Go.ChangeShapes Go.WideShapes Go.ChangeAt Go.RowKit Go.Proofs.Ytnlcmheahihlpaa.fl
set_option linter.unusedVariables false

set_option maxRecDepth 100000 in
set_option maxHeartbeats 1000000 in
theorem copy_msg (e : flM.Ms) (w : World) (hx : e.x.size ≤ 1048576 ∧ e.k.size ≤ 1048576 ∧ e.b.size ≤ 1048576) : Calls Try.prog 51 #[.agg #[.int .i64 e.q, .string e.x, .string e.k, .string e.b, .bool e.a]] w fun r w' => r = .returned (.agg #[.int .i64 e.q, .string e.x, .string e.k, .string e.b, .bool e.a]) ∧ Below w.heap.size w w' := by
  obtain ⟨q, x, k, b, a⟩ := e
  obtain ⟨h1, h2, h3⟩ := hx
  simp only at h1 h2 h3 ⊢
  have c1 := fun W => cl.clone x W (by omega)
  have c2 := fun W => cl.clone k W (by omega)
  have c3 := fun W => cl.clone b W (by omega)
  have hb0 : Below w.heap.size w ((w.alloc (.cells #[.int .i64 q, .string x, .string k, .string b, .bool a] 41)).alloc (.cells #[.int .i64 0, .string ⟨#[]⟩, .string ⟨#[]⟩, .string ⟨#[]⟩, .bool false] 41)) := ((Below.refl _ _).alloc (Nat.le_refl _) _).alloc (by simp) _
  have hA := bold (bnew w #[.int .i64 q, .string x, .string k, .string b, .bool a] 41) (.cells #[.int .i64 0, .string ⟨#[]⟩, .string ⟨#[]⟩, .string ⟨#[]⟩, .bool false] 41)
  have hR := bnew (w.alloc (.cells #[.int .i64 q, .string x, .string k, .string b, .bool a] 41)) #[.int .i64 0, .string ⟨#[]⟩, .string ⟨#[]⟩, .string ⟨#[]⟩, .bool false] 41
  rw [World.size_alloc] at hR
  obtain ⟨W, hW⟩ : ∃ W, (w.alloc (.cells #[.int .i64 q, .string x, .string k, .string b, .bool a] 41)).alloc (.cells #[.int .i64 0, .string ⟨#[]⟩, .string ⟨#[]⟩, .string ⟨#[]⟩, .bool false] 41) = W := ⟨_, rfl⟩
  rw [hW] at hb0 hA hR
  have x1 : W.cell? ⟨w.heap.size, 1, none⟩ = some (.string x) := bcell hA rfl
  have HA : Hid (W.heap[w.heap.size]? = some (.cells #[.int .i64 q, .string x, .string k, .string b, .bool a] 41 (0, 0))) := hA
  have HR : Hid (W.heap[w.heap.size + 1]? = some (.cells #[.int .i64 0, .string ⟨#[]⟩, .string ⟨#[]⟩, .string ⟨#[]⟩, .bool false] 41 (0, 0))) := hR
  clear hA hR
  go_enter Try.func51, Try.ntmps51
  go_wp2_with (go_at_call 56; fail)
  clear hW
  refine (c1 _).mono ?_
  rintro e w1 ⟨rfl, hb1⟩
  have hl1 := (Array.getElem?_eq_some_iff.1 HR.out).1
  have a1 := bstay HA.out hb1 (by omega)
  have r1 := bstay HR.out hb1 hl1
  have y1 : w1.cell? ⟨w.heap.size, 1, none⟩ = some (.string x) := bcell a1 rfl
  have y1f := bfree a1 1
  have p1 := bset a1 1 (.string x)
  have s1 := boff r1 w.heap.size 1 (.string x) (by omega)
  have hB1 : Below w.heap.size w (w1.setCell ⟨w.heap.size, 1, none⟩ (.string x)) := (hb0.trans (hb1.mono hb0.size)).setCell (Nat.le_refl _) _
  obtain ⟨V1, hV1⟩ : ∃ V, w1.setCell ⟨w.heap.size, 1, none⟩ (.string x) = V := ⟨_, rfl⟩
  rw [hV1] at p1 s1 hB1
  have A1 : Hid (V1.heap[w.heap.size]? = some (.cells #[.int .i64 q, .string x, .string k, .string b, .bool a] 41 (0, 0))) := p1
  have R1 : Hid (V1.heap[w.heap.size + 1]? = some (.cells #[.int .i64 0, .string ⟨#[]⟩, .string ⟨#[]⟩, .string ⟨#[]⟩, .bool false] 41 (0, 0))) := s1
  have x2 : V1.cell? ⟨w.heap.size, 2, none⟩ = some (.string k) := bcell A1.out rfl
  clear a1 r1 p1 s1 x1 c1 HA HR hb1
  go_wp2_with (go_at_call 56; fail)
  clear hV1 y1 y1f
  refine (c2 _).mono ?_
  rintro e w2 ⟨rfl, hb2⟩
  have hl2 := (Array.getElem?_eq_some_iff.1 R1.out).1
  have a2 := bstay A1.out hb2 (by omega)
  have r2 := bstay R1.out hb2 hl2
  have y2 : w2.cell? ⟨w.heap.size, 2, none⟩ = some (.string k) := bcell a2 rfl
  have y2f := bfree a2 2
  have p2 := bset a2 2 (.string k)
  have s2 := boff r2 w.heap.size 2 (.string k) (by omega)
  have hB2 : Below w.heap.size w (w2.setCell ⟨w.heap.size, 2, none⟩ (.string k)) := (hB1.trans (hb2.mono hB1.size)).setCell (Nat.le_refl _) _
  obtain ⟨V2, hV2⟩ : ∃ V, w2.setCell ⟨w.heap.size, 2, none⟩ (.string k) = V := ⟨_, rfl⟩
  rw [hV2] at p2 s2 hB2
  have A2 : Hid (V2.heap[w.heap.size]? = some (.cells #[.int .i64 q, .string x, .string k, .string b, .bool a] 41 (0, 0))) := p2
  have R2 : Hid (V2.heap[w.heap.size + 1]? = some (.cells #[.int .i64 0, .string ⟨#[]⟩, .string ⟨#[]⟩, .string ⟨#[]⟩, .bool false] 41 (0, 0))) := s2
  have x3 : V2.cell? ⟨w.heap.size, 3, none⟩ = some (.string b) := bcell A2.out rfl
  clear a2 r2 p2 s2 x2 c2 A1 R1 hB1 hb2
  go_wp2_with (go_at_call 56; fail)
  clear hV2 y2 y2f
  refine (c3 _).mono ?_
  rintro e w3 ⟨rfl, hb3⟩
  have hl3 := (Array.getElem?_eq_some_iff.1 R2.out).1
  have a3 := bstay A2.out hb3 (by omega)
  have r3 := bstay R2.out hb3 hl3
  have y3 : w3.cell? ⟨w.heap.size, 3, none⟩ = some (.string b) := bcell a3 rfl
  have y3f := bfree a3 3
  have p3 := bset a3 3 (.string b)
  have s3 := boff r3 w.heap.size 3 (.string b) (by omega)
  have hB3 : Below w.heap.size w (w3.setCell ⟨w.heap.size, 3, none⟩ (.string b)) := (hB2.trans (hb3.mono hB2.size)).setCell (Nat.le_refl _) _
  obtain ⟨V3, hV3⟩ : ∃ V, w3.setCell ⟨w.heap.size, 3, none⟩ (.string b) = V := ⟨_, rfl⟩
  rw [hV3] at p3 s3 hB3
  have A3 : Hid (V3.heap[w.heap.size]? = some (.cells #[.int .i64 q, .string x, .string k, .string b, .bool a] 41 (0, 0))) := p3
  have R3 : Hid (V3.heap[w.heap.size + 1]? = some (.cells #[.int .i64 0, .string ⟨#[]⟩, .string ⟨#[]⟩, .string ⟨#[]⟩, .bool false] 41 (0, 0))) := s3
  clear a3 r3 p3 s3 x3 c3 A2 R2 hB2 hb3
  have n0 : V3.cell? ⟨w.heap.size, 0, none⟩ = some (.int .i64 q) := bcell A3.out rfl
  have z0 : V3.cell? ⟨w.heap.size + 1, 0, none⟩ = some (.int .i64 0) := bcell R3.out rfl
  have f0 := bfree R3.out 0
  have n1 : V3.cell? ⟨w.heap.size, 1, none⟩ = some (.string x) := bcell A3.out rfl
  have z1 : V3.cell? ⟨w.heap.size + 1, 1, none⟩ = some (.string ⟨#[]⟩) := bcell R3.out rfl
  have f1 := bfree R3.out 1
  have n2 : V3.cell? ⟨w.heap.size, 2, none⟩ = some (.string k) := bcell A3.out rfl
  have z2 : V3.cell? ⟨w.heap.size + 1, 2, none⟩ = some (.string ⟨#[]⟩) := bcell R3.out rfl
  have f2 := bfree R3.out 2
  have n3 : V3.cell? ⟨w.heap.size, 3, none⟩ = some (.string b) := bcell A3.out rfl
  have z3 : V3.cell? ⟨w.heap.size + 1, 3, none⟩ = some (.string ⟨#[]⟩) := bcell R3.out rfl
  have f3 := bfree R3.out 3
  have n4 : V3.cell? ⟨w.heap.size, 4, none⟩ = some (.bool a) := bcell A3.out rfl
  have z4 : V3.cell? ⟨w.heap.size + 1, 4, none⟩ = some (.bool false) := bcell R3.out rfl
  have f4 := bfree R3.out 4
  go_wp2
  exact bodyPost_ret (v := .agg #[.int .i64 q, .string x, .string k, .string b, .bool a]) (by simp [results, Try.results51, go_sem, z0, z1, z2, z3, z4]) rfl ⟨rfl, (((((hB3.setCell (by show w.heap.size ≤ w.heap.size + 1; omega) _).setCell (by show w.heap.size ≤ w.heap.size + 1; omega) _).setCell (by show w.heap.size ≤ w.heap.size + 1; omega) _).setCell (by show w.heap.size ≤ w.heap.size + 1; omega) _).setCell (by show w.heap.size ≤ w.heap.size + 1; omega) _)⟩
end Go.Proofs.Ytnlcmheahihlpaa.cmg

/- copyQueue: the same queue in rows of its own; nothing that was there is turned. -/
namespace Go.Proofs.Ytnlcmheahihlpaa.cqu
open Go.ChangeShapes Go.WideShapes Go.ChangeAt Go.RowKit Go.Proofs.Ytnlcmheahihlpaa.fl
set_option linter.unusedVariables false

theorem make_E (W : World) (l : List flM.Ms) (hl : l.length ≤ 1048576) : (Instr.makeSlice 24 (.int .i64 (l.length : Int)) (.int .i64 (l.length : Int))).run Try.prog W = .ok (.slice (some ⟨W.heap.size, 0, none⟩) l.length l.length) (W.alloc (.cells (madeCells #[.int .i64 0, .string ByteArray.empty, .string ByteArray.empty, .string ByteArray.empty, .bool false] (l.length * 5)) 41)) := by
  obtain ⟨i0, hi, hz0, hz1, hz2⟩ : ∃ i0, Try.prog.info? 41 = some i0 ∧ i0.zero = some (.agg #[.int .i64 0, .string ByteArray.empty, .string ByteArray.empty, .string ByteArray.empty, .bool false]) ∧ i0.size = 5 ∧ i0.bytes = 64 := by
    have h := flM.info
    cases hh : Try.prog.info? 41 with
    | none => rw [hh] at h; cases h
    | some i => rw [hh] at h; simp at h; exact ⟨i, rfl, h.1, h.2.1, h.2.2⟩
  have hmk := run_makeSlice (P := Try.prog) W 24 41 i0 _ Try.underlying24 hi hz0 .i64 .i64 (l.length : Int) (l.length : Int) (by omega) (Int.le_refl _) (by rw [hz1]; simp; omega) (by rw [hz2]; omega) (by omega)
  rw [hz1, show ((l.length : Int)).toNat = l.length by omega] at hmk
  exact hmk
theorem make_B (W : World) (l : List flH.Hd) (hl : l.length ≤ 1048576) : (Instr.makeSlice 25 (.int .i64 (l.length : Int)) (.int .i64 (l.length : Int))).run Try.prog W = .ok (.slice (some ⟨W.heap.size, 0, none⟩) l.length l.length) (W.alloc (.cells (madeCells #[.int .i64 0, .int .i64 0, .int .i64 0, .string ByteArray.empty, .string ByteArray.empty, .string ByteArray.empty, .bool false] (l.length * 7)) 55)) := by
  obtain ⟨i0, hi, hz0, hz1, hz2⟩ : ∃ i0, Try.prog.info? 55 = some i0 ∧ i0.zero = some (.agg #[.int .i64 0, .int .i64 0, .int .i64 0, .string ByteArray.empty, .string ByteArray.empty, .string ByteArray.empty, .bool false]) ∧ i0.size = 7 ∧ i0.bytes = 80 := by
    have h := flH.info
    cases hh : Try.prog.info? 55 with
    | none => rw [hh] at h; cases h
    | some i => rw [hh] at h; simp at h; exact ⟨i, rfl, h.1, h.2.1, h.2.2⟩
  have hmk := run_makeSlice (P := Try.prog) W 25 55 i0 _ Try.underlying25 hi hz0 .i64 .i64 (l.length : Int) (l.length : Int) (by omega) (Int.le_refl _) (by rw [hz1]; simp; omega) (by rw [hz2]; omega) (by omega)
  rw [hz1, show ((l.length : Int)).toNat = l.length by omega] at hmk
  exact hmk
theorem apart {α : Type} {c : α → List Value} {n : Nat} {U V : TypeId} (hUV : U ≠ V) {W : World} {g h k : Nat} {l : List α} {cur : Array Value} (h1 : Own c n U W g l k) (h2 : W.heap[h]? = some (.cells cur V (0, 0))) : g ≠ h := by
  rintro rfl
  obtain ⟨c, h3, _⟩ := h1
  rw [h2] at h3
  simp at h3
  exact hUV h3.2.symm
theorem apartEM {W : World} {g h k m : Nat} {l : List flM.Ms} {l' : List flH.Hd} (h1 : Own flM.c 5 41 W g l k) (h2 : Own flH.c 7 55 W h l' m) : g ≠ h := by
  obtain ⟨c, h3, _⟩ := h2
  exact apart (by decide) h1 h3
theorem made_E (W : World) (l : List flM.Ms) : Own flM.c 5 41 (W.alloc (.cells (madeCells #[.int .i64 0, .string ByteArray.empty, .string ByteArray.empty, .string ByteArray.empty, .bool false] (l.length * 5)) 41)) W.heap.size l 0 := by
  have h := fl.made (c := flM.c) (n := 5) (T := 41) #[.int .i64 0, .string ByteArray.empty, .string ByteArray.empty, .string ByteArray.empty, .bool false].toList W l rfl
  exact h
theorem made_B (W : World) (l : List flH.Hd) : Own flH.c 7 55 (W.alloc (.cells (madeCells #[.int .i64 0, .int .i64 0, .int .i64 0, .string ByteArray.empty, .string ByteArray.empty, .string ByteArray.empty, .bool false] (l.length * 7)) 55)) W.heap.size l 0 := by
  have h := fl.made (c := flH.c) (n := 7) (T := 55) #[.int .i64 0, .int .i64 0, .int .i64 0, .string ByteArray.empty, .string ByteArray.empty, .string ByteArray.empty, .bool false].toList W l rfl
  exact h
structure G where
  ge : Nat
  gb : Nat
  gn : Nat
  xe : Nat
  xb : Nat
def ws (s : Nat) (nm : ByteArray) (nx : Int) (es : List flM.Ms) (ms : List flH.Hd) (a0 b0 : Option Addr) (ec bc : Nat) (g : G) : List (Nat × Value) := [(8, .pointer (some ⟨s, 0, none⟩)), (9, .string nm), (10, .string nm), (11, .pointer (some ⟨s, 1, none⟩)), (12, .int .i64 nx), (13, .pointer (some ⟨s, 2, none⟩)), (14, .slice a0 es.length ec), (15, .int .i64 es.length), (16, .slice (some ⟨g.ge, 0, none⟩) es.length es.length), (17, .pointer (some ⟨s, 3, none⟩)), (18, .slice b0 ms.length bc), (19, .int .i64 ms.length), (20, .slice (some ⟨g.gb, 0, none⟩) ms.length ms.length), (21, .agg #[.string nm, .int .i64 nx, .slice (some ⟨g.xe, 0, none⟩) es.length es.length, .slice (some ⟨g.xb, 0, none⟩) ms.length ms.length]), (3, .pointer (some ⟨g.gn, 0, none⟩))]
/-- the worlds on the way -/
structure D (w : World) (nm : ByteArray) (nx : Int) (es : List flM.Ms) (ms : List flH.Hd) (a0 b0 : Option Addr) (ec bc : Nat) (g : G) (b8 b12 b13 b14 b15 : Bool) (W : World) : Prop where
  bel : Below w.heap.size w W
  box : W.heap[w.heap.size]? = some (.cells #[.string nm, .int .i64 nx, .slice a0 es.length ec, .slice b0 ms.length bc] 27 (0, 0))
  res : W.heap[w.heap.size + 1]? = some (.cells #[.string ⟨#[]⟩, .int .i64 0, .slice none 0 0, .slice none 0 0] 27 (0, 0))
  row8 : b8 = true → Own flM.c 5 41 W g.ge es 0 ∧ w.heap.size + 2 ≤ g.ge
  row12 : b12 = true → Own flH.c 7 55 W g.gb ms 0 ∧ w.heap.size + 2 ≤ g.gb
  at13 : b13 = true → b8 = true ∧ b12 = true ∧ g.xe = g.ge ∧ g.xb = g.gb
  at14 : b14 = true → W.heap[g.gn]? = some (.cells (if b15 then #[.string nm, .int .i64 nx, .slice (some ⟨g.xe, 0, none⟩) es.length es.length, .slice (some ⟨g.xb, 0, none⟩) ms.length ms.length] else #[.string ⟨#[]⟩, .int .i64 0, .slice none 0 0, .slice none 0 0]) 27 (0, 0)) ∧ w.heap.size + 2 ≤ g.gn
  at15 : b15 = true → b13 = true ∧ b14 = true
def C (w : World) (nm : ByteArray) (nx : Int) (es : List flM.Ms) (ms : List flH.Hd) (a0 b0 : Option Addr) (ec bc : Nat) (g : G) (L : Nat → Bool) (W : World) : Prop := D w nm nx es ms a0 b0 ec bc g (L 8) (L 12) (L 13) (L 14) (L 15) W
section
variable {w : World} {nm : ByteArray} {nx : Int} {es : List flM.Ms} {ms : List flH.Hd} {a0 b0 : Option Addr} {ec bc : Nat} {g : G} {b8 b12 b13 b14 b15 : Bool} {W W' : World}
theorem D.on (h : D w nm nx es ms a0 b0 ec bc g b8 b12 b13 b14 b15 W) (hb : Below W.heap.size W W') : D w nm nx es ms a0 b0 ec bc g b8 b12 b13 b14 b15 W' :=
  ⟨h.bel.trans (hb.mono h.bel.size), bstay h.box hb (Array.getElem?_eq_some_iff.1 h.box).1, bstay h.res hb (Array.getElem?_eq_some_iff.1 h.res).1,
    fun e => ⟨(h.row8 e).1.below hb (h.row8 e).1.lt, (h.row8 e).2⟩, fun e => ⟨(h.row12 e).1.below hb (h.row12 e).1.lt, (h.row12 e).2⟩, h.at13,
    fun e => ⟨bstay (h.at14 e).1 hb (Array.getElem?_eq_some_iff.1 (h.at14 e).1).1, (h.at14 e).2⟩, h.at15⟩
theorem D.size (h : D w nm nx es ms a0 b0 ec bc g b8 b12 b13 b14 b15 W) : w.heap.size + 2 ≤ W.heap.size := (Array.getElem?_eq_some_iff.1 h.res).1
end
section
variable {w : World} {nm : ByteArray} {nx : Int} {es : List flM.Ms} {ms : List flH.Hd} {a0 b0 : Option Addr} {ec bc : Nat} {act : Act} {Q : Exit → Act → World → Prop}
theorem quiet {i : Nat} {o : Oper} (hi : i < 8 ∨ (8 < i ∧ i < 12)) (hsel : ∀ cs b, o.op ≠ .select cs b) (v : Value) (hd : ∀ s d, o.dst = some d → (dk.sets act (ws w.heap.size nm nx es ms a0 b0 ec bc s)).tmps[d]? = some v)
    (hrun : ∀ s W, W.heap[w.heap.size]? = some (.cells #[.string nm, .int .i64 nx, .slice a0 es.length ec, .slice b0 ms.length bc] 27 (0, 0)) → (execOp (dk.sets act (ws w.heap.size nm nx es ms a0 b0 ec bc s)).eval o).run Try.prog W = .ok (.value v) W) :
    gh.Step Try.prog (fun s => dk.sets act (ws w.heap.size nm nx es ms a0 b0 ec bc s)) (C w nm nx es ms a0 b0 ec bc) Q i o := by
  refine gh.step_val hsel fun s L W hdp h0 hC => ⟨s, v, gh.Agree.refl _ _, hd s, ?_⟩
  rw [hrun s W hC.box]
  refine ⟨rfl, ?_⟩
  unfold C dn.more
  rw [if_neg (by omega), if_neg (by omega), if_neg (by omega), if_neg (by omega), if_neg (by omega)]
  exact hC
theorem qcall {i : Nat} {o : Oper} (hi : i < 8) (hsel : ∀ cs b, o.op ≠ .select cs b) (f : FuncId) (args : Array Value) (v : Value) (hd : ∀ s d, o.dst = some d → (dk.sets act (ws w.heap.size nm nx es ms a0 b0 ec bc s)).tmps[d]? = some v)
    (hrun : ∀ s W, (execOp (dk.sets act (ws w.heap.size nm nx es ms a0 b0 ec bc s)).eval o).run Try.prog W = .ok (.enter f args) W) (hcall : ∀ W, Calls Try.prog f args W fun e w' => e = .returned v ∧ Below W.heap.size W w') :
    gh.Step Try.prog (fun s => dk.sets act (ws w.heap.size nm nx es ms a0 b0 ec bc s)) (C w nm nx es ms a0 b0 ec bc) Q i o := by
  refine gh.step_val hsel fun s L W hdp h0 hC => ⟨s, v, gh.Agree.refl _ _, hd s, ?_⟩
  rw [hrun s W]
  refine (hcall W).mono fun e w' ⟨h1, h2⟩ => ⟨h1, ?_⟩
  unfold C dn.more
  rw [if_neg (by omega), if_neg (by omega), if_neg (by omega), if_neg (by omega), if_neg (by omega)]
  exact D.on hC h2
theorem st8 {o : Oper} (hl : es.length ≤ 1048576) (hsz : 21 < act.tmps.size) (hop : o.op = .makeSlice 24 (.tmp 15) (.tmp 15)) (hdst : o.dst = some 16) :
    gh.Step Try.prog (fun s => dk.sets act (ws w.heap.size nm nx es ms a0 b0 ec bc s)) (C w nm nx es ms a0 b0 ec bc) Q 8 o := by
  refine gh.step_val (by rw [hop]; simp) fun s L W hdp h0 hC => ⟨{ s with ge := W.heap.size }, .slice (some ⟨W.heap.size, 0, none⟩) es.length es.length, dk.agree_sets 8 16 _ hdst rfl rfl, (fun d hd => by rw [hdst] at hd; cases hd; exact dk.sets_on _ (by omega) _ rfl), ?_⟩
  have e10 : (dk.sets act (ws w.heap.size nm nx es ms a0 b0 ec bc s)).eval (.tmp 15) = .int .i64 es.length := dk.eval_on _ _ (by omega) rfl
  have hr := make_E W es hl
  have hrun : (execOp (dk.sets act (ws w.heap.size nm nx es ms a0 b0 ec bc s)).eval o).run Try.prog W = .ok (.value (.slice (some ⟨W.heap.size, 0, none⟩) es.length es.length)) (W.alloc (.cells (madeCells #[.int .i64 0, .string ByteArray.empty, .string ByteArray.empty, .string ByteArray.empty, .bool false] (es.length * 5)) 41)) := by
    simp only [execOp, hop, e10, Sem.run_bind, hr, Result.andThen]
    rfl
  rw [hrun]
  refine ⟨rfl, ?_⟩
  have hC : D w nm nx es ms a0 b0 ec bc s (L 8) (L 12) (L 13) (L 14) (L 15) W := hC
  show D w nm nx es ms a0 b0 ec bc _ true (L 12) (L 13) (L 14) (L 15) _
  have hb : Below W.heap.size W (W.alloc (.cells (madeCells #[.int .i64 0, .string ByteArray.empty, .string ByteArray.empty, .string ByteArray.empty, .bool false] (es.length * 5)) 41)) := (Below.refl _ _).alloc (Nat.le_refl _) _
  have h1 := hC.on hb
  refine ⟨h1.bel, h1.box, h1.res, fun _ => ⟨made_E W es, hC.size⟩, h1.row12, fun e => ?_, h1.at14, h1.at15⟩
  have := (h1.at13 e).1
  rw [h0] at this
  cases this
theorem st12 {o : Oper} (hl : ms.length ≤ 1048576) (hsz : 21 < act.tmps.size) (hop : o.op = .makeSlice 25 (.tmp 19) (.tmp 19)) (hdst : o.dst = some 20) :
    gh.Step Try.prog (fun s => dk.sets act (ws w.heap.size nm nx es ms a0 b0 ec bc s)) (C w nm nx es ms a0 b0 ec bc) Q 12 o := by
  refine gh.step_val (by rw [hop]; simp) fun s L W hdp h0 hC => ⟨{ s with gb := W.heap.size }, .slice (some ⟨W.heap.size, 0, none⟩) ms.length ms.length, dk.agree_sets 12 20 _ hdst rfl rfl, (fun d hd => by rw [hdst] at hd; cases hd; exact dk.sets_on _ (by omega) _ rfl), ?_⟩
  have e10 : (dk.sets act (ws w.heap.size nm nx es ms a0 b0 ec bc s)).eval (.tmp 19) = .int .i64 ms.length := dk.eval_on _ _ (by omega) rfl
  have hr := make_B W ms hl
  have hrun : (execOp (dk.sets act (ws w.heap.size nm nx es ms a0 b0 ec bc s)).eval o).run Try.prog W = .ok (.value (.slice (some ⟨W.heap.size, 0, none⟩) ms.length ms.length)) (W.alloc (.cells (madeCells #[.int .i64 0, .int .i64 0, .int .i64 0, .string ByteArray.empty, .string ByteArray.empty, .string ByteArray.empty, .bool false] (ms.length * 7)) 55)) := by
    simp only [execOp, hop, e10, Sem.run_bind, hr, Result.andThen]
    rfl
  rw [hrun]
  refine ⟨rfl, ?_⟩
  have hC : D w nm nx es ms a0 b0 ec bc s (L 8) (L 12) (L 13) (L 14) (L 15) W := hC
  show D w nm nx es ms a0 b0 ec bc _ (L 8) true (L 13) (L 14) (L 15) _
  have hb : Below W.heap.size W (W.alloc (.cells (madeCells #[.int .i64 0, .int .i64 0, .int .i64 0, .string ByteArray.empty, .string ByteArray.empty, .string ByteArray.empty, .bool false] (ms.length * 7)) 55)) := (Below.refl _ _).alloc (Nat.le_refl _) _
  have h1 := hC.on hb
  refine ⟨h1.bel, h1.box, h1.res, h1.row8, fun _ => ⟨made_B W ms, hC.size⟩, fun e => ?_, h1.at14, h1.at15⟩
  have := (h1.at13 e).2.1
  rw [h0] at this
  cases this
theorem st13 {o : Oper} (hsz : 21 < act.tmps.size) (hop : o.op = .build 27 #[(0, .tmp 10), (1, .tmp 12), (2, .tmp 16), (3, .tmp 20)]) (hdst : o.dst = some 21) (hd3 : ∃ e ∈ o.after, Region.binds .any e = true ∧ e.on = 8) (hd7 : ∃ e ∈ o.after, Region.binds .any e = true ∧ e.on = 12) :
    gh.Step Try.prog (fun s => dk.sets act (ws w.heap.size nm nx es ms a0 b0 ec bc s)) (C w nm nx es ms a0 b0 ec bc) Q 13 o := by
  refine gh.step_val (by rw [hop]; simp) fun s L W hdp h0 hC => ⟨{ s with xe := s.ge, xb := s.gb }, .agg #[.string nm, .int .i64 nx, .slice (some ⟨s.ge, 0, none⟩) es.length es.length, .slice (some ⟨s.gb, 0, none⟩) ms.length ms.length], dk.agree_sets 13 21 _ hdst rfl rfl, (fun d hd => by rw [hdst] at hd; cases hd; exact dk.sets_on _ (by omega) _ rfl), ?_⟩
  have e10 : (dk.sets act (ws w.heap.size nm nx es ms a0 b0 ec bc s)).tmps[10]? = some (.string nm) := dk.sets_on _ (by omega) _ rfl
  have e12 : (dk.sets act (ws w.heap.size nm nx es ms a0 b0 ec bc s)).tmps[12]? = some (.int .i64 nx) := dk.sets_on _ (by omega) _ rfl
  have e16 : (dk.sets act (ws w.heap.size nm nx es ms a0 b0 ec bc s)).tmps[16]? = some (.slice (some ⟨s.ge, 0, none⟩) es.length es.length) := dk.sets_on _ (by omega) _ rfl
  have e20 : (dk.sets act (ws w.heap.size nm nx es ms a0 b0 ec bc s)).tmps[20]? = some (.slice (some ⟨s.gb, 0, none⟩) ms.length ms.length) := dk.sets_on _ (by omega) _ rfl
  have hrun : (execOp (dk.sets act (ws w.heap.size nm nx es ms a0 b0 ec bc s)).eval o).run Try.prog W = .ok (.value (.agg #[.string nm, .int .i64 nx, .slice (some ⟨s.ge, 0, none⟩) es.length es.length, .slice (some ⟨s.gb, 0, none⟩) ms.length ms.length])) W := by
    simp [execOp, hop, e10, e12, e16, e20, go_sem]
  rw [hrun]
  refine ⟨rfl, ?_⟩
  obtain ⟨x3, m3, y3, z3⟩ := hd3
  obtain ⟨x7, m7, y7, z7⟩ := hd7
  have l3 := hdp x3 m3 y3
  have l7 := hdp x7 m7 y7
  rw [z3] at l3
  rw [z7] at l7
  have hC : D w nm nx es ms a0 b0 ec bc s (L 8) (L 12) (L 13) (L 14) (L 15) W := hC
  show D w nm nx es ms a0 b0 ec bc _ (L 8) (L 12) true (L 14) (L 15) _
  have h10 : L 15 = false := by
    cases h : L 15 with
    | false => rfl
    | true => have := (hC.at15 h).1; rw [h0] at this; cases this
  refine ⟨hC.bel, hC.box, hC.res, hC.row8, hC.row12, fun _ => ⟨l3, l7, rfl, rfl⟩, fun e => ?_, fun e => by rw [h10] at e; cases e⟩
  have := hC.at14 e
  rw [h10] at this ⊢
  exact this
theorem st14 {o : Oper} (hsz : 21 < act.tmps.size) (hop : o.op = .alloc 27) (hdst : o.dst = some 3) :
    gh.Step Try.prog (fun s => dk.sets act (ws w.heap.size nm nx es ms a0 b0 ec bc s)) (C w nm nx es ms a0 b0 ec bc) Q 14 o := by
  refine gh.step_val (by rw [hop]; simp) fun s L W hdp h0 hC => ⟨{ s with gn := W.heap.size }, .pointer (some ⟨W.heap.size, 0, none⟩), dk.agree_sets 14 3 _ hdst rfl rfl, (fun d hd => by rw [hdst] at hd; cases hd; exact dk.sets_on _ (by omega) _ rfl), ?_⟩
  have hrun : (execOp (dk.sets act (ws w.heap.size nm nx es ms a0 b0 ec bc s)).eval o).run Try.prog W = .ok (.value (.pointer (some ⟨W.heap.size, 0, none⟩))) (W.alloc (.cells #[.string ⟨#[]⟩, .int .i64 0, .slice none 0 0, .slice none 0 0] 27)) := by
    simp [execOp, hop, go_sem]
  rw [hrun]
  refine ⟨rfl, ?_⟩
  have hC : D w nm nx es ms a0 b0 ec bc s (L 8) (L 12) (L 13) (L 14) (L 15) W := hC
  show D w nm nx es ms a0 b0 ec bc _ (L 8) (L 12) (L 13) true (L 15) _
  have h10 : L 15 = false := by
    cases h : L 15 with
    | false => rfl
    | true => have := (hC.at15 h).2; rw [h0] at this; cases this
  have h1 := hC.on ((Below.refl _ _).alloc (Nat.le_refl _) (.cells #[.string ⟨#[]⟩, .int .i64 0, .slice none 0 0, .slice none 0 0] 27))
  refine ⟨h1.bel, h1.box, h1.res, h1.row8, h1.row12, h1.at13, fun _ => ⟨?_, hC.size⟩, fun e => by rw [h10] at e; cases e⟩
  rw [h10]
  exact bnew W _ _
theorem st15 {o : Oper} (hsz : 21 < act.tmps.size) (hop : o.op = .store 27 (.tmp 3) (.tmp 21)) (hdst : o.dst = none) (hd8 : ∃ e ∈ o.after, Region.binds .any e = true ∧ e.on = 13) (hd9 : ∃ e ∈ o.after, Region.binds .any e = true ∧ e.on = 14) :
    gh.Step Try.prog (fun s => dk.sets act (ws w.heap.size nm nx es ms a0 b0 ec bc s)) (C w nm nx es ms a0 b0 ec bc) Q 15 o := by
  refine gh.step_val (by rw [hop]; simp) fun s L W hdp h0 hC => ⟨s, undef, gh.Agree.refl _ _, (fun d hd => by rw [hdst] at hd; cases hd), ?_⟩
  have e3 : (dk.sets act (ws w.heap.size nm nx es ms a0 b0 ec bc s)).tmps[3]? = some (.pointer (some ⟨s.gn, 0, none⟩)) := dk.sets_on _ (by omega) _ rfl
  have e21 : (dk.sets act (ws w.heap.size nm nx es ms a0 b0 ec bc s)).tmps[21]? = some (.agg #[.string nm, .int .i64 nx, .slice (some ⟨s.xe, 0, none⟩) es.length es.length, .slice (some ⟨s.xb, 0, none⟩) ms.length ms.length]) := dk.sets_on _ (by omega) _ rfl
  obtain ⟨x8, m8, y8, z8⟩ := hd8
  obtain ⟨x9, m9, y9, z9⟩ := hd9
  have l8 := hdp x8 m8 y8
  have l9 := hdp x9 m9 y9
  rw [z8] at l8
  rw [z9] at l9
  have hC : D w nm nx es ms a0 b0 ec bc s (L 8) (L 12) (L 13) (L 14) (L 15) W := hC
  obtain ⟨hg, hgs⟩ := hC.at14 l9
  rw [h0] at hg
  have c0 : W.cell? ⟨s.gn, 0, none⟩ = some (.string ⟨#[]⟩) := bcell hg rfl
  have c1 : W.cell? ⟨s.gn, 1, none⟩ = some (.int .i64 0) := bcell hg rfl
  have c2 : W.cell? ⟨s.gn, 2, none⟩ = some (.slice none 0 0) := bcell hg rfl
  have c3 : W.cell? ⟨s.gn, 3, none⟩ = some (.slice none 0 0) := bcell hg rfl
  have f0 := bfree hg 0
  have f1 := bfree hg 1
  have f2 := bfree hg 2
  have f3 := bfree hg 3
  have hrun : (execOp (dk.sets act (ws w.heap.size nm nx es ms a0 b0 ec bc s)).eval o).run Try.prog W = .ok .skip (setRow W s.gn 0 #[.string nm, .int .i64 nx, .slice (some ⟨s.xe, 0, none⟩) es.length es.length, .slice (some ⟨s.xb, 0, none⟩) ms.length ms.length].toList) := by
    simp [execOp, hop, e3, e21, go_sem, c0, c1, c2, c3, f0, f1, f2, f3, fl.setRow]
  rw [hrun]
  refine ⟨rfl, ?_⟩
  show D w nm nx es ms a0 b0 ec bc _ (L 8) (L 12) (L 13) (L 14) true _
  have hs2 : w.heap.size ≤ s.gn := by omega
  have hk : ∀ k, k ≠ s.gn → (fl.setRow W s.gn 0 #[.string nm, .int .i64 nx, .slice (some ⟨s.xe, 0, none⟩) es.length es.length, .slice (some ⟨s.xb, 0, none⟩) ms.length ms.length].toList).heap[k]? = W.heap[k]? := fun k hne => by
    simp only [fl.setRow]
    rw [Below.heap_setCell _ _ _ k hne, Below.heap_setCell _ _ _ k hne, Below.heap_setCell _ _ _ k hne, Below.heap_setCell _ _ _ k hne]
  refine ⟨hC.bel.trans (fl.setRow_below _ _ _ hs2), (hk _ (by omega)).trans hC.box, (hk _ (by omega)).trans hC.res, fun e => ⟨(hC.row8 e).1.kept (hk _ (apart (by decide) (hC.row8 e).1 hg)), (hC.row8 e).2⟩,
    fun e => ⟨(hC.row12 e).1.kept (hk _ (apart (by decide) (hC.row12 e).1 hg)), (hC.row12 e).2⟩, hC.at13, fun _ => ⟨fl.setRow_heap _ _ _ _ hg, hgs⟩, fun _ => ⟨l8, l9⟩⟩
end

/-- the worlds of the two loops: k messages and m held ones are laid -/
structure Inv (w : World) (nm : ByteArray) (nx : Int) (es : List flM.Ms) (ms : List flH.Hd) (a0 b0 : Option Addr) (ec bc : Nat) (ge gb gn k m : Nat) (W : World) : Prop where
  bel : Below w.heap.size w W
  box : W.heap[w.heap.size]? = some (.cells #[.string nm, .int .i64 nx, .slice a0 es.length ec, .slice b0 ms.length bc] 27 (0, 0))
  res : W.heap[w.heap.size + 1]? = some (.cells #[.string ⟨#[]⟩, .int .i64 0, .slice none 0 0, .slice none 0 0] 27 (0, 0))
  gnb : W.heap[gn]? = some (.cells #[.string nm, .int .i64 nx, .slice (some ⟨ge, 0, none⟩) es.length es.length, .slice (some ⟨gb, 0, none⟩) ms.length ms.length] 27 (0, 0))
  rowE : Own flM.c 5 41 W ge es k
  rowB : Own flH.c 7 55 W gb ms m
  hge : w.heap.size + 2 ≤ ge
  hgb : w.heap.size + 2 ≤ gb
  hgn : w.heap.size + 2 ≤ gn
section
variable {w : World} {nm : ByteArray} {nx : Int} {es : List flM.Ms} {ms : List flH.Hd} {a0 b0 : Option Addr} {ec bc : Nat} {ge gb gn k m : Nat} {W W' : World}
theorem Inv.on (h : Inv w nm nx es ms a0 b0 ec bc ge gb gn k m W) (hb : Below W.heap.size W W') : Inv w nm nx es ms a0 b0 ec bc ge gb gn k m W' :=
  ⟨h.bel.trans (hb.mono h.bel.size), bstay h.box hb (Array.getElem?_eq_some_iff.1 h.box).1, bstay h.res hb (Array.getElem?_eq_some_iff.1 h.res).1, bstay h.gnb hb (Array.getElem?_eq_some_iff.1 h.gnb).1, h.rowE.below hb h.rowE.lt, h.rowB.below hb h.rowB.lt, h.hge, h.hgb, h.hgn⟩
theorem off_row (W : World) (g o k : Nat) (vs : List Value) (hne : k ≠ g) : (fl.setRow W g o vs).heap[k]? = W.heap[k]? := by
  induction vs generalizing W o with
  | nil => rfl
  | cons v r ih => rw [fl.setRow, ih]; exact Below.heap_setCell _ _ _ k hne
theorem Inv.setE (h : Inv w nm nx es ms a0 b0 ec bc ge gb gn k m W) {e : flM.Ms} (he : es[k]? = some e) : Inv w nm nx es ms a0 b0 ec bc ge gb gn (k + 1) m (fl.setRow W ge (k * 5) (flM.c e)) := by
  have hs : w.heap.size ≤ ge := by have := h.hge; omega
  have n1 := apart (by decide) h.rowE h.box
  have n2 := apart (by decide) h.rowE h.res
  have n3 := apart (by decide) h.rowE h.gnb
  have n4 := apartEM h.rowE h.rowB
  exact ⟨h.bel.trans (fl.setRow_below _ _ _ hs), (off_row _ _ _ _ _ (Ne.symm n1)).trans h.box, (off_row _ _ _ _ _ (Ne.symm n2)).trans h.res, (off_row _ _ _ _ _ (Ne.symm n3)).trans h.gnb, Own.set flM.c_len h.rowE he, h.rowB.kept (off_row _ _ _ _ _ (Ne.symm n4)), h.hge, h.hgb, h.hgn⟩
theorem Inv.setB (h : Inv w nm nx es ms a0 b0 ec bc ge gb gn k m W) {e : flH.Hd} (he : ms[m]? = some e) : Inv w nm nx es ms a0 b0 ec bc ge gb gn k (m + 1) (fl.setRow W gb (m * 7) (flH.c e)) := by
  have hs : w.heap.size ≤ gb := by have := h.hgb; omega
  have n1 := apart (by decide) h.rowB h.box
  have n2 := apart (by decide) h.rowB h.res
  have n3 := apart (by decide) h.rowB h.gnb
  have n4 := apartEM h.rowE h.rowB
  exact ⟨h.bel.trans (fl.setRow_below _ _ _ hs), (off_row _ _ _ _ _ (Ne.symm n1)).trans h.box, (off_row _ _ _ _ _ (Ne.symm n2)).trans h.res, (off_row _ _ _ _ _ (Ne.symm n3)).trans h.gnb, h.rowE.kept (off_row _ _ _ _ _ n4), Own.set flH.c_len h.rowB he, h.hge, h.hgb, h.hgn⟩
end
def ws5 (n ge gn e5 k : Nat) (q : Int) (x y z : ByteArray) (a : Bool) : List (Nat × Value) := [(30, .pointer (some ⟨gn, 2, none⟩)), (31, .slice (some ⟨ge, 0, none⟩) n n), (32, .int .i64 k), (33, .agg #[.int .i64 q, .string x, .string y, .string z, .bool a]), (34, .agg #[.int .i64 q, .string x, .string y, .string z, .bool a]), (35, .pointer (some ⟨ge, k * 5, none⟩))]
def D5 (w : World) (nm : ByteArray) (nx : Int) (es : List flM.Ms) (ms : List flH.Hd) (a0 b0 : Option Addr) (ec bc : Nat) (ge gb gn k e5 : Nat) (q : Int) (x y z : ByteArray) (a : Bool) (b : Bool) (W : World) : Prop := Inv w nm nx es ms a0 b0 ec bc ge gb gn (if b then k + 1 else k) 0 W ∧ W.heap[e5]? = some (.cells #[.int .i64 q, .string x, .string y, .string z, .bool a] 41 (0, 0))
def ws10 (m gb gn e7 k : Nat) (tg ow q : Int) (x y z : ByteArray) (a : Bool) : List (Nat × Value) := [(45, .pointer (some ⟨gn, 3, none⟩)), (46, .slice (some ⟨gb, 0, none⟩) m m), (47, .int .i64 k), (48, .pointer (some ⟨e7, 0, none⟩)), (49, .int .i64 tg), (50, .pointer (some ⟨e7, 1, none⟩)), (51, .int .i64 ow), (52, .pointer (some ⟨e7, 2, none⟩)), (53, .agg #[.int .i64 q, .string x, .string y, .string z, .bool a]), (54, .agg #[.int .i64 q, .string x, .string y, .string z, .bool a]), (55, .agg #[.int .i64 tg, .int .i64 ow, .int .i64 q, .string x, .string y, .string z, .bool a]), (56, .pointer (some ⟨gb, k * 7, none⟩))]
def D10 (w : World) (nm : ByteArray) (nx : Int) (es : List flM.Ms) (ms : List flH.Hd) (a0 b0 : Option Addr) (ec bc : Nat) (ge gb gn k e7 : Nat) (tg ow q : Int) (x y z : ByteArray) (a : Bool) (b : Bool) (W : World) : Prop := Inv w nm nx es ms a0 b0 ec bc ge gb gn es.length (if b then k + 1 else k) W ∧ W.heap[e7]? = some (.cells #[.int .i64 tg, .int .i64 ow, .int .i64 q, .string x, .string y, .string z, .bool a] 55 (0, 0))
set_option maxRecDepth 100000 in
set_option maxHeartbeats 4000000 in
theorem copy_queue (nm : ByteArray) (nx : Int) (es : List flM.Ms) (ms : List flH.Hd) (a0 b0 : Option Addr) (ec bc : Nat) (w : World) (hn : nm.size ≤ 1048576) (hel : es.length ≤ 1048576) (hbl : ms.length ≤ 1048576) (hes : ∀ e ∈ es, e.x.size ≤ 1048576 ∧ e.k.size ≤ 1048576 ∧ e.b.size ≤ 1048576) (hbs : ∀ e ∈ ms, e.m.x.size ≤ 1048576 ∧ e.m.k.size ≤ 1048576 ∧ e.m.b.size ≤ 1048576) (hE : Row flM.c 5 w w.heap.size a0 es) (hB : Row flH.c 7 w w.heap.size b0 ms) :
    Calls Try.prog 21 #[.agg #[.string nm, .int .i64 nx, .slice a0 es.length ec, .slice b0 ms.length bc]] w fun r w' => ∃ g h, r = .returned (.agg #[.string nm, .int .i64 nx, .slice (some ⟨g, 0, none⟩) es.length es.length, .slice (some ⟨h, 0, none⟩) ms.length ms.length]) ∧ w.heap.size ≤ g ∧ w.heap.size ≤ h ∧ g ≠ h ∧ Own flM.c 5 41 w' g es es.length ∧ Own flH.c 7 55 w' h ms ms.length ∧ Below w.heap.size w w' := by
  have h0 : D w nm nx es ms a0 b0 ec bc ⟨0, 0, 0, 0, 0⟩ false false false false false ((w.alloc (.cells #[.string nm, .int .i64 nx, .slice a0 es.length ec, .slice b0 ms.length bc] 27)).alloc (.cells #[.string ⟨#[]⟩, .int .i64 0, .slice none 0 0, .slice none 0 0] 27)).drew := by
    refine ⟨(((Below.refl _ _).alloc (Nat.le_refl _) _).alloc (by simp) _).drew, ?_, ?_, by simp, by simp, by simp, by simp, by simp⟩
    · exact bold (bnew w _ _) _
    · have := bnew (w.alloc (.cells #[.string nm, .int .i64 nx, .slice a0 es.length ec, .slice b0 ms.length bc] 27)) #[.string ⟨#[]⟩, .int .i64 0, .slice none 0 0, .slice none 0 0] 27
      rw [World.size_alloc] at this
      exact this
  have HE : Hid (Row flM.c 5 w w.heap.size a0 es) := hE
  have HB : Hid (Row flH.c 7 w w.heap.size b0 ms) := hB
  have HES : Hid (∀ e ∈ es, e.x.size ≤ 1048576 ∧ e.k.size ≤ 1048576 ∧ e.b.size ≤ 1048576) := hes
  have HBS : Hid (∀ e ∈ ms, e.m.x.size ≤ 1048576 ∧ e.m.k.size ≤ 1048576 ∧ e.m.b.size ≤ 1048576) := hbs
  have hcl := fun W => cl.clone nm W (by omega)
  clear hE hB hes hbs
  go_enter Try.func21, Try.ntmps21
  go_wp2
  refine dk.region_gsets (ws w.heap.size nm nx es ms a0 b0 ec bc) [8, 9, 10, 11, 12, 13, 14, 15, 16, 17, 18, 19, 20, 21, 3] (C w nm nx es ms a0 b0 ec bc) ⟨0, 0, 0, 0, 0⟩ (by kernel_rfl) (by kernel_rfl) (fun _ => rfl) (by kernel_rfl) h0 ?each ?fin
  case each =>
    refine ⟨quiet (by decide) (by simp) (.pointer (some ⟨w.heap.size, 0, none⟩)) (by rintro s _ ⟨⟩; exact dk.sets_on _ (by simp) _ rfl) (fun s W h => by simp [execOp, go_sem, Act.eval, dk.sets_get, ws, List.lookup]), ?_⟩
    refine ⟨quiet (by decide) (by simp) (.string nm) (by rintro s _ ⟨⟩; exact dk.sets_on _ (by simp) _ rfl) (fun s W h => by have c : W.cell? ⟨w.heap.size, 0, none⟩ = some (.string nm) := bcell h rfl; simp [execOp, go_sem, Act.eval, dk.sets_get, ws, List.lookup, c]), ?_⟩
    refine ⟨qcall (by decide) (by simp) 56 #[.string nm] (.string nm) (by rintro s _ ⟨⟩; exact dk.sets_on _ (by simp) _ rfl) (fun s W => by simp [go_sem, Act.eval, dk.sets_get, ws, List.lookup]) hcl, ?_⟩
    refine ⟨quiet (by decide) (by simp) (.pointer (some ⟨w.heap.size, 1, none⟩)) (by rintro s _ ⟨⟩; exact dk.sets_on _ (by simp) _ rfl) (fun s W h => by simp [execOp, go_sem, Act.eval, dk.sets_get, ws, List.lookup]), ?_⟩
    refine ⟨quiet (by decide) (by simp) (.int .i64 nx) (by rintro s _ ⟨⟩; exact dk.sets_on _ (by simp) _ rfl) (fun s W h => by have c : W.cell? ⟨w.heap.size, 1, none⟩ = some (.int .i64 nx) := bcell h rfl; simp [execOp, go_sem, Act.eval, dk.sets_get, ws, List.lookup, c]), ?_⟩
    refine ⟨quiet (by decide) (by simp) (.pointer (some ⟨w.heap.size, 2, none⟩)) (by rintro s _ ⟨⟩; exact dk.sets_on _ (by simp) _ rfl) (fun s W h => by simp [execOp, go_sem, Act.eval, dk.sets_get, ws, List.lookup]), ?_⟩
    refine ⟨quiet (by decide) (by simp) (.slice a0 es.length ec) (by rintro s _ ⟨⟩; exact dk.sets_on _ (by simp) _ rfl) (fun s W h => by have c : W.cell? ⟨w.heap.size, 2, none⟩ = some (.slice a0 es.length ec) := bcell h rfl; simp [execOp, go_sem, Act.eval, dk.sets_get, ws, List.lookup, c]), ?_⟩
    refine ⟨quiet (by decide) (by simp) (.int .i64 es.length) (by rintro s _ ⟨⟩; exact dk.sets_on _ (by simp) _ rfl) (fun s W h => by simp [go_sem, Act.eval, dk.sets_get, ws, List.lookup]), ?_⟩
    refine ⟨st8 hel (by simp) rfl rfl, ?_⟩
    refine ⟨quiet (by decide) (by simp) (.pointer (some ⟨w.heap.size, 3, none⟩)) (by rintro s _ ⟨⟩; exact dk.sets_on _ (by simp) _ rfl) (fun s W h => by simp [execOp, go_sem, Act.eval, dk.sets_get, ws, List.lookup]), ?_⟩
    refine ⟨quiet (by decide) (by simp) (.slice b0 ms.length bc) (by rintro s _ ⟨⟩; exact dk.sets_on _ (by simp) _ rfl) (fun s W h => by have c : W.cell? ⟨w.heap.size, 3, none⟩ = some (.slice b0 ms.length bc) := bcell h rfl; simp [execOp, go_sem, Act.eval, dk.sets_get, ws, List.lookup, c]), ?_⟩
    refine ⟨quiet (by decide) (by simp) (.int .i64 ms.length) (by rintro s _ ⟨⟩; exact dk.sets_on _ (by simp) _ rfl) (fun s W h => by simp [go_sem, Act.eval, dk.sets_get, ws, List.lookup]), ?_⟩
    exact ⟨st12 hbl (by simp) rfl rfl, st13 (by simp) rfl rfl ⟨⟨8, .data⟩, by simp, rfl, rfl⟩ ⟨⟨12, .data⟩, by simp, rfl, rfl⟩, st14 (by simp) rfl rfl, st15 (by simp) rfl rfl ⟨⟨13, .data⟩, by simp, rfl, rfl⟩ ⟨⟨14, .data⟩, by simp, rfl, rfl⟩, trivial⟩
  case fin =>
    intro g L W hL hC
    have hD : D w nm nx es ms a0 b0 ec bc g true true true true true W := by
      have h : D w nm nx es ms a0 b0 ec bc g (L 8) (L 12) (L 13) (L 14) (L 15) W := hC
      rw [hL 8 (by decide), hL 12 (by decide), hL 13 (by decide), hL 14 (by decide), hL 15 (by decide)] at h
      exact h
    have hI : Inv w nm nx es ms a0 b0 ec bc g.ge g.gb g.gn 0 0 W := by
      obtain ⟨h1, h2⟩ := hD.at14 rfl
      obtain ⟨_, _, e1, e2⟩ := hD.at13 rfl
      rw [e1, e2] at h1
      exact ⟨hD.bel, hD.box, hD.res, h1, (hD.row8 rfl).1, (hD.row12 rfl).1, (hD.row8 rfl).2, (hD.row12 rfl).2, h2⟩
    obtain ⟨_, _, e1, e2⟩ := hD.at13 rfl
    simp only [dk.sets, ws, e1, e2]
    obtain ⟨ge, gb, gn, xe, xb⟩ := g
    simp only at hI e1 e2
    clear hD hC hL h0 e1 e2
    have x0 : W.cell? ⟨w.heap.size, 2, none⟩ = some (.slice a0 es.length ec) := bcell hI.box rfl
    have HI : Hid (Inv w nm nx es ms a0 b0 ec bc ge gb gn 0 0 W) := hI
    clear hI
    go_wp2
    go_loopw [25] (fun x wr => ∃ k : Nat, k ≤ es.length ∧ x = .int .i64 k ∧ Hid (Inv w nm nx es ms a0 b0 ec bc ge gb gn k 0 wr)) (fun x _ => es.length - (intOf x).toNat)
    case atStart => exact ⟨0, Nat.zero_le _, rfl, HI⟩
    case round =>
      obtain ⟨k, hk, rfl, hinv⟩ := hrel
      clear x0 HI
      by_cases hkl : k < es.length
      · have HG : Hid (es[k]? = some es[k]) := List.getElem?_eq_getElem hkl
        have hxs := HES.out es[k] (List.getElem_mem hkl)
        obtain ⟨⟨q, x, y, z, a⟩, he⟩ : ∃ e, es[k] = e := ⟨_, rfl⟩
        rw [he] at HG hxs
        rcases HE.out.inn hinv.out.bel with hnil | ⟨rb, ro, ha, hrl, hrc⟩
        · rw [hnil] at hkl; exact absurd hkl (by simp)
        have cs := hrc k _ HG.out
        have c0 : wr.cell? ⟨rb, ro + k * 5, none⟩ = some (.int .i64 q) := cs 0 _ rfl
        have c1 : wr.cell? ⟨rb, ro + k * 5 + 1, none⟩ = some (.string x) := cs 1 _ rfl
        have c2 : wr.cell? ⟨rb, ro + k * 5 + 2, none⟩ = some (.string y) := cs 2 _ rfl
        have c3 : wr.cell? ⟨rb, ro + k * 5 + 3, none⟩ = some (.string z) := cs 3 _ rfl
        have c4 : wr.cell? ⟨rb, ro + k * 5 + 4, none⟩ = some (.bool a) := cs 4 _ rfl
        have hcm := fun W => cmg.copy_msg ⟨q, x, y, z, a⟩ W hxs
        have hlt := hinv.out.rowE.lt
        have hne : ge ≠ wr.heap.size := by omega
        have hd0 : D5 w nm nx es ms a0 b0 ec bc ge gb gn k wr.heap.size q x y z a false (wr.alloc (.cells #[.int .i64 q, .string x, .string y, .string z, .bool a] 41)).drew := by
          refine ⟨(hinv.out.on ((Below.refl _ _).alloc (Nat.le_refl _) _)).on (Below.refl _ _).drew, bnew wr _ _⟩
        clear he hxs hrc cs hrl
        go_wp2
        refine dk.region_sets (ws5 es.length ge gn wr.heap.size k q x y z a) [30, 31, 32, 33, 34, 35] (dk.Cl (D5 w nm nx es ms a0 b0 ec bc ge gb gn k wr.heap.size q x y z a) 6) (by kernel_rfl) (by kernel_rfl) rfl (by kernel_rfl) hd0 ?each5 ?fin5
        case each5 =>
          refine ⟨dk.q (by decide) (.pointer (some ⟨gn, 2, none⟩)) (by rintro _ ⟨⟩; exact dk.sets_on _ (by simp) _ rfl) (fun b W h => by simp [execOp, go_sem, Act.eval, dk.sets_get, ws5, List.lookup]), ?_⟩
          refine ⟨dk.q (by decide) (.slice (some ⟨ge, 0, none⟩) es.length es.length) (by rintro _ ⟨⟩; exact dk.sets_on _ (by simp) _ rfl) (fun b W h => by have c : W.cell? ⟨gn, 2, none⟩ = some (.slice (some ⟨ge, 0, none⟩) es.length es.length) := bcell h.1.gnb rfl; simp [execOp, go_sem, Act.eval, dk.sets_get, ws5, List.lookup, c]), ?_⟩
          refine ⟨dk.q (by decide) (.int .i64 k) (by rintro _ ⟨⟩; exact dk.sets_on _ (by simp) _ rfl) (fun b W h => by simp [execOp, go_sem, Act.eval, dk.sets_get, ws5, List.lookup]), ?_⟩
          refine ⟨dk.q (by decide) (.agg #[.int .i64 q, .string x, .string y, .string z, .bool a]) (by rintro _ ⟨⟩; exact dk.sets_on _ (by simp) _ rfl) (fun b W h => by have d0 : W.cell? ⟨wr.heap.size, 0, none⟩ = some (.int .i64 q) := bcell h.2 rfl; have d1 : W.cell? ⟨wr.heap.size, 1, none⟩ = some (.string x) := bcell h.2 rfl; have d2 : W.cell? ⟨wr.heap.size, 2, none⟩ = some (.string y) := bcell h.2 rfl; have d3 : W.cell? ⟨wr.heap.size, 3, none⟩ = some (.string z) := bcell h.2 rfl; have d4 : W.cell? ⟨wr.heap.size, 4, none⟩ = some (.bool a) := bcell h.2 rfl; simp [execOp, go_sem, Act.eval, dk.sets_get, ws5, List.lookup, d0, d1, d2, d3, d4]), ?_⟩
          refine ⟨dk.call (by decide) 51 #[.agg #[.int .i64 q, .string x, .string y, .string z, .bool a]] (.agg #[.int .i64 q, .string x, .string y, .string z, .bool a]) (by rintro _ ⟨⟩; exact dk.sets_on _ (by simp) _ rfl) (fun b W h => by simp [go_sem, Act.eval, dk.sets_get, ws5, List.lookup]) (fun b W h => (hcm W).mono fun e w' ⟨h1, h2⟩ => ⟨h1, h.1.on h2, bstay h.2 h2 (Array.getElem?_eq_some_iff.1 h.2).1⟩), ?_⟩
          refine ⟨dk.q (by decide) (.pointer (some ⟨ge, k * 5, none⟩)) (by rintro _ ⟨⟩; exact dk.sets_on _ (by simp) _ rfl) (fun b W h => by simp [execOp, go_sem, Act.eval, dk.sets_get, ws5, List.lookup, hkl]), ?_⟩
          refine ⟨dk.last rfl (fun W h => ?_), trivial⟩
          obtain ⟨h1, h2⟩ := h
          obtain ⟨v0, g0⟩ := h1.rowE.at (k * 5) (by omega)
          have z0 := h1.rowE.free (k * 5)
          obtain ⟨v1, g1⟩ := h1.rowE.at (k * 5 + 1) (by omega)
          have z1 := h1.rowE.free (k * 5 + 1)
          obtain ⟨v2, g2⟩ := h1.rowE.at (k * 5 + 2) (by omega)
          have z2 := h1.rowE.free (k * 5 + 2)
          obtain ⟨v3, g3⟩ := h1.rowE.at (k * 5 + 3) (by omega)
          have z3 := h1.rowE.free (k * 5 + 3)
          obtain ⟨v4, g4⟩ := h1.rowE.at (k * 5 + 4) (by omega)
          have z4 := h1.rowE.free (k * 5 + 4)
          refine ⟨fl.setRow W ge (k * 5) (flM.c ⟨q, x, y, z, a⟩), by simp [execOp, go_sem, Act.eval, dk.sets_get, ws5, List.lookup, g0, g1, g2, g3, g4, z0, z1, z2, z3, z4, fl.setRow, flM.c], ?_, ?_⟩
          · exact Inv.setE h1 HG.out
          · exact (off_row _ _ _ _ _ (Ne.symm hne)).trans h2
        case fin5 =>
          intro L W hL hC
          have hC' : Inv w nm nx es ms a0 b0 ec bc ge gb gn (k + 1) 0 W := by
            have := hL 6 (by decide)
            unfold dk.Cl at hC
            rw [this] at hC
            exact hC.1
          have HI : Hid (Inv w nm nx es ms a0 b0 ec bc ge gb gn (k + 1) 0 W) := hC'
          clear hC hC' hL hd0
          simp only [dk.sets, ws5]
          try rw [← ha]
          clear ha
          go_wp2
          go_roundw
          case rel => exact ⟨k + 1, by omega, by go_num, HI⟩
          case measure => simp [intOf]; omega
      · obtain rfl : k = es.length := by omega
        have x1 : wr.cell? ⟨w.heap.size, 3, none⟩ = some (.slice b0 ms.length bc) := bcell hinv.out.box rfl
        go_wp2
        go_loopw [40] (fun x wq => ∃ k : Nat, k ≤ ms.length ∧ x = .int .i64 k ∧ Hid (Inv w nm nx es ms a0 b0 ec bc ge gb gn es.length k wq)) (fun x _ => ms.length - (intOf x).toNat)
        case atStart => exact ⟨0, Nat.zero_le _, rfl, hinv⟩
        case round =>
          obtain ⟨k, hk2, rfl, hinv2⟩ := hrel
          clear x1 hinv
          by_cases hkl2 : k < ms.length
          · have HG : Hid (ms[k]? = some ms[k]) := List.getElem?_eq_getElem hkl2
            have hxs := HBS.out ms[k] (List.getElem_mem hkl2)
            obtain ⟨⟨tg, ow, ⟨q, x, y, z, a⟩⟩, he⟩ : ∃ e, ms[k] = e := ⟨_, rfl⟩
            rw [he] at HG hxs
            rcases HB.out.inn hinv2.out.bel with hnil | ⟨rb, ro, ha, hrl, hrc⟩
            · rw [hnil] at hkl2; exact absurd hkl2 (by simp)
            have cs := hrc k _ HG.out
            have c0 : wr.cell? ⟨rb, ro + k * 7, none⟩ = some (.int .i64 tg) := cs 0 _ rfl
            have c1 : wr.cell? ⟨rb, ro + k * 7 + 1, none⟩ = some (.int .i64 ow) := cs 1 _ rfl
            have c2 : wr.cell? ⟨rb, ro + k * 7 + 2, none⟩ = some (.int .i64 q) := cs 2 _ rfl
            have c3 : wr.cell? ⟨rb, ro + k * 7 + 3, none⟩ = some (.string x) := cs 3 _ rfl
            have c4 : wr.cell? ⟨rb, ro + k * 7 + 4, none⟩ = some (.string y) := cs 4 _ rfl
            have c5 : wr.cell? ⟨rb, ro + k * 7 + 5, none⟩ = some (.string z) := cs 5 _ rfl
            have c6 : wr.cell? ⟨rb, ro + k * 7 + 6, none⟩ = some (.bool a) := cs 6 _ rfl
            have hcm := fun W => cmg.copy_msg ⟨q, x, y, z, a⟩ W hxs
            have hlt := hinv2.out.rowB.lt
            have hne : gb ≠ wr.heap.size := by omega
            have hd0 : D10 w nm nx es ms a0 b0 ec bc ge gb gn k wr.heap.size tg ow q x y z a false (wr.alloc (.cells #[.int .i64 tg, .int .i64 ow, .int .i64 q, .string x, .string y, .string z, .bool a] 55)).drew := by
              refine ⟨(hinv2.out.on ((Below.refl _ _).alloc (Nat.le_refl _) _)).on (Below.refl _ _).drew, bnew wr _ _⟩
            clear he hxs hrc cs hrl
            go_wp2
            refine dk.region_sets (ws10 ms.length gb gn wr.heap.size k tg ow q x y z a) [45, 46, 47, 48, 49, 50, 51, 52, 53, 54, 55, 56] (dk.Cl (D10 w nm nx es ms a0 b0 ec bc ge gb gn k wr.heap.size tg ow q x y z a) 12) (by kernel_rfl) (by kernel_rfl) rfl (by kernel_rfl) hd0 ?each10 ?fin10
            case each10 =>
              refine ⟨dk.q (by decide) (.pointer (some ⟨gn, 3, none⟩)) (by rintro _ ⟨⟩; exact dk.sets_on _ (by simp) _ rfl) (fun b W h => by simp [execOp, go_sem, Act.eval, dk.sets_get, ws10, List.lookup]), ?_⟩
              refine ⟨dk.q (by decide) (.slice (some ⟨gb, 0, none⟩) ms.length ms.length) (by rintro _ ⟨⟩; exact dk.sets_on _ (by simp) _ rfl) (fun b W h => by have c : W.cell? ⟨gn, 3, none⟩ = some (.slice (some ⟨gb, 0, none⟩) ms.length ms.length) := bcell h.1.gnb rfl; simp [execOp, go_sem, Act.eval, dk.sets_get, ws10, List.lookup, c]), ?_⟩
              refine ⟨dk.q (by decide) (.int .i64 k) (by rintro _ ⟨⟩; exact dk.sets_on _ (by simp) _ rfl) (fun b W h => by simp [execOp, go_sem, Act.eval, dk.sets_get, ws10, List.lookup]), ?_⟩
              refine ⟨dk.q (by decide) (.pointer (some ⟨wr.heap.size, 0, none⟩)) (by rintro _ ⟨⟩; exact dk.sets_on _ (by simp) _ rfl) (fun b W h => by simp [execOp, go_sem, Act.eval, dk.sets_get, ws10, List.lookup]), ?_⟩
              refine ⟨dk.q (by decide) (.int .i64 tg) (by rintro _ ⟨⟩; exact dk.sets_on _ (by simp) _ rfl) (fun b W h => by have d0 : W.cell? ⟨wr.heap.size, 0, none⟩ = some (.int .i64 tg) := bcell h.2 rfl; simp [execOp, go_sem, Act.eval, dk.sets_get, ws10, List.lookup, d0]), ?_⟩
              refine ⟨dk.q (by decide) (.pointer (some ⟨wr.heap.size, 1, none⟩)) (by rintro _ ⟨⟩; exact dk.sets_on _ (by simp) _ rfl) (fun b W h => by simp [execOp, go_sem, Act.eval, dk.sets_get, ws10, List.lookup]), ?_⟩
              refine ⟨dk.q (by decide) (.int .i64 ow) (by rintro _ ⟨⟩; exact dk.sets_on _ (by simp) _ rfl) (fun b W h => by have d1 : W.cell? ⟨wr.heap.size, 1, none⟩ = some (.int .i64 ow) := bcell h.2 rfl; simp [execOp, go_sem, Act.eval, dk.sets_get, ws10, List.lookup, d1]), ?_⟩
              refine ⟨dk.q (by decide) (.pointer (some ⟨wr.heap.size, 2, none⟩)) (by rintro _ ⟨⟩; exact dk.sets_on _ (by simp) _ rfl) (fun b W h => by simp [execOp, go_sem, Act.eval, dk.sets_get, ws10, List.lookup]), ?_⟩
              refine ⟨dk.q (by decide) (.agg #[.int .i64 q, .string x, .string y, .string z, .bool a]) (by rintro _ ⟨⟩; exact dk.sets_on _ (by simp) _ rfl) (fun b W h => by have d2 : W.cell? ⟨wr.heap.size, 2, none⟩ = some (.int .i64 q) := bcell h.2 rfl; have d3 : W.cell? ⟨wr.heap.size, 3, none⟩ = some (.string x) := bcell h.2 rfl; have d4 : W.cell? ⟨wr.heap.size, 4, none⟩ = some (.string y) := bcell h.2 rfl; have d5 : W.cell? ⟨wr.heap.size, 5, none⟩ = some (.string z) := bcell h.2 rfl; have d6 : W.cell? ⟨wr.heap.size, 6, none⟩ = some (.bool a) := bcell h.2 rfl; simp [execOp, go_sem, Act.eval, dk.sets_get, ws10, List.lookup, d2, d3, d4, d5, d6]), ?_⟩
              refine ⟨dk.call (by decide) 51 #[.agg #[.int .i64 q, .string x, .string y, .string z, .bool a]] (.agg #[.int .i64 q, .string x, .string y, .string z, .bool a]) (by rintro _ ⟨⟩; exact dk.sets_on _ (by simp) _ rfl) (fun b W h => by simp [go_sem, Act.eval, dk.sets_get, ws10, List.lookup]) (fun b W h => (hcm W).mono fun e w' ⟨h1, h2⟩ => ⟨h1, h.1.on h2, bstay h.2 h2 (Array.getElem?_eq_some_iff.1 h.2).1⟩), ?_⟩
              refine ⟨dk.q (by decide) (.agg #[.int .i64 tg, .int .i64 ow, .int .i64 q, .string x, .string y, .string z, .bool a]) (by rintro _ ⟨⟩; exact dk.sets_on _ (by simp) _ rfl) (fun b W h => by simp [execOp, go_sem, Act.eval, dk.sets_get, ws10, List.lookup]), ?_⟩
              refine ⟨dk.q (by decide) (.pointer (some ⟨gb, k * 7, none⟩)) (by rintro _ ⟨⟩; exact dk.sets_on _ (by simp) _ rfl) (fun b W h => by simp [execOp, go_sem, Act.eval, dk.sets_get, ws10, List.lookup, hkl2]), ?_⟩
              refine ⟨dk.last rfl (fun W h => ?_), trivial⟩
              obtain ⟨h1, h2⟩ := h
              obtain ⟨v0, g0⟩ := h1.rowB.at (k * 7) (by omega)
              have z0 := h1.rowB.free (k * 7)
              obtain ⟨v1, g1⟩ := h1.rowB.at (k * 7 + 1) (by omega)
              have z1 := h1.rowB.free (k * 7 + 1)
              obtain ⟨v2, g2⟩ := h1.rowB.at (k * 7 + 2) (by omega)
              have z2 := h1.rowB.free (k * 7 + 2)
              obtain ⟨v3, g3⟩ := h1.rowB.at (k * 7 + 3) (by omega)
              have z3 := h1.rowB.free (k * 7 + 3)
              obtain ⟨v4, g4⟩ := h1.rowB.at (k * 7 + 4) (by omega)
              have z4 := h1.rowB.free (k * 7 + 4)
              obtain ⟨v5, g5⟩ := h1.rowB.at (k * 7 + 5) (by omega)
              have z5 := h1.rowB.free (k * 7 + 5)
              obtain ⟨v6, g6⟩ := h1.rowB.at (k * 7 + 6) (by omega)
              have z6 := h1.rowB.free (k * 7 + 6)
              refine ⟨fl.setRow W gb (k * 7) (flH.c ⟨tg, ow, ⟨q, x, y, z, a⟩⟩), by simp [execOp, go_sem, Act.eval, dk.sets_get, ws10, List.lookup, g0, g1, g2, g3, g4, g5, g6, z0, z1, z2, z3, z4, z5, z6, fl.setRow, flH.c], ?_, ?_⟩
              · exact Inv.setB h1 HG.out
              · exact (off_row _ _ _ _ _ (Ne.symm hne)).trans h2
            case fin10 =>
              intro L W hL hC
              have hC' : Inv w nm nx es ms a0 b0 ec bc ge gb gn es.length (k + 1) W := by
                have := hL 12 (by decide)
                unfold dk.Cl at hC
                rw [this] at hC
                exact hC.1
              have HI : Hid (Inv w nm nx es ms a0 b0 ec bc ge gb gn es.length (k + 1) W) := hC'
              clear hC hC' hL hd0
              simp only [dk.sets, ws10]
              try rw [← ha]
              clear ha
              go_wp2
              go_roundw
              case rel => exact ⟨k + 1, by omega, by go_num, HI⟩
              case measure => simp [intOf]; omega
          · obtain rfl : k = ms.length := by omega
            have n0 : wr.cell? ⟨gn, 0, none⟩ = some (.string nm) := bcell hinv2.out.gnb rfl
            have n1 : wr.cell? ⟨gn, 1, none⟩ = some (.int .i64 nx) := bcell hinv2.out.gnb rfl
            have n2 : wr.cell? ⟨gn, 2, none⟩ = some (.slice (some ⟨ge, 0, none⟩) es.length es.length) := bcell hinv2.out.gnb rfl
            have n3 : wr.cell? ⟨gn, 3, none⟩ = some (.slice (some ⟨gb, 0, none⟩) ms.length ms.length) := bcell hinv2.out.gnb rfl
            have r0 : wr.cell? ⟨w.heap.size + 1, 0, none⟩ = some (.string ⟨#[]⟩) := bcell hinv2.out.res rfl
            have r1 : wr.cell? ⟨w.heap.size + 1, 1, none⟩ = some (.int .i64 0) := bcell hinv2.out.res rfl
            have r2 : wr.cell? ⟨w.heap.size + 1, 2, none⟩ = some (.slice none 0 0) := bcell hinv2.out.res rfl
            have r3 : wr.cell? ⟨w.heap.size + 1, 3, none⟩ = some (.slice none 0 0) := bcell hinv2.out.res rfl
            have f0 := bfree hinv2.out.res 0
            have f1 := bfree hinv2.out.res 1
            have f2 := bfree hinv2.out.res 2
            have f3 := bfree hinv2.out.res 3
            go_wp2
            have p2 := apart (by decide) hinv2.out.rowE hinv2.out.res
            have p3 := apart (by decide) hinv2.out.rowB hinv2.out.res
            refine bodyPost_ret (v := .agg #[.string nm, .int .i64 nx, .slice (some ⟨ge, 0, none⟩) es.length es.length, .slice (some ⟨gb, 0, none⟩) ms.length ms.length]) (by simp [results, Try.results21, go_sem, r0, r1, r2, r3]) rfl ⟨ge, gb, rfl, by have := hinv2.out.hge; omega, by have := hinv2.out.hgb; omega, apartEM hinv2.out.rowE hinv2.out.rowB, ?_, ?_, ?_⟩
            · exact (((hinv2.out.rowE.kept (Below.heap_setCell _ _ _ _ p2)).kept (Below.heap_setCell _ _ _ _ p2)).kept (Below.heap_setCell _ _ _ _ p2)).kept (Below.heap_setCell _ _ _ _ p2)
            · exact (((hinv2.out.rowB.kept (Below.heap_setCell _ _ _ _ p3)).kept (Below.heap_setCell _ _ _ _ p3)).kept (Below.heap_setCell _ _ _ _ p3)).kept (Below.heap_setCell _ _ _ _ p3)
            · exact (((hinv2.out.bel.setCell (by show w.heap.size ≤ w.heap.size + 1; omega) _).setCell (by show w.heap.size ≤ w.heap.size + 1; omega) _).setCell (by show w.heap.size ≤ w.heap.size + 1; omega) _).setCell (by show w.heap.size ≤ w.heap.size + 1; omega) _
end Go.Proofs.Ytnlcmheahihlpaa.cqu

/- A queue at work: opened, one more put in, the first taken out. -/
namespace Go.Proofs.Ytnlcmheahihlpaa.qop
open Go.ChangeShapes Go.WideShapes Go.ChangeAt Go.RowKit Go.Proofs.Ytnlcmheahihlpaa.fl Go.Proofs.Ytnlcmheahihlpaa.qit Go.Proofs.Ytnlcmheahihlpaa.qst Go.Proofs.Ytnlcmheahihlpaa.qpu Go.Proofs.Ytnlcmheahihlpaa.qpo
set_option linter.unusedVariables false

theorem asc_lt {L : List flM.Ms} (h : ∀ (i : Nat) (a b : flM.Ms), L[i]? = some a → L[i + 1]? = some b → a.q < b.q) : ∀ (d i : Nat) (a b : flM.Ms), L[i]? = some a → L[i + d + 1]? = some b → a.q < b.q
  | 0, i, a, b, ha, hb => h i a b ha hb
  | d + 1, i, a, b, ha, hb => by
    have hlt := (List.getElem?_eq_some_iff.1 hb).1
    have hm : L[i + d + 1]? = some (L[i + d + 1]'(by omega)) := List.getElem?_eq_getElem _
    have h1 := asc_lt h d i a _ ha hm
    have h2 := h (i + d + 1) _ b hm hb
    omega
theorem sorted_heap {L : List flM.Ms} (h : ∀ (i : Nat) (a b : flM.Ms), L[i]? = some a → L[i + 1]? = some b → a.q < b.q) : hp.Heap less L L.length := fun i h0 hi a b ha hb => by
  have hpl := hp.P_lt h0
  have := asc_lt h (i - hp.P i - 1) (hp.P i) a b ha (by rw [show hp.P i + (i - hp.P i - 1) + 1 = i by omega]; exact hb)
  simp only [less, decide_eq_false_iff_not]
  omega
theorem hr_own {w : World} {g : Nat} {L : List flM.Ms} (h : Own flM.c 5 41 w g L L.length) (hl : L.length ≤ 1048576) : HR w g L.length L := by
  obtain ⟨cur, h1, h2, h3⟩ := h
  exact ⟨cur, h1, h2, Nat.le_refl _, by unfold maxLen; omega, fun i r hr j v hv => h3 i r (List.getElem?_eq_some_iff.1 hr).1 hr j v hv⟩

set_option maxRecDepth 100000 in
theorem open_of (nm : ByteArray) (nx : Int) (es : List flM.Ms) (ms : List flH.Hd) (a0 b0 : Option Addr) (ec bc : Nat) (w : World) (hn : nm.size ≤ 1048576) (hel : es.length ≤ 1048576) (hbl : ms.length ≤ 1048576) (hes : ∀ e ∈ es, e.x.size ≤ 1048576 ∧ e.k.size ≤ 1048576 ∧ e.b.size ≤ 1048576) (hbs : ∀ e ∈ ms, e.m.x.size ≤ 1048576 ∧ e.m.k.size ≤ 1048576 ∧ e.m.b.size ≤ 1048576) (hE : Row flM.c 5 w w.heap.size a0 es) (hB : Row flH.c 7 w w.heap.size b0 ms) :
    Calls Try.prog 22 #[.agg #[.string nm, .int .i64 nx, .slice a0 es.length ec, .slice b0 ms.length bc]] w fun e w' => ∃ hb g h, e = .returned (.pointer (some ⟨hb, 0, none⟩)) ∧ SG w hb ⟨nm, nx, some ⟨h, 0, none⟩, ms.length, ms.length⟩ g es.length es w' ∧ Own flH.c 7 55 w' h ms ms.length ∧ w.heap.size ≤ h ∧ h ≠ hb := by
  have hb0 : Below w.heap.size w (w.alloc (.cells #[.string nm, .int .i64 nx, .slice a0 es.length ec, .slice b0 ms.length bc] 27)) := (Below.refl _ _).alloc (Nat.le_refl _) _
  have hcq := cqu.copy_queue nm nx es ms a0 b0 ec bc _ hn hel hbl hes hbs (hE.inn hb0) (hB.inn hb0)
  clear hE hB hes hbs
  go_enter Try.func22, Try.ntmps22
  go_wp2_with (go_at_call 21; fail)
  refine hcq.mono ?_
  rintro e w1 ⟨g, h, rfl, hg, hh, hgh, oe, om, hb1⟩
  have hs1 := hb1.size
  have hB1 : Below w.heap.size w w1 := hb0.trans (hb1.mono hb0.size)
  have ha1 : Below w1.heap.size w1 ((w1.alloc (.cells #[.string nm, .int .i64 nx, .slice (some ⟨g, 0, none⟩) es.length es.length, .slice (some ⟨h, 0, none⟩) ms.length ms.length] 27)).alloc (.cells #[.slice (some ⟨g, 0, none⟩) es.length es.length, .string nm, .int .i64 nx, .slice (some ⟨h, 0, none⟩) ms.length ms.length] 82)) := ((Below.refl _ _).alloc (Nat.le_refl _) _).alloc (by simp) _
  have hnew := bnew (w1.alloc (.cells #[.string nm, .int .i64 nx, .slice (some ⟨g, 0, none⟩) es.length es.length, .slice (some ⟨h, 0, none⟩) ms.length ms.length] 27)) #[.slice (some ⟨g, 0, none⟩) es.length es.length, .string nm, .int .i64 nx, .slice (some ⟨h, 0, none⟩) ms.length ms.length] 82
  rw [World.size_alloc] at hnew
  have hgl := oe.lt
  have hhl := om.lt
  have HF : Hid (SG w (w1.heap.size + 1) ⟨nm, nx, some ⟨h, 0, none⟩, ms.length, ms.length⟩ g es.length es ((w1.alloc (.cells #[.string nm, .int .i64 nx, .slice (some ⟨g, 0, none⟩) es.length es.length, .slice (some ⟨h, 0, none⟩) ms.length ms.length] 27)).alloc (.cells #[.slice (some ⟨g, 0, none⟩) es.length es.length, .string nm, .int .i64 nx, .slice (some ⟨h, 0, none⟩) ms.length ms.length] 82)) ∧ Own flH.c 7 55 ((w1.alloc (.cells #[.string nm, .int .i64 nx, .slice (some ⟨g, 0, none⟩) es.length es.length, .slice (some ⟨h, 0, none⟩) ms.length ms.length] 27)).alloc (.cells #[.slice (some ⟨g, 0, none⟩) es.length es.length, .string nm, .int .i64 nx, .slice (some ⟨h, 0, none⟩) ms.length ms.length] 82)) h ms ms.length) := by
    rw [World.size_alloc] at hg
    exact ⟨⟨hB1.trans (ha1.mono hB1.size), by have := hB1.size; omega, by omega, by omega, hnew, hr_own (oe.below ha1 hgl) hel, fun _ _ => trivial⟩, om.below ha1 hhl⟩
  have hh2 : w.heap.size ≤ h := by rw [World.size_alloc] at hh; omega
  clear hcq oe om hnew
  go_wp2
  go_ret
  exact ⟨w1.heap.size + 1, g, h, rfl, HF.out.1, HF.out.2, hh2, by omega⟩

theorem SN.on {W0 : World} {hb : Nat} {Q : Qx} {L : List flM.Ms} {w w' : World} (h : SN W0 hb Q L w) (hb' : Below w.heap.size w w') : SN W0 hb Q L w' := by
  obtain ⟨v, h1, h2, h3⟩ := h.box
  refine ⟨h.bel.trans (hb'.mono h.bel.size), h.hbB, ⟨v, bstay h1 hb' (Array.getElem?_eq_some_iff.1 h1).1, ?_, h3⟩, h.fits⟩
  refine h2.kept (row := none) ⟨hb'.os, hb'.tape, hb'.output, hb'.size, fun i hi _ => hb'.block i hi⟩ ?_
  cases hv : v.ownBlock with
  | none => exact .inl rfl
  | some g => right; simp
set_option maxRecDepth 100000 in
theorem put_run (W0 : World) (Q : Qx) (hb : Nat) (L : List flM.Ms) (r : flM.Ms) (w : World) (hS : SN W0 hb Q L w) (hH : hp.Heap less L L.length) (hl : L.length ≤ 900) :
    Calls Try.prog 50 #[.pointer (some ⟨hb, 0, none⟩), .agg #[.int .i64 r.q, .string r.x, .string r.k, .string r.b, .bool r.a]] w fun e w' => e = .returned (.tuple #[]) ∧ ∃ M : List flM.Ms, M.Perm (L ++ [r]) ∧ hp.Heap less M M.length ∧ SN W0 hb Q M w' ∧ Kt hb w w' := by
  have hal : Below w.heap.size w (w.alloc (.cells #[.int .i64 r.q, .string r.x, .string r.k, .string r.b, .bool r.a] 41)) := (Below.refl _ _).alloc (Nat.le_refl _) _
  have hpu := push_run W0 Q hb L r _ (SN.on hS hal) hH trivial hl
  clear hS hH
  go_enter Try.func50, Try.ntmps50
  go_wp2_with (go_at_call 68; fail)
  refine hpu.mono ?_
  rintro e w1 ⟨rfl, M, h1, h2, h3, h4⟩
  have HF : Hid (M.Perm (L ++ [r]) ∧ hp.Heap less M M.length ∧ SN W0 hb Q M w1 ∧ Kt hb w w1) := ⟨h1, h2, h3, (Kt.of hal).trans h4⟩
  clear hpu h1 h2 h3 h4
  go_wp2
  go_end0
  exact ⟨rfl, M, HF.out⟩

theorem SG.off {W0 : World} {hb g cap : Nat} {Q : Qx} {L : List flM.Ms} {w : World} (h : SG W0 hb Q g cap L w) (b o : Nat) (v : Value) (h1 : hb ≠ b) (h2 : g ≠ b) (h3 : W0.heap.size ≤ b) : SG W0 hb Q g cap L (w.setCell ⟨b, o, none⟩ v) :=
  ⟨h.bel.setCell h3 v, h.hbB, h.gB, h.ne, boff h.box b o v h1, h.row.below (Below.heap_setCell _ _ _ g h2), h.fits⟩
theorem Kq.off {hb g b : Nat} {a w : World} (h : Kq hb g a w) (o : Nat) (v : Value) (hb' : a.heap.size ≤ b) : Kq hb g a (w.setCell ⟨b, o, none⟩ v) := by
  have h0 : Below 0 w (w.setCell ⟨b, o, none⟩ v) := (Below.refl 0 w).setCell (Nat.zero_le _) v
  exact ⟨h0.os.trans h.os, h0.tape.trans h.tape, h0.output.trans h.output, Nat.le_trans h.size h0.size, fun k hk h1 h2 => (Below.heap_setCell _ _ _ k (by show k ≠ b; omega)).trans (h.block k hk h1 h2)⟩
theorem Kq.on {hb g : Nat} {a w w' : World} (h : Kq hb g a w) (hb' : Below w.heap.size w w') : Kq hb g a w' :=
  ⟨hb'.os.trans h.os, hb'.tape.trans h.tape, hb'.output.trans h.output, Nat.le_trans h.size hb'.size, fun k hk h1 h2 => (hb'.block k (Nat.lt_of_lt_of_le hk h.size)).trans (h.block k hk h1 h2)⟩
set_option maxRecDepth 100000 in
theorem first_run (W0 : World) (Q : Qx) (hb g cap : Nat) (L : List flM.Ms) (r : flM.Ms) (w : World) (hS : SG W0 hb Q g cap L w) (h0 : L[0]? = some r) (hl : L.length ≤ 1000) (hH : hp.Heap less L L.length) :
    Calls Try.prog 53 #[.pointer (some ⟨hb, 0, none⟩)] w fun e w' => e = .returned (.agg #[.int .i64 r.q, .string r.x, .string r.k, .string r.b, .bool r.a]) ∧ ∃ M : List flM.Ms, (r :: M).Perm L ∧ hp.Heap less M M.length ∧ SG W0 hb Q g cap M w' ∧ Kq hb g w w' := by
  have hal : Below w.heap.size w (w.alloc (.cells #[.int .i64 0, .string ⟨#[]⟩, .string ⟨#[]⟩, .string ⟨#[]⟩, .bool false] 41)) := (Below.refl _ _).alloc (Nat.le_refl _) _
  have hX := bnew w #[.int .i64 0, .string ⟨#[]⟩, .string ⟨#[]⟩, .string ⟨#[]⟩, .bool false] 41
  have hgl : g < w.heap.size := by obtain ⟨cur, h1, _⟩ := hS.row; exact (Array.getElem?_eq_some_iff.1 h1).1
  have hbl : hb < w.heap.size := (Array.getElem?_eq_some_iff.1 hS.box).1
  have hWB : W0.heap.size ≤ w.heap.size := hS.bel.size
  have hpo := pop_run W0 Q hb g cap L r _ (hS.on hal) h0 hl hH
  have hta : ∀ W : World, (Instr.typeAssert (.iface 41 (.agg #[.int .i64 r.q, .string r.x, .string r.k, .string r.b, .bool r.a])) 20 41 true).run Try.prog W = .ok (.tuple #[.agg #[.int .i64 r.q, .string r.x, .string r.k, .string r.b, .bool r.a], .bool true]) W := fun W => by kernel_rfl
  have HAL : Hid (Kq hb g w (w.alloc (.cells #[.int .i64 0, .string ⟨#[]⟩, .string ⟨#[]⟩, .string ⟨#[]⟩, .bool false] 41))) := ⟨hal.os, hal.tape, hal.output, hal.size, fun k hk _ _ => hal.block k hk⟩
  have HX : Hid ((w.alloc (.cells #[.int .i64 0, .string ⟨#[]⟩, .string ⟨#[]⟩, .string ⟨#[]⟩, .bool false] 41)).heap[w.heap.size]? = some (.cells #[.int .i64 0, .string ⟨#[]⟩, .string ⟨#[]⟩, .string ⟨#[]⟩, .bool false] 41 (0, 0))) := hX
  clear hS hH h0 hX
  go_enter Try.func53, Try.ntmps53
  go_wp2_with (go_at_call 69; fail)
  refine hpo.mono ?_
  rintro e w1 ⟨rfl, M, h1, h2, h3, h4⟩
  have x1 := (h4.block w.heap.size (by simp) (by omega) (by omega)).trans HX.out
  have hal2 : Below w1.heap.size w1 (w1.alloc (.cells #[.int .i64 r.q, .string r.x, .string r.k, .string r.b, .bool r.a] 41)) := (Below.refl _ _).alloc (Nat.le_refl _) _
  have hwl := (Array.getElem?_eq_some_iff.1 x1).1
  have y1 := bold x1 (.cells #[.int .i64 r.q, .string r.x, .string r.k, .string r.b, .bool r.a] 41)
  obtain ⟨Y, hY⟩ : ∃ Y, w1.alloc (.cells #[.int .i64 r.q, .string r.x, .string r.k, .string r.b, .bool r.a] 41) = Y := ⟨_, rfl⟩
  rw [hY] at hal2 y1
  have hN := bnew w1 #[.int .i64 r.q, .string r.x, .string r.k, .string r.b, .bool r.a] 41
  rw [hY] at hN
  have z0 : Y.cell? ⟨w.heap.size, 0, none⟩ = some (.int .i64 0) := bcell y1 rfl
  have z1 : Y.cell? ⟨w.heap.size, 1, none⟩ = some (.string ⟨#[]⟩) := bcell y1 rfl
  have z2 : Y.cell? ⟨w.heap.size, 2, none⟩ = some (.string ⟨#[]⟩) := bcell y1 rfl
  have z3 : Y.cell? ⟨w.heap.size, 3, none⟩ = some (.string ⟨#[]⟩) := bcell y1 rfl
  have z4 : Y.cell? ⟨w.heap.size, 4, none⟩ = some (.bool false) := bcell y1 rfl
  have f0 := bfree y1 0
  have f1 := bfree y1 1
  have f2 := bfree y1 2
  have f3 := bfree y1 3
  have f4 := bfree y1 4
  have n0 : Y.cell? ⟨w1.heap.size, 0, none⟩ = some (.int .i64 r.q) := bcell hN rfl
  have n1 : Y.cell? ⟨w1.heap.size, 1, none⟩ = some (.string r.x) := bcell hN rfl
  have n2 : Y.cell? ⟨w1.heap.size, 2, none⟩ = some (.string r.k) := bcell hN rfl
  have n3 : Y.cell? ⟨w1.heap.size, 3, none⟩ = some (.string r.b) := bcell hN rfl
  have n4 : Y.cell? ⟨w1.heap.size, 4, none⟩ = some (.bool r.a) := bcell hN rfl
  have hwB : W0.heap.size ≤ w.heap.size := hWB
  have HF : Hid ((r :: M).Perm L ∧ hp.Heap less M M.length ∧ SG W0 hb Q g cap M Y ∧ Kq hb g w Y) := ⟨h1, h2, h3.on hal2, Kq.on (HAL.out.trans h4) hal2⟩
  clear hpo h1 h2 h3 h4 x1 y1 hN hal2
  go_wp2
  refine bodyPost_ret (v := .agg #[.int .i64 r.q, .string r.x, .string r.k, .string r.b, .bool r.a]) (by simp [results, Try.results53, go_sem, z0, z1, z2, z3, z4]) rfl ⟨rfl, M, HF.out.1, HF.out.2.1, ?_, ?_⟩
  · exact SG.off (SG.off (SG.off (SG.off (SG.off HF.out.2.2.1 _ _ _ (by omega) (by omega) hwB) _ _ _ (by omega) (by omega) hwB) _ _ _ (by omega) (by omega) hwB) _ _ _ (by omega) (by omega) hwB) _ _ _ (by omega) (by omega) hwB
  · exact Kq.off (Kq.off (Kq.off (Kq.off (Kq.off HF.out.2.2.2 _ _ (Nat.le_refl _)) _ _ (Nat.le_refl _)) _ _ (Nat.le_refl _)) _ _ (Nat.le_refl _)) _ _ (Nat.le_refl _)
end Go.Proofs.Ytnlcmheahihlpaa.qop
