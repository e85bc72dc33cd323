/- The program's StreamPut: one more entry, where that is right, in rows of its own; new memory alone. -/
import Derived.Test.YtlfhfcgcfggjcaaStreamPutSpec
import Derived.Test.YtlfhfcgcfggjcaaStreamTrimSpec
import Derived.Test.YtlfhfcgcfggjcaaCopyStream
namespace Go.Proofs.Ytlfhfcgcfggjcaa.iput
open Go.ChangeShapes Go.WideShapes Go.ChangeAt Go.RowKit Go.Proofs.Ytlfhfcgcfggjcaa.fl Go.Proofs.Ytlfhfcgcfggjcaa.fo Go.Proofs.Ytlfhfcgcfggjcaa.rr Go.Proofs.Ytlfhfcgcfggjcaa.st Go.Proofs.Ytlfhfcgcfggjcaa.srd Go.Proofs.Ytlfhfcgcfggjcaa.scp Go.Proofs.Ytlfhfcgcfggjcaa.spw Go.Proofs.Ytlfhfcgcfggjcaa.sput
set_option linter.unusedVariables false

theorem own_owns {α : Type} {c : α → List Value} {n B g : Nat} {U : TypeId} {l : List α} {w : World} (hn : ∀ e, (c e).length = n) (ho : Own c n U w g l l.length) (hB : B ≤ g) (hl : l.length ≤ maxLen) : w.ownsRow B U n (.slice (some ⟨g, 0, none⟩) l.length l.length) l.length (l.flatMap c) := by
  obtain ⟨cur, h1, h2, h3⟩ := ho
  refine ⟨flat_len hn l, .inr ⟨g, l.length, cur, rfl, hB, h1, Nat.le_refl _, hl, h2, ?_⟩⟩
  apply List.ext_getElem?
  intro j
  by_cases hj : j < l.length * n
  · rw [List.getElem?_take_of_lt hj]
    have hj2 : j < (l.flatMap c).length := by rw [flat_len hn]; exact hj
    obtain ⟨u, hu⟩ : ∃ u, (l.flatMap c)[j]? = some u := ⟨_, List.getElem?_eq_getElem hj2⟩
    obtain ⟨i, e, r, k1, k2, k3⟩ := flat_get hn l j _ hu
    rw [hu]
    subst k3
    have := h3 i e (List.getElem?_eq_some_iff.1 k1).1 k1 r _ k2
    simpa using this
  · rw [List.getElem?_eq_none (by rw [List.length_take]; omega), List.getElem?_eq_none (by rw [flat_len hn]; omega)]
theorem owns_ownO {α : Type} {c : α → List Value} {n B g cap : Nat} {U : TypeId} {l : List α} {w : World} (hn : ∀ e, (c e).length = n) (ho : w.ownsRow B U n (.slice (some ⟨g, 0, none⟩) l.length cap) l.length (l.flatMap c)) : OwnO c n U w g 0 l l.length := by
  obtain ⟨_, ⟨h1, _⟩ | ⟨g', cap', cur, h1, h2, h3, h4, h5, h6, h7⟩⟩ := ho
  · cases h1
  cases h1
  refine ⟨cur, h3, by rw [h6, Nat.zero_add]; exact Nat.mul_le_mul_right n h4, fun i e hi he j v hv => ?_⟩
  have hf := flat_at hn l i e he j v hv
  rw [← h7] at hf
  have hlt := (List.getElem?_eq_some_iff.1 hf).1
  rw [List.length_take] at hlt
  rw [List.getElem?_take_of_lt (by omega)] at hf
  rw [Nat.zero_add]
  simpa using hf

theorem res_own {α : Type} {c : α → List Value} {n g k B off : Nat} {U : TypeId} {l : List α} {w : World} {x0 x1 x2 x3 x4 : Value} (h : OwnO c n U w g off l k) (hg : g ≠ B + 1) : OwnO c n U (res5 w (B + 1) x0 x1 x2 x3 x4) g off l k :=
  ((((h.kept (Below.heap_setCell _ _ _ _ hg)).kept (Below.heap_setCell _ _ _ _ hg)).kept (Below.heap_setCell _ _ _ _ hg)).kept (Below.heap_setCell _ _ _ _ hg)).kept (Below.heap_setCell _ _ _ _ hg)
structure G where
  ga : Nat
  gv : Nat
  cv : Nat
def ws (n0 : Nat) (sn : ByteArray) (lo nx : Int) (es : List flY.En) (ms : List Ex) (g h : Option Addr) (cg ch : Nat) (t : Int) (b : ByteArray) (n8 ge gm : Nat) (s : G) : List (Nat × Value) := [(16, .pointer (some ⟨n8, 3, none⟩)), (17, .slice (some ⟨ge, 0, none⟩) es.length es.length), (18, .pointer (some ⟨n0, 2, none⟩)), (19, .int .i64 nx), (20, .int .i64 t), (21, .string b), (22, .string b), (23, .agg #[.int .i64 nx, .int .i64 t, .string b]), (24, .slice (some ⟨s.ga, 0, none⟩) 1 1), (25, .slice (some ⟨s.gv, 0, none⟩) (es.length + 1) s.cv), (26, .pointer (some ⟨n8, 3, none⟩))]
/-- what stands: the row of the list l, and what the new stream's field holds -/
structure R (w : World) (sn : ByteArray) (lo nx : Int) (es : List flY.En) (ms : List Ex) (g h : Option Addr) (cg ch : Nat) (n8 gm : Nat) (x3 : Value) (gv cv : Nat) (l : List flY.En) (W : World) : Prop where
  bel : Below w.heap.size w W
  box : W.heap[w.heap.size]? = some (.cells #[.string sn, .int .i64 lo, .int .i64 nx, .slice g es.length cg, .slice h ms.length ch] 27 (0, 0))
  res : W.heap[w.heap.size + 1]? = some (.cells #[.string ⟨#[]⟩, .int .i64 0, .int .i64 0, .slice none 0 0, .slice none 0 0] 27 (0, 0))
  out : W.heap[n8]? = some (.cells #[.string sn, .int .i64 lo, .int .i64 nx, x3, .slice (some ⟨gm, 0, none⟩) ms.length ms.length] 27 (0, 0))
  oe : W.ownsRow (w.heap.size + 2) 42 3 (.slice (some ⟨gv, 0, none⟩) l.length cv) l.length (l.flatMap flY.c)
  om : W.ownsRow (w.heap.size + 2) 56 2 (.slice (some ⟨gm, 0, none⟩) ms.length ms.length) ms.length (ms.flatMap flK.c)
  h8 : w.heap.size + 2 ≤ n8
theorem R.on {w : World} {sn : ByteArray} {lo nx : Int} {es : List flY.En} {ms : List Ex} {g h : Option Addr} {cg ch : Nat} {n8 gm gv cv : Nat} {x3 : Value} {l : List flY.En} {W W' : World} (hs : R w sn lo nx es ms g h cg ch n8 gm x3 gv cv l W) (hb : Below W.heap.size W W') : R w sn lo nx es ms g h cg ch n8 gm x3 gv cv l W' :=
  ⟨hs.bel.trans (hb.mono hs.bel.size), bstay hs.box hb (Array.getElem?_eq_some_iff.1 hs.box).1, bstay hs.res hb (Array.getElem?_eq_some_iff.1 hs.res).1, bstay hs.out hb (Array.getElem?_eq_some_iff.1 hs.out).1, own_stay hs.oe hb, own_stay hs.om hb, hs.h8⟩
structure D (w : World) (sn : ByteArray) (lo nx : Int) (es : List flY.En) (ms : List Ex) (g h : Option Addr) (cg ch : Nat) (t : Int) (b : ByteArray) (n8 ge gm : Nat) (s : G) (b1 b8 b9 b11 : Bool) (W : World) : Prop where
  si : R w sn lo nx es ms g h cg ch n8 gm (if b11 then .slice (some ⟨s.gv, 0, none⟩) (es.length + 1) s.cv else .slice (some ⟨ge, 0, none⟩) es.length es.length) (if b9 then s.gv else ge) (if b9 then s.cv else es.length) (if b9 then (es ++ [⟨nx, t, b⟩]) else es) W
  at8 : b8 = true → b9 = false → W.heap[s.ga]? = some (.cells #[.int .i64 nx, .int .i64 t, .string b] 42 (0, 0))
  at9 : b9 = true → b1 = true ∧ b8 = true
  at11 : b11 = true → b9 = true
def C (w : World) (sn : ByteArray) (lo nx : Int) (es : List flY.En) (ms : List Ex) (g h : Option Addr) (cg ch : Nat) (t : Int) (b : ByteArray) (n8 ge gm : Nat) (s : G) (L : Nat → Bool) (W : World) : Prop := D w sn lo nx es ms g h cg ch t b n8 ge gm s (L 1) (L 8) (L 9) (L 11) W
theorem D.on {w : World} {sn : ByteArray} {lo nx : Int} {es : List flY.En} {ms : List Ex} {g h : Option Addr} {cg ch : Nat} {t : Int} {b : ByteArray} {n8 ge gm : Nat} {s : G} {b1 b8 b9 b11 : Bool} {W W' : World} (hd : D w sn lo nx es ms g h cg ch t b n8 ge gm s b1 b8 b9 b11 W) (hb : Below W.heap.size W W') : D w sn lo nx es ms g h cg ch t b n8 ge gm s b1 b8 b9 b11 W' :=
  ⟨hd.si.on hb, fun e1 e2 => bstay (hd.at8 e1 e2) hb (Array.getElem?_eq_some_iff.1 (hd.at8 e1 e2)).1, hd.at9, hd.at11⟩
section
variable {w : World} {sn : ByteArray} {lo nx : Int} {es : List flY.En} {ms : List Ex} {g h : Option Addr} {cg ch : Nat} {t : Int} {b : ByteArray} {n8 ge gm : Nat} {act : Act} {Q : Exit → Act → World → Prop}
theorem more_off {i : Nat} {L : Nat → Bool} {s : G} {W : World} (hi : i ≠ 1 ∧ i ≠ 8 ∧ i ≠ 9 ∧ i ≠ 11) (hC : D w sn lo nx es ms g h cg ch t b n8 ge gm s (L 1) (L 8) (L 9) (L 11) W) : C w sn lo nx es ms g h cg ch t b n8 ge gm s (dn.more L i) W := by
  unfold C dn.more
  rw [if_neg (by omega), if_neg (by omega), if_neg (by omega), if_neg (by omega)]
  exact hC
theorem quiet {i : Nat} {o : Oper} (hi : i ≠ 1 ∧ i ≠ 8 ∧ i ≠ 9 ∧ i ≠ 11) (hsel : ∀ cs b, o.op ≠ .select cs b) (v : Value) (hd : ∀ s d, o.dst = some d → (dk.sets act (ws w.heap.size sn lo nx es ms g h cg ch t b n8 ge gm s)).tmps[d]? = some v)
    (hrun : ∀ s W, W.heap[w.heap.size]? = some (.cells #[.string sn, .int .i64 lo, .int .i64 nx, .slice g es.length cg, .slice h ms.length ch] 27 (0, 0)) → (execOp (dk.sets act (ws w.heap.size sn lo nx es ms g h cg ch t b n8 ge gm s)).eval o).run Try.prog W = .ok (.value v) W) : gh.Step Try.prog (fun s => dk.sets act (ws w.heap.size sn lo nx es ms g h cg ch t b n8 ge gm s)) (C w sn lo nx es ms g h cg ch t b n8 ge gm) Q i o := by
  refine gh.step_val hsel fun s L W hdp h0 hC => ⟨s, v, gh.Agree.refl _ _, hd s, ?_⟩
  rw [hrun s W hC.si.box]
  exact ⟨rfl, more_off hi hC⟩
theorem qcall {i : Nat} {o : Oper} (hi : i ≠ 1 ∧ i ≠ 8 ∧ i ≠ 9 ∧ i ≠ 11) (hsel : ∀ cs b, o.op ≠ .select cs b) (f : FuncId) (args : Array Value) (v : Value) (hd : ∀ s d, o.dst = some d → (dk.sets act (ws w.heap.size sn lo nx es ms g h cg ch t b n8 ge gm s)).tmps[d]? = some v)
    (hrun : ∀ s W, (execOp (dk.sets act (ws w.heap.size sn lo nx es ms g h cg ch t b n8 ge gm s)).eval o).run Try.prog W = .ok (.enter f args) W) (hcall : ∀ W, Calls Try.prog f args W fun e w' => e = .returned v ∧ Below W.heap.size W w') : gh.Step Try.prog (fun s => dk.sets act (ws w.heap.size sn lo nx es ms g h cg ch t b n8 ge gm s)) (C w sn lo nx es ms g h cg ch t b n8 ge gm) Q i o := by
  refine gh.step_val hsel fun s L W hdp h0 hC => ⟨s, v, gh.Agree.refl _ _, hd s, ?_⟩
  rw [hrun s W]
  exact (hcall W).mono fun e w' ⟨h1, h2⟩ => ⟨h1, more_off hi (D.on hC h2)⟩
theorem st1 {o : Oper} (hsz : 26 < act.tmps.size) (hop : o.op = .load 24 (.tmp 16)) (hdst : o.dst = some 17) : gh.Step Try.prog (fun s => dk.sets act (ws w.heap.size sn lo nx es ms g h cg ch t b n8 ge gm s)) (C w sn lo nx es ms g h cg ch t b n8 ge gm) Q 1 o := by
  refine gh.step_val (by rw [hop]; simp) fun s L W hdp h0 hC => ⟨s, .slice (some ⟨ge, 0, none⟩) es.length es.length, gh.Agree.refl _ _, (fun d hd => by rw [hdst] at hd; cases hd; exact dk.sets_on _ (by omega) _ rfl), ?_⟩
  have hC : D w sn lo nx es ms g h cg ch t b n8 ge gm s (L 1) (L 8) (L 9) (L 11) W := hC
  have h9 : L 9 = false := by
    cases hh : L 9 with
    | false => rfl
    | true => have := (hC.at9 hh).1; rw [h0] at this; cases this
  have h11 : L 11 = false := by
    cases hh : L 11 with
    | false => rfl
    | true => have := hC.at11 hh; rw [h9] at this; cases this
  have hsi := hC.si
  rw [h11] at hsi
  have c3 : W.cell? ⟨n8, 3, none⟩ = some (.slice (some ⟨ge, 0, none⟩) es.length es.length) := bcell hsi.out rfl
  have e16 : (dk.sets act (ws w.heap.size sn lo nx es ms g h cg ch t b n8 ge gm s)).tmps[16]? = some (.pointer (some ⟨n8, 3, none⟩)) := dk.sets_on _ (by omega) _ rfl
  have hrun : (execOp (dk.sets act (ws w.heap.size sn lo nx es ms g h cg ch t b n8 ge gm s)).eval o).run Try.prog W = .ok (.value (.slice (some ⟨ge, 0, none⟩) es.length es.length)) W := by simp [execOp, hop, e16, go_sem, c3]
  rw [hrun]
  refine ⟨rfl, ?_⟩
  show D w sn lo nx es ms g h cg ch t b n8 ge gm _ true (L 8) (L 9) (L 11) _
  exact ⟨hC.si, hC.at8, (fun e => by rw [h9] at e; cases e), hC.at11⟩
theorem st8 {o : Oper} (hsz : 26 < act.tmps.size) (hop : o.op = .buildSlice 24 1 #[(0, .tmp 23)]) (hdst : o.dst = some 24) : gh.Step Try.prog (fun s => dk.sets act (ws w.heap.size sn lo nx es ms g h cg ch t b n8 ge gm s)) (C w sn lo nx es ms g h cg ch t b n8 ge gm) Q 8 o := by
  refine gh.step_val (by rw [hop]; simp) fun s L W hdp h0 hC => ⟨{ s with ga := W.heap.size }, .slice (some ⟨W.heap.size, 0, none⟩) 1 1, dk.agree_sets 8 24 _ hdst rfl rfl, (fun d hd => by rw [hdst] at hd; cases hd; exact dk.sets_on _ (by omega) _ rfl), ?_⟩
  have e23 : (dk.sets act (ws w.heap.size sn lo nx es ms g h cg ch t b n8 ge gm s)).tmps[23]? = some (.agg #[.int .i64 nx, .int .i64 t, .string b]) := dk.sets_on _ (by omega) _ rfl
  have hrun : (execOp (dk.sets act (ws w.heap.size sn lo nx es ms g h cg ch t b n8 ge gm s)).eval o).run Try.prog W = .ok (.value (.slice (some ⟨W.heap.size, 0, none⟩) 1 1)) (W.alloc (.cells #[.int .i64 nx, .int .i64 t, .string b] 42)) := by
    simp [execOp, hop, e23, go_sem]
  rw [hrun]
  refine ⟨rfl, ?_⟩
  have hC : D w sn lo nx es ms g h cg ch t b n8 ge gm s (L 1) (L 8) (L 9) (L 11) W := hC
  show D w sn lo nx es ms g h cg ch t b n8 ge gm _ (L 1) true (L 9) (L 11) _
  have h9 : L 9 = false := by
    cases hh : L 9 with
    | false => rfl
    | true => have := (hC.at9 hh).2; rw [h0] at this; cases this
  have h11 : L 11 = false := by
    cases hh : L 11 with
    | false => rfl
    | true => have := hC.at11 hh; rw [h9] at this; cases this
  have h1 := hC.on ((Below.refl _ _).alloc (Nat.le_refl _) (.cells #[.int .i64 nx, .int .i64 t, .string b] 42))
  have hsi := h1.si
  rw [h9, h11] at hsi
  refine ⟨?_, fun _ _ => bnew W _ _, (fun e => by rw [h9] at e; cases e), (fun e => by rw [h11] at e; cases e)⟩
  rw [h9, h11]
  exact hsi
theorem st9 {o : Oper} (hl : es.length ≤ 1048576) (hsz : 26 < act.tmps.size) (hop : o.op = .call { callee := .builtin .append, args := #[.tmp 17, .tmp 24], argTypes := #[24, 24] }) (hdst : o.dst = some 25) (hd1 : ∃ e ∈ o.after, Region.binds .any e = true ∧ e.on = 1) (hd8 : ∃ e ∈ o.after, Region.binds .any e = true ∧ e.on = 8) : gh.Step Try.prog (fun s => dk.sets act (ws w.heap.size sn lo nx es ms g h cg ch t b n8 ge gm s)) (C w sn lo nx es ms g h cg ch t b n8 ge gm) Q 9 o := by
  refine gh.step_val (by rw [hop]; simp) fun s L W hdp h0 hC => ?_
  obtain ⟨x1, m1, y1, z1⟩ := hd1
  obtain ⟨x8, m8, y8, z8⟩ := hd8
  have l1 := hdp x1 m1 y1
  have l8 := hdp x8 m8 y8
  rw [z1] at l1
  rw [z8] at l8
  have hC : D w sn lo nx es ms g h cg ch t b n8 ge gm s (L 1) (L 8) (L 9) (L 11) W := hC
  have h11 : L 11 = false := by
    cases hh : L 11 with
    | false => rfl
    | true => have := hC.at11 hh; rw [h0] at this; cases this
  have hsi := hC.si
  have hat := hC.at8 l8 h0
  rw [h0, h11] at hsi
  simp only [Bool.false_eq_true, if_false] at hsi
  obtain ⟨i0, hi, hz0, hz1, hz2⟩ := infoY
  obtain ⟨v', w', hr, ho, hg, _⟩ := run_append_own (P := Try.prog) W (w.heap.size + 2) 24 o.type 42 i0 _ 3 32 Try.underlying24 hi hz0 hz1 hz2 rfl (by omega) (.slice (some ⟨ge, 0, none⟩) es.length es.length) es.length (es.flatMap flY.c) hsi.oe
    ⟨s.ga, 0, none⟩ 1 1 [.int .i64 nx, .int .i64 t, .string b] rfl (fun j u hu => by
      match j, hu with
      | 0, hu => simp at hu; subst hu; exact bcell hat rfl
      | 1, hu => simp at hu; subst hu; exact bcell hat rfl
      | 2, hu => simp at hu; subst hu; exact bcell hat rfl
      | j + 3, hu => simp at hu) (by simp [Value.oneCell']) (by unfold maxLen; omega) (by omega) (by have := (Array.getElem?_eq_some_iff.1 hsi.res).1; omega)
  obtain ⟨gv, cv, rfl⟩ := own_form ho
  refine ⟨{ s with gv := gv, cv := cv }, .slice (some ⟨gv, 0, none⟩) (es.length + 1) cv, dk.agree_sets 9 25 _ hdst rfl rfl, (fun d hd => by rw [hdst] at hd; cases hd; exact dk.sets_on _ (by omega) _ rfl), ?_⟩
  have e17 : (dk.sets act (ws w.heap.size sn lo nx es ms g h cg ch t b n8 ge gm s)).eval (.tmp 17) = .slice (some ⟨ge, 0, none⟩) es.length es.length := dk.eval_on _ _ (by omega) rfl
  have e24 : (dk.sets act (ws w.heap.size sn lo nx es ms g h cg ch t b n8 ge gm s)).eval (.tmp 24) = .slice (some ⟨s.ga, 0, none⟩) 1 1 := dk.eval_on _ _ (by omega) rfl
  have hrun : (execOp (dk.sets act (ws w.heap.size sn lo nx es ms g h cg ch t b n8 ge gm s)).eval o).run Try.prog W = .ok (.value (.slice (some ⟨gv, 0, none⟩) (es.length + 1) cv)) w' := by
    unfold execOp
    simp only [hop, resolve, invoke, builtin, Sem.run_bind, Sem.run_pure, Result.andThen_ok, List.map_toArray, List.map_cons, List.map_nil, e17, e24, hr]
  rw [hrun]
  refine ⟨rfl, ?_⟩
  show D w sn lo nx es ms g h cg ch t b n8 ge gm _ (L 1) (L 8) true (L 11) _
  rw [h11]
  have hgr : W.grownBy w' (some ge) := hg
  have hn1 := owns_ne (by decide) hsi.oe hsi.out
  have hn0 := (owns_at hsi.oe).1
  have hne : gm ≠ ge := by
    obtain ⟨_, cur, hcur⟩ := owns_at hsi.oe
    exact owns_ne (by decide) hsi.om hcur
  refine ⟨?_, (fun _ e => by cases e), fun _ => ⟨l1, l8⟩, (fun e => by cases e)⟩
  simp only [Bool.false_eq_true, if_false, if_true]
  refine ⟨hsi.bel.grown hgr hsi.bel.size (fun k hk => by cases hk; omega), grown_at hgr hsi.box (by simp; omega), grown_at hgr hsi.res (by simp; omega), grown_at hgr hsi.out (by simp; exact hn1), ?_, hsi.om.kept hgr (.inr (by simp [Value.ownBlock]; exact hne)), hsi.h8⟩
  rw [List.flatMap_append, List.length_append]
  exact ho
theorem st11 {o : Oper} (hsz : 26 < act.tmps.size) (hop : o.op = .store 24 (.tmp 26) (.tmp 25)) (hdst : o.dst = none) (hd9 : ∃ e ∈ o.after, Region.binds .any e = true ∧ e.on = 9) : gh.Step Try.prog (fun s => dk.sets act (ws w.heap.size sn lo nx es ms g h cg ch t b n8 ge gm s)) (C w sn lo nx es ms g h cg ch t b n8 ge gm) Q 11 o := by
  refine gh.step_val (by rw [hop]; simp) fun s L W hdp h0 hC => ⟨s, undef, gh.Agree.refl _ _, (fun d hd => by rw [hdst] at hd; cases hd), ?_⟩
  have e26 : (dk.sets act (ws w.heap.size sn lo nx es ms g h cg ch t b n8 ge gm s)).tmps[26]? = some (.pointer (some ⟨n8, 3, none⟩)) := dk.sets_on _ (by omega) _ rfl
  have e25 : (dk.sets act (ws w.heap.size sn lo nx es ms g h cg ch t b n8 ge gm s)).tmps[25]? = some (.slice (some ⟨s.gv, 0, none⟩) (es.length + 1) s.cv) := dk.sets_on _ (by omega) _ rfl
  obtain ⟨x9, m9, y9, z9⟩ := hd9
  have l9 := hdp x9 m9 y9
  rw [z9] at l9
  have hC : D w sn lo nx es ms g h cg ch t b n8 ge gm s (L 1) (L 8) (L 9) (L 11) W := hC
  have hsi := hC.si
  rw [l9, h0] at hsi
  simp only [Bool.false_eq_true, if_false, if_true] at hsi
  have c3 : W.cell? ⟨n8, 3, none⟩ = some (.slice (some ⟨ge, 0, none⟩) es.length es.length) := bcell hsi.out rfl
  have f3 := bfree hsi.out 3
  have hrun : (execOp (dk.sets act (ws w.heap.size sn lo nx es ms g h cg ch t b n8 ge gm s)).eval o).run Try.prog W = .ok .skip (W.setCell ⟨n8, 3, none⟩ (.slice (some ⟨s.gv, 0, none⟩) (es.length + 1) s.cv)) := by
    simp [execOp, hop, e26, e25, go_sem, c3, f3]
  rw [hrun]
  refine ⟨rfl, ?_⟩
  show D w sn lo nx es ms g h cg ch t b n8 ge gm _ (L 1) (L 8) (L 9) true _
  rw [l9]
  have h8 := hsi.h8
  refine ⟨?_, (fun _ e => by cases e), fun _ => hC.at9 l9, fun _ => rfl⟩
  simp only [if_true]
  exact ⟨hsi.bel.setCell (by show w.heap.size ≤ n8; omega) _, boff hsi.box _ _ _ (by omega), boff hsi.res _ _ _ (by omega), bset hsi.out 3 _, owns_set hsi.oe (owns_ne (by decide) hsi.oe hsi.out) _, owns_set hsi.om (owns_ne (by decide) hsi.om hsi.out) _, h8⟩
end

set_option maxRecDepth 100000 in
set_option maxHeartbeats 4000000 in
theorem impl_put (sn : ByteArray) (lo nx : Int) (es : List flY.En) (ms : List Ex) (g h cg ch : Nat) (t : Int) (b : ByteArray) (w : World) (F : Fit sn es ms) (hbb : b.size ≤ 1048576) (hY : RY w g es) (hE : RE w h ms) (ga ha : Option Addr) (hga : Hid (0 < es.length → ga = some ⟨g, 0, none⟩)) (hha : Hid (0 < ms.length → ha = some ⟨h, 0, none⟩)) :
    Calls Try.prog 9 #[.agg #[.string sn, .int .i64 lo, .int .i64 nx, .slice ga es.length cg, .slice ha ms.length ch], .int .i64 t, .string b] w fun e w' => ∃ ga oa ca gb cb, e = .returned (.tuple #[.agg #[.string sn, .int .i64 lo, .int .i64 (ansN sn lo nx es ms t b), .slice (some ⟨ga, oa, none⟩) (ansE sn lo nx es ms t b).length ca, .slice (some ⟨gb, 0, none⟩) ms.length cb], .bool (fits sn lo nx es ms t b)]) ∧ w.heap.size ≤ ga ∧ w.heap.size ≤ gb ∧ ga ≠ gb ∧ (ansE sn lo nx es ms t b).length ≤ ca ∧ OwnO flY.c 3 42 w' ga oa (ansE sn lo nx es ms t b) (ansE sn lo nx es ms t b).length ∧ OwnO flK.c 2 56 w' gb 0 ms ms.length ∧ Below w.heap.size w w' := by
  have hWb : Below w.heap.size w ((w.alloc (.cells #[.string sn, .int .i64 lo, .int .i64 nx, .slice ga es.length cg, .slice ha ms.length ch] 27)).alloc (.cells #[.string ⟨#[]⟩, .int .i64 0, .int .i64 0, .slice none 0 0, .slice none 0 0] 27)) := ((Below.refl _ _).alloc (Nat.le_refl _) _).alloc (by simp) _
  have hA0 := bold (bnew w #[.string sn, .int .i64 lo, .int .i64 nx, .slice ga es.length cg, .slice ha ms.length ch] 27) (.cells #[.string ⟨#[]⟩, .int .i64 0, .int .i64 0, .slice none 0 0, .slice none 0 0] 27)
  have hR0 := bnew (w.alloc (.cells #[.string sn, .int .i64 lo, .int .i64 nx, .slice ga es.length cg, .slice ha ms.length ch] 27)) #[.string ⟨#[]⟩, .int .i64 0, .int .i64 0, .slice none 0 0, .slice none 0 0] 27
  rw [World.size_alloc] at hR0
  have hS0 : ((w.alloc (.cells #[.string sn, .int .i64 lo, .int .i64 nx, .slice ga es.length cg, .slice ha ms.length ch] 27)).alloc (.cells #[.string ⟨#[]⟩, .int .i64 0, .int .i64 0, .slice none 0 0, .slice none 0 0] 27)).heap.size = w.heap.size + 2 := by simp
  have hok := sti.impl_ok sn lo nx es ms g h cg ch ((w.alloc (.cells #[.string sn, .int .i64 lo, .int .i64 nx, .slice ga es.length cg, .slice ha ms.length ch] 27)).alloc (.cells #[.string ⟨#[]⟩, .int .i64 0, .int .i64 0, .slice none 0 0, .slice none 0 0] 27)) F (hY.below hWb) (hE.below hWb) ga ha hga hha
  have HF : Hid (Fit sn es ms) := F
  have HY : Hid (RY w g es) := hY
  have HE : Hid (RE w h ms) := hE
  have HAE : Hid (ansE sn lo nx es ms t b = if fits sn lo nx es ms t b = true then es ++ [⟨nx, t, b⟩] else es) := rfl
  have HAN : Hid (ansN sn lo nx es ms t b = if fits sn lo nx es ms t b = true then nx + 1 else nx) := rfl
  obtain ⟨AE, hAE⟩ : ∃ AE, ansE sn lo nx es ms t b = AE := ⟨_, rfl⟩
  obtain ⟨AN, hAN⟩ : ∃ AN, ansN sn lo nx es ms t b = AN := ⟨_, rfl⟩
  rw [hAE] at HAE
  rw [hAN] at HAN
  simp only [hAE, hAN]
  obtain ⟨ft, hft⟩ : ∃ ft, fits sn lo nx es ms t b = ft := ⟨_, rfl⟩
  rw [hft] at HAE HAN
  simp only [hft]
  have HFT : Hid (fits sn lo nx es ms t b = ft) := hft
  have hel := F.el
  have hml := F.ml
  have hem : es.length ≤ maxLen := by unfold maxLen; omega
  have hmm : ms.length ≤ maxLen := by unfold maxLen; omega
  obtain ⟨W, hW⟩ : ∃ W, (w.alloc (.cells #[.string sn, .int .i64 lo, .int .i64 nx, .slice ga es.length cg, .slice ha ms.length ch] 27)).alloc (.cells #[.string ⟨#[]⟩, .int .i64 0, .int .i64 0, .slice none 0 0, .slice none 0 0] 27) = W := ⟨_, rfl⟩
  rw [hW] at hWb hA0 hR0 hS0 hok
  have HA0 : Hid (W.heap[w.heap.size]? = some (.cells #[.string sn, .int .i64 lo, .int .i64 nx, .slice ga es.length cg, .slice ha ms.length ch] 27 (0, 0))) := hA0
  have HR0 : Hid (W.heap[w.heap.size + 1]? = some (.cells #[.string ⟨#[]⟩, .int .i64 0, .int .i64 0, .slice none 0 0, .slice none 0 0] 27 (0, 0))) := hR0
  have x0 : W.cell? ⟨w.heap.size, 0, none⟩ = some (.string sn) := bcell hA0 rfl
  have x1 : W.cell? ⟨w.heap.size, 1, none⟩ = some (.int .i64 lo) := bcell hA0 rfl
  have x2 : W.cell? ⟨w.heap.size, 2, none⟩ = some (.int .i64 nx) := bcell hA0 rfl
  have x3 : W.cell? ⟨w.heap.size, 3, none⟩ = some (.slice ga es.length cg) := bcell hA0 rfl
  have x4 : W.cell? ⟨w.heap.size, 4, none⟩ = some (.slice ha ms.length ch) := bcell hA0 rfl
  clear hY hE F hAE hAN hft hA0 hR0
  cases hob : okB sn lo nx es ms with
  | false =>
    rw [hob] at hok
    obtain rfl : ft = false := by rw [← HFT.out]; unfold fits; rw [hob]; rfl
    obtain rfl : es = AE := HAE.out.symm
    obtain rfl : nx = AN := HAN.out.symm
    go_enter Try.func9, Try.ntmps9
    go_wp2_with (go_at_call 15; fail)
    clear hW
    refine hok.mono ?_
    rintro e w1 ⟨rfl, hb1⟩
    have hbw1 : Below w.heap.size w w1 := hWb.trans (hb1.mono hWb.size)
    have a1 := bstay HA0.out hb1 (by omega)
    have r1 := bstay HR0.out hb1 (by omega)
    have hc := cst.copy_stream sn lo nx es ms g h cg ch w1 HF.out (HY.out.below hbw1) (HE.out.below hbw1) ga ha hga hha
    have hs1 := hb1.size
    have y0 : w1.cell? ⟨w.heap.size, 0, none⟩ = some (.string sn) := bcell a1 rfl
    have y1 : w1.cell? ⟨w.heap.size, 1, none⟩ = some (.int .i64 lo) := bcell a1 rfl
    have y2 : w1.cell? ⟨w.heap.size, 2, none⟩ = some (.int .i64 nx) := bcell a1 rfl
    have y3 : w1.cell? ⟨w.heap.size, 3, none⟩ = some (.slice ga es.length cg) := bcell a1 rfl
    have y4 : w1.cell? ⟨w.heap.size, 4, none⟩ = some (.slice ha ms.length ch) := bcell a1 rfl
    have HR1 : Hid (w1.heap[w.heap.size + 1]? = some (.cells #[.string ⟨#[]⟩, .int .i64 0, .int .i64 0, .slice none 0 0, .slice none 0 0] 27 (0, 0))) := r1
    clear hok a1 r1 x0 x1 x2 x3 x4
    go_wp2_with (go_at_call 21; fail)
    refine hc.mono ?_
    rintro e w2 ⟨ge, gm, rfl, hge, hgm, hne, oe2, om2, hb2⟩
    have r2 := bstay HR1.out hb2 (by omega)
    have hbw2 : Below w.heap.size w w2 := hbw1.trans (hb2.mono hbw1.size)
    have HOE : Hid (OwnO flY.c 3 42 w2 ge 0 es es.length) := of_own oe2
    have HOM : Hid (OwnO flK.c 2 56 w2 gm 0 ms ms.length) := of_own om2
    have z0 : w2.cell? ⟨w.heap.size + 1, 0, none⟩ = some (.string ⟨#[]⟩) := bcell r2 rfl
    have z1 : w2.cell? ⟨w.heap.size + 1, 1, none⟩ = some (.int .i64 0) := bcell r2 rfl
    have z2 : w2.cell? ⟨w.heap.size + 1, 2, none⟩ = some (.int .i64 0) := bcell r2 rfl
    have z3 : w2.cell? ⟨w.heap.size + 1, 3, none⟩ = some (.slice none 0 0) := bcell r2 rfl
    have z4 : w2.cell? ⟨w.heap.size + 1, 4, none⟩ = some (.slice none 0 0) := bcell r2 rfl
    have z0f := bfree r2 0
    have z1f := bfree r2 1
    have z2f := bfree r2 2
    have z3f := bfree r2 3
    have z4f := bfree r2 4
    clear hc oe2 om2 r2 hb2 y0 y1 y2 y3 y4
    go_wp2
    refine bodyPost_ret (v := .tuple #[.agg #[.string sn, .int .i64 lo, .int .i64 nx, .slice (some ⟨ge, 0, none⟩) es.length es.length, .slice (some ⟨gm, 0, none⟩) ms.length ms.length], .bool false]) (by simp [results, Try.results9, go_sem, z0, z1, z2, z3, z4]) rfl ⟨ge, 0, es.length, gm, ms.length, rfl, by omega, by omega, hne, Nat.le_refl _, ?_, ?_, ?_⟩
    · exact res_own HOE.out (by omega)
    · exact res_own HOM.out (by omega)
    · exact fin_below hbw2 (Nat.le_succ _)
  | true =>
    rw [hob] at hok
    have HOK : Hid (OkT sn lo nx es ms) := okB_true.1 hob
    have hnx := HOK.out.nx0
    have hel4 := HOK.out.el
    have i1 : IntKind.i64.wrap (nx + 1) = nx + 1 := by rw [IntKind.wrap_i64]; omega
    go_enter Try.func9, Try.ntmps9
    go_wp2_with (go_at_call 15; fail)
    clear hW
    refine hok.mono ?_
    rintro e w1 ⟨rfl, hb1⟩
    have hbw1 : Below w.heap.size w w1 := hWb.trans (hb1.mono hWb.size)
    have a1 := bstay HA0.out hb1 (by omega)
    have r1 := bstay HR0.out hb1 (by omega)
    have hc := cst.copy_stream sn lo nx es ms g h cg ch w1 HF.out (HY.out.below hbw1) (HE.out.below hbw1) ga ha hga hha
    have hs1 := hb1.size
    have y0 : w1.cell? ⟨w.heap.size, 0, none⟩ = some (.string sn) := bcell a1 rfl
    have y1 : w1.cell? ⟨w.heap.size, 1, none⟩ = some (.int .i64 lo) := bcell a1 rfl
    have y2 : w1.cell? ⟨w.heap.size, 2, none⟩ = some (.int .i64 nx) := bcell a1 rfl
    have y3 : w1.cell? ⟨w.heap.size, 3, none⟩ = some (.slice ga es.length cg) := bcell a1 rfl
    have y4 : w1.cell? ⟨w.heap.size, 4, none⟩ = some (.slice ha ms.length ch) := bcell a1 rfl
    have HA1 : Hid (w1.heap[w.heap.size]? = some (.cells #[.string sn, .int .i64 lo, .int .i64 nx, .slice ga es.length cg, .slice ha ms.length ch] 27 (0, 0))) := a1
    have HR1 : Hid (w1.heap[w.heap.size + 1]? = some (.cells #[.string ⟨#[]⟩, .int .i64 0, .int .i64 0, .slice none 0 0, .slice none 0 0] 27 (0, 0))) := r1
    clear hok a1 r1 x0 x1 x2 x3 x4
    go_wp2_with (go_at_call 21; fail)
    refine hc.mono ?_
    rintro e w2 ⟨ge, gm, rfl, hge, hgm, hne, oe2, om2, hb2⟩
    have hs2 := hb2.size
    have hR : R w sn lo nx es ms ga ha cg ch w2.heap.size gm (.slice (some ⟨ge, 0, none⟩) es.length es.length) ge es.length es (w2.alloc (.cells #[.string sn, .int .i64 lo, .int .i64 nx, .slice (some ⟨ge, 0, none⟩) es.length es.length, .slice (some ⟨gm, 0, none⟩) ms.length ms.length] 27)) :=
      ⟨(hbw1.trans (hb2.mono hbw1.size)).alloc (by omega) _, bold (bstay HA1.out hb2 (by omega)) _, bold (bstay HR1.out hb2 (by omega)) _, bnew w2 _ _, (own_owns flY.c_len oe2 (by omega) hem).alloc _, (own_owns flK.c_len om2 (by omega) hmm).alloc _, by omega⟩
    have hd0 : D w sn lo nx es ms ga ha cg ch t b w2.heap.size ge gm ⟨0, 0, 0⟩ false false false false (w2.alloc (.cells #[.string sn, .int .i64 lo, .int .i64 nx, .slice (some ⟨ge, 0, none⟩) es.length es.length, .slice (some ⟨gm, 0, none⟩) ms.length ms.length] 27)).drew :=
      ⟨hR.on (Below.refl _ _).drew, (fun e => by cases e), (fun e => by cases e), (fun e => by cases e)⟩
    have hcl := fun W => cl.clone b W (by omega)
    clear hc oe2 om2 hb2 hR y0 y1 y2 y3 y4
    go_wp2
    refine dk.region_gsets (ws w.heap.size sn lo nx es ms ga ha cg ch t b w2.heap.size ge gm) [16, 17, 18, 19, 20, 21, 22, 23, 24, 25, 26] (C w sn lo nx es ms ga ha cg ch t b w2.heap.size ge gm) ⟨0, 0, 0⟩ (by kernel_rfl) (by kernel_rfl) (fun _ => rfl) (by kernel_rfl) hd0 ?each ?fin
    case each =>
      refine ⟨quiet (by decide) (by simp) (.pointer (some ⟨w2.heap.size, 3, none⟩)) (by rintro s _ ⟨⟩; exact dk.sets_on _ (by simp) _ rfl) (fun s W h => by simp [execOp, go_sem, Act.eval, dk.sets_get, ws, List.lookup]), ?_⟩
      refine ⟨st1 (by simp) rfl rfl, ?_⟩
      refine ⟨quiet (by decide) (by simp) (.pointer (some ⟨w.heap.size, 2, none⟩)) (by rintro s _ ⟨⟩; exact dk.sets_on _ (by simp) _ rfl) (fun s W h => by simp [execOp, go_sem, Act.eval, dk.sets_get, ws, List.lookup]), ?_⟩
      refine ⟨quiet (by decide) (by simp) (.int .i64 nx) (by rintro s _ ⟨⟩; exact dk.sets_on _ (by simp) _ rfl) (fun s W h => by have c : W.cell? ⟨w.heap.size, 2, none⟩ = some (.int .i64 nx) := bcell h rfl; simp [execOp, go_sem, Act.eval, dk.sets_get, ws, List.lookup, c]), ?_⟩
      refine ⟨quiet (by decide) (by simp) (.int .i64 t) (by rintro s _ ⟨⟩; exact dk.sets_on _ (by simp) _ rfl) (fun s W h => by simp [execOp, go_sem, Act.eval, dk.sets_get, ws, List.lookup]), ?_⟩
      refine ⟨quiet (by decide) (by simp) (.string b) (by rintro s _ ⟨⟩; exact dk.sets_on _ (by simp) _ rfl) (fun s W h => by simp [execOp, go_sem, Act.eval, dk.sets_get, ws, List.lookup]), ?_⟩
      refine ⟨qcall (by decide) (by simp) 27 #[.string b] (.string b) (by rintro s _ ⟨⟩; exact dk.sets_on _ (by simp) _ rfl) (fun s W => by simp [go_sem, Act.eval, dk.sets_get, ws, List.lookup]) hcl, ?_⟩
      refine ⟨quiet (by decide) (by simp) (.agg #[.int .i64 nx, .int .i64 t, .string b]) (by rintro s _ ⟨⟩; exact dk.sets_on _ (by simp) _ rfl) (fun s W h => by simp [execOp, go_sem, Act.eval, dk.sets_get, ws, List.lookup]), ?_⟩
      refine ⟨st8 (by simp) rfl rfl, ?_⟩
      refine ⟨st9 hel (by simp) rfl rfl ⟨⟨1, .data⟩, by simp, rfl, rfl⟩ ⟨⟨8, .data⟩, by simp, rfl, rfl⟩, ?_⟩
      refine ⟨quiet (by decide) (by simp) (.pointer (some ⟨w2.heap.size, 3, none⟩)) (by rintro s _ ⟨⟩; exact dk.sets_on _ (by simp) _ rfl) (fun s W h => by simp [execOp, go_sem, Act.eval, dk.sets_get, ws, List.lookup]), ?_⟩
      exact ⟨st11 (by simp) rfl rfl ⟨⟨9, .data⟩, by simp, rfl, rfl⟩, trivial⟩
    case fin =>
      intro s L W3 hL hC
      have hD : D w sn lo nx es ms ga ha cg ch t b w2.heap.size ge gm s true true true true W3 := by
        have h : D w sn lo nx es ms ga ha cg ch t b w2.heap.size ge gm s (L 1) (L 8) (L 9) (L 11) W3 := hC
        rw [hL 1 (by decide), hL 8 (by decide), hL 9 (by decide), hL 11 (by decide)] at h
        exact h
      have hsi : R w sn lo nx es ms ga ha cg ch w2.heap.size gm (.slice (some ⟨s.gv, 0, none⟩) (es.length + 1) s.cv) s.gv s.cv (es ++ [⟨nx, t, b⟩]) W3 := hD.si
      obtain ⟨gaa, gv, cv⟩ := s
      simp only [dk.sets, ws]
      have hsi : R w sn lo nx es ms ga ha cg ch w2.heap.size gm (.slice (some ⟨gv, 0, none⟩) (es.length + 1) cv) gv cv (es ++ [⟨nx, t, b⟩]) W3 := hsi
      have n2 : W3.cell? ⟨w2.heap.size, 2, none⟩ = some (.int .i64 nx) := bcell hsi.out rfl
      have f2 := bfree hsi.out 2
      have h8 := hsi.h8
      have hsp : SP w sn lo nx es ms ga ha cg ch w2.heap.size lo (nx + 1) gv cv gm ms.length (es ++ [⟨nx, t, b⟩]) (W3.setCell ⟨w2.heap.size, 2, none⟩ (.int .i64 (nx + 1))) := by
        refine ⟨hsi.bel.setCell (by show w.heap.size ≤ w2.heap.size; omega) _, boff hsi.box _ _ _ (by omega), boff hsi.res _ _ _ (by omega), ?_, owns_set hsi.oe (owns_ne (by decide) hsi.oe hsi.out) _, owns_set hsi.om (owns_ne (by decide) hsi.om hsi.out) _, h8⟩
        rw [List.length_append]
        exact bset hsi.out 2 _
      obtain ⟨Y, hYe⟩ : ∃ Y, W3.setCell ⟨w2.heap.size, 2, none⟩ (.int .i64 (nx + 1)) = Y := ⟨_, rfl⟩
      rw [hYe] at hsp
      have HY3 : Hid (SP w sn lo nx es ms ga ha cg ch w2.heap.size lo (nx + 1) gv cv gm ms.length (es ++ [⟨nx, t, b⟩]) Y) := hsp
      have hF3 : Fit sn (es ++ [⟨nx, t, b⟩]) ms := fit_more HF.out HOK.out hbb
      have hok3 := sti.impl_ok sn lo (nx + 1) (es ++ [⟨nx, t, b⟩]) ms gv gm cv ms.length Y hF3 (ry_owns hsp.oe) (re_owns hsp.om) _ _ (fun _ => rfl) (fun _ => rfl)
      rw [List.length_append] at hok3
      have o0 : Y.cell? ⟨w2.heap.size, 0, none⟩ = some (.string sn) := bcell hsp.out rfl
      have o1 : Y.cell? ⟨w2.heap.size, 1, none⟩ = some (.int .i64 lo) := bcell hsp.out rfl
      have o2 : Y.cell? ⟨w2.heap.size, 2, none⟩ = some (.int .i64 (nx + 1)) := bcell hsp.out rfl
      have o3 : Y.cell? ⟨w2.heap.size, 3, none⟩ = some (.slice (some ⟨gv, 0, none⟩) (es ++ [⟨nx, t, b⟩] : List flY.En).length cv) := bcell hsp.out rfl
      have o4 : Y.cell? ⟨w2.heap.size, 4, none⟩ = some (.slice (some ⟨gm, 0, none⟩) ms.length ms.length) := bcell hsp.out rfl
      rw [List.length_append] at o3
      have o3 : Y.cell? ⟨w2.heap.size, 3, none⟩ = some (.slice (some ⟨gv, 0, none⟩) (es.length + 1) cv) := o3
      clear hD hC hL hsi hsp hd0
      cases hob3 : okB sn lo (nx + 1) (es ++ [⟨nx, t, b⟩]) ms with
      | true =>
        rw [hob3] at hok3
        obtain rfl : ft = true := by rw [← HFT.out]; unfold fits; rw [hob, hob3]; rfl
        obtain rfl : AE = (es ++ [⟨nx, t, b⟩]) := HAE.out
        obtain rfl : AN = nx + 1 := HAN.out
        go_wp2_with (go_at_call 15; fail)
        clear hYe o0 o1 o2 o3 o4
        refine hok3.mono ?_
        rintro e w4 ⟨rfl, hb4⟩
        have hs4 := HY3.out.on hb4
        have HS4 : Hid (SP w sn lo nx es ms ga ha cg ch w2.heap.size lo (nx + 1) gv cv gm ms.length (es ++ [⟨nx, t, b⟩]) w4) := hs4
        have hap : gv ≠ gm := by
          obtain ⟨_, cur, hcur⟩ := owns_at hs4.om
          exact owns_ne (by decide) hs4.oe hcur
        have hgv := (owns_at hs4.oe).1
        have hgm2 := (owns_at hs4.om).1
        have n0 : w4.cell? ⟨w2.heap.size, 0, none⟩ = some (.string sn) := bcell hs4.out rfl
        have n1 : w4.cell? ⟨w2.heap.size, 1, none⟩ = some (.int .i64 lo) := bcell hs4.out rfl
        have n2 : w4.cell? ⟨w2.heap.size, 2, none⟩ = some (.int .i64 (nx + 1)) := bcell hs4.out rfl
        have n3 : w4.cell? ⟨w2.heap.size, 3, none⟩ = some (.slice (some ⟨gv, 0, none⟩) (es ++ [⟨nx, t, b⟩] : List flY.En).length cv) := bcell hs4.out rfl
        have n4 : w4.cell? ⟨w2.heap.size, 4, none⟩ = some (.slice (some ⟨gm, 0, none⟩) ms.length ms.length) := bcell hs4.out rfl
        have z0 : w4.cell? ⟨w.heap.size + 1, 0, none⟩ = some (.string ⟨#[]⟩) := bcell hs4.res rfl
        have z1 : w4.cell? ⟨w.heap.size + 1, 1, none⟩ = some (.int .i64 0) := bcell hs4.res rfl
        have z2 : w4.cell? ⟨w.heap.size + 1, 2, none⟩ = some (.int .i64 0) := bcell hs4.res rfl
        have z3 : w4.cell? ⟨w.heap.size + 1, 3, none⟩ = some (.slice none 0 0) := bcell hs4.res rfl
        have z4 : w4.cell? ⟨w.heap.size + 1, 4, none⟩ = some (.slice none 0 0) := bcell hs4.res rfl
        have z0f := bfree hs4.res 0
        have z1f := bfree hs4.res 1
        have z2f := bfree hs4.res 2
        have z3f := bfree hs4.res 3
        have z4f := bfree hs4.res 4
        clear hok3 hs4 HY3
        obtain ⟨ln, hln⟩ : ∃ ln, (es ++ [⟨nx, t, b⟩] : List flY.En).length = ln := ⟨_, rfl⟩
        rw [hln] at n3
        have HLN : Hid ((es ++ [⟨nx, t, b⟩] : List flY.En).length = ln) := hln
        clear hln
        go_wp2
        refine bodyPost_ret (v := .tuple #[.agg #[.string sn, .int .i64 lo, .int .i64 (nx + 1), .slice (some ⟨gv, 0, none⟩) ln cv, .slice (some ⟨gm, 0, none⟩) ms.length ms.length], .bool true]) (by simp [results, Try.results9, go_sem, z0, z1, z2, z3, z4]) rfl ⟨gv, 0, cv, gm, ms.length, by rw [HLN.out], by omega, by omega, hap, strm.own_cap HS4.out.oe, ?_, ?_, ?_⟩
        · exact res_own (owns_ownO flY.c_len HS4.out.oe) (by omega)
        · exact res_own (owns_ownO flK.c_len HS4.out.om) (by omega)
        · exact fin_below HS4.out.bel (Nat.le_succ _)
      | false =>
        rw [hob3] at hok3
        obtain rfl : ft = false := by rw [← HFT.out]; unfold fits; rw [hob, hob3]; rfl
        obtain rfl : es = AE := HAE.out.symm
        obtain rfl : nx = AN := HAN.out.symm
        go_wp2_with (go_at_call 15; fail)
        clear hYe o0 o1 o2 o3 o4
        refine hok3.mono ?_
        rintro e w4 ⟨rfl, hb4⟩
        have hs4 := HY3.out.on hb4
        have hc5 := cst.copy_stream sn lo nx es ms g h cg ch w4 HF.out (HY.out.below hs4.bel) (HE.out.below hs4.bel) ga ha hga hha
        have hsz4 := hs4.size
        have HS4 : Hid (SP w sn lo nx es ms ga ha cg ch w2.heap.size lo (nx + 1) gv cv gm ms.length (es ++ [⟨nx, t, b⟩]) w4) := hs4
        have x0 : w4.cell? ⟨w.heap.size, 0, none⟩ = some (.string sn) := bcell hs4.box rfl
        have x1 : w4.cell? ⟨w.heap.size, 1, none⟩ = some (.int .i64 lo) := bcell hs4.box rfl
        have x2 : w4.cell? ⟨w.heap.size, 2, none⟩ = some (.int .i64 nx) := bcell hs4.box rfl
        have x3 : w4.cell? ⟨w.heap.size, 3, none⟩ = some (.slice ga es.length cg) := bcell hs4.box rfl
        have x4 : w4.cell? ⟨w.heap.size, 4, none⟩ = some (.slice ha ms.length ch) := bcell hs4.box rfl
        clear hok3 hs4 HY3
        go_wp2_with (go_at_call 21; fail)
        refine hc5.mono ?_
        rintro e w5 ⟨g5, h5, rfl, hg5, hh5, hne5, oe5, om5, hb5⟩
        have hs5 := HS4.out.on hb5
        have z0 : w5.cell? ⟨w.heap.size + 1, 0, none⟩ = some (.string ⟨#[]⟩) := bcell hs5.res rfl
        have z1 : w5.cell? ⟨w.heap.size + 1, 1, none⟩ = some (.int .i64 0) := bcell hs5.res rfl
        have z2 : w5.cell? ⟨w.heap.size + 1, 2, none⟩ = some (.int .i64 0) := bcell hs5.res rfl
        have z3 : w5.cell? ⟨w.heap.size + 1, 3, none⟩ = some (.slice none 0 0) := bcell hs5.res rfl
        have z4 : w5.cell? ⟨w.heap.size + 1, 4, none⟩ = some (.slice none 0 0) := bcell hs5.res rfl
        have z0f := bfree hs5.res 0
        have z1f := bfree hs5.res 1
        have z2f := bfree hs5.res 2
        have z3f := bfree hs5.res 3
        have z4f := bfree hs5.res 4
        have HB5 : Hid (Below w.heap.size w w5) := hs5.bel
        have HOE : Hid (OwnO flY.c 3 42 w5 g5 0 es es.length) := of_own oe5
        have HOM : Hid (OwnO flK.c 2 56 w5 h5 0 ms ms.length) := of_own om5
        clear hc5 hs5 oe5 om5 hb5 HS4 x0 x1 x2 x3 x4
        go_wp2
        refine bodyPost_ret (v := .tuple #[.agg #[.string sn, .int .i64 lo, .int .i64 nx, .slice (some ⟨g5, 0, none⟩) es.length es.length, .slice (some ⟨h5, 0, none⟩) ms.length ms.length], .bool false]) (by simp [results, Try.results9, go_sem, z0, z1, z2, z3, z4]) rfl ⟨g5, 0, es.length, h5, ms.length, rfl, by omega, by omega, hne5, Nat.le_refl _, ?_, ?_, ?_⟩
        · exact res_own HOE.out (by omega)
        · exact res_own HOM.out (by omega)
        · exact fin_below HB5.out (Nat.le_succ _)
end Go.Proofs.Ytlfhfcgcfggjcaa.iput
