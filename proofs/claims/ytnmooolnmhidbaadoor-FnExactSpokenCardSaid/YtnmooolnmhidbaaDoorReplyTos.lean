/- The laws' lists of replies, laid anew: each with its texts and numbers in rows of their own. -/
import Derived.Test.YtnmooolnmhidbaaDoorReplyTo
namespace Go.Proofs.YtnmooolnmhidbaaDoor.rp
open Go.ChangeShapes Go.WideShapes Go.ChangeAt Go.RowKit Go.Proofs.YtnmooolnmhidbaaDoor.ls Go.Proofs.YtnmooolnmhidbaaDoor.fl
set_option linter.unusedVariables false

/-- what a reply says, wherever it lies -/
def same (r s : Rp) : Prop := r.c = s.c ∧ r.i = s.i ∧ r.ts = s.ts ∧ r.ns = s.ns ∧ r.hb = s.hb ∧ r.b = s.b
/-- its texts and numbers in rows of their own, at or above B -/
def Mine (w : World) (B : Nat) (r : Rp) : Prop := ∃ g h, r.ta = some ⟨g, 0, none⟩ ∧ r.na = some ⟨h, 0, none⟩ ∧ B ≤ g ∧ B ≤ h ∧ sm.Has w g r.ts.length r.ts ∧ HasI w h r.ns.length r.ns ∧ r.ts.length ≤ r.tc ∧ r.ns.length ≤ r.nc
theorem Mine.below {w w' : World} {B : Nat} {r : Rp} (m : Mine w B r) (hb : Below w.heap.size w w') : Mine w' B r := by
  obtain ⟨g, h, h1, h2, h3, h4, h5, h6, h7⟩ := m
  exact ⟨g, h, h1, h2, h3, h4, h5.below hb h5.lt, h6.below hb h6.lt, h7⟩
theorem Mine.set {w : World} {B : Nat} {r : Rp} (m : Mine w B r) {x o : Nat} (hx : x < B) (v : Value) : Mine (w.setCell ⟨x, o, none⟩ v) B r := by
  obtain ⟨g, h, h1, h2, h3, h4, h5, h6, h7⟩ := m
  exact ⟨g, h, h1, h2, h3, h4, me.has_other h5 (by show g ≠ x; omega) v, me.hasI_other h6 (by show h ≠ x; omega) v, h7⟩
theorem has_sl {w : World} {g cap : Nat} {l : List ByteArray} (h : sm.Has w g cap l) : Sl Value.string w w.heap.size (some ⟨g, 0, none⟩) l := .inr ⟨g, 0, rfl, h.lt, fun i x hx => by
  have hi := (List.getElem?_eq_some_iff.1 hx).1
  have := h.cell i hi
  rw [Nat.zero_add, this]
  simp [List.getD, hx]⟩
theorem hasI_sl {w : World} {g cap : Nat} {l : List Int} (h : HasI w g cap l) : Sl (Value.int .i64) w w.heap.size (some ⟨g, 0, none⟩) l := .inr ⟨g, 0, rfl, h.lt, fun i x hx => by
  have hi := (List.getElem?_eq_some_iff.1 hx).1
  have := h.cell i hi
  rw [Nat.zero_add, this]
  simp [List.getD, hx]⟩
theorem Mine.sl {w : World} {B : Nat} {r : Rp} (m : Mine w B r) : Sl Value.string w w.heap.size r.ta r.ts ∧ Sl (Value.int .i64) w w.heap.size r.na r.ns := by
  obtain ⟨g, h, h1, h2, h3, h4, h5, h6, h7⟩ := m
  rw [h1, h2]
  exact ⟨has_sl h5, hasI_sl h6⟩
/-- a row of which the first k are laid does not hang on the others -/
theorem own_change {w : World} {g k : Nat} {U : TypeId} {l l' : List Rp} (h : Own cP 6 U w g l k) (hl : l'.length = l.length) (he : ∀ i, i < k → l'[i]? = l[i]?) : Own cP 6 U w g l' k := by
  obtain ⟨cur, h1, h2, h3⟩ := h
  exact ⟨cur, h1, by rw [h2, hl], fun i e hi hx => h3 i e hi (by rw [← he i hi]; exact hx)⟩
/-- so far: k of l are laid, as ks has them -/
structure So (w : World) (B g : Nat) (l ks : List Rp) (k : Nat) : Prop where
  len : ks.length = l.length
  own : Own cP 6 83 w g ks k
  mine : ∀ (j : Nat) (r : Rp), j < k → ks[j]? = some r → Mine w B r
  same : ∀ (j : Nat) (r s : Rp), j < k → ks[j]? = some r → l[j]? = some s → same r s
theorem So.more {w : World} {B x k g h : Nat} {l ks : List Rp} {c i : Int} {ta na : Option Addr} {tc nc : Nat} {ts : List ByteArray} {ns : List Int} {hb : Bool} {b_ : ByteArray} (so : So w B x l ks k) (hx : x < B) (hk : l[k]? = some ⟨c, i, ta, tc, ts, na, nc, ns, hb, b_⟩) (hg : B ≤ g) (hh : B ≤ h) (h1 : sm.Has w g ts.length ts) (h2 : HasI w h ns.length ns) :
    So ((((((w.setCell ⟨x, k * 6, none⟩ (.int .i64 c)).setCell ⟨x, k * 6 + 1, none⟩ (.int .i64 i)).setCell ⟨x, k * 6 + 2, none⟩ (.slice (some ⟨g, 0, none⟩) ts.length ts.length)).setCell ⟨x, k * 6 + 3, none⟩ (.slice (some ⟨h, 0, none⟩) ns.length ns.length)).setCell ⟨x, k * 6 + 4, none⟩ (.bool hb)).setCell ⟨x, k * 6 + 5, none⟩ (.string b_)) B x l (ks.set k ⟨c, i, some ⟨g, 0, none⟩, ts.length, ts, some ⟨h, 0, none⟩, ns.length, ns, hb, b_⟩) (k + 1) := by
  have hkl := (List.getElem?_eq_some_iff.1 hk).1
  have hlen := so.len
  have hget : (ks.set k ⟨c, i, some ⟨g, 0, none⟩, ts.length, ts, some ⟨h, 0, none⟩, ns.length, ns, hb, b_⟩)[k]? = some ⟨c, i, some ⟨g, 0, none⟩, ts.length, ts, some ⟨h, 0, none⟩, ns.length, ns, hb, b_⟩ := by rw [List.getElem?_set_self (by omega)]
  have hoff : ∀ j, j < k → (ks.set k ⟨c, i, some ⟨g, 0, none⟩, ts.length, ts, some ⟨h, 0, none⟩, ns.length, ns, hb, b_⟩)[j]? = ks[j]? := fun j hj => List.getElem?_set_ne (by omega)
  have hm : ∀ r, Mine w B r → Mine ((((((w.setCell ⟨x, k * 6, none⟩ (.int .i64 c)).setCell ⟨x, k * 6 + 1, none⟩ (.int .i64 i)).setCell ⟨x, k * 6 + 2, none⟩ (.slice (some ⟨g, 0, none⟩) ts.length ts.length)).setCell ⟨x, k * 6 + 3, none⟩ (.slice (some ⟨h, 0, none⟩) ns.length ns.length)).setCell ⟨x, k * 6 + 4, none⟩ (.bool hb)).setCell ⟨x, k * 6 + 5, none⟩ (.string b_)) B r := fun r m => (((((m.set hx _).set hx _).set hx _).set hx _).set hx _).set hx _
  refine ⟨by rw [List.length_set]; exact hlen, ?_, fun j r hj hr => ?_, fun j r s hj hr hs => ?_⟩
  · have := Own.set cP_len (own_change so.own (by rw [List.length_set]) hoff) hget
    exact this
  · rcases Nat.lt_or_ge j k with h3 | h3
    · rw [hoff j h3] at hr
      exact hm r (so.mine j r h3 hr)
    · obtain rfl : j = k := by omega
      rw [hget] at hr
      cases hr
      exact hm _ ⟨g, h, rfl, rfl, hg, hh, h1, h2, Nat.le_refl _, Nat.le_refl _⟩
  · rcases Nat.lt_or_ge j k with h3 | h3
    · rw [hoff j h3] at hr
      exact so.same j r s h3 hr hs
    · obtain rfl : j = k := by omega
      rw [hget] at hr
      rw [hk] at hs
      cases hr
      cases hs
      exact ⟨rfl, rfl, rfl, rfl, rfl, rfl⟩
theorem So.below {w w' : World} {B g k : Nat} {l ks : List Rp} (so : So w B g l ks k) (hb : Below w.heap.size w w') : So w' B g l ks k := ⟨so.len, so.own.below hb so.own.lt, fun j r hj hr => (so.mine j r hj hr).below hb, so.same⟩
theorem So.vp {w : World} {B g : Nat} {l ks : List Rp} (so : So w B g l ks l.length) : VP w w.heap.size (some ⟨g, 0, none⟩) ks := by
  have h := so.own
  rw [← so.len] at h
  refine ⟨h.row, fun r hr => ?_⟩
  obtain ⟨j, hj⟩ := List.mem_iff_getElem?.1 hr
  exact (so.mine j r (by have := (List.getElem?_eq_some_iff.1 hj).1; have := so.len; omega) hj).sl
theorem info : (Tryd.prog.info? 83).map (fun i => (i.zero, i.size, i.bytes)) = some (some (.agg #[.int .i64 0, .int .i64 0, .slice none 0 0, .slice none 0 0, .bool false, .string ByteArray.empty]), 6, 88) := by kernel_rfl

set_option maxRecDepth 100000 in
set_option maxHeartbeats 2000000 in
theorem to_replies (l : List Rp) (a : Option Addr) (cap : Nat) (w : World) (hl : l.length ≤ 1048576) (hx : ∀ e ∈ l, e.ts.length ≤ 1048576 ∧ e.ns.length ≤ 1048576) (hS : VP w w.heap.size a l) :
    Calls Tryd.prog 23 #[.slice a l.length cap] w fun e w' => ∃ ks : List Rp, e = .returned (.slice (some ⟨w.heap.size, 0, none⟩) l.length l.length) ∧ So w' (w.heap.size + 1) w.heap.size l ks l.length ∧ Below w.heap.size w w' := by
  obtain ⟨i0, hi, hz0, hz1, hz2⟩ : ∃ i0, Tryd.prog.info? 83 = some i0 ∧ i0.zero = some (.agg #[.int .i64 0, .int .i64 0, .slice none 0 0, .slice none 0 0, .bool false, .string ByteArray.empty]) ∧ i0.size = 6 ∧ i0.bytes = 88 := by
    have h := info
    cases hh : Tryd.prog.info? 83 with
    | none => rw [hh] at h; cases h
    | some i => rw [hh] at h; simp at h; exact ⟨i, rfl, h.1, h.2.1, h.2.2⟩
  have hmk := run_makeSlice (P := Tryd.prog) w 42 83 i0 _ Tryd.underlying42 hi hz0 .i64 .i64 (l.length : Int) (l.length : Int) (by omega) (Int.le_refl _) (by rw [hz1]; simp; omega) (by rw [hz2]; omega) (by omega)
  rw [hz1, show ((l.length : Int)).toNat = l.length by omega] at hmk
  have hmk2 : (Instr.makeSlice 42 (.int .i64 (l.length : Int)) (.int .i64 (l.length : Int))).run Tryd.prog w = .ok (.slice (some ⟨w.heap.size, 0, none⟩) l.length l.length) (w.alloc (.cells (madeCells #[.int .i64 0, .int .i64 0, .slice none 0 0, .slice none 0 0, .bool false, .string ByteArray.empty] (l.length * 6)) 83)) := hmk
  have hf0 : Own cP 6 83 (w.alloc (.cells (madeCells #[.int .i64 0, .int .i64 0, .slice none 0 0, .slice none 0 0, .bool false, .string ByteArray.empty] (l.length * 6)) 83)) w.heap.size l 0 := made #[.int .i64 0, .int .i64 0, .slice none 0 0, .slice none 0 0, .bool false, .string ByteArray.empty].toList w l rfl
  have hb0 : Below w.heap.size w (w.alloc (.cells (madeCells #[.int .i64 0, .int .i64 0, .slice none 0 0, .slice none 0 0, .bool false, .string ByteArray.empty] (l.length * 6)) 83)) := (Below.refl _ _).alloc (Nat.le_refl _) _
  obtain ⟨W, hW⟩ : ∃ W, w.alloc (.cells (madeCells #[.int .i64 0, .int .i64 0, .slice none 0 0, .slice none 0 0, .bool false, .string ByteArray.empty] (l.length * 6)) 83) = W := ⟨_, rfl⟩
  rw [hW] at hmk2 hf0 hb0
  have HF0 : Hid (So W (w.heap.size + 1) w.heap.size l l 0) := ⟨rfl, hf0, fun j r hj => by omega, fun j r s hj => by omega⟩
  have HVR : Hid (∀ r ∈ l, Sl Value.string w w.heap.size r.ta r.ts ∧ Sl (Value.int .i64) w w.heap.size r.na r.ns) := hS.2
  clear hmk hW hf0
  rcases hS.1 with rfl | ⟨b, off, rfl, hlt, hc⟩
  · have hmk3 : (Instr.makeSlice 42 (.int .i64 0) (.int .i64 0)).run Tryd.prog w = .ok (.slice (some ⟨w.heap.size, 0, none⟩) 0 0) W := by simpa using hmk2
    clear hmk2
    go_enter Tryd.func23, Tryd.ntmps23
    go_wp2
    refine wp_loop_rounds 1 ?_
    rw [rounds_succ]
    go_wp2
    go_ret
    exact ⟨[], rfl, HF0.out, hb0⟩
  · have HC : Hid (∀ (i : Nat) (e : Rp), l[i]? = some e → ∀ (j : Nat) (v : Value), (cP e)[j]? = some v → w.cell? ⟨b, off + i * 6 + j, none⟩ = some v) := hc
    have HX : Hid (∀ e ∈ l, e.ts.length ≤ 1048576 ∧ e.ns.length ≤ 1048576) := hx
    clear hc hx hS
    go_enter Tryd.func23, Tryd.ntmps23
    go_wp2
    go_loopw [4] (fun x wr => ∃ (k : Nat) (ks : List Rp), k ≤ l.length ∧ x = .int .i64 k ∧ Below w.heap.size w wr ∧ Hid (So wr (w.heap.size + 1) w.heap.size l ks k)) (fun x _ => l.length - (intOf x).toNat)
    case atStart => exact ⟨0, l, Nat.zero_le _, rfl, hb0, HF0⟩
    case round =>
      obtain ⟨k, ks, hk, rfl, hbel, hf⟩ := hrel
      have hbs := hbel.size
      by_cases hkl : k < l.length
      · have HG : Hid (l[k]? = some l[k]) := List.getElem?_eq_getElem hkl
        have hxs := HX.out l[k] (List.getElem_mem hkl)
        have hrow := HVR.out l[k] (List.getElem_mem hkl)
        obtain ⟨⟨c, i, ta, tc, ts, na, nc, ns, hb, b_⟩, he⟩ : ∃ e, l[k] = e := ⟨_, rfl⟩
        rw [he] at HG hxs hrow
        have c0 : wr.cell? ⟨b, off + k * 6, none⟩ = some (.int .i64 c) := (hbel.cell (p := ⟨b, off + k * 6, none⟩) hlt).trans (by have := HC.out k _ HG.out 0 _ rfl; simpa using this)
        have c1 : wr.cell? ⟨b, off + k * 6 + 1, none⟩ = some (.int .i64 i) := (hbel.cell (p := ⟨b, off + k * 6 + 1, none⟩) hlt).trans (by have := HC.out k _ HG.out 1 _ rfl; simpa using this)
        have c2 : wr.cell? ⟨b, off + k * 6 + 2, none⟩ = some (.slice ta ts.length tc) := (hbel.cell (p := ⟨b, off + k * 6 + 2, none⟩) hlt).trans (by have := HC.out k _ HG.out 2 _ rfl; simpa using this)
        have c3 : wr.cell? ⟨b, off + k * 6 + 3, none⟩ = some (.slice na ns.length nc) := (hbel.cell (p := ⟨b, off + k * 6 + 3, none⟩) hlt).trans (by have := HC.out k _ HG.out 3 _ rfl; simpa using this)
        have c4 : wr.cell? ⟨b, off + k * 6 + 4, none⟩ = some (.bool hb) := (hbel.cell (p := ⟨b, off + k * 6 + 4, none⟩) hlt).trans (by have := HC.out k _ HG.out 4 _ rfl; simpa using this)
        have c5 : wr.cell? ⟨b, off + k * 6 + 5, none⟩ = some (.string b_) := (hbel.cell (p := ⟨b, off + k * 6 + 5, none⟩) hlt).trans (by have := HC.out k _ HG.out 5 _ rfl; simpa using this)
        have hone := to_one c i ts ns ta na tc nc hb b_ wr hxs.1 hxs.2 (me.inn hrow.1 hbel) (me.inn hrow.2 hbel)
        have hgl : w.heap.size < wr.heap.size := hf.out.own.lt
        clear he hrow hxs
        go_wp2_with (go_at_call 53; fail)
        refine hone.mono ?_
        rintro e w1 ⟨g, h, rfl, hg, hh, hgW, hgh, hhl, hb1⟩
        have hs1 := hb1.size
        have hso := hf.out.below hb1
        have hf1 := hso.own
        have hkl2 := hso.len
        have HN : Hid (So ((((((w1.setCell ⟨w.heap.size, k * 6, none⟩ (.int .i64 c)).setCell ⟨w.heap.size, k * 6 + 1, none⟩ (.int .i64 i)).setCell ⟨w.heap.size, k * 6 + 2, none⟩ (.slice (some ⟨g, 0, none⟩) ts.length ts.length)).setCell ⟨w.heap.size, k * 6 + 3, none⟩ (.slice (some ⟨h, 0, none⟩) ns.length ns.length)).setCell ⟨w.heap.size, k * 6 + 4, none⟩ (.bool hb)).setCell ⟨w.heap.size, k * 6 + 5, none⟩ (.string b_)) (w.heap.size + 1) w.heap.size l (ks.set k ⟨c, i, some ⟨g, 0, none⟩, ts.length, ts, some ⟨h, 0, none⟩, ns.length, ns, hb, b_⟩) (k + 1)) := hso.more (by omega) HG.out (by omega) (by omega) hg hh
        obtain ⟨v0, g0⟩ := hf1.at (k * 6) (by rw [hkl2]; omega)
        have z0 := hf1.free (k * 6)
        obtain ⟨v1, g1⟩ := hf1.at (k * 6 + 1) (by rw [hkl2]; omega)
        have z1 := hf1.free (k * 6 + 1)
        obtain ⟨v2, g2⟩ := hf1.at (k * 6 + 2) (by rw [hkl2]; omega)
        have z2 := hf1.free (k * 6 + 2)
        obtain ⟨v3, g3⟩ := hf1.at (k * 6 + 3) (by rw [hkl2]; omega)
        have z3 := hf1.free (k * 6 + 3)
        obtain ⟨v4, g4⟩ := hf1.at (k * 6 + 4) (by rw [hkl2]; omega)
        have z4 := hf1.free (k * 6 + 4)
        obtain ⟨v5, g5⟩ := hf1.at (k * 6 + 5) (by rw [hkl2]; omega)
        have z5 := hf1.free (k * 6 + 5)
        clear hone hso hf1 c0 c1 c2 c3 c4 c5 hg hh hkl2
        go_wp2
        go_roundw
        case rel => exact ⟨k + 1, _, by omega, by go_num, (((((((hbel.trans (hb1.mono hbs)).setCell (Nat.le_refl _) _).setCell (Nat.le_refl _) _).setCell (Nat.le_refl _) _).setCell (Nat.le_refl _) _).setCell (Nat.le_refl _) _).setCell (Nat.le_refl _) _), HN⟩
        case measure => simp [intOf]; omega
      · obtain rfl : k = l.length := by omega
        go_wp2
        go_ret
        first | exact ⟨ks, rfl, hf.out, hbel⟩ | exact ⟨rfl, ks, hf.out, hbel⟩
end Go.Proofs.YtnmooolnmhidbaaDoor.rp
