/- The laws' lists of queues, laid anew: each with its lists in rows of their own. -/
import Derived.Test.YtpkljkahdclcgaaGreatQuRows
namespace Go.Proofs.YtpkljkahdclcgaaGreat.qu
open Go.ChangeShapes Go.WideShapes Go.ChangeAt Go.RowKit Go.Proofs.YtpkljkahdclcgaaGreat.fl
set_option linter.unusedVariables false

/-- what a queue says, wherever it lies -/
def same (r s : E) : Prop := r.nm = s.nm ∧ r.nx = s.nx ∧ r.rs = s.rs ∧ r.hs = s.hs
/-- its lists in rows of their own, at or above B -/
def Mine (w : World) (B : Nat) (r : E) : Prop := ∃ g h, r.ra = some ⟨g, 0, none⟩ ∧ r.ha = some ⟨h, 0, none⟩ ∧ B ≤ g ∧ B ≤ h ∧ g ≠ h ∧ Own flM.c 5 48 w g r.rs r.rs.length ∧ Own flH.c 7 102 w h r.hs r.hs.length ∧ r.rs.length ≤ r.rc ∧ r.hs.length ≤ r.hc
theorem Mine.below {w w' : World} {B : Nat} {r : E} (m : Mine w B r) (hb : Below w.heap.size w w') : Mine w' B r := by
  obtain ⟨g, h, h1, h2, h3, h4, h0, h5, h6, h7⟩ := m
  exact ⟨g, h, h1, h2, h3, h4, h0, h5.below hb h5.lt, h6.below hb h6.lt, h7⟩
theorem Mine.set {w : World} {B : Nat} {r : E} (m : Mine w B r) {x o : Nat} (hx : x < B) (v : Value) : Mine (w.setCell ⟨x, o, none⟩ v) B r := by
  obtain ⟨g, h, h1, h2, h3, h4, h0, h5, h6, h7⟩ := m
  exact ⟨g, h, h1, h2, h3, h4, h0, h5.kept (Below.heap_setCell _ _ _ _ (by show g ≠ x; omega)), h6.kept (Below.heap_setCell _ _ _ _ (by show h ≠ x; omega)), h7⟩
/-- the blocks of its lists -/
def Blk (r : E) (b : Nat) : Prop := (∃ o, r.ra = some ⟨b, o, none⟩) ∨ ∃ o, r.ha = some ⟨b, o, none⟩
theorem Mine.lt {w : World} {B b : Nat} {r : E} (m : Mine w B r) (hb : Blk r b) : B ≤ b ∧ b < w.heap.size := by
  obtain ⟨g, h, h1, h2, h3, h4, h0, h5, h6, h7⟩ := m
  rcases hb with ⟨o, e⟩ | ⟨o, e⟩
  · rw [h1] at e; cases e; exact ⟨h3, h5.lt⟩
  · rw [h2] at e; cases e; exact ⟨h4, h6.lt⟩
theorem Mine.rows {w : World} {B : Nat} {r : E} (m : Mine w B r) : Row flM.c 5 w w.heap.size r.ra r.rs ∧ Row flH.c 7 w w.heap.size r.ha r.hs := by
  obtain ⟨g, h, h1, h2, h3, h4, h0, h5, h6, h7⟩ := m
  rw [h1, h2]
  exact ⟨h5.row, h6.row⟩
/-- a row of which the first k are laid does not hang on the others -/
theorem own_change {w : World} {g k : Nat} {U : TypeId} {l l' : List E} (h : Own c 4 U w g l k) (hl : l'.length = l.length) (he : ∀ i, i < k → l'[i]? = l[i]?) : Own c 4 U w g l' k := by
  obtain ⟨cur, h1, h2, h3⟩ := h
  exact ⟨cur, h1, by rw [h2, hl], fun i e hi hx => h3 i e hi (by rw [← he i hi]; exact hx)⟩
/-- so far: k of l are laid, as ks has them -/
structure So (w : World) (B g : Nat) (l ks : List E) (k : Nat) : Prop where
  len : ks.length = l.length
  own : Own c 4 68 w g ks k
  mine : ∀ (j : Nat) (r : E), j < k → ks[j]? = some r → Mine w B r
  same : ∀ (j : Nat) (r s : E), j < k → ks[j]? = some r → l[j]? = some s → same r s
  ord : ∀ (i j : Nat) (r s : E), i < j → j < k → ks[i]? = some r → ks[j]? = some s → ∀ b b', Blk r b → Blk s b' → b < b'
theorem So.more {w : World} {B x k g h : Nat} {l ks : List E} {nm : ByteArray} {nx : Int} {ra ha : Option Addr} {rc hc : Nat} {rs : List flM.Ms} {hs : List flH.Hd} (so : So w B x l ks k) (hlo : ∀ (j : Nat) (r : E), j < k → ks[j]? = some r → ∀ b, Blk r b → b < g ∧ b < h) (hx : x < B) (hk : l[k]? = some ⟨nm, nx, ra, rc, rs, ha, hc, hs⟩) (hg : B ≤ g) (hh : B ≤ h) (hgh : g ≠ h) (h1 : Own flM.c 5 48 w g rs rs.length) (h2 : Own flH.c 7 102 w h hs hs.length) :
    So ((((w.setCell ⟨x, k * 4, none⟩ (.string nm)).setCell ⟨x, k * 4 + 1, none⟩ (.int .i64 nx)).setCell ⟨x, k * 4 + 2, none⟩ (.slice (some ⟨g, 0, none⟩) rs.length rs.length)).setCell ⟨x, k * 4 + 3, none⟩ (.slice (some ⟨h, 0, none⟩) hs.length hs.length)) B x l (ks.set k ⟨nm, nx, some ⟨g, 0, none⟩, rs.length, rs, some ⟨h, 0, none⟩, hs.length, hs⟩) (k + 1) := by
  have hkl := (List.getElem?_eq_some_iff.1 hk).1
  have hlen := so.len
  have hget : (ks.set k ⟨nm, nx, some ⟨g, 0, none⟩, rs.length, rs, some ⟨h, 0, none⟩, hs.length, hs⟩)[k]? = some ⟨nm, nx, some ⟨g, 0, none⟩, rs.length, rs, some ⟨h, 0, none⟩, hs.length, hs⟩ := by rw [List.getElem?_set_self (by omega)]
  have hoff : ∀ j, j < k → (ks.set k ⟨nm, nx, some ⟨g, 0, none⟩, rs.length, rs, some ⟨h, 0, none⟩, hs.length, hs⟩)[j]? = ks[j]? := fun j hj => List.getElem?_set_ne (by omega)
  have hm : ∀ r, Mine w B r → Mine ((((w.setCell ⟨x, k * 4, none⟩ (.string nm)).setCell ⟨x, k * 4 + 1, none⟩ (.int .i64 nx)).setCell ⟨x, k * 4 + 2, none⟩ (.slice (some ⟨g, 0, none⟩) rs.length rs.length)).setCell ⟨x, k * 4 + 3, none⟩ (.slice (some ⟨h, 0, none⟩) hs.length hs.length)) B r := fun r m => ((((m.set hx _).set hx _).set hx _).set hx _)
  refine ⟨by rw [List.length_set]; exact hlen, ?_, fun j r hj hr => ?_, fun j r s hj hr hs => ?_, fun i j r s hij hj hr hs b b' hb hb' => ?_⟩
  · have := Own.set c_len (own_change so.own (by rw [List.length_set]) hoff) hget
    exact this
  · rcases Nat.lt_or_ge j k with h3 | h3
    · rw [hoff j h3] at hr
      exact hm r (so.mine j r h3 hr)
    · obtain rfl : j = k := by omega
      rw [hget] at hr
      cases hr
      exact hm _ ⟨g, h, rfl, rfl, hg, hh, hgh, h1, h2, Nat.le_refl _, Nat.le_refl _⟩
  · rcases Nat.lt_or_ge j k with h3 | h3
    · rw [hoff j h3] at hr
      exact so.same j r s h3 hr hs
    · obtain rfl : j = k := by omega
      rw [hget] at hr
      rw [hk] at hs
      cases hr
      cases hs
      exact ⟨rfl, rfl, rfl, rfl⟩
  · rw [hoff i (by omega)] at hr
    rcases Nat.lt_or_ge j k with h3 | h3
    · rw [hoff j h3] at hs
      exact so.ord i j r s hij h3 hr hs b b' hb hb'
    · obtain rfl : j = k := by omega
      rw [hget] at hs
      cases hs
      have h4 := hlo i r hij hr b hb
      rcases hb' with ⟨o, e⟩ | ⟨o, e⟩
      · cases e; exact h4.1
      · cases e; exact h4.2
theorem So.below {w w' : World} {B g k : Nat} {l ks : List E} (so : So w B g l ks k) (hb : Below w.heap.size w w') : So w' B g l ks k := ⟨so.len, so.own.below hb so.own.lt, fun j r hj hr => (so.mine j r hj hr).below hb, so.same, so.ord⟩
theorem So.set {w : World} {B g k : Nat} {l ks : List E} (so : So w B g l ks k) {x o : Nat} (hx : x < B) (hg : g ≠ x) (v : Value) : So (w.setCell ⟨x, o, none⟩ v) B g l ks k := ⟨so.len, so.own.kept (Below.heap_setCell _ _ _ _ (by show g ≠ x; exact hg)), fun j r hj hr => (so.mine j r hj hr).set hx v, so.same, so.ord⟩
theorem Mine.mono {w : World} {B B' : Nat} {r : E} (m : Mine w B r) (h : B' ≤ B) : Mine w B' r := by
  obtain ⟨g, h', h1, h2, h3, h4, h5⟩ := m
  exact ⟨g, h', h1, h2, by omega, by omega, h5⟩
theorem So.mono {w : World} {B B' g k : Nat} {l ks : List E} (so : So w B g l ks k) (h : B' ≤ B) : So w B' g l ks k := ⟨so.len, so.own, fun j r hj hr => (so.mine j r hj hr).mono h, so.same, so.ord⟩
theorem So.v {w : World} {B g : Nat} {l ks : List E} (so : So w B g l ks l.length) : V w w.heap.size (some ⟨g, 0, none⟩) ks := by
  have h := so.own
  rw [← so.len] at h
  refine ⟨h.row, fun r hr => ?_⟩
  obtain ⟨j, hj⟩ := List.mem_iff_getElem?.1 hr
  exact (so.mine j r (by have := (List.getElem?_eq_some_iff.1 hj).1; have := so.len; omega) hj).rows
theorem info : (Tryz.prog.info? 68).map (fun i => (i.zero, i.size, i.bytes)) = some (some (.agg #[.string ByteArray.empty, .int .i64 0, .slice none 0 0, .slice none 0 0]), 4, 72) := by kernel_rfl

set_option maxRecDepth 100000 in
set_option maxHeartbeats 2000000 in
theorem to_all (l : List E) (a : Option Addr) (cap : Nat) (w : World) (hl : l.length ≤ 1048576) (hx : ∀ e ∈ l, e.rs.length ≤ 1048576 ∧ e.hs.length ≤ 1048576) (hS : V w w.heap.size a l) :
    Calls Tryz.prog 38 #[.slice a l.length cap] w fun e w' => ∃ ks : List E, e = .returned (.slice (some ⟨w.heap.size, 0, none⟩) l.length l.length) ∧ So w' (w.heap.size + 1) w.heap.size l ks l.length ∧ Below w.heap.size w w' := by
  obtain ⟨i0, hi, hz0, hz1, hz2⟩ : ∃ i0, Tryz.prog.info? 68 = some i0 ∧ i0.zero = some (.agg #[.string ByteArray.empty, .int .i64 0, .slice none 0 0, .slice none 0 0]) ∧ i0.size = 4 ∧ i0.bytes = 72 := by
    have h := info
    cases hh : Tryz.prog.info? 68 with
    | none => rw [hh] at h; cases h
    | some i => rw [hh] at h; simp at h; exact ⟨i, rfl, h.1, h.2.1, h.2.2⟩
  have hmk := run_makeSlice (P := Tryz.prog) w 36 68 i0 _ Tryz.underlying36 hi hz0 .i64 .i64 (l.length : Int) (l.length : Int) (by omega) (Int.le_refl _) (by rw [hz1]; simp; omega) (by rw [hz2]; omega) (by omega)
  rw [hz1, show ((l.length : Int)).toNat = l.length by omega] at hmk
  have hmk2 : (Instr.makeSlice 36 (.int .i64 (l.length : Int)) (.int .i64 (l.length : Int))).run Tryz.prog w = .ok (.slice (some ⟨w.heap.size, 0, none⟩) l.length l.length) (w.alloc (.cells (madeCells #[.string ByteArray.empty, .int .i64 0, .slice none 0 0, .slice none 0 0] (l.length * 4)) 68)) := hmk
  have hf0 : Own c 4 68 (w.alloc (.cells (madeCells #[.string ByteArray.empty, .int .i64 0, .slice none 0 0, .slice none 0 0] (l.length * 4)) 68)) w.heap.size l 0 := made #[.string ByteArray.empty, .int .i64 0, .slice none 0 0, .slice none 0 0].toList w l rfl
  have hb0 : Below w.heap.size w (w.alloc (.cells (madeCells #[.string ByteArray.empty, .int .i64 0, .slice none 0 0, .slice none 0 0] (l.length * 4)) 68)) := (Below.refl _ _).alloc (Nat.le_refl _) _
  obtain ⟨W, hW⟩ : ∃ W, w.alloc (.cells (madeCells #[.string ByteArray.empty, .int .i64 0, .slice none 0 0, .slice none 0 0] (l.length * 4)) 68) = W := ⟨_, rfl⟩
  rw [hW] at hmk2 hf0 hb0
  have HF0 : Hid (So W (w.heap.size + 1) w.heap.size l l 0) := ⟨rfl, hf0, fun j r hj => by omega, fun j r s hj => by omega, fun i j r s hij hj => by omega⟩
  have HVR : Hid (∀ r ∈ l, Row flM.c 5 w w.heap.size r.ra r.rs ∧ Row flH.c 7 w w.heap.size r.ha r.hs) := hS.2
  clear hmk hW hf0
  rcases hS.1 with rfl | ⟨b, off, rfl, hlt, hc⟩
  · have hmk3 : (Instr.makeSlice 36 (.int .i64 0) (.int .i64 0)).run Tryz.prog w = .ok (.slice (some ⟨w.heap.size, 0, none⟩) 0 0) W := by simpa using hmk2
    clear hmk2
    go_enter Tryz.func38, Tryz.ntmps38
    go_wp2
    refine wp_loop_rounds 1 ?_
    rw [rounds_succ]
    go_wp2
    go_ret
    exact ⟨[], rfl, HF0.out, hb0⟩
  · have HC : Hid (∀ (i : Nat) (e : E), l[i]? = some e → ∀ (j : Nat) (v : Value), (c e)[j]? = some v → w.cell? ⟨b, off + i * 4 + j, none⟩ = some v) := hc
    have HX : Hid (∀ e ∈ l, e.rs.length ≤ 1048576 ∧ e.hs.length ≤ 1048576) := hx
    clear hc hx hS
    go_enter Tryz.func38, Tryz.ntmps38
    go_wp2
    go_loopw [4] (fun x wr => ∃ (k : Nat) (ks : List E), k ≤ l.length ∧ x = .int .i64 k ∧ Below w.heap.size w wr ∧ Hid (So wr (w.heap.size + 1) w.heap.size l ks k)) (fun x _ => l.length - (intOf x).toNat)
    case atStart => exact ⟨0, l, Nat.zero_le _, rfl, hb0, HF0⟩
    case round =>
      obtain ⟨k, ks, hk, rfl, hbel, hf⟩ := hrel
      have hbs := hbel.size
      by_cases hkl : k < l.length
      · have HG : Hid (l[k]? = some l[k]) := List.getElem?_eq_getElem hkl
        have hxs := HX.out l[k] (List.getElem_mem hkl)
        have hrow := HVR.out l[k] (List.getElem_mem hkl)
        obtain ⟨⟨nm, nx, ra, rc, rs, ha, hc, hs⟩, he⟩ : ∃ e, l[k] = e := ⟨_, rfl⟩
        rw [he] at HG hxs hrow
        have c0 : wr.cell? ⟨b, off + k * 4, none⟩ = some (.string nm) := (hbel.cell (p := ⟨b, off + k * 4, none⟩) hlt).trans (by have := HC.out k _ HG.out 0 _ rfl; simpa using this)
        have c1 : wr.cell? ⟨b, off + k * 4 + 1, none⟩ = some (.int .i64 nx) := (hbel.cell (p := ⟨b, off + k * 4 + 1, none⟩) hlt).trans (by have := HC.out k _ HG.out 1 _ rfl; simpa using this)
        have c2 : wr.cell? ⟨b, off + k * 4 + 2, none⟩ = some (.slice ra rs.length rc) := (hbel.cell (p := ⟨b, off + k * 4 + 2, none⟩) hlt).trans (by have := HC.out k _ HG.out 2 _ rfl; simpa using this)
        have c3 : wr.cell? ⟨b, off + k * 4 + 3, none⟩ = some (.slice ha hs.length hc) := (hbel.cell (p := ⟨b, off + k * 4 + 3, none⟩) hlt).trans (by have := HC.out k _ HG.out 3 _ rfl; simpa using this)
        have hone := ql.to_queue nm nx rs hs ra ha rc hc wr hxs.1 hxs.2 ((hrow.1).inn hbel) ((hrow.2).inn hbel)
        have hgl : w.heap.size < wr.heap.size := hf.out.own.lt
        clear he hrow hxs
        go_wp2_with (go_at_call 88; fail)
        refine hone.mono ?_
        rintro e w1 ⟨g, h, rfl, hgW, hhW, hgh, hg, hh, hb1⟩
        have hs1 := hb1.size
        have hso := hf.out.below hb1
        have hf1 := hso.own
        have hkl2 := hso.len
        have HN : Hid (So ((((w1.setCell ⟨w.heap.size, k * 4, none⟩ (.string nm)).setCell ⟨w.heap.size, k * 4 + 1, none⟩ (.int .i64 nx)).setCell ⟨w.heap.size, k * 4 + 2, none⟩ (.slice (some ⟨g, 0, none⟩) rs.length rs.length)).setCell ⟨w.heap.size, k * 4 + 3, none⟩ (.slice (some ⟨h, 0, none⟩) hs.length hs.length)) (w.heap.size + 1) w.heap.size l (ks.set k ⟨nm, nx, some ⟨g, 0, none⟩, rs.length, rs, some ⟨h, 0, none⟩, hs.length, hs⟩) (k + 1)) := hso.more (fun j r hj hr b hb => by have := (hf.out.mine j r hj hr).lt hb; omega) (by omega) HG.out (by omega) (by omega) hgh hg hh
        obtain ⟨v0, g0⟩ := hf1.at (k * 4) (by rw [hkl2]; omega)
        have z0 := hf1.free (k * 4)
        obtain ⟨v1, g1⟩ := hf1.at (k * 4 + 1) (by rw [hkl2]; omega)
        have z1 := hf1.free (k * 4 + 1)
        obtain ⟨v2, g2⟩ := hf1.at (k * 4 + 2) (by rw [hkl2]; omega)
        have z2 := hf1.free (k * 4 + 2)
        obtain ⟨v3, g3⟩ := hf1.at (k * 4 + 3) (by rw [hkl2]; omega)
        have z3 := hf1.free (k * 4 + 3)
        clear hone hso hf1 c0 c1 c2 c3 hg hh hkl2
        go_wp2
        go_roundw
        case rel => exact ⟨k + 1, _, by omega, by go_num, (((((hbel.trans (hb1.mono hbs)).setCell (Nat.le_refl _) _).setCell (Nat.le_refl _) _).setCell (Nat.le_refl _) _).setCell (Nat.le_refl _) _), HN⟩
        case measure => simp [intOf]; omega
      · obtain rfl : k = l.length := by omega
        go_wp2
        go_ret
        first | exact ⟨ks, rfl, hf.out, hbel⟩ | exact ⟨rfl, ks, hf.out, hbel⟩
end Go.Proofs.YtpkljkahdclcgaaGreat.qu
