/- The laws' lists of runs (lists of lists of pairs): weighed, laid anew; new memory alone. -/
import Derived.Test.YtlgcciaebkfnjaaGreatDoorRunRows
namespace Go.Proofs.YtlgcciaebkfnjaaGreatDoor.rn
open Go.ChangeShapes Go.WideShapes Go.ChangeAt Go.RowKit Go.Proofs.YtlgcciaebkfnjaaGreatDoor.fl
set_option linter.unusedVariables false

def wtR (r : Rn) : Nat := r.l.length + bulk flP.wt r.l
def okR (r : Rn) : Prop := r.l.length ≤ maxLen ∧ ∀ e ∈ r.l, flP.ok e

set_option maxRecDepth 100000 in
theorem sz_runs (l : List Rn) (a : Option Addr) (cap : Nat) (left : Int) (w : World) (hl : l.length ≤ maxLen) (hx : ∀ e ∈ l, okR e) (h0 : -1 ≤ left) (h1 : left ≤ 1048576) (hS : VR w w.heap.size a l) :
    Calls Tryz.prog 103 #[.slice a l.length cap, .int .i64 left] w fun e w' => ∃ r : Int, e = .returned (.int .i64 r) ∧ (0 ≤ r → r = left - l.length - bulk wtR l) ∧ -1 ≤ r ∧ r ≤ 1048576 ∧ Below w.heap.size w w' := by
  have hl' := hl
  unfold maxLen at hl'
  by_cases hneg : left - l.length < 0
  · go_enter Tryz.func103, Tryz.ntmps103
    go_wp2
    go_ret
    exact ⟨-1, rfl, by omega, by omega, by omega, Below.refl _ _⟩
  have HVR : Hid (∀ r ∈ l, Row flP.c 3 w w.heap.size r.a r.l) := hS.2
  rcases hS.1 with rfl | ⟨b, off, rfl, hlt, hc⟩
  · go_enter Tryz.func103, Tryz.ntmps103
    go_wp2
    refine wp_loop_rounds 1 ?_
    rw [rounds_succ]
    go_wp2
    go_ret
    exact ⟨_, rfl, fun _ => by simp [bulk], by simp at hneg; omega, by simp at hneg; omega, Below.refl _ _⟩
  · have HC : Hid (∀ (i : Nat) (e : Rn), l[i]? = some e → ∀ (j : Nat) (v : Value), (cR e)[j]? = some v → w.cell? ⟨b, off + i * 1 + j, none⟩ = some v) := hc
    have HX : Hid (∀ e ∈ l, okR e) := hx
    clear hc hx hS
    go_enter Tryz.func103, Tryz.ntmps103
    go_wp2
    go_loopw [1, 5] (fun y x wr => ∃ k : Nat, k ≤ l.length ∧ x = .int .i64 k ∧ y = .int .i64 (left - l.length - bulk wtR (l.take k)) ∧ 0 ≤ left - l.length - bulk wtR (l.take k) ∧ Below w.heap.size w wr) (fun _ x _ => l.length - (intOf x).toNat)
    case atStart => exact ⟨0, Nat.zero_le _, rfl, by simp [bulk], by simp [bulk]; omega, Below.refl _ _⟩
    case round =>
      obtain ⟨k, hk, rfl, rfl, hr0, hbel⟩ := hrel
      have hbs := hbel.size
      by_cases hkl : k < l.length
      · have HG : Hid (l[k]? = some l[k]) := List.getElem?_eq_getElem hkl
        have hxs := HX.out l[k] (List.getElem_mem hkl)
        have hrow := (HVR.out l[k] (List.getElem_mem hkl)).inn hbel
        have HBK : Hid (bulk wtR (l.take (k + 1)) = bulk wtR (l.take k) + wtR l[k]) := bulk_take wtR hkl
        obtain ⟨⟨ra, rc, rl⟩, he⟩ : ∃ e, l[k] = e := ⟨_, rfl⟩
        rw [he] at hxs HBK HG hrow
        have c0 : wr.cell? ⟨b, off + k, none⟩ = some (.slice ra rl.length rc) := (hbel.cell (p := ⟨b, off + k, none⟩) hlt).trans (by have := HC.out k _ HG.out 0 _ rfl; simpa using this)
        obtain ⟨m, hm⟩ : ∃ m, bulk wtR (l.take k) = m := ⟨_, rfl⟩
        rw [hm] at HBK hr0 ⊢
        have hone := flP.sz_all rl ra rc (left - l.length - m) wr hxs.1 hxs.2 (by omega) (by omega) hrow
        obtain ⟨wv, hwt⟩ : ∃ wv, wtR ⟨ra, rc, rl⟩ = wv := ⟨_, rfl⟩
        have HWV : Hid (rl.length + bulk flP.wt rl = wv) := hwt
        rw [hwt] at HBK
        clear hm he hwt hxs hrow
        go_wp2_with (go_at_call 102; fail)
        refine hone.mono ?_
        rintro e w1 ⟨r, rfl, hr, hr1, hr2, hb1⟩
        clear hone c0
        by_cases hlo : r < 0
        · go_wp2
          go_ret
          exact ⟨-1, rfl, by omega, by omega, by omega, hbel.trans (hb1.mono hbs)⟩
        · have HRR : Hid (r = left - l.length - m - (wv : Int)) := by have h1 := hr (by omega); have h2 := HWV.out; unfold Hid; omega
          have hr3 : (0 : Int) ≤ r := by omega
          clear hr
          go_wp2
          go_roundw
          case rel => exact ⟨k + 1, by omega, by go_num, by rw [HBK.out, HRR.out]; congr 1; omega, by rw [HBK.out]; have := HRR.out; omega, hbel.trans (hb1.mono hbs)⟩
          case measure => simp [intOf]; omega
      · obtain rfl : k = l.length := by omega
        rw [List.take_length] at hr0 ⊢
        go_wp2
        go_ret
        exact ⟨_, rfl, fun _ => rfl, by omega, by omega, hbel⟩

/-- runs laid anew: a row of slices, of which the first are laid, each run in a row of its own -/
structure OR (w : World) (B g n : Nat) (ks : List Rn) : Prop where
  blk : ∃ cur, w.heap[g]? = some (.cells cur 24 (0, 0)) ∧ cur.size = n ∧ ∀ (i : Nat) r, ks[i]? = some r → cur[i]? = some (.slice r.a r.l.length r.c)
  own : ∀ (i : Nat) r, ks[i]? = some r → ∃ h, r.a = some ⟨h, 0, none⟩ ∧ r.c = r.l.length ∧ B ≤ h ∧ Own flP.c 3 49 w h r.l r.l.length
  nd : ∀ (i j : Nat) r s, i < j → ks[i]? = some r → ks[j]? = some s → r.a ≠ s.a
section
variable {w w' : World} {B g n : Nat} {ks : List Rn}
theorem OR.lt (h : OR w B g n ks) : g < w.heap.size := by
  obtain ⟨cur, h1, _⟩ := h.blk
  exact (Array.getElem?_eq_some_iff.1 h1).1
theorem own_kept {h : Nat} {l : List flP.Pr} (ho : Own flP.c 3 49 w h l l.length) (hk : w'.heap[h]? = w.heap[h]?) : Own flP.c 3 49 w' h l l.length := ho.kept hk
theorem own_ne {h b : Nat} {l : List flP.Pr} {k : Nat} {cur : Array Value} {U : TypeId} (hU : 49 ≠ U) (ho : Own flP.c 3 49 w h l k) (hb : w.heap[b]? = some (.cells cur U (0, 0))) : h ≠ b := by
  rintro rfl
  obtain ⟨c, h1, _⟩ := ho
  rw [hb] at h1
  simp at h1
  exact hU h1.2.symm
theorem OR.on (h : OR w B g n ks) (hb : Below w.heap.size w w') : OR w' B g n ks := by
  refine ⟨?_, fun i r hr => ?_, h.nd⟩
  · obtain ⟨cur, h1, h2⟩ := h.blk
    exact ⟨cur, bstay h1 hb h.lt, h2⟩
  · obtain ⟨k, h1, h2, h3, h4⟩ := h.own i r hr
    exact ⟨k, h1, h2, h3, h4.below hb h4.lt⟩
/-- what is no block of it may be turned -/
theorem OR.set (h : OR w B g n ks) {b : Nat} (hb : b < B) (hg : g ≠ b) (o : Nat) (v : Value) : OR (w.setCell ⟨b, o, none⟩ v) B g n ks := by
  refine ⟨?_, fun i r hr => ?_, h.nd⟩
  · obtain ⟨cur, h1, h2⟩ := h.blk
    exact ⟨cur, boff h1 _ _ _ hg, h2⟩
  · obtain ⟨k, h1, h2, h3, h4⟩ := h.own i r hr
    exact ⟨k, h1, h2, h3, h4.kept (Below.heap_setCell _ _ _ _ (by show k ≠ b; omega))⟩
theorem OR.more (h : OR w B g n ks) {b : Nat} {l : List flP.Pr} (ho : Own flP.c 3 49 w b l l.length) (hB : B ≤ b) (hnew : ∀ (i : Nat) r k, ks[i]? = some r → r.a = some ⟨k, 0, none⟩ → k < b) (hn : ks.length < n) :
    OR (w.setCell ⟨g, ks.length, none⟩ (.slice (some ⟨b, 0, none⟩) l.length l.length)) B g n (ks ++ [⟨some ⟨b, 0, none⟩, l.length, l⟩]) := by
  obtain ⟨cur, h1, h2, h3⟩ := h.blk
  refine ⟨⟨_, bset h1 _ _, by simpa using h2, fun i r hr => ?_⟩, fun i r hr => ?_, fun i j r s hij hr hs => ?_⟩
  · rw [Array.getElem?_setIfInBounds]
    by_cases e : ks.length = i
    · subst e
      rw [List.getElem?_append_right (Nat.le_refl _)] at hr
      simp at hr
      subst hr
      rw [if_pos rfl, if_pos (by omega)]
    · rw [if_neg e]
      have hlt := (List.getElem?_eq_some_iff.1 hr).1
      rw [List.length_append, List.length_singleton] at hlt
      rw [List.getElem?_append_left (by omega)] at hr
      exact h3 i r hr
  · by_cases e : i < ks.length
    · rw [List.getElem?_append_left e] at hr
      obtain ⟨k, a1, a2, a3, a4⟩ := h.own i r hr
      exact ⟨k, a1, a2, a3, a4.kept (Below.heap_setCell _ _ _ _ (own_ne (by decide) a4 h1))⟩
    · have hlt := (List.getElem?_eq_some_iff.1 hr).1
      rw [List.length_append, List.length_singleton] at hlt
      obtain rfl : i = ks.length := by omega
      rw [List.getElem?_append_right (Nat.le_refl _)] at hr
      simp at hr
      subst hr
      exact ⟨b, rfl, rfl, hB, ho.kept (Below.heap_setCell _ _ _ _ (own_ne (by decide) ho h1))⟩
  · have hlt := (List.getElem?_eq_some_iff.1 hs).1
    rw [List.length_append, List.length_singleton] at hlt
    rw [List.getElem?_append_left (by omega)] at hr
    by_cases e : j < ks.length
    · rw [List.getElem?_append_left e] at hs
      exact h.nd i j r s hij hr hs
    · obtain rfl : j = ks.length := by omega
      rw [List.getElem?_append_right (Nat.le_refl _)] at hs
      simp at hs
      subst hs
      obtain ⟨k, a1, _⟩ := h.own i r hr
      have := hnew i r k hr a1
      rw [a1]
      intro e2
      have e3 := Addr.mk.inj (Option.some.inj e2)
      omega
theorem OR.vr (h : OR w B g ks.length ks) : VR w w.heap.size (some ⟨g, 0, none⟩) ks := by
  refine ⟨?_, fun r hr => ?_⟩
  · obtain ⟨cur, h1, h2, h3⟩ := h.blk
    refine .inr ⟨g, 0, rfl, h.lt, fun i e he j v hv => ?_⟩
    match j, hv with
    | 0, hv =>
      simp [cR] at hv
      subst hv
      have := bcell h1 (h3 i e he)
      simpa using this
    | j + 1, hv => simp [cR] at hv
  · obtain ⟨i, hi⟩ := List.getElem?_of_mem hr
    obtain ⟨k, h1, _, _, h4⟩ := h.own i r hi
    rw [h1]
    exact h4.row
end

theorem info : (Tryz.prog.info? 24).map (fun i => (i.zero, i.size, i.bytes)) = some (some (.slice none 0 0), 1, 24) := by kernel_rfl

set_option maxRecDepth 100000 in
set_option maxHeartbeats 1000000 in
theorem to_runs (l : List Rn) (a : Option Addr) (cap : Nat) (w : World) (hl : l.length ≤ 1048576) (hx : ∀ e ∈ l, e.l.length ≤ 1048576) (hS : VR w w.heap.size a l) :
    Calls Tryz.prog 105 #[.slice a l.length cap] w fun e w' => ∃ ks : List Rn, e = .returned (.slice (some ⟨w.heap.size, 0, none⟩) l.length l.length) ∧ ks.map (·.l) = l.map (·.l) ∧ OR w' (w.heap.size + 1) w.heap.size l.length ks ∧ Below w.heap.size w w' := by
  obtain ⟨i0, hi, hz0, hz1, hz2⟩ : ∃ i0, Tryz.prog.info? 24 = some i0 ∧ i0.zero = some (.slice none 0 0) ∧ i0.size = 1 ∧ i0.bytes = 24 := by
    have h := info
    cases hh : Tryz.prog.info? 24 with
    | none => rw [hh] at h; cases h
    | some i => rw [hh] at h; simp at h; exact ⟨i, rfl, h.1, h.2.1, h.2.2⟩
  have hmk := run_makeSlice (P := Tryz.prog) w 25 24 i0 _ Tryz.underlying25 hi hz0 .i64 .i64 (l.length : Int) (l.length : Int) (by omega) (Int.le_refl _) (by rw [hz1]; simp; omega) (by rw [hz2]; omega) (by omega)
  rw [hz1, show ((l.length : Int)).toNat = l.length by omega] at hmk
  have hmk2 : (Instr.makeSlice 25 (.int .i64 (l.length : Int)) (.int .i64 (l.length : Int))).run Tryz.prog w = .ok (.slice (some ⟨w.heap.size, 0, none⟩) l.length l.length) (w.alloc (.cells (madeCells #[.slice none 0 0] (l.length * 1)) 24)) := hmk
  have hf0 : OR (w.alloc (.cells (madeCells #[.slice none 0 0] (l.length * 1)) 24)) (w.heap.size + 1) w.heap.size l.length [] := ⟨⟨_, bnew w _ _, by rw [size_madeCells, Nat.mul_one], fun i r hr => by simp at hr⟩, fun i r hr => by simp at hr, fun i j r s _ hr => by simp at hr⟩
  have hb0 : Below w.heap.size w (w.alloc (.cells (madeCells #[.slice none 0 0] (l.length * 1)) 24)) := (Below.refl _ _).alloc (Nat.le_refl _) _
  obtain ⟨W, hW⟩ : ∃ W, w.alloc (.cells (madeCells #[.slice none 0 0] (l.length * 1)) 24) = W := ⟨_, rfl⟩
  rw [hW] at hmk2 hf0 hb0
  have HF0 : Hid (OR W (w.heap.size + 1) w.heap.size l.length []) := hf0
  have HVR : Hid (∀ r ∈ l, Row flP.c 3 w w.heap.size r.a r.l) := hS.2
  clear hmk hW hf0
  rcases hS.1 with rfl | ⟨b, off, rfl, hlt, hc⟩
  · have hmk3 : (Instr.makeSlice 25 (.int .i64 0) (.int .i64 0)).run Tryz.prog w = .ok (.slice (some ⟨w.heap.size, 0, none⟩) 0 0) W := by simpa using hmk2
    clear hmk2
    go_enter Tryz.func105, Tryz.ntmps105
    go_wp2
    refine wp_loop_rounds 1 ?_
    rw [rounds_succ]
    go_wp2
    go_ret
    exact ⟨[], rfl, rfl, HF0.out, hb0⟩
  · have HC : Hid (∀ (i : Nat) (e : Rn), l[i]? = some e → ∀ (j : Nat) (v : Value), (cR e)[j]? = some v → w.cell? ⟨b, off + i * 1 + j, none⟩ = some v) := hc
    have HX : Hid (∀ e ∈ l, e.l.length ≤ 1048576) := hx
    clear hc hx hS
    go_enter Tryz.func105, Tryz.ntmps105
    go_wp2
    go_loopw [4] (fun x wr => ∃ (k : Nat) (ks : List Rn), k ≤ l.length ∧ x = .int .i64 k ∧ Below w.heap.size w wr ∧ Hid (ks.map (·.l) = (l.take k).map (·.l) ∧ OR wr (w.heap.size + 1) w.heap.size l.length ks)) (fun x _ => l.length - (intOf x).toNat)
    case atStart => exact ⟨0, [], Nat.zero_le _, rfl, hb0, by simp, HF0.out⟩
    case round =>
      obtain ⟨k, ks, hk, rfl, hbel, hf⟩ := hrel
      have hbs := hbel.size
      have hkl0 : ks.length = k := by have h1 := congrArg List.length hf.out.1; simp at h1; omega
      by_cases hkl : k < l.length
      · have HG : Hid (l[k]? = some l[k]) := List.getElem?_eq_getElem hkl
        have hxs := HX.out l[k] (List.getElem_mem hkl)
        have hrow := (HVR.out l[k] (List.getElem_mem hkl)).inn hbel
        obtain ⟨⟨ra, rc, rl⟩, he⟩ : ∃ e, l[k] = e := ⟨_, rfl⟩
        rw [he] at HG hxs hrow
        have c0 : wr.cell? ⟨b, off + k, none⟩ = some (.slice ra rl.length rc) := (hbel.cell (p := ⟨b, off + k, none⟩) hlt).trans (by have := HC.out k _ HG.out 0 _ rfl; simpa using this)
        have hone := flP.to_all rl ra rc wr hxs hrow
        have hfl := hf.out.2.lt
        have HMAP : Hid ((ks ++ [(⟨some ⟨wr.heap.size, 0, none⟩, rl.length, rl⟩ : Rn)]).map (·.l) = (l.take (k + 1)).map (·.l)) := by
          unfold Hid
          rw [List.map_append, hf.out.1, List.take_add_one, HG.out]
          simp
        have hkl3 : k < l.length := hkl
        clear he hrow hxs
        go_wp2_with (go_at_call 104; fail)
        refine hone.mono ?_
        rintro e w1 ⟨rfl, ho1, hb1⟩
        have hs1 := hb1.size
        have hf1 := hf.out.2.on hb1
        have hmore := hf1.more ho1 (by omega) (fun i r k2 hr ha => by
          obtain ⟨h3, e1, _, _, e4⟩ := hf.out.2.own i r hr
          rw [e1] at ha
          simp at ha
          have := e4.lt
          omega) (by omega)
        rw [hkl0] at hmore
        have HN : Hid (OR (w1.setCell ⟨w.heap.size, k, none⟩ (.slice (some ⟨wr.heap.size, 0, none⟩) rl.length rl.length)) (w.heap.size + 1) w.heap.size l.length (ks ++ [⟨some ⟨wr.heap.size, 0, none⟩, rl.length, rl⟩])) := hmore
        have g0 : ∃ v, w1.cell? ⟨w.heap.size, k, none⟩ = some v := by
          obtain ⟨cur, a1, a2, _⟩ := hf1.blk
          exact ⟨_, bcell a1 (Array.getElem?_eq_getElem (by omega))⟩
        obtain ⟨v0, g0⟩ := g0
        have z0 : w1.frozen? ⟨w.heap.size, k, none⟩ = false := by
          obtain ⟨cur, a1, _⟩ := hf1.blk
          exact bfree a1 k
        clear hone hf1 hmore c0
        go_wp2
        go_roundw
        case rel => exact ⟨k + 1, _, by omega, by go_num, (hbel.trans (hb1.mono hbs)).setCell (Nat.le_refl _) _, HMAP.out, HN.out⟩
        case measure => simp [intOf]; omega
      · obtain rfl : k = l.length := by omega
        go_wp2
        go_ret
        first | exact ⟨ks, rfl, by rw [hf.out.1, List.take_length], hf.out.2, hbel⟩ | exact ⟨rfl, ks, by rw [hf.out.1, List.take_length], hf.out.2, hbel⟩

end Go.Proofs.YtlgcciaebkfnjaaGreatDoor.rn
