/- The program's TopicMatch: it answers as 'topic' says, at every two texts of at most 1048576 bytes; new memory alone. -/
import Derived.Test.YtfhhcbjieekfdaaDoorTopicSpec
import Derived.Test.YtfhhcbjieekfdaaDoorDotSplit
import Derived.Deep.OwnRows
import Derived.Laws.OwnMore
namespace Go.Proofs.YtfhhcbjieekfdaaDoor.ti
set_option linter.unusedVariables false
open Go.ChangeShapes Go.WideShapes Go.ChangeAt Go.RowKit Go.Proofs.YtfhhcbjieekfdaaDoor.sm Go.Proofs.YtfhhcbjieekfdaaDoor.tp Go.Proofs.YtfhhcbjieekfdaaDoor.ts

/-- block g is a row of just the bits f -/
def Row (w : World) (g m : Nat) (f : Nat → Bool) : Prop := ∃ cur, w.heap[g]? = some (.cells cur 4 (0, 0)) ∧ cur.size = m ∧ ∀ j, j < m → cur[j]? = some (.bool (f j))
theorem Row.cell {w : World} {g m : Nat} {f : Nat → Bool} (h : Row w g m f) (j : Nat) (hj : j < m) : w.cell? ⟨g, j, none⟩ = some (.bool (f j)) := by
  obtain ⟨cur, hg, _, hc⟩ := h
  simp [World.cell?, hg, hc j hj]
theorem Row.frozen {w : World} {g m : Nat} {f : Nat → Bool} (h : Row w g m f) (j : Nat) : w.frozen? ⟨g, j, none⟩ = false := by
  obtain ⟨cur, hg, _⟩ := h
  simp [World.frozen?, hg]
theorem Row.lt {w : World} {g m : Nat} {f : Nat → Bool} (h : Row w g m f) : g < w.heap.size := by
  obtain ⟨cur, hg, _⟩ := h
  exact (Array.getElem?_eq_some_iff.1 hg).1
theorem Row.below {w w' : World} {g m B : Nat} {f : Nat → Bool} (h : Row w g m f) (hb : Below B w w') (hg : g < B) : Row w' g m f := by
  obtain ⟨cur, h1, h2⟩ := h
  exact ⟨cur, by rw [hb.block g hg]; exact h1, h2⟩
theorem Row.congr {w : World} {g m : Nat} {f f' : Nat → Bool} (h : Row w g m f) (he : ∀ j, j < m → f j = f' j) : Row w g m f' := by
  obtain ⟨cur, h1, h2, h3⟩ := h
  exact ⟨cur, h1, h2, fun j hj => by rw [← he j hj]; exact h3 j hj⟩
theorem Row.set {w : World} {g m : Nat} {f : Nat → Bool} (h : Row w g m f) (i : Nat) (b : Bool) : Row (w.setCell ⟨g, i, none⟩ (.bool b)) g m (fun j => if j = i then b else f j) := by
  obtain ⟨cur, h1, h2, h3⟩ := h
  refine ⟨cur.setIfInBounds i (.bool b), heap_setCell_same w g i cur _ _ h1, by simpa using h2, fun j hj => ?_⟩
  show _ = some (Value.bool (if j = i then b else f j))
  by_cases e : j = i
  · subst e
    rw [if_pos rfl, Array.getElem?_setIfInBounds_self_of_lt (by omega)]
  · rw [if_neg e, Array.getElem?_setIfInBounds_ne (Ne.symm e)]
    exact h3 j hj
theorem row_made (w : World) (m : Nat) : Row (w.alloc (.cells (madeCells #[.bool false] m) 4)) w.heap.size m (fun _ => false) := by
  refine ⟨_, heap_alloc_new w _, size_madeCells _ _, fun j hj => ?_⟩
  rw [← Array.getElem?_toList, toList_madeCells_one]
  simp [hj]

def upto (c : Nat) (f : Nat → Bool) (j : Nat) : Bool := if j ≤ c then f j else false
theorem upto_next (c : Nat) (f : Nat → Bool) (b : Bool) (hb : f (c + 1) = b) : ∀ j, (if j = c + 1 then b else upto c f j) = upto (c + 1) f j := by
  intro j
  unfold upto
  by_cases e : j = c + 1
  · subst e; rw [if_pos rfl, if_pos (Nat.le_refl _), hb]
  · rw [if_neg e]
    by_cases h : j ≤ c
    · rw [if_pos h, if_pos (by omega)]
    · rw [if_neg h, if_neg (by omega)]

theorem dec_same (x y : ByteArray) : decide (x = y) = (x.toList == y.toList) := by
  by_cases e : x = y
  · subst e; simp
  · have e2 : ¬ x.toList = y.toList := fun h => e (of_same h)
    rw [decide_eq_false e]; simp [e2]
theorem dec_star (x : ByteArray) : decide (x = star) = (x.toList == [42]) := by
  rw [dec_same]
  congr 1
  rw [Lib.toList_data]
  rfl

set_option maxRecDepth 100000 in
set_option maxHeartbeats 1000000 in
theorem fits_with (x : ByteArray) (k : List ByteArray) (r : Nat → Bool) (g c gk ck : Nat) (w : World) (hk : k.length ≤ 1048577) (hR : Row w g (k.length + 1) r) (hK : Has w gk ck k) :
    Calls Tryd.prog 61 #[.slice (some ⟨g, 0, none⟩) (k.length + 1 : Nat) c, .string x, .slice (some ⟨gk, 0, none⟩) k.length ck] w fun e w' => (∃ g' c', e = .returned (.slice (some ⟨g', 0, none⟩) (k.length + 1 : Nat) c') ∧ w.heap.size ≤ g' ∧ Row w' g' (k.length + 1) (nx x k r)) ∧ Below w.heap.size w w' := by
  have HR : Hid (Row w g (k.length + 1) r) := hR
  have HK : Hid (Has w gk ck k) := hK
  have hgl := hR.lt
  have hgk := hK.lt
  clear hR hK
  have hmk := run_make_row' (P := Tryd.prog) 93 4 (.bool false) 1 Tryd.underlying93 infoB rfl .i64 .i64 (k.length + 1) (by omega) (by omega) w
  rw [show ((k.length + 1 : Nat) : Int) = (k.length : Int) + 1 by omega] at hmk
  have hrow0 := row_made w (k.length + 1)
  have hbW : Below w.heap.size w (w.alloc (.cells (madeCells #[.bool false] (k.length + 1)) 4)) := (Below.refl _ _).alloc (Nat.le_refl _) _
  have hWs : w.heap.size < (w.alloc (.cells (madeCells #[.bool false] (k.length + 1)) 4)).heap.size := by simp
  obtain ⟨W, hW⟩ : ∃ W, w.alloc (.cells (madeCells #[.bool false] (k.length + 1)) 4) = W := ⟨_, rfl⟩
  rw [hW] at hmk hrow0 hbW hWs
  clear hW
  have HRW : Hid (Row W g (k.length + 1) r) := HR.out.below hbW hgl
  have HKW : Hid (Has W gk ck k) := HK.out.below hbW hgk
  have c0 := HRW.out.cell 0 (by omega)
  have d0 := hrow0.cell 0 (by omega)
  have f0 := hrow0.frozen 0
  have HR0 : Hid (Row W w.heap.size (k.length + 1) (fun _ => false)) := hrow0
  have hne : g ≠ w.heap.size := by omega
  clear hrow0
  by_cases hxh : x = hash
  · have HX : Hid (x = hash) := hxh
    have h35 : x.toList = [35] := by rw [hxh, Lib.toList_data]; rfl
    clear hxh
    have hS : Row (W.setCell ⟨w.heap.size, 0, none⟩ (.bool (r 0))) w.heap.size (k.length + 1) (upto 0 (nx x k r)) := (HR0.out.set 0 (r 0)).congr (fun j hj => by
      show (if j = 0 then r 0 else false) = upto 0 (nx x k r) j
      unfold upto
      by_cases e : j = 0
      · subst e; rw [if_pos rfl, if_pos (Nat.le_refl _), nx_zero, HX.out]; simp
      · rw [if_neg e, if_neg (by omega)])
    have HS : Hid (Row (W.setCell ⟨w.heap.size, 0, none⟩ (.bool (r 0))) w.heap.size (k.length + 1) (upto 0 (nx x k r))) := hS
    have HB : Hid (Below w.heap.size w (W.setCell ⟨w.heap.size, 0, none⟩ (.bool (r 0)))) := hbW.setCell (Nat.le_refl _) _
    clear hS
    go_enter Tryd.func61, Tryd.ntmps61
    go_wp2
    go_loopw [23, 8] (fun y _ wr => ∃ q : Nat, q ≤ k.length ∧ y = .int .i64 q ∧ Hid (Row wr w.heap.size (k.length + 1) (upto q (nx x k r))) ∧ Hid (Below w.heap.size w wr)) (fun y _ _ => k.length - (intOf y).toNat)
    case atStart => exact ⟨0, Nat.zero_le _, rfl, HS, HB⟩
    case round =>
      obtain ⟨q, hq, rfl, hrow, hbel⟩ := hrel
      by_cases hqk : q < k.length
      · have cr := (HR.out.below hbel.out hgl).cell (q + 1) (by omega)
        have cn := hrow.out.cell q (by omega)
        have cd := hrow.out.cell (q + 1) (by omega)
        have fd := hrow.out.frozen (q + 1)
        have hv : nx x k r (q + 1) = (r (q + 1) || nx x k r q) := by rw [HX.out, nx_hash]
        rw [show upto q (nx x k r) q = nx x k r q by simp [upto]] at cn
        rw [show upto q (nx x k r) (q + 1) = false by unfold upto; rw [if_neg (by omega)]] at cd
        obtain ⟨b1, hb1⟩ : ∃ b, r (q + 1) = b := ⟨_, rfl⟩
        obtain ⟨b2, hb2⟩ : ∃ b, nx x k r q = b := ⟨_, rfl⟩
        rw [hb1] at cr hv
        rw [hb2] at cn hv
        have HV : Hid (nx x k r (q + 1) = (b1 || b2)) := hv
        clear hv hb1 hb2
        have hrow2 : ∀ b, (b1 || b2) = b → Row (wr.setCell ⟨w.heap.size, q + 1, none⟩ (.bool b)) w.heap.size (k.length + 1) (upto (q + 1) (nx x k r)) := fun b hb => (hrow.out.set (q + 1) b).congr (fun j hj => upto_next q (nx x k r) b (HV.out.trans hb) j)
        have HR2 : Hid (∀ b, (b1 || b2) = b → Row (wr.setCell ⟨w.heap.size, q + 1, none⟩ (.bool b)) w.heap.size (k.length + 1) (upto (q + 1) (nx x k r))) := hrow2
        have HB2 : Hid (∀ b, Below w.heap.size w (wr.setCell ⟨w.heap.size, q + 1, none⟩ (.bool b))) := fun b => hbel.out.setCell (Nat.le_refl _) _
        clear hrow2 hrow hbel
        cases b1
        · go_wp2
          go_roundw
          case rel => exact ⟨q + 1, by omega, by go_num, HR2.out b2 rfl, HB2.out _⟩
          case measure => simp [intOf]; omega
        · go_wp2
          go_roundw
          case rel => exact ⟨q + 1, by omega, by go_num, HR2.out true rfl, HB2.out _⟩
          case measure => simp [intOf]; omega
      · obtain rfl : q = k.length := by omega
        go_wp2
        go_ret
        exact ⟨⟨w.heap.size, k.length + 1, by simp, Nat.le_refl _, hrow.out.congr (fun j hj => by unfold upto; rw [if_pos (by omega)])⟩, hbel.out⟩
  · have h35 : ¬ x.toList = [35] := fun e => hxh (of_bytes e)
    have b35 : (x.toList == [35]) = false := by simpa using h35
    have HX : Hid (x ≠ tp.hash) := hxh
    have HS : Hid (Row W w.heap.size (k.length + 1) (upto 0 (nx x k r))) := HR0.out.congr (fun j hj => by
      show false = upto 0 (nx x k r) j
      unfold upto
      by_cases e : j = 0
      · subst e; rw [if_pos (Nat.le_refl _), nx_zero, decide_eq_false HX.out]; rfl
      · rw [if_neg (by omega)])
    have HB : Hid (Below w.heap.size w W) := hbW
    clear hxh
    go_enter Tryd.func61, Tryd.ntmps61
    go_wp2
    go_loopw [45, 9, 10] (fun y _ _ wr => ∃ q : Nat, q ≤ k.length ∧ y = .int .i64 q ∧ Hid (Row wr w.heap.size (k.length + 1) (upto q (nx x k r))) ∧ Hid (Below w.heap.size w wr)) (fun y _ _ _ => k.length - (intOf y).toNat)
    case atStart => exact ⟨0, Nat.zero_le _, rfl, HS, HB⟩
    case round =>
      obtain ⟨q, hq, rfl, hrow, hbel⟩ := hrel
      by_cases hqk : q < k.length
      · have cr := (HR.out.below hbel.out hgl).cell q (by omega)
        have ck2 := (HK.out.below hbel.out hgk).cell q hqk
        have cd := hrow.out.cell (q + 1) (by omega)
        have fd := hrow.out.frozen (q + 1)
        have hv : nx x k r (q + 1) = (r q && (decide (x = star) || decide (x = k.getD q ByteArray.empty))) := by rw [nx_other _ _ _ _ HX.out]
        rw [show upto q (nx x k r) (q + 1) = false by unfold upto; rw [if_neg (by omega)]] at cd
        obtain ⟨y, hy⟩ : ∃ y, k.getD q ByteArray.empty = y := ⟨_, rfl⟩
        rw [hy] at ck2 hv
        obtain ⟨b1, hb1⟩ : ∃ b, r q = b := ⟨_, rfl⟩
        rw [hb1] at cr hv
        rw [dec_star, dec_same] at hv
        obtain ⟨b2, hb2⟩ : ∃ b, (x.toList == [42]) = b := ⟨_, rfl⟩
        obtain ⟨b3, hb3⟩ : ∃ b, (x.toList == y.toList) = b := ⟨_, rfl⟩
        rw [hb2, hb3] at hv
        have HV : Hid (nx x k r (q + 1) = (b1 && (b2 || b3))) := hv
        clear hv hb1 hy
        have HR2 : Hid (∀ b, (b1 && (b2 || b3)) = b → Row (wr.setCell ⟨w.heap.size, q + 1, none⟩ (.bool b)) w.heap.size (k.length + 1) (upto (q + 1) (nx x k r))) := fun b hb => (hrow.out.set (q + 1) b).congr (fun j hj => upto_next q (nx x k r) b (HV.out.trans hb) j)
        have HB2 : Hid (∀ b, Below w.heap.size w (wr.setCell ⟨w.heap.size, q + 1, none⟩ (.bool b))) := fun b => hbel.out.setCell (Nat.le_refl _) _
        clear hrow hbel
        cases b1
        · go_wp2
          go_roundw
          case rel => exact ⟨q + 1, by omega, by go_num, HR2.out false rfl, HB2.out _⟩
          case measure => simp [intOf]; omega
        · cases b2
          · go_wp2
            go_roundw
            case rel => exact ⟨q + 1, by omega, by go_num, HR2.out b3 rfl, HB2.out _⟩
            case measure => simp [intOf]; omega
          · go_wp2
            go_roundw
            case rel => exact ⟨q + 1, by omega, by go_num, HR2.out true rfl, HB2.out _⟩
            case measure => simp [intOf]; omega
      · obtain rfl : q = k.length := by omega
        go_wp2
        go_ret
        exact ⟨⟨w.heap.size, k.length + 1, by simp, Nat.le_refl _, hrow.out.congr (fun j hj => by unfold upto; rw [if_pos (by omega)])⟩, hbel.out⟩

theorem words_size (s : ByteArray) (hs : s.size ≤ 1048576) : (dt.left s 0).length ≤ 1048577 := by rw [dt.words_length]; have := dt.count_le s; omega
theorem words_ne (s : ByteArray) : dt.left s 0 ≠ [] := fun h => by have := dt.words_length s; rw [h] at this; simp at this

set_option maxRecDepth 100000 in
set_option maxHeartbeats 1000000 in
theorem impl_topic (p k : ByteArray) (m : Int) (w : World) (hp : p.size ≤ 1048576) (hk : k.size ≤ 1048576) (hm : w.cell? ⟨0, 0, none⟩ = some (.int .i64 m)) :
    Calls Tryd.prog 51 #[.string p, .string k] w fun e w' => e = .returned (.bool (topic p k)) ∧ Below w.heap.size w w' := by
  have kp := fun W => ky.impl_key p W hp
  have kk := fun W => ky.impl_key k W hk
  cases hgp : ky.good p with
  | false =>
    have ht : topic p k = false := by unfold topic; rw [hgp]; rfl
    rw [ht]
    simp only [hgp] at kp
    clear hm kk ht hgp
    go_enter Tryd.func51, Tryd.ntmps51
    go_wp2_with (go_at_call 23; refine (kp _).mono ?_; rintro e w0 ⟨rfl, hw0⟩; obtain rfl := hw0.symm)
    go_ret
    exact ⟨rfl, Below.refl _ _⟩
  | true =>
    cases hgk : ky.good k with
    | false =>
      have ht : topic p k = false := by unfold topic; rw [hgk, Bool.and_false]; rfl
      rw [ht]
      simp only [hgp] at kp
      simp only [hgk] at kk
      clear hm ht hgp hgk
      have t1 : True := trivial
      go_enter Tryd.func51, Tryd.ntmps51
      go_wp2_with (go_at_call 23; first | (have _t := t1; refine (kp _).mono ?_; rintro e w0 ⟨rfl, hw0⟩; obtain rfl := hw0.symm; clear t1) | (refine (kk _).mono ?_; rintro e w0 ⟨rfl, hw0⟩; obtain rfl := hw0.symm))
      go_ret
      exact ⟨rfl, Below.refl _ _⟩
    | true =>
      have ht : topic p k = fits (dt.left p 0) (dt.left k 0) := by unfold topic; rw [hgp, hgk]; rfl
      rw [ht]
      simp only [hgp] at kp
      simp only [hgk] at kk
      have hgM : 0 < w.heap.size := block_lt_of_cell hm
      have hsk := dt.split k m w hk hm
      have hsp := fun (W : World) (h : W.cell? ⟨0, 0, none⟩ = some (.int .i64 m)) => dt.split p m W hp h
      have hlk := words_size k hk
      have hlp := words_size p hp
      obtain ⟨kl, hkl⟩ : ∃ l, dt.left k 0 = l := ⟨_, rfl⟩
      obtain ⟨pl, hpl⟩ : ∃ l, dt.left p 0 = l := ⟨_, rfl⟩
      rw [hkl, hpl]
      rw [hkl] at hsk hlk
      rw [hpl] at hlp
      simp only [hpl] at hsp
      have HM : Hid (w.cell? ⟨0, 0, none⟩ = some (.int .i64 m)) := hm
      have hk1 := dt.has_made w kl
      have hb1 : Below w.heap.size w (w.alloc (.cells (kl.map Value.string).toArray 9)) := (Below.refl _ _).alloc (Nat.le_refl _) _
      have hs1 : w.heap.size < (w.alloc (.cells (kl.map Value.string).toArray 9)).heap.size := by simp
      obtain ⟨W1, hW1⟩ : ∃ W, w.alloc (.cells (kl.map Value.string).toArray 9) = W := ⟨_, rfl⟩
      rw [hW1] at hk1 hb1 hs1
      simp only [hW1] at hsk
      have hmk := run_make_row' (P := Tryd.prog) 93 4 (.bool false) 1 Tryd.underlying93 infoB rfl .i64 .i64 (kl.length + 1) (by omega) (by omega) W1
      rw [show ((kl.length + 1 : Nat) : Int) = (kl.length : Int) + 1 by omega] at hmk
      have hrow0 := row_made W1 (kl.length + 1)
      have hb2 : Below W1.heap.size W1 (W1.alloc (.cells (madeCells #[.bool false] (kl.length + 1)) 4)) := (Below.refl _ _).alloc (Nat.le_refl _) _
      obtain ⟨W2, hW2⟩ : ∃ W, W1.alloc (.cells (madeCells #[.bool false] (kl.length + 1)) 4) = W := ⟨_, rfl⟩
      rw [hW2] at hmk hrow0 hb2
      have d0 := hrow0.cell 0 (by omega)
      have f0 := hrow0.frozen 0
      obtain ⟨W3, hW3⟩ : ∃ W, W2.setCell ⟨W1.heap.size, 0, none⟩ (.bool true) = W := ⟨_, rfl⟩
      have hrow3 : Row W3 W1.heap.size (kl.length + 1) row0 := by
        rw [← hW3]
        exact (hrow0.set 0 true).congr (fun j hj => by show (if j = 0 then true else false) = row0 j; unfold row0; by_cases e : j = 0 <;> simp [e])
      have hb3 : Below W1.heap.size W1 W3 := by rw [← hW3]; exact hb2.setCell (Nat.le_refl _) _
      have hb13 : Below w.heap.size w W3 := hb1.trans (hb3.mono (by omega))
      have hk3 := hk1.below hb3 hs1
      have hsp3 := hsp W3 ((hb13.cell (p := ⟨0, 0, none⟩) hgM).trans HM.out)
      have hp4 := dt.has_made W3 pl
      have hb4 : Below W3.heap.size W3 (W3.alloc (.cells (pl.map Value.string).toArray 9)) := (Below.refl _ _).alloc (Nat.le_refl _) _
      obtain ⟨W4, hW4⟩ : ∃ W, W3.alloc (.cells (pl.map Value.string).toArray 9) = W := ⟨_, rfl⟩
      rw [hW4] at hp4 hb4
      simp only [hW4] at hsp3
      have hr4 := hrow3.below hb4 hrow3.lt
      have hk4 := hk3.below hb4 hk3.lt
      have hb14 : Below w.heap.size w W4 := hb13.trans (hb4.mono hb13.size)
      have HK4 : Hid (Has W4 w.heap.size kl.length kl) := hk4
      have HP4 : Hid (Has W4 W3.heap.size pl.length pl) := hp4
      have HR4 : Hid (Row W4 W1.heap.size (kl.length + 1) row0) := hr4
      have HB4 : Hid (Below w.heap.size w W4) := hb14
      have hl1 : W1.heap.size < W4.heap.size := hr4.lt
      have hl2 : W3.heap.size < W4.heap.size := hp4.lt
      have hl3 : w.heap.size < W4.heap.size := hk4.lt
      clear hk1 hb1 hb2 hrow0 hrow3 hb3 hb13 hk3 hp4 hb4 hr4 hk4 hb14 hsp hm ht hgp hgk hkl hpl hW1 hW2 hW4
      have t1 : True := trivial
      have t2 : True := trivial
      go_enter Tryd.func51, Tryd.ntmps51
      go_wp2_with (first | (go_at_call 23; first | (have _t := t1; refine (kp _).mono ?_; rintro e w0 ⟨rfl, hw0⟩; rw [← hw0]; clear hw0 w0 t1) | (refine (kk _).mono ?_; rintro e w0 ⟨rfl, hw0⟩; rw [← hw0]; clear hw0 w0)) | (go_at_call 60; first | (have _t := t2; refine hsk.mono ?_; rintro e w1 ⟨rfl, hw1⟩; rw [hw1]; clear hw1 w1 t2) | (refine hsp3.mono ?_; rintro e w1 ⟨rfl, hw1⟩; rw [hw1]; clear hw1 w1)))
      go_loopw [6, 8, 28] (fun v _ y wr => ∃ (q g c : Nat), q ≤ pl.length ∧ y = .int .i64 q ∧ v = .slice (some ⟨g, 0, none⟩) (kl.length + 1) c ∧ Hid (Row wr g (kl.length + 1) (rows (pl.take q) kl row0)) ∧ Hid (Has wr w.heap.size kl.length kl) ∧ Hid (Has wr W3.heap.size pl.length pl) ∧ Hid (Below w.heap.size w wr)) (fun _ _ y _ => pl.length - (intOf y).toNat)
      case atStart => exact ⟨0, W1.heap.size, kl.length + 1, Nat.zero_le _, rfl, rfl, HR4, HK4, HP4, HB4⟩
      case round =>
        obtain ⟨q, g, c, hq, rfl, rfl, hrow, hhk, hhp, hbel⟩ := hrel
        clear HR4 HK4 HP4 HB4 hsp3 hsk hmk
        by_cases hqp : q < pl.length
        · have cx := hhp.out.cell q hqp
          have hrt := rows_take pl kl row0 q hqp
          obtain ⟨x, hx⟩ : ∃ x, pl.getD q ByteArray.empty = x := ⟨_, rfl⟩
          rw [hx] at cx hrt
          have hfit := fits_with x kl (rows (pl.take q) kl row0) g c w.heap.size kl.length wr hlk hrow.out hhk.out
          rw [← hrt] at hfit
          have hl4 := hhk.out.lt
          have hl5 := hhp.out.lt
          clear hrt hx
          go_wp2_with (go_at_call 61; refine hfit.mono ?_; rintro e w5 ⟨⟨g5, c5, rfl, hg5, hr5⟩, hb5⟩)
          have HR5 : Hid (Row w5 g5 (kl.length + 1) (rows (pl.take (q + 1)) kl row0)) := hr5
          have HK5 : Hid (Has w5 w.heap.size kl.length kl) := hhk.out.below hb5 hl4
          have HP5 : Hid (Has w5 W3.heap.size pl.length pl) := hhp.out.below hb5 hl5
          have HB5 : Hid (Below w.heap.size w w5) := hbel.out.trans (hb5.mono hbel.out.size)
          clear hfit hr5 hb5 hrow hhk hhp hbel
          go_roundw
          case rel => exact ⟨q + 1, g5, c5, by omega, by go_num, by simp, HR5, HK5, HP5, HB5⟩
          case measure => simp [intOf]; omega
        · obtain rfl : q = pl.length := by omega
          have cl := hrow.out.cell kl.length (by omega)
          rw [List.take_length] at cl
          obtain ⟨bf, hbf⟩ : ∃ bf, rows pl kl row0 kl.length = bf := ⟨_, rfl⟩
          rw [hbf] at cl
          have HE : Hid (bf = fits pl kl) := hbf.symm
          clear hbf hrow
          go_wp2
          go_ret
          rw [← HE.out]
          exact ⟨rfl, hbel.out⟩

theorem spec_topic (p k : ByteArray) (w : World) (hp : p.size ≤ 1048576) (hk : k.size ≤ 1048576) :
    Calls Tryd.prog 18 #[.string p, .string k] w fun e w' => e = .returned (.bool (topic p k)) ∧ Below w.heap.size w w' := by
  have kp := fun W => ky.spec_key p W hp
  have kk := fun W => ky.spec_key k W hk
  cases hgp : ky.good p with
  | false =>
    have ht : topic p k = false := by unfold topic; rw [hgp]; rfl
    rw [ht]
    simp only [hgp] at kp
    clear kk ht hgp
    go_enter Tryd.func18, Tryd.ntmps18
    go_wp2_with (go_at_call 16; refine (kp _).mono ?_; rintro e w0 ⟨rfl, hw0⟩; rw [← hw0]; clear hw0 w0)
    go_ret
    exact ⟨rfl, Below.refl _ _⟩
  | true =>
    cases hgk : ky.good k with
    | false =>
      have ht : topic p k = false := by unfold topic; rw [hgk, Bool.and_false]; rfl
      rw [ht]
      simp only [hgp] at kp
      simp only [hgk] at kk
      clear ht hgp hgk
      have t1 : True := trivial
      go_enter Tryd.func18, Tryd.ntmps18
      go_wp2_with (go_at_call 16; first | (have _t := t1; refine (kp _).mono ?_; rintro e w0 ⟨rfl, hw0⟩; rw [← hw0]; clear hw0 w0 t1) | (refine (kk _).mono ?_; rintro e w0 ⟨rfl, hw0⟩; rw [← hw0]; clear hw0 w0))
      go_ret
      exact ⟨rfl, Below.refl _ _⟩
    | true =>
      have ht : topic p k = fits (dt.left p 0) (dt.left k 0) := by unfold topic; rw [hgp, hgk]; rfl
      rw [ht]
      simp only [hgp] at kp
      simp only [hgk] at kk
      have hsk := fun W => dt.spec_split k W hk
      have hsp := dt.spec_split p w hp
      have hlk := words_size k hk
      have hlp := words_size p hp
      obtain ⟨kl, hkl⟩ : ∃ l, dt.left k 0 = l := ⟨_, rfl⟩
      obtain ⟨pl, hpl⟩ : ∃ l, dt.left p 0 = l := ⟨_, rfl⟩
      rw [hkl, hpl]
      simp only [hkl] at hsk
      rw [hkl] at hlk
      rw [hpl] at hlp hsp
      clear hkl hpl ht hgp hgk
      have t1 : True := trivial
      have t2 : True := trivial
      go_enter Tryd.func18, Tryd.ntmps18
      go_wp2_with (first | (go_at_call 16; first | (have _t := t1; refine (kp _).mono ?_; rintro e w0 ⟨rfl, hw0⟩; rw [← hw0]; clear hw0 w0 t1) | (refine (kk _).mono ?_; rintro e w0 ⟨rfl, hw0⟩; rw [← hw0]; clear hw0 w0)) | (go_at_call 40; first | (have _t := t2; refine hsp.mono ?_; rintro e w1 ⟨g1, c1, rfl, hg1, hh1, hb1⟩; clear t2) | (refine (hsk w1).mono ?_; rintro e w2 ⟨g2, c2, rfl, hg2, hh2, hb2⟩)) | (go_at_call 39; refine (spec_words pl kl g1 c1 g2 c2 w2 hlp hlk (hh1.below hb2 hh1.lt) hh2).mono ?_; rintro e w3 ⟨rfl, hb3⟩))
      go_ret
      exact ⟨rfl, (hb1.trans (hb2.mono hb1.size)).trans (hb3.mono (Nat.le_trans hb1.size hb2.size))⟩
end Go.Proofs.YtfhhcbjieekfdaaDoor.ti
