/- The program's exchangeOf: an exchange with what is bound to it. -/
import Derived.Test.YtnooibeohdfcmaaGreatDoorRw13
import Derived.Deep.OwnRows
import Derived.Laws.OwnMore
import Derived.Test.YtnooibeohdfcmaaGreatDoorRw11
import Derived.Test.YtnooibeohdfcmaaGreatDoorRouteImpl
import Derived.Test.YtnooibeohdfcmaaGreatDoorRw09
import Derived.Laws.EntriesVeiled

/- The program's TopicMatch: it answers as 'topic' says, at every two texts of at most 1048576 bytes; new memory alone. -/
namespace Go.Proofs.YtnooibeohdfcmaaGreatDoor.ti
set_option linter.unusedVariables false
open Go.ChangeShapes Go.WideShapes Go.ChangeAt Go.RowKit Go.Proofs.YtnooibeohdfcmaaGreatDoor.sm Go.Proofs.YtnooibeohdfcmaaGreatDoor.tp Go.Proofs.YtnooibeohdfcmaaGreatDoor.ts

/-- block g is a row of just the bits f -/
def Row (w : World) (g m : Nat) (f : Nat → Bool) : Prop := ∃ cur, w.heap[g]? = some (.cells cur 4 (0, 0)) ∧ cur.size = m ∧ ∀ j, j < m → cur[j]? = some (.bool (f j))
theorem Row.cell {w : World} {g m : Nat} {f : Nat → Bool} (h : Row w g m f) (j : Nat) (hj : j < m) : w.cell? ⟨g, j, none⟩ = some (.bool (f j)) := by
  obtain ⟨cur, hg, _, hc⟩ := h
  simp [World.cell?, hg, hc j hj]
theorem Row.frozen {w : World} {g m : Nat} {f : Nat → Bool} (h : Row w g m f) (j : Nat) : w.frozen? ⟨g, j, none⟩ = false := by
  obtain ⟨cur, hg, _⟩ := h
  simp [World.frozen?, hg]
theorem Row.lt {w : World} {g m : Nat} {f : Nat → Bool} (h : Row w g m f) : g < w.heap.size := by
  obtain ⟨cur, hg, _⟩ := h
  exact (Array.getElem?_eq_some_iff.1 hg).1
theorem Row.below {w w' : World} {g m B : Nat} {f : Nat → Bool} (h : Row w g m f) (hb : Below B w w') (hg : g < B) : Row w' g m f := by
  obtain ⟨cur, h1, h2⟩ := h
  exact ⟨cur, by rw [hb.block g hg]; exact h1, h2⟩
theorem Row.congr {w : World} {g m : Nat} {f f' : Nat → Bool} (h : Row w g m f) (he : ∀ j, j < m → f j = f' j) : Row w g m f' := by
  obtain ⟨cur, h1, h2, h3⟩ := h
  exact ⟨cur, h1, h2, fun j hj => by rw [← he j hj]; exact h3 j hj⟩
theorem Row.set {w : World} {g m : Nat} {f : Nat → Bool} (h : Row w g m f) (i : Nat) (b : Bool) : Row (w.setCell ⟨g, i, none⟩ (.bool b)) g m (fun j => if j = i then b else f j) := by
  obtain ⟨cur, h1, h2, h3⟩ := h
  refine ⟨cur.setIfInBounds i (.bool b), heap_setCell_same w g i cur _ _ h1, by simpa using h2, fun j hj => ?_⟩
  show _ = some (Value.bool (if j = i then b else f j))
  by_cases e : j = i
  · subst e
    rw [if_pos rfl, Array.getElem?_setIfInBounds_self_of_lt (by omega)]
  · rw [if_neg e, Array.getElem?_setIfInBounds_ne (Ne.symm e)]
    exact h3 j hj
theorem row_made (w : World) (m : Nat) : Row (w.alloc (.cells (madeCells #[.bool false] m) 4)) w.heap.size m (fun _ => false) := by
  refine ⟨_, heap_alloc_new w _, size_madeCells _ _, fun j hj => ?_⟩
  rw [← Array.getElem?_toList, toList_madeCells_one]
  simp [hj]

def upto (c : Nat) (f : Nat → Bool) (j : Nat) : Bool := if j ≤ c then f j else false
theorem upto_next (c : Nat) (f : Nat → Bool) (b : Bool) (hb : f (c + 1) = b) : ∀ j, (if j = c + 1 then b else upto c f j) = upto (c + 1) f j := by
  intro j
  unfold upto
  by_cases e : j = c + 1
  · subst e; rw [if_pos rfl, if_pos (Nat.le_refl _), hb]
  · rw [if_neg e]
    by_cases h : j ≤ c
    · rw [if_pos h, if_pos (by omega)]
    · rw [if_neg h, if_neg (by omega)]

theorem dec_same (x y : ByteArray) : decide (x = y) = (x.toList == y.toList) := by
  by_cases e : x = y
  · subst e; simp
  · have e2 : ¬ x.toList = y.toList := fun h => e (of_same h)
    rw [decide_eq_false e]; simp [e2]
theorem dec_star (x : ByteArray) : decide (x = star) = (x.toList == [42]) := by
  rw [dec_same]
  congr 1
  rw [Lib.toList_data]
  rfl

set_option maxRecDepth 100000 in
set_option maxHeartbeats 1000000 in
theorem fits_with (x : ByteArray) (k : List ByteArray) (r : Nat → Bool) (g c gk ck : Nat) (w : World) (hk : k.length ≤ 1048577) (hR : Row w g (k.length + 1) r) (hK : Has w gk ck k) :
    Calls Tryz.prog 75 #[.slice (some ⟨g, 0, none⟩) (k.length + 1 : Nat) c, .string x, .slice (some ⟨gk, 0, none⟩) k.length ck] w fun e w' => (∃ g' c', e = .returned (.slice (some ⟨g', 0, none⟩) (k.length + 1 : Nat) c') ∧ w.heap.size ≤ g' ∧ Row w' g' (k.length + 1) (nx x k r)) ∧ Below w.heap.size w w' := by
  have HR : Hid (Row w g (k.length + 1) r) := hR
  have HK : Hid (Has w gk ck k) := hK
  have hgl := hR.lt
  have hgk := hK.lt
  clear hR hK
  have hmk := run_make_row' (P := Tryz.prog) 108 4 (.bool false) 1 Tryz.underlying108 infoB rfl .i64 .i64 (k.length + 1) (by omega) (by omega) w
  rw [show ((k.length + 1 : Nat) : Int) = (k.length : Int) + 1 by omega] at hmk
  have hrow0 := row_made w (k.length + 1)
  have hbW : Below w.heap.size w (w.alloc (.cells (madeCells #[.bool false] (k.length + 1)) 4)) := (Below.refl _ _).alloc (Nat.le_refl _) _
  have hWs : w.heap.size < (w.alloc (.cells (madeCells #[.bool false] (k.length + 1)) 4)).heap.size := by simp
  obtain ⟨W, hW⟩ : ∃ W, w.alloc (.cells (madeCells #[.bool false] (k.length + 1)) 4) = W := ⟨_, rfl⟩
  rw [hW] at hmk hrow0 hbW hWs
  clear hW
  have HRW : Hid (Row W g (k.length + 1) r) := HR.out.below hbW hgl
  have HKW : Hid (Has W gk ck k) := HK.out.below hbW hgk
  have c0 := HRW.out.cell 0 (by omega)
  have d0 := hrow0.cell 0 (by omega)
  have f0 := hrow0.frozen 0
  have HR0 : Hid (Row W w.heap.size (k.length + 1) (fun _ => false)) := hrow0
  have hne : g ≠ w.heap.size := by omega
  clear hrow0
  by_cases hxh : x = hash
  · have HX : Hid (x = hash) := hxh
    have h35 : x.toList = [35] := by rw [hxh, Lib.toList_data]; rfl
    clear hxh
    have hS : Row (W.setCell ⟨w.heap.size, 0, none⟩ (.bool (r 0))) w.heap.size (k.length + 1) (upto 0 (nx x k r)) := (HR0.out.set 0 (r 0)).congr (fun j hj => by
      show (if j = 0 then r 0 else false) = upto 0 (nx x k r) j
      unfold upto
      by_cases e : j = 0
      · subst e; rw [if_pos rfl, if_pos (Nat.le_refl _), nx_zero, HX.out]; simp
      · rw [if_neg e, if_neg (by omega)])
    have HS : Hid (Row (W.setCell ⟨w.heap.size, 0, none⟩ (.bool (r 0))) w.heap.size (k.length + 1) (upto 0 (nx x k r))) := hS
    have HB : Hid (Below w.heap.size w (W.setCell ⟨w.heap.size, 0, none⟩ (.bool (r 0)))) := hbW.setCell (Nat.le_refl _) _
    clear hS
    go_enter Tryz.func75, Tryz.ntmps75
    go_wp2
    go_loopw [23, 8] (fun y _ wr => ∃ q : Nat, q ≤ k.length ∧ y = .int .i64 q ∧ Hid (Row wr w.heap.size (k.length + 1) (upto q (nx x k r))) ∧ Hid (Below w.heap.size w wr)) (fun y _ _ => k.length - (intOf y).toNat)
    case atStart => exact ⟨0, Nat.zero_le _, rfl, HS, HB⟩
    case round =>
      obtain ⟨q, hq, rfl, hrow, hbel⟩ := hrel
      by_cases hqk : q < k.length
      · have cr := (HR.out.below hbel.out hgl).cell (q + 1) (by omega)
        have cn := hrow.out.cell q (by omega)
        have cd := hrow.out.cell (q + 1) (by omega)
        have fd := hrow.out.frozen (q + 1)
        have hv : nx x k r (q + 1) = (r (q + 1) || nx x k r q) := by rw [HX.out, nx_hash]
        rw [show upto q (nx x k r) q = nx x k r q by simp [upto]] at cn
        rw [show upto q (nx x k r) (q + 1) = false by unfold upto; rw [if_neg (by omega)]] at cd
        obtain ⟨b1, hb1⟩ : ∃ b, r (q + 1) = b := ⟨_, rfl⟩
        obtain ⟨b2, hb2⟩ : ∃ b, nx x k r q = b := ⟨_, rfl⟩
        rw [hb1] at cr hv
        rw [hb2] at cn hv
        have HV : Hid (nx x k r (q + 1) = (b1 || b2)) := hv
        clear hv hb1 hb2
        have hrow2 : ∀ b, (b1 || b2) = b → Row (wr.setCell ⟨w.heap.size, q + 1, none⟩ (.bool b)) w.heap.size (k.length + 1) (upto (q + 1) (nx x k r)) := fun b hb => (hrow.out.set (q + 1) b).congr (fun j hj => upto_next q (nx x k r) b (HV.out.trans hb) j)
        have HR2 : Hid (∀ b, (b1 || b2) = b → Row (wr.setCell ⟨w.heap.size, q + 1, none⟩ (.bool b)) w.heap.size (k.length + 1) (upto (q + 1) (nx x k r))) := hrow2
        have HB2 : Hid (∀ b, Below w.heap.size w (wr.setCell ⟨w.heap.size, q + 1, none⟩ (.bool b))) := fun b => hbel.out.setCell (Nat.le_refl _) _
        clear hrow2 hrow hbel
        cases b1
        · go_wp2
          go_roundw
          case rel => exact ⟨q + 1, by omega, by go_num, HR2.out b2 rfl, HB2.out _⟩
          case measure => simp [intOf]; omega
        · go_wp2
          go_roundw
          case rel => exact ⟨q + 1, by omega, by go_num, HR2.out true rfl, HB2.out _⟩
          case measure => simp [intOf]; omega
      · obtain rfl : q = k.length := by omega
        go_wp2
        go_ret
        exact ⟨⟨w.heap.size, k.length + 1, by simp, Nat.le_refl _, hrow.out.congr (fun j hj => by unfold upto; rw [if_pos (by omega)])⟩, hbel.out⟩
  · have h35 : ¬ x.toList = [35] := fun e => hxh (of_bytes e)
    have b35 : (x.toList == [35]) = false := by simpa using h35
    have HX : Hid (x ≠ tp.hash) := hxh
    have HS : Hid (Row W w.heap.size (k.length + 1) (upto 0 (nx x k r))) := HR0.out.congr (fun j hj => by
      show false = upto 0 (nx x k r) j
      unfold upto
      by_cases e : j = 0
      · subst e; rw [if_pos (Nat.le_refl _), nx_zero, decide_eq_false HX.out]; rfl
      · rw [if_neg (by omega)])
    have HB : Hid (Below w.heap.size w W) := hbW
    clear hxh
    go_enter Tryz.func75, Tryz.ntmps75
    go_wp2
    go_loopw [45, 9, 10] (fun y _ _ wr => ∃ q : Nat, q ≤ k.length ∧ y = .int .i64 q ∧ Hid (Row wr w.heap.size (k.length + 1) (upto q (nx x k r))) ∧ Hid (Below w.heap.size w wr)) (fun y _ _ _ => k.length - (intOf y).toNat)
    case atStart => exact ⟨0, Nat.zero_le _, rfl, HS, HB⟩
    case round =>
      obtain ⟨q, hq, rfl, hrow, hbel⟩ := hrel
      by_cases hqk : q < k.length
      · have cr := (HR.out.below hbel.out hgl).cell q (by omega)
        have ck2 := (HK.out.below hbel.out hgk).cell q hqk
        have cd := hrow.out.cell (q + 1) (by omega)
        have fd := hrow.out.frozen (q + 1)
        have hv : nx x k r (q + 1) = (r q && (decide (x = star) || decide (x = k.getD q ByteArray.empty))) := by rw [nx_other _ _ _ _ HX.out]
        rw [show upto q (nx x k r) (q + 1) = false by unfold upto; rw [if_neg (by omega)]] at cd
        obtain ⟨y, hy⟩ : ∃ y, k.getD q ByteArray.empty = y := ⟨_, rfl⟩
        rw [hy] at ck2 hv
        obtain ⟨b1, hb1⟩ : ∃ b, r q = b := ⟨_, rfl⟩
        rw [hb1] at cr hv
        rw [dec_star, dec_same] at hv
        obtain ⟨b2, hb2⟩ : ∃ b, (x.toList == [42]) = b := ⟨_, rfl⟩
        obtain ⟨b3, hb3⟩ : ∃ b, (x.toList == y.toList) = b := ⟨_, rfl⟩
        rw [hb2, hb3] at hv
        have HV : Hid (nx x k r (q + 1) = (b1 && (b2 || b3))) := hv
        clear hv hb1 hy
        have HR2 : Hid (∀ b, (b1 && (b2 || b3)) = b → Row (wr.setCell ⟨w.heap.size, q + 1, none⟩ (.bool b)) w.heap.size (k.length + 1) (upto (q + 1) (nx x k r))) := fun b hb => (hrow.out.set (q + 1) b).congr (fun j hj => upto_next q (nx x k r) b (HV.out.trans hb) j)
        have HB2 : Hid (∀ b, Below w.heap.size w (wr.setCell ⟨w.heap.size, q + 1, none⟩ (.bool b))) := fun b => hbel.out.setCell (Nat.le_refl _) _
        clear hrow hbel
        cases b1
        · go_wp2
          go_roundw
          case rel => exact ⟨q + 1, by omega, by go_num, HR2.out false rfl, HB2.out _⟩
          case measure => simp [intOf]; omega
        · cases b2
          · go_wp2
            go_roundw
            case rel => exact ⟨q + 1, by omega, by go_num, HR2.out b3 rfl, HB2.out _⟩
            case measure => simp [intOf]; omega
          · go_wp2
            go_roundw
            case rel => exact ⟨q + 1, by omega, by go_num, HR2.out true rfl, HB2.out _⟩
            case measure => simp [intOf]; omega
      · obtain rfl : q = k.length := by omega
        go_wp2
        go_ret
        exact ⟨⟨w.heap.size, k.length + 1, by simp, Nat.le_refl _, hrow.out.congr (fun j hj => by unfold upto; rw [if_pos (by omega)])⟩, hbel.out⟩

theorem words_size (s : ByteArray) (hs : s.size ≤ 1048576) : (dt.left s 0).length ≤ 1048577 := by rw [dt.words_length]; have := dt.count_le s; omega
set_option maxRecDepth 100000 in
set_option maxHeartbeats 1000000 in
theorem impl_topic (p k : ByteArray) (m : Int) (w : World) (hp : p.size ≤ 1048576) (hk : k.size ≤ 1048576) (hm : w.cell? ⟨0, 0, none⟩ = some (.int .i64 m)) :
    Calls Tryz.prog 59 #[.string p, .string k] w fun e w' => e = .returned (.bool (topic p k)) ∧ Below w.heap.size w w' := by
  have kp := fun W => ky.impl_key p W hp
  have kk := fun W => ky.impl_key k W hk
  cases hgp : ky.good p with
  | false =>
    have ht : topic p k = false := by unfold topic; rw [hgp]; rfl
    rw [ht]
    simp only [hgp] at kp
    clear hm kk ht hgp
    go_enter Tryz.func59, Tryz.ntmps59
    go_wp2_with (go_at_call 26; refine (kp _).mono ?_; rintro e w0 ⟨rfl, hw0⟩; obtain rfl := hw0.symm)
    go_ret
    exact ⟨rfl, Below.refl _ _⟩
  | true =>
    cases hgk : ky.good k with
    | false =>
      have ht : topic p k = false := by unfold topic; rw [hgk, Bool.and_false]; rfl
      rw [ht]
      simp only [hgp] at kp
      simp only [hgk] at kk
      clear hm ht hgp hgk
      have t1 : True := trivial
      go_enter Tryz.func59, Tryz.ntmps59
      go_wp2_with (go_at_call 26; first | (have _t := t1; refine (kp _).mono ?_; rintro e w0 ⟨rfl, hw0⟩; obtain rfl := hw0.symm; clear t1) | (refine (kk _).mono ?_; rintro e w0 ⟨rfl, hw0⟩; obtain rfl := hw0.symm))
      go_ret
      exact ⟨rfl, Below.refl _ _⟩
    | true =>
      have ht : topic p k = fits (dt.left p 0) (dt.left k 0) := by unfold topic; rw [hgp, hgk]; rfl
      rw [ht]
      simp only [hgp] at kp
      simp only [hgk] at kk
      have hgM : 0 < w.heap.size := block_lt_of_cell hm
      have hsk := dt.split k m w hk hm
      have hsp := fun (W : World) (h : W.cell? ⟨0, 0, none⟩ = some (.int .i64 m)) => dt.split p m W hp h
      have hlk := words_size k hk
      have hlp := words_size p hp
      obtain ⟨kl, hkl⟩ : ∃ l, dt.left k 0 = l := ⟨_, rfl⟩
      obtain ⟨pl, hpl⟩ : ∃ l, dt.left p 0 = l := ⟨_, rfl⟩
      rw [hkl, hpl]
      rw [hkl] at hsk hlk
      rw [hpl] at hlp
      simp only [hpl] at hsp
      have HM : Hid (w.cell? ⟨0, 0, none⟩ = some (.int .i64 m)) := hm
      have hk1 := dt.has_made w kl
      have hb1 : Below w.heap.size w (w.alloc (.cells (kl.map Value.string).toArray 9)) := (Below.refl _ _).alloc (Nat.le_refl _) _
      have hs1 : w.heap.size < (w.alloc (.cells (kl.map Value.string).toArray 9)).heap.size := by simp
      obtain ⟨W1, hW1⟩ : ∃ W, w.alloc (.cells (kl.map Value.string).toArray 9) = W := ⟨_, rfl⟩
      rw [hW1] at hk1 hb1 hs1
      simp only [hW1] at hsk
      have hmk := run_make_row' (P := Tryz.prog) 108 4 (.bool false) 1 Tryz.underlying108 infoB rfl .i64 .i64 (kl.length + 1) (by omega) (by omega) W1
      rw [show ((kl.length + 1 : Nat) : Int) = (kl.length : Int) + 1 by omega] at hmk
      have hrow0 := row_made W1 (kl.length + 1)
      have hb2 : Below W1.heap.size W1 (W1.alloc (.cells (madeCells #[.bool false] (kl.length + 1)) 4)) := (Below.refl _ _).alloc (Nat.le_refl _) _
      obtain ⟨W2, hW2⟩ : ∃ W, W1.alloc (.cells (madeCells #[.bool false] (kl.length + 1)) 4) = W := ⟨_, rfl⟩
      rw [hW2] at hmk hrow0 hb2
      have d0 := hrow0.cell 0 (by omega)
      have f0 := hrow0.frozen 0
      obtain ⟨W3, hW3⟩ : ∃ W, W2.setCell ⟨W1.heap.size, 0, none⟩ (.bool true) = W := ⟨_, rfl⟩
      have hrow3 : Row W3 W1.heap.size (kl.length + 1) row0 := by
        rw [← hW3]
        exact (hrow0.set 0 true).congr (fun j hj => by show (if j = 0 then true else false) = row0 j; unfold row0; by_cases e : j = 0 <;> simp [e])
      have hb3 : Below W1.heap.size W1 W3 := by rw [← hW3]; exact hb2.setCell (Nat.le_refl _) _
      have hb13 : Below w.heap.size w W3 := hb1.trans (hb3.mono (by omega))
      have hk3 := hk1.below hb3 hs1
      have hsp3 := hsp W3 ((hb13.cell (p := ⟨0, 0, none⟩) hgM).trans HM.out)
      have hp4 := dt.has_made W3 pl
      have hb4 : Below W3.heap.size W3 (W3.alloc (.cells (pl.map Value.string).toArray 9)) := (Below.refl _ _).alloc (Nat.le_refl _) _
      obtain ⟨W4, hW4⟩ : ∃ W, W3.alloc (.cells (pl.map Value.string).toArray 9) = W := ⟨_, rfl⟩
      rw [hW4] at hp4 hb4
      simp only [hW4] at hsp3
      have hr4 := hrow3.below hb4 hrow3.lt
      have hk4 := hk3.below hb4 hk3.lt
      have hb14 : Below w.heap.size w W4 := hb13.trans (hb4.mono hb13.size)
      have HK4 : Hid (Has W4 w.heap.size kl.length kl) := hk4
      have HP4 : Hid (Has W4 W3.heap.size pl.length pl) := hp4
      have HR4 : Hid (Row W4 W1.heap.size (kl.length + 1) row0) := hr4
      have HB4 : Hid (Below w.heap.size w W4) := hb14
      have hl1 : W1.heap.size < W4.heap.size := hr4.lt
      have hl2 : W3.heap.size < W4.heap.size := hp4.lt
      have hl3 : w.heap.size < W4.heap.size := hk4.lt
      clear hk1 hb1 hb2 hrow0 hrow3 hb3 hb13 hk3 hp4 hb4 hr4 hk4 hb14 hsp hm ht hgp hgk hkl hpl hW1 hW2 hW4
      have t1 : True := trivial
      have t2 : True := trivial
      go_enter Tryz.func59, Tryz.ntmps59
      go_wp2_with (first | (go_at_call 26; first | (have _t := t1; refine (kp _).mono ?_; rintro e w0 ⟨rfl, hw0⟩; rw [← hw0]; clear hw0 w0 t1) | (refine (kk _).mono ?_; rintro e w0 ⟨rfl, hw0⟩; rw [← hw0]; clear hw0 w0)) | (go_at_call 74; first | (have _t := t2; refine hsk.mono ?_; rintro e w1 ⟨rfl, hw1⟩; rw [hw1]; clear hw1 w1 t2) | (refine hsp3.mono ?_; rintro e w1 ⟨rfl, hw1⟩; rw [hw1]; clear hw1 w1)))
      go_loopw [6, 8, 28] (fun v _ y wr => ∃ (q g c : Nat), q ≤ pl.length ∧ y = .int .i64 q ∧ v = .slice (some ⟨g, 0, none⟩) (kl.length + 1) c ∧ Hid (Row wr g (kl.length + 1) (rows (pl.take q) kl row0)) ∧ Hid (Has wr w.heap.size kl.length kl) ∧ Hid (Has wr W3.heap.size pl.length pl) ∧ Hid (Below w.heap.size w wr)) (fun _ _ y _ => pl.length - (intOf y).toNat)
      case atStart => exact ⟨0, W1.heap.size, kl.length + 1, Nat.zero_le _, rfl, rfl, HR4, HK4, HP4, HB4⟩
      case round =>
        obtain ⟨q, g, c, hq, rfl, rfl, hrow, hhk, hhp, hbel⟩ := hrel
        clear HR4 HK4 HP4 HB4 hsp3 hsk hmk
        by_cases hqp : q < pl.length
        · have cx := hhp.out.cell q hqp
          have hrt := rows_take pl kl row0 q hqp
          obtain ⟨x, hx⟩ : ∃ x, pl.getD q ByteArray.empty = x := ⟨_, rfl⟩
          rw [hx] at cx hrt
          have hfit := fits_with x kl (rows (pl.take q) kl row0) g c w.heap.size kl.length wr hlk hrow.out hhk.out
          rw [← hrt] at hfit
          have hl4 := hhk.out.lt
          have hl5 := hhp.out.lt
          clear hrt hx
          go_wp2_with (go_at_call 75; refine hfit.mono ?_; rintro e w5 ⟨⟨g5, c5, rfl, hg5, hr5⟩, hb5⟩)
          have HR5 : Hid (Row w5 g5 (kl.length + 1) (rows (pl.take (q + 1)) kl row0)) := hr5
          have HK5 : Hid (Has w5 w.heap.size kl.length kl) := hhk.out.below hb5 hl4
          have HP5 : Hid (Has w5 W3.heap.size pl.length pl) := hhp.out.below hb5 hl5
          have HB5 : Hid (Below w.heap.size w w5) := hbel.out.trans (hb5.mono hbel.out.size)
          clear hfit hr5 hb5 hrow hhk hhp hbel
          go_roundw
          case rel => exact ⟨q + 1, g5, c5, by omega, by go_num, by simp, HR5, HK5, HP5, HB5⟩
          case measure => simp [intOf]; omega
        · obtain rfl : q = pl.length := by omega
          have cl := hrow.out.cell kl.length (by omega)
          rw [List.take_length] at cl
          obtain ⟨bf, hbf⟩ : ∃ bf, rows pl kl row0 kl.length = bf := ⟨_, rfl⟩
          rw [hbf] at cl
          have HE : Hid (bf = fits pl kl) := hbf.symm
          clear hbf hrow
          go_wp2
          go_ret
          rw [← HE.out]
          exact ⟨rfl, hbel.out⟩

theorem spec_topic (p k : ByteArray) (w : World) (hp : p.size ≤ 1048576) (hk : k.size ≤ 1048576) :
    Calls Tryz.prog 34 #[.string p, .string k] w fun e w' => e = .returned (.bool (topic p k)) ∧ Below w.heap.size w w' := by
  have kp := fun W => ky.spec_key p W hp
  have kk := fun W => ky.spec_key k W hk
  cases hgp : ky.good p with
  | false =>
    have ht : topic p k = false := by unfold topic; rw [hgp]; rfl
    rw [ht]
    simp only [hgp] at kp
    clear kk ht hgp
    go_enter Tryz.func34, Tryz.ntmps34
    go_wp2_with (go_at_call 32; refine (kp _).mono ?_; rintro e w0 ⟨rfl, hw0⟩; rw [← hw0]; clear hw0 w0)
    go_ret
    exact ⟨rfl, Below.refl _ _⟩
  | true =>
    cases hgk : ky.good k with
    | false =>
      have ht : topic p k = false := by unfold topic; rw [hgk, Bool.and_false]; rfl
      rw [ht]
      simp only [hgp] at kp
      simp only [hgk] at kk
      clear ht hgp hgk
      have t1 : True := trivial
      go_enter Tryz.func34, Tryz.ntmps34
      go_wp2_with (go_at_call 32; first | (have _t := t1; refine (kp _).mono ?_; rintro e w0 ⟨rfl, hw0⟩; rw [← hw0]; clear hw0 w0 t1) | (refine (kk _).mono ?_; rintro e w0 ⟨rfl, hw0⟩; rw [← hw0]; clear hw0 w0))
      go_ret
      exact ⟨rfl, Below.refl _ _⟩
    | true =>
      have ht : topic p k = fits (dt.left p 0) (dt.left k 0) := by unfold topic; rw [hgp, hgk]; rfl
      rw [ht]
      simp only [hgp] at kp
      simp only [hgk] at kk
      have hsk := fun W => dt.spec_split k W hk
      have hsp := dt.spec_split p w hp
      have hlk := words_size k hk
      have hlp := words_size p hp
      obtain ⟨kl, hkl⟩ : ∃ l, dt.left k 0 = l := ⟨_, rfl⟩
      obtain ⟨pl, hpl⟩ : ∃ l, dt.left p 0 = l := ⟨_, rfl⟩
      rw [hkl, hpl]
      simp only [hkl] at hsk
      rw [hkl] at hlk
      rw [hpl] at hlp hsp
      clear hkl hpl ht hgp hgk
      have t1 : True := trivial
      have t2 : True := trivial
      go_enter Tryz.func34, Tryz.ntmps34
      go_wp2_with (first | (go_at_call 32; first | (have _t := t1; refine (kp _).mono ?_; rintro e w0 ⟨rfl, hw0⟩; rw [← hw0]; clear hw0 w0 t1) | (refine (kk _).mono ?_; rintro e w0 ⟨rfl, hw0⟩; rw [← hw0]; clear hw0 w0)) | (go_at_call 63; first | (have _t := t2; refine hsp.mono ?_; rintro e w1 ⟨g1, c1, rfl, hg1, hh1, hb1⟩; clear t2) | (refine (hsk w1).mono ?_; rintro e w2 ⟨g2, c2, rfl, hg2, hh2, hb2⟩)) | (go_at_call 62; refine (spec_words pl kl g1 c1 g2 c2 w2 hlp hlk (hh1.below hb2 hh1.lt) hh2).mono ?_; rintro e w3 ⟨rfl, hb3⟩))
      go_ret
      exact ⟨rfl, (hb1.trans (hb2.mono hb1.size)).trans (hb3.mono (Nat.le_trans hb1.size hb2.size))⟩
end Go.Proofs.YtnooibeohdfcmaaGreatDoor.ti

/- The exchange of a name with what is bound to it, and by which of it a message goes: the program's. -/
namespace Go.Proofs.YtnooibeohdfcmaaGreatDoor.rtg
open Go.ChangeShapes Go.WideShapes Go.ChangeAt Go.RowKit Go.Proofs.YtnooibeohdfcmaaGreatDoor.fl Go.Proofs.YtnooibeohdfcmaaGreatDoor.rr Go.Proofs.YtnooibeohdfcmaaGreatDoor.rc Go.Proofs.YtnooibeohdfcmaaGreatDoor.ro Go.Proofs.YtnooibeohdfcmaaGreatDoor.rtp Go.Proofs.YtnooibeohdfcmaaGreatDoor.rta Go.Proofs.YtnooibeohdfcmaaGreatDoor.rtk
set_option linter.unusedVariables false

/-- the dynamic type of an exchange by its kind -/
def kt (kind : Int) : TypeId := if kind = 0 then 89 else if kind = 1 then 90 else 91
theorem meth_bound (kind : Int) (v : Value) (w : World) : (method 261 (kt kind) (.agg #[v]) "loop.example/g00227/impl.bound").run Tryz.prog w = .ok (128, v) w := by
  unfold kt
  split
  · kernel_rfl
  · split <;> kernel_rfl
theorem bound (v : Value) (w : World) : Calls Tryz.prog 128 #[v] w fun e w' => e = .returned v ∧ w' = w := by
  go_enter Tryz.func128, Tryz.ntmps128
  go_wp2
  go_ret
  exact ⟨rfl, rfl⟩
set_option maxRecDepth 100000 in
theorem goes_by (kind : Int) (hk : 0 ≤ kind ∧ kind ≤ 2) (v : Value) (b : Bi) (key : ByteArray) (m : Int) (w : World) (hb : b.k.size ≤ 1048576) (hkey : key.size ≤ 1048576) (hm : w.cell? ⟨0, 0, none⟩ = some (.int .i64 m)) :
    Calls Tryz.prog 29 #[.iface (kt kind) (.agg #[v]), .agg #[.string b.x, .string b.k, .string b.q], .string key] w fun e w' => e = .returned (.bool (goes kind b key)) ∧ Below w.heap.size w w' := by
  have hkk : kind = 0 ∨ kind = 1 ∨ kind = 2 := by omega
  rcases hkk with rfl | rfl | rfl
  · rw [show kt 0 = 89 from rfl]
    have t0 : ∀ W : World, (Instr.typeAssert (.iface 89 (.agg #[v])) 54 89 true).run Tryz.prog W = .ok (.tuple #[.agg #[v], .bool true]) W := fun W => by kernel_rfl
    have hg : goes 0 b key = (b.k.toList == key.toList) := by
      rw [← ti.dec_same]
      simp [goes]
    rw [hg]
    go_enter Tryz.func29, Tryz.ntmps29
    go_wp2
    go_ret
    exact ⟨rfl, (Below.refl _ _).alloc (Nat.le_refl _) _⟩
  · rw [show kt 1 = 90 from rfl]
    have t0 : ∀ W : World, (Instr.typeAssert (.iface 90 (.agg #[v])) 54 89 true).run Tryz.prog W = .ok (.tuple #[.agg #[.slice none 0 0], .bool false]) W := fun W => by kernel_rfl
    have t1 : ∀ W : World, (Instr.typeAssert (.iface 90 (.agg #[v])) 54 90 true).run Tryz.prog W = .ok (.tuple #[.agg #[v], .bool true]) W := fun W => by kernel_rfl
    have hg : goes 1 b key = true := by simp [goes]
    rw [hg]
    go_enter Tryz.func29, Tryz.ntmps29
    go_wp2
    go_ret
    exact ⟨rfl, (Below.refl _ _).alloc (Nat.le_refl _) _⟩
  · rw [show kt 2 = 91 from rfl]
    have t0 : ∀ W : World, (Instr.typeAssert (.iface 91 (.agg #[v])) 54 89 true).run Tryz.prog W = .ok (.tuple #[.agg #[.slice none 0 0], .bool false]) W := fun W => by kernel_rfl
    have t1 : ∀ W : World, (Instr.typeAssert (.iface 91 (.agg #[v])) 54 90 true).run Tryz.prog W = .ok (.tuple #[.agg #[.slice none 0 0], .bool false]) W := fun W => by kernel_rfl
    have t2 : ∀ W : World, (Instr.typeAssert (.iface 91 (.agg #[v])) 54 91 true).run Tryz.prog W = .ok (.tuple #[.agg #[v], .bool true]) W := fun W => by kernel_rfl
    have hg : goes 2 b key = tp.topic b.k key := by simp [goes]
    rw [hg]
    have hb0 : Below w.heap.size w (w.alloc (.cells #[.string b.x, .string b.k, .string b.q] 45)) := (Below.refl _ _).alloc (Nat.le_refl _) _
    have ht := ti.impl_topic b.k key m _ hb hkey ((hb0.cell (p := ⟨0, 0, none⟩) (block_lt_of_cell hm)).trans hm)
    clear hm
    go_enter Tryz.func29, Tryz.ntmps29
    go_wp2_with (go_at_call 59; refine ht.mono ?_; rintro e w1 ⟨rfl, hb1⟩)
    go_ret
    exact ⟨rfl, hb0.trans (hb1.mono hb0.size)⟩
end Go.Proofs.YtnooibeohdfcmaaGreatDoor.rtg

/- The program's exchangeOf: an exchange with what is bound to it. -/
namespace Go.Proofs.YtnooibeohdfcmaaGreatDoor.rto
open Go.ChangeShapes Go.WideShapes Go.ChangeAt Go.RowKit Go.Proofs.YtnooibeohdfcmaaGreatDoor.fl Go.Proofs.YtnooibeohdfcmaaGreatDoor.rr Go.Proofs.YtnooibeohdfcmaaGreatDoor.rc Go.Proofs.YtnooibeohdfcmaaGreatDoor.ro Go.Proofs.YtnooibeohdfcmaaGreatDoor.rtp Go.Proofs.YtnooibeohdfcmaaGreatDoor.rta Go.Proofs.YtnooibeohdfcmaaGreatDoor.rtk Go.Proofs.YtnooibeohdfcmaaGreatDoor.rtg
set_option linter.unusedVariables false

/-- what is bound to x, of the first k -/
def of (x : ByteArray) (bs : List Bi) : List Bi := bs.filter fun b => decide (b.x = x)
theorem of_no {x : ByteArray} {bs : List Bi} {k : Nat} {b : Bi} (h : bs[k]? = some b) (hk : b.x ≠ x) : of x (bs.take (k + 1)) = of x (bs.take k) := by
  unfold of
  rw [List.take_add_one, List.filter_append, h]
  simp [hk]
theorem of_yes {x : ByteArray} {bs : List Bi} {k : Nat} {b : Bi} (h : bs[k]? = some b) (hk : b.x = x) : of x (bs.take (k + 1)) = of x (bs.take k) ++ [b] := by
  unfold of
  rw [List.take_add_one, List.filter_append, h]
  simp [hk]
theorem of_len (x : ByteArray) (bs : List Bi) : (of x bs).length ≤ bs.length := List.length_filter_le _ _
theorem own_mono {w : World} {B B' s n : Nat} {e : TypeId} {v : Value} {xs : List Value} (h : w.ownsRow B e s v n xs) (hB : B' ≤ B) : w.ownsRow B' e s v n xs := by
  obtain ⟨h1, h2 | ⟨g, cap, cur, h3, h4, h5⟩⟩ := h
  · exact ⟨h1, .inl h2⟩
  · exact ⟨h1, .inr ⟨g, cap, cur, h3, by omega, h5⟩⟩
/-- the answer of exchangeOf -/
def Ex0 (w : World) (es : List Ex) (bs : List Bi) (x : ByteArray) (e : Ending) (w' : World) : Prop :=
  Below w.heap.size w w' ∧ ((kindOf es x < 0 ∧ e = .returned (.tuple #[.nilIface, .bool false])) ∨ (0 ≤ kindOf es x ∧ ∃ v, e = .returned (.tuple #[.iface (kt (kindOf es x)) (.agg #[v]), .bool true]) ∧ AllB w' w.heap.size v (of x bs)))
set_option maxRecDepth 100000 in
set_option maxHeartbeats 2000000 in
theorem exchange_of (es : List Ex) (bs : List Bi) (ge ce gb cb : Nat) (x : ByteArray) (w : World) (hel : es.length ≤ 1048576) (hbl : bs.length ≤ 1048576) (hE : RE w ge es) (hB : RB w gb bs) (ea ba : Option Addr) (hea : Hid (apa.NQ ea ⟨ge, 0, none⟩ es.length ce)) (hba : Hid (apa.NQ ba ⟨gb, 0, none⟩ bs.length cb)) (hok : OkR es bs) :
    Calls Tryz.prog 28 #[.agg #[.slice ea es.length ce, .slice ba bs.length cb], .string x] w fun e w' => Ex0 w es bs x e w' := by
  have hA := bnew w #[.slice ea es.length ce, .slice ba bs.length cb] 27
  have hb : Below w.heap.size w (w.alloc (.cells #[.slice ea es.length ce, .slice ba bs.length cb] 27)) := (Below.refl _ _).alloc (Nat.le_refl _) _
  obtain ⟨W, hW⟩ : ∃ W, w.alloc (.cells #[.slice ea es.length ce, .slice ba bs.length cb] 27) = W := ⟨_, rfl⟩
  have hlt : w.heap.size < W.heap.size := by rw [← hW]; simp
  rw [hW] at hA hb
  have x0 : W.cell? ⟨w.heap.size, 0, none⟩ = some (.slice ea es.length ce) := bcell hA rfl
  have HA : Hid (W.heap[w.heap.size]? = some (.cells #[.slice ea es.length ce, .slice ba bs.length cb] 27 (0, 0))) := hA
  have hf := ri.find_ex es ge ce x W hel (hE.below hb) hok.eu ea hea
  have HE : Hid (RE W ge es) := hE.below hb
  have HB : Hid (RB W gb bs) := hB.below hb
  have HOK : Hid (OkR es bs) := hok
  clear hA hE hB hok
  go_enter Tryz.func28, Tryz.ntmps28
  go_wp2_with (go_at_call 46; fail)
  clear hW
  refine hf.mono ?_
  rintro e w1 ⟨⟨p, fb, rfl, hpos, hfb⟩, hb1⟩
  have hbw1 : Below w.heap.size w w1 := hb.trans (hb1.mono hb.size)
  have hke : ∀ (i : Nat) e, es[i]? = some e → 0 ≤ e.k ∧ e.k ≤ 2 := fun i e he => by
    have := HOK.out.eo i e he
    simp only [exOk, Bool.and_eq_true, decide_eq_true_eq] at this
    exact this.2
  cases fb with
  | false =>
    have hneg : kindOf es x < 0 := by
      rcases Int.lt_or_le (kindOf es x) 0 with h | h
      · exact h
      · exact absurd (hfb.2 ((kind_there (fun i e he => (hke i e he).1) x).1 h)) (by simp)
    clear hf hpos hfb hke x0
    go_wp2
    go_ret2
    exact ⟨hbw1, .inl ⟨hneg, rfl⟩⟩
  | true =>
    obtain ⟨a, hap, han⟩ := (found HOK.out.eu hpos).2 (hfb.1 rfl)
    have hax : a.n = x := cmp_zero.1 han
    have hkind : kindOf es x = a.k := kind_at (fun j f hj hf e => by have := hpos.2.1 j f hj hf; rw [e, cmp_zero.2 rfl] at this; omega) hap hax
    have hak := hke p a hap
    have hpl : p < es.length := (List.getElem?_eq_some_iff.1 hap).1
    have HK : Hid (kindOf es x = a.k) := hkind
    obtain ⟨c0, c1⟩ := (HE.out.below hb1).2 p a hap
    have HA1 : Hid (w1.heap[w.heap.size]? = some (.cells #[.slice ea es.length ce, .slice ba bs.length cb] 27 (0, 0))) := bstay HA.out hb1 hlt
    have HB1 : Hid (RB w1 gb bs) := HB.out.below hb1
    have HC1 : Hid (w1.cell? ⟨ge, p * 2 + 1, none⟩ = some (.int .i64 a.k)) := c1
    have hgl : ge < w1.heap.size := (HE.out.below hb1).1
    have hl1 : w.heap.size < w1.heap.size := Nat.lt_of_lt_of_le hlt hb1.size
    have y1 : w1.cell? ⟨w.heap.size, 1, none⟩ = some (.slice ba bs.length cb) := bcell HA1.out rfl
    have HS0 : Hid (AllB w1 w1.heap.size (.slice none 0 0) (of x (bs.take 0)) ∧ Below w1.heap.size w1 w1) := ⟨.inl ⟨rfl, none, rfl⟩, Below.refl _ _⟩
    have hbl60 := HOK.out.bl
    clear hf hpos hfb hke x0 c0 c1 hkind han hap hax
    go_wp2
    go_loopw [8, 23] (fun v y wr => ∃ k : Nat, k ≤ bs.length ∧ y = .int .i64 k ∧ Hid (AllB wr w1.heap.size v (of x (bs.take k)) ∧ Below w1.heap.size w1 wr)) (fun _ y _ => bs.length - (intOf y).toNat)
    case atStart => exact ⟨0, Nat.zero_le _, rfl, HS0⟩
    case round =>
      obtain ⟨k, hk, rfl, hst⟩ := hrel
      clear HS0
      have hbel := hst.out.2
      have hbs := hbel.size
      by_cases hkl : k < bs.length
      · have i2 : (k : Int) < (bs.length : Int) := by omega
        have HG : Hid (bs[k]? = some bs[k]) := List.getElem?_eq_getElem hkl
        have hqb : ba = some ⟨gb, 0, none⟩ := hba.out.at (by omega)
        obtain ⟨⟨bx, bk, bq⟩, he⟩ : ∃ e, bs[k] = e := ⟨_, rfl⟩
        rw [he] at HG
        obtain ⟨f0, f1, f2⟩ := (HB1.out.below hbel).2 k _ HG.out
        have hal : Below wr.heap.size wr (wr.alloc (.cells #[.string bx, .string bk, .string bq] 45)) := (Below.refl _ _).alloc (Nat.le_refl _) _
        have hal2 : Below wr.heap.size wr ((wr.alloc (.cells #[.string bx, .string bk, .string bq] 45)).alloc (.cells #[.string bx, .string bk, .string bq] 45)) := hal.alloc (by simp) _
        clear he
        by_cases hbx : bx = x
        · have hqx : (bx.toList == x.toList) = true := by rw [hbx]; simp
          have HQ : Hid (of x (bs.take (k + 1)) = of x (bs.take k) ++ [⟨bx, bk, bq⟩]) := of_yes HG.out hbx
          have hln : (of x (bs.take k)).length ≤ 1048576 := by have h2 := of_len x (bs.take k); rw [List.length_take] at h2; omega
          have hnw := bnew (wr.alloc (.cells #[.string bx, .string bk, .string bq] 45)) #[.string bx, .string bk, .string bq] 45
          rw [World.size_alloc] at hnw
          obtain ⟨v', w', hrun, hall', hbw'⟩ := app_B ⟨bx, bk, bq⟩ (hst.out.1.on hal2) (by simp; omega) hln hnw 87
          have HN : Hid (AllB w' w1.heap.size v' (of x (bs.take (k + 1))) ∧ Below w1.heap.size w1 w') := by
            refine ⟨?_, ?_⟩
            · rw [HQ.out]; exact hall'
            · exact (hbel.trans (hal2.mono hbs)).trans hbw'
          have HRUN : Hid ((Builtin.append_ #[87, 87] 87 #[u8, .slice (some ⟨wr.heap.size + 1, 0, none⟩) 1 1]).run Tryz.prog ((wr.alloc (.cells #[.string bx, .string bk, .string bq] 45)).alloc (.cells #[.string bx, .string bk, .string bq] 45)) = .ok v' w') := hrun
          clear hst hnw hall' hbw' hbx hrun
          go_wp2_with (at_builtin; refine cpr.wpList_append_run rfl _ _ 87 87 rfl _ _ _ rfl rfl HRUN.out ?_)
          go_wp2
          try rw [← hqa]
          try rw [← hqb]
          go_roundw
          case rel => first | exact ⟨k + 1, by omega, by go_num, HN⟩ | exact ⟨_, _, _, ⟨k + 1, by omega, by go_num, HN⟩, rfl, rfl, rfl⟩
          case measure => simp [intOf]; omega
        · have hqx : (bx.toList == x.toList) = false := by simp only [beq_eq_false_iff_ne, ne_eq]; exact fun e => hbx (of_same e)
          have HN : Hid (AllB (wr.alloc (.cells #[.string bx, .string bk, .string bq] 45)) w1.heap.size u8 (of x (bs.take (k + 1))) ∧ Below w1.heap.size w1 (wr.alloc (.cells #[.string bx, .string bk, .string bq] 45))) := by
            refine ⟨?_, hbel.trans (hal.mono hbs)⟩
            rw [of_no HG.out hbx]
            exact hst.out.1.on hal
          clear hst hbx
          go_wp2
          try rw [← hqa]
          try rw [← hqb]
          go_roundw
          case rel => first | exact ⟨k + 1, by omega, by go_num, HN⟩ | exact ⟨_, _, _, ⟨k + 1, by omega, by go_num, HN⟩, rfl, rfl, rfl⟩
          case measure => simp [intOf]; omega
      · obtain rfl : k = bs.length := by omega
        rw [List.take_length] at hst
        have hall : AllB wr w.heap.size u8 (of x bs) := by
          rcases hst.out.1 with h | ⟨g, cap, h1, h2⟩
          · exact .inl h
          · exact .inr ⟨g, cap, h1, own_mono h2 hbw1.size⟩
        have HF : Hid (Below w.heap.size w wr ∧ AllB wr w.heap.size u8 (of x bs)) := ⟨hbw1.trans (hbel.mono hbw1.size), hall⟩
        have z0 : wr.cell? ⟨w.heap.size, 0, none⟩ = some (.slice ea es.length ce) := bcell (bstay HA1.out hbel hl1) rfl
        have z1 : wr.cell? ⟨ge, p * 2 + 1, none⟩ = some (.int .i64 a.k) := (hbel.cell (p := ⟨ge, p * 2 + 1, none⟩) hgl).trans HC1.out
        have hqa : ea = some ⟨ge, 0, none⟩ := hea.out.at (by omega)
        have hak3 : a.k = 0 ∨ a.k = 1 ∨ a.k = 2 := by omega
        clear hst hall
        obtain ⟨ao, cap, hv8⟩ := HF.out.2.form
        subst hv8
        rcases hak3 with hk3 | hk3 | hk3
        all_goals
          have hkk := HK.out
          rw [hk3] at z1 hkk
          have HKK : Hid (kindOf es x = _) := hkk
          clear hkk hk3 hak HC1 HK
          go_wp2
          go_ret2
          refine ⟨HF.out.1, .inr ⟨by rw [HKK.out]; decide, _, by rw [HKK.out]; rfl, HF.out.2⟩⟩
end Go.Proofs.YtnooibeohdfcmaaGreatDoor.rto
