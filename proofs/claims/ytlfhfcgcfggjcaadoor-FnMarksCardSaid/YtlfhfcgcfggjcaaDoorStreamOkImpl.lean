/- The program's StreamOk: true just where the stream is right; new memory alone. -/
import Derived.Test.YtlfhfcgcfggjcaaDoorStreamRows
import Derived.Test.YtlfhfcgcfggjcaaDoorMarkFind
import Derived.Test.YtlfhfcgcfggjcaaDoorCopyEntries
namespace Go.Proofs.YtlfhfcgcfggjcaaDoor.sti
open Go.ChangeShapes Go.WideShapes Go.ChangeAt Go.RowKit Go.Proofs.YtlfhfcgcfggjcaaDoor.fl Go.Proofs.YtlfhfcgcfggjcaaDoor.rc Go.Proofs.YtlfhfcgcfggjcaaDoor.rr Go.Proofs.YtlfhfcgcfggjcaaDoor.rf Go.Proofs.YtlfhfcgcfggjcaaDoor.st
set_option linter.unusedVariables false

noncomputable def pB (p : Prop) : Bool := @decide p (Classical.propDecidable p)
theorem pB_true {p : Prop} : pB p = true ↔ p := by unfold pB; exact @decide_eq_true_iff _ (Classical.propDecidable _)
theorem pB_no {p : Prop} (h : ¬ p) : pB p = false := by
  cases hb : pB p with
  | false => rfl
  | true => exact absurd (pB_true.1 hb) h
/-- the last of the first k entries' times, 0 where there is none -/
def Last (es : List flY.En) (k : Nat) (z : Int) : Prop := 0 ≤ z ∧ (k = 0 → z = 0) ∧ ∀ p, k ≠ 0 → es[k - 1]? = some p → z = p.t
theorem bad_en {lo : Int} {es : List flY.En} {k : Nat} {e : flY.En} (he : es[k]? = some e) (h : ¬ enOk lo k e) : ¬ GoodY lo es es.length := fun hg => h (hg.1 k e (List.getElem?_eq_some_iff.1 he).1 he)
theorem bad_time {lo : Int} {es : List flY.En} {k : Nat} {z : Int} {e : flY.En} (he : es[k]? = some e) (hl : Last es k z) (h : e.t < z) : ¬ GoodY lo es es.length := fun hg => by
  have hk := (List.getElem?_eq_some_iff.1 he).1
  by_cases k0 : k = 0
  · have := hl.2.1 k0
    have := (hg.1 k e hk he).2.1
    omega
  · obtain ⟨m, rfl⟩ : ∃ m, k = m + 1 := ⟨k - 1, by omega⟩
    have hp : es[m]? = some es[m] := List.getElem?_eq_getElem (by omega)
    have h1 := hl.2.2 _ k0 hp
    have h2 := hg.2 m _ e hk hp he
    omega
theorem last_next {es : List flY.En} {k : Nat} {e : flY.En} (he : es[k]? = some e) (h0 : 0 ≤ e.t) : Last es (k + 1) e.t := ⟨h0, fun h => by omega, fun p _ hp => by
  have hp2 : es[k]? = some p := hp
  rw [he] at hp2
  cases hp2
  rfl⟩
theorem good_more {lo : Int} {es : List flY.En} {k : Nat} {z : Int} {e : flY.En} (hg : GoodY lo es k) (he : es[k]? = some e) (hl : Last es k z) (h1 : enOk lo k e) (h : z ≤ e.t) : GoodY lo es (k + 1) :=
  goodY_next hg he h1 (fun p hk hp => by have := hl.2.2 p hk hp; omega)

set_option maxRecDepth 100000 in
set_option maxHeartbeats 1000000 in
theorem entries_ok (es : List flY.En) (g c : Nat) (lo : Int) (w : World) (hl : es.length ≤ 400) (h0 : 0 ≤ lo) (h1 : lo ≤ 1000000000) (hbd : ∀ e ∈ es, e.b.size ≤ 1048576) (og : Nat) (hY : ce.RYo w g og es) (ga : Option Addr) (hga : Hid (0 < es.length → ga = some ⟨g, og, none⟩)) :
    Calls Tryd.prog 44 #[.slice ga es.length c, .int .i64 lo] w fun r w' => r = .returned (.bool (pB (GoodY lo es es.length))) ∧ Below w.heap.size w w' := by
  have HY : Hid (ce.RYo w g og es) := hY
  have HBD : Hid (∀ e ∈ es, e.b.size ≤ 1048576) := hbd
  clear hY hbd
  obtain ⟨ob, hob⟩ : ∃ ob, pB (GoodY lo es es.length) = ob := ⟨_, rfl⟩
  rw [hob]
  have HNO : Hid (¬ (GoodY lo es es.length) → ob = false) := fun h => hob ▸ pB_no h
  have HYES : Hid ((GoodY lo es es.length) → ob = true) := fun h => hob ▸ pB_true.2 h
  clear hob
  go_enter Tryd.func44, Tryd.ntmps44
  go_wp2
  go_loopw [10, 5, 6, 7] (fun v x _ _ wr => ∃ (k : Nat) (z : Int), k ≤ es.length ∧ v = .int .i64 k ∧ x = .int .i64 z ∧ Hid (GoodY lo es k) ∧ Hid (Last es k z) ∧ Below w.heap.size w wr) (fun v _ _ _ _ => es.length - (intOf v).toNat)
  case atStart => exact ⟨0, 0, Nat.zero_le _, rfl, rfl, goodY_zero lo es, ⟨by omega, fun _ => rfl, fun p h => absurd rfl h⟩, Below.refl _ _⟩
  case round =>
    obtain ⟨k, z, hk, rfl, rfl, hgood, hlast, hbel⟩ := hrel
    have hbs := hbel.size
    by_cases hkl : k < es.length
    · have g0 : es[k]? = some es[k] := List.getElem?_eq_getElem hkl
      have hqa : ga = some ⟨g, og, none⟩ := hga.out (by omega)
      have hsz := HBD.out es[k] (List.getElem_mem hkl)
      obtain ⟨a0, a1, a2⟩ := (HY.out.below hbel).2 k _ g0
      have HG : Hid (es[k]? = some es[k]) := g0
      obtain ⟨⟨eo, et, eb⟩, he⟩ : ∃ e, es[k] = e := ⟨_, rfl⟩
      rw [he] at a0 a1 a2 HG hsz
      have i2 : (k : Int) < (es.length : Int) := by omega
      have i3 : IntKind.i64.wrap (lo + (k : Int)) = lo + (k : Int) := by rw [IntKind.wrap_i64]; omega
      have hfin : Below w.heap.size w (wr.alloc (.cells #[.int .i64 eo, .int .i64 et, .string eb] 43)) := hbel.alloc hbs _
      have hz0 : 0 ≤ z := hlast.out.1
      clear g0 he
      by_cases q1 : lo + (k : Int) = eo
      rotate_left
      · have f0 : (eo != lo + (k : Int)) = true := by simpa using (fun h => q1 h.symm)
        obtain rfl := HNO.out (bad_en HG.out (fun h => q1 h.1.symm))
        clear HNO HYES
        go_wp2
        go_ret
        exact ⟨rfl, hfin⟩
      have f0 : (eo != lo + (k : Int)) = false := by simpa using q1.symm
      by_cases q2 : z ≤ et
      rotate_left
      · have f1 : decide (et < z) = true := by simp; omega
        obtain rfl := HNO.out (bad_time HG.out hlast.out (by show et < z; omega))
        clear HNO HYES
        go_wp2
        go_ret
        exact ⟨rfl, hfin⟩
      have f1 : decide (et < z) = false := by simp; omega
      by_cases q3 : et ≤ 1000000000
      rotate_left
      · have f2 : decide ((1000000000 : Int) < et) = true := by simp; omega
        obtain rfl := HNO.out (bad_en HG.out (fun h => q3 h.2.2.1))
        clear HNO HYES
        go_wp2
        go_ret
        exact ⟨rfl, hfin⟩
      have f2 : decide ((1000000000 : Int) < et) = false := by simp; omega
      by_cases q4 : eb.size ≤ 3000
      rotate_left
      · have f3 : decide ((3000 : Int) < (eb.size : Int)) = true := by simp; omega
        obtain rfl := HNO.out (bad_en HG.out (fun h => q4 h.2.2.2))
        clear HNO HYES
        go_wp2
        go_ret
        exact ⟨rfl, hfin⟩
      have f3 : decide ((3000 : Int) < (eb.size : Int)) = false := by simp; omega
      have hen : enOk lo k ⟨eo, et, eb⟩ := ⟨q1.symm, by show 0 ≤ et; omega, q3, q4⟩
      have hnext : Hid (GoodY lo es (k + 1)) := good_more hgood.out HG.out hlast.out hen q2
      have hlast2 : Hid (Last es (k + 1) et) := last_next HG.out (by show 0 ≤ et; omega)
      clear hen
      go_wp2
      try rw [← hqa]
      try rw [← hqh]
      go_roundw
      case rel => exact ⟨k + 1, et, by omega, by go_num, rfl, hnext, hlast2, hfin⟩
      case measure => simp [intOf]; omega
    · obtain rfl : k = es.length := by omega
      obtain rfl := HYES.out hgood.out
      go_wp2
      go_ret
      exact ⟨rfl, hbel⟩

set_option maxRecDepth 100000 in
set_option maxHeartbeats 1000000 in
theorem marks_ok (ms : List Ex) (g c : Nat) (nx : Int) (w : World) (hl : ms.length ≤ 1048576) (hbd : ∀ e ∈ ms, e.n.size ≤ 1048576) (hE : RE w g ms) (ga : Option Addr) (hga : Hid (0 < ms.length → ga = some ⟨g, 0, none⟩)) :
    Calls Tryd.prog 45 #[.slice ga ms.length c, .int .i64 nx] w fun r w' => r = .returned (.bool (pB ((∀ (i : Nat) m, ms[i]? = some m → mkOk nx m) ∧ ms.length ≤ 20 ∧ UpE ms ms.length))) ∧ Below w.heap.size w w' := by
  have HE : Hid (RE w g ms) := hE
  have HBD : Hid (∀ e ∈ ms, e.n.size ≤ 1048576) := hbd
  clear hE hbd
  obtain ⟨ob, hob⟩ : ∃ ob, pB ((∀ (i : Nat) m, ms[i]? = some m → mkOk nx m) ∧ ms.length ≤ 20 ∧ UpE ms ms.length) = ob := ⟨_, rfl⟩
  rw [hob]
  have HNO : Hid (¬ ((∀ (i : Nat) m, ms[i]? = some m → mkOk nx m) ∧ ms.length ≤ 20 ∧ UpE ms ms.length) → ob = false) := fun h => hob ▸ pB_no h
  have HYES : Hid (((∀ (i : Nat) m, ms[i]? = some m → mkOk nx m) ∧ ms.length ≤ 20 ∧ UpE ms ms.length) → ob = true) := fun h => hob ▸ pB_true.2 h
  clear hob
  go_enter Tryd.func45, Tryd.ntmps45
  go_wp2
  go_loopw [9, 6] (fun v _ wr => ∃ k : Nat, k ≤ ms.length ∧ v = .int .i64 k ∧ Hid (∀ (i : Nat) m, i < k → ms[i]? = some m → mkOk nx m) ∧ Below w.heap.size w wr) (fun v _ _ => ms.length - (intOf v).toNat)
  case atStart => exact ⟨0, Nat.zero_le _, rfl, fun i m h => by omega, Below.refl _ _⟩
  case round =>
    obtain ⟨k, hk, rfl, hgood, hbel⟩ := hrel
    have hbs := hbel.size
    by_cases hkl : k < ms.length
    · have g0 : ms[k]? = some ms[k] := List.getElem?_eq_getElem hkl
      have hqa : ga = some ⟨g, 0, none⟩ := hga.out (by omega)
      have hsz := HBD.out ms[k] (List.getElem_mem hkl)
      obtain ⟨a0, a1⟩ := (HE.out.below hbel).2 k _ g0
      have HG : Hid (ms[k]? = some ms[k]) := g0
      obtain ⟨⟨mn, mo⟩, he⟩ : ∃ e, ms[k] = e := ⟨_, rfl⟩
      rw [he] at a0 a1 HG hsz
      have i2 : (k : Int) < (ms.length : Int) := by omega
      have kn := fun W => nm.impl_name mn W hsz
      have hfin : Below w.heap.size w (wr.alloc (.cells #[.string mn, .int .i64 mo] 45)) := hbel.alloc hbs _
      have hbadp : ¬ mkOk nx ⟨mn, mo⟩ → ob = false := fun h => HNO.out (fun hh => h (hh.1 k _ HG.out))
      clear g0 he
      cases q1 : nm.good mn with
      | false =>
        obtain rfl := hbadp (fun h => by have := h.1; rw [q1] at this; cases this)
        simp only [q1] at kn
        clear hbadp HNO HYES
        go_wp2_with (go_at_call 43; refine (kn _).mono ?_; rintro e w0 ⟨rfl, hw0⟩; rw [← hw0]; clear hw0 w0)
        go_ret
        exact ⟨rfl, hfin⟩
      | true =>
        simp only [q1] at kn
        by_cases q2 : 0 ≤ mo
        rotate_left
        · have f0 : decide (mo < 0) = true := by simp; omega
          obtain rfl := hbadp (fun h => q2 h.2.1)
          clear hbadp HNO HYES
          go_wp2_with (go_at_call 43; refine (kn _).mono ?_; rintro e w0 ⟨rfl, hw0⟩; rw [← hw0]; clear hw0 w0)
          go_ret
          exact ⟨rfl, hfin⟩
        have f0 : decide (mo < 0) = false := by simp; omega
        by_cases q3 : mo ≤ nx
        rotate_left
        · have f1 : decide (nx < mo) = true := by simp; omega
          obtain rfl := hbadp (fun h => q3 h.2.2)
          clear hbadp HNO HYES
          go_wp2_with (go_at_call 43; refine (kn _).mono ?_; rintro e w0 ⟨rfl, hw0⟩; rw [← hw0]; clear hw0 w0)
          go_ret
          exact ⟨rfl, hfin⟩
        have f1 : decide (nx < mo) = false := by simp; omega
        have hnext : Hid (∀ (i : Nat) m, i < k + 1 → ms[i]? = some m → mkOk nx m) := fun i m hi hm => by
          by_cases ei : i = k
          · subst ei; rw [HG.out] at hm; cases hm; exact ⟨q1, q2, q3⟩
          · exact hgood.out i m (by omega) hm
        clear hbadp
        go_wp2_with (go_at_call 43; refine (kn _).mono ?_; rintro e w0 ⟨rfl, hw0⟩; rw [← hw0]; clear hw0 w0)
        try rw [← hqa]
        try rw [← hqh]
        go_roundw
        case rel => exact ⟨k + 1, by omega, by go_num, hnext, hfin⟩
        case measure => simp [intOf]; omega
    · have HALL : Hid (∀ (i : Nat) m, ms[i]? = some m → mkOk nx m) := fun i m hm => hgood.out i m (by have := (List.getElem?_eq_some_iff.1 hm).1; omega) hm
      clear hgood
      by_cases h20 : ms.length ≤ 20
      · have d20 : decide ((ms.length : Int) ≤ 20) = true := by simp; omega
        have ha := mf.asc_mark ms g c wr hl (HE.out.below hbel) ga hga
        have HB2 : Hid (∀ b : Bool, (b = true ↔ UpE ms ms.length) → ob = b) := fun b hbb => by
          cases b with
          | true => exact HYES.out ⟨HALL.out, h20, hbb.1 rfl⟩
          | false => exact HNO.out (fun h => by have := hbb.2 h.2.2; cases this)
        clear HNO HYES
        go_wp2_with (go_at_call 52; refine ha.mono ?_; rintro e w1 ⟨⟨b, rfl, hbb⟩, hb1⟩; obtain rfl := HB2.out b hbb)
        go_ret
        exact ⟨rfl, hbel.trans (hb1.mono hbs)⟩
      · have d20 : decide ((ms.length : Int) ≤ 20) = false := by simp; omega
        obtain rfl := HNO.out (fun h => h20 h.2.1)
        clear HNO HYES
        go_wp2
        go_ret
        exact ⟨rfl, hbel⟩

set_option maxRecDepth 100000 in
set_option maxHeartbeats 2000000 in
theorem impl_okO (sn : ByteArray) (lo nx : Int) (es : List flY.En) (ms : List Ex) (g h cg ch : Nat) (w : World) (F : Fit sn es ms) (og : Nat) (hY : ce.RYo w g og es) (hE : RE w h ms) (ga ha : Option Addr) (hga : Hid (0 < es.length → ga = some ⟨g, og, none⟩)) (hha : Hid (0 < ms.length → ha = some ⟨h, 0, none⟩)) :
    Calls Tryd.prog 23 #[.agg #[.string sn, .int .i64 lo, .int .i64 nx, .slice ga es.length cg, .slice ha ms.length ch]] w fun e w' => e = .returned (.bool (okB sn lo nx es ms)) ∧ Below w.heap.size w w' := by
  have hb : Below w.heap.size w (w.alloc (.cells #[.string sn, .int .i64 lo, .int .i64 nx, .slice ga es.length cg, .slice ha ms.length ch] 27)) := (Below.refl _ _).alloc (Nat.le_refl _) _
  have hA := bnew w #[.string sn, .int .i64 lo, .int .i64 nx, .slice ga es.length cg, .slice ha ms.length ch] 27
  have hlt : w.heap.size < (w.alloc (.cells #[.string sn, .int .i64 lo, .int .i64 nx, .slice ga es.length cg, .slice ha ms.length ch] 27)).heap.size := by simp
  have HY : Hid (ce.RYo (w.alloc (.cells #[.string sn, .int .i64 lo, .int .i64 nx, .slice ga es.length cg, .slice ha ms.length ch] 27)) g og es) := hY.below hb
  have HE : Hid (RE (w.alloc (.cells #[.string sn, .int .i64 lo, .int .i64 nx, .slice ga es.length cg, .slice ha ms.length ch] 27)) h ms) := hE.below hb
  obtain ⟨W, hW⟩ : ∃ W, w.alloc (.cells #[.string sn, .int .i64 lo, .int .i64 nx, .slice ga es.length cg, .slice ha ms.length ch] 27) = W := ⟨_, rfl⟩
  rw [hW] at hb hA HY HE hlt
  have BOX : Hid (∀ wr, Below W.heap.size W wr → wr.cell? ⟨w.heap.size, 0, none⟩ = some (.string sn) ∧ wr.cell? ⟨w.heap.size, 1, none⟩ = some (.int .i64 lo) ∧ wr.cell? ⟨w.heap.size, 2, none⟩ = some (.int .i64 nx) ∧ wr.cell? ⟨w.heap.size, 3, none⟩ = some (.slice ga es.length cg) ∧ wr.cell? ⟨w.heap.size, 4, none⟩ = some (.slice ha ms.length ch)) := fun wr hr => by
    have h1 := bstay hA hr hlt
    exact ⟨bcell h1 rfl, bcell h1 rfl, bcell h1 rfl, bcell h1 rfl, bcell h1 rfl⟩
  obtain ⟨c0, c1, c2, c3, c4⟩ := BOX.out W (Below.refl _ _)
  have kn := fun W => nm.impl_name sn W F.ns
  have hel := F.el
  have hml := F.ml
  have HF : Hid (Fit sn es ms) := F
  have hno : ∀ {p : Prop}, (OkT sn lo nx es ms → p) → ¬ p → okB sn lo nx es ms = false := fun h1 h2 => okB_no (fun h => h2 (h1 h))
  obtain ⟨ob, hob⟩ : ∃ ob, okB sn lo nx es ms = ob := ⟨_, rfl⟩
  rw [hob] at hno ⊢
  have HOB : Hid (okB sn lo nx es ms = ob) := hob
  clear hY hE hA F hob
  cases q1 : nm.good sn with
  | false =>
    obtain rfl := hno (fun h => h.nmk) (by rw [q1]; simp)
    simp only [q1] at kn
    clear hno
    go_enter Tryd.func23, Tryd.ntmps23
    go_wp2_with (go_at_call 43; refine (kn _).mono ?_; rintro e w0 ⟨rfl, hw0⟩; rw [← hw0]; clear hw0 w0)
    go_ret
    exact ⟨rfl, hb⟩
  | true =>
    simp only [q1] at kn
    by_cases q2 : 0 ≤ nx
    rotate_left
    · have f0 : decide (nx < 0) = true := by simp; omega
      obtain rfl := hno (fun h => h.nx0.1) q2
      clear hno
      go_enter Tryd.func23, Tryd.ntmps23
      go_wp2_with (go_at_call 43; refine (kn _).mono ?_; rintro e w0 ⟨rfl, hw0⟩; rw [← hw0]; clear hw0 w0)
      go_ret
      exact ⟨rfl, hb⟩
    have f0 : decide (nx < 0) = false := by simp; omega
    by_cases q3 : nx ≤ 1000000000
    rotate_left
    · have f1 : decide ((1000000000 : Int) < nx) = true := by simp; omega
      obtain rfl := hno (fun h => h.nx0.2) q3
      clear hno
      go_enter Tryd.func23, Tryd.ntmps23
      go_wp2_with (go_at_call 43; refine (kn _).mono ?_; rintro e w0 ⟨rfl, hw0⟩; rw [← hw0]; clear hw0 w0)
      go_ret
      exact ⟨rfl, hb⟩
    have f1 : decide ((1000000000 : Int) < nx) = false := by simp; omega
    by_cases q4 : 0 ≤ lo
    rotate_left
    · have f2 : decide (lo < 0) = true := by simp; omega
      obtain rfl := hno (fun h => h.lo0.1) q4
      clear hno
      go_enter Tryd.func23, Tryd.ntmps23
      go_wp2_with (go_at_call 43; refine (kn _).mono ?_; rintro e w0 ⟨rfl, hw0⟩; rw [← hw0]; clear hw0 w0)
      go_ret
      exact ⟨rfl, hb⟩
    have f2 : decide (lo < 0) = false := by simp; omega
    by_cases q5 : lo ≤ nx
    rotate_left
    · have f3 : decide (nx < lo) = true := by simp; omega
      obtain rfl := hno (fun h => h.lo0.2) q5
      clear hno
      go_enter Tryd.func23, Tryd.ntmps23
      go_wp2_with (go_at_call 43; refine (kn _).mono ?_; rintro e w0 ⟨rfl, hw0⟩; rw [← hw0]; clear hw0 w0)
      go_ret
      exact ⟨rfl, hb⟩
    have f3 : decide (nx < lo) = false := by simp; omega
    have i4 : IntKind.i64.wrap (nx - lo) = nx - lo := by rw [IntKind.wrap_i64]; omega
    by_cases q6 : nx - lo = (es.length : Int)
    rotate_left
    · have f4 : ((es.length : Int) != nx - lo) = true := by simpa using (fun h => q6 h.symm)
      obtain rfl := hno (fun h => h.len.symm) q6
      clear hno
      go_enter Tryd.func23, Tryd.ntmps23
      go_wp2_with (go_at_call 43; refine (kn _).mono ?_; rintro e w0 ⟨rfl, hw0⟩; rw [← hw0]; clear hw0 w0)
      go_ret
      exact ⟨rfl, hb⟩
    have f4 : ((es.length : Int) != nx - lo) = false := by simpa using q6.symm
    by_cases q7 : es.length ≤ 400
    rotate_left
    · have f5 : decide ((400 : Int) < (es.length : Int)) = true := by simp; omega
      obtain rfl := hno (fun h => h.el) q7
      clear hno
      go_enter Tryd.func23, Tryd.ntmps23
      go_wp2_with (go_at_call 43; refine (kn _).mono ?_; rintro e w0 ⟨rfl, hw0⟩; rw [← hw0]; clear hw0 w0)
      go_ret
      exact ⟨rfl, hb⟩
    have f5 : decide ((400 : Int) < (es.length : Int)) = false := by simp; omega
    clear hno
    have hent := entries_ok es g cg lo W q7 q4 (by omega) HF.out.eb og HY.out ga hga
    go_enter Tryd.func23, Tryd.ntmps23
    go_wp2_with (first | (go_at_call 43; refine (kn _).mono ?_; rintro e w0 ⟨rfl, hw0⟩; rw [← hw0]; clear hw0 w0) | (go_at_call 44; fail))
    clear hW c0 c1 c2 c3 c4
    refine hent.mono ?_
    rintro e w1 ⟨rfl, hb1⟩
    obtain ⟨c0, c1, c2, c3, c4⟩ := BOX.out w1 hb1
    clear hent
    cases hb1e : pB (GoodY lo es es.length) with
    | false =>
      have hof : ob = false := by
        rw [← HOB.out]
        exact okB_no (fun h => by have := pB_true.2 (show GoodY lo es es.length from ⟨fun i e _ => h.eo i e, fun i a b _ => h.eu i a b⟩); rw [hb1e] at this; cases this)
      subst hof
      go_wp2
      go_ret
      exact ⟨rfl, hb.trans (hb1.mono hb.size)⟩
    | true =>
      have HG : Hid (GoodY lo es es.length) := pB_true.1 hb1e
      have hmk := marks_ok ms h ch nx w1 hml HF.out.mb (HE.out.below hb1) ha hha
      have hob2 : pB ((∀ (i : Nat) m, ms[i]? = some m → mkOk nx m) ∧ ms.length ≤ 20 ∧ UpE ms ms.length) = ob := by
        rw [← HOB.out]
        have hiff : pB ((∀ (i : Nat) m, ms[i]? = some m → mkOk nx m) ∧ ms.length ≤ 20 ∧ UpE ms ms.length) = true ↔ OkT sn lo nx es ms := pB_true.trans ⟨fun hh => ⟨q1, ⟨q2, q3⟩, ⟨q4, q5⟩, q6.symm, q7, hh.2.1, (goodY_all HG.out (Nat.le_refl _)).1, (goodY_all HG.out (Nat.le_refl _)).2, hh.1, hh.2.2⟩, fun hh => ⟨hh.mo, hh.ml, hh.mu⟩⟩
        have h3 := hiff.trans okB_true.symm
        cases h5 : pB ((∀ (i : Nat) m, ms[i]? = some m → mkOk nx m) ∧ ms.length ≤ 20 ∧ UpE ms ms.length) <;> cases h4 : okB sn lo nx es ms <;> simp [h4, h5] at h3 ⊢
      rw [hob2] at hmk
      clear hb1e hob2
      go_wp2_with (go_at_call 45; fail)
      refine hmk.mono ?_
      rintro e w2 ⟨rfl, hb2⟩
      clear hmk
      go_wp2
      go_ret
      exact ⟨rfl, hb.trans ((hb1.trans (hb2.mono hb1.size)).mono hb.size)⟩
theorem impl_ok (sn : ByteArray) (lo nx : Int) (es : List flY.En) (ms : List Ex) (g h cg ch : Nat) (w : World) (F : Fit sn es ms) (hY : RY w g es) (hE : RE w h ms) (ga ha : Option Addr) (hga : Hid (0 < es.length → ga = some ⟨g, 0, none⟩)) (hha : Hid (0 < ms.length → ha = some ⟨h, 0, none⟩)) :
    Calls Tryd.prog 23 #[.agg #[.string sn, .int .i64 lo, .int .i64 nx, .slice ga es.length cg, .slice ha ms.length ch]] w fun e w' => e = .returned (.bool (okB sn lo nx es ms)) ∧ Below w.heap.size w w' :=
  impl_okO sn lo nx es ms g h cg ch w F 0 (ce.ryo hY) hE ga ha hga hha
end Go.Proofs.YtlfhfcgcfggjcaaDoor.sti
