/- Two queues of one content held beside each other: the laws' sameQueue. -/
import Derived.Test.YtnlcmheahihlpaaQw21
import Derived.Test.YtnlcmheahihlpaaFlatOwn
import Derived.Deep.QuietTactic
import Derived.BigQuiet
import Derived.Test.YtnlcmheahihlpaaFlHeld

/- Two lists of pairs held beside each other: the laws' samePairs. -/
namespace Go.Proofs.Ytnlcmheahihlpaa.smm
open Go.ChangeShapes Go.WideShapes Go.ChangeAt Go.RowKit Go.Proofs.Ytnlcmheahihlpaa.fl Go.Proofs.Ytnlcmheahihlpaa.meq
set_option linter.unusedVariables false

noncomputable def sameL (l m : List flM.Ms) : Bool := @decide (l = m) (Classical.propDecidable _)
theorem sameL_iff {l m : List flM.Ms} : sameL l m = true ↔ l = m := by unfold sameL; exact @decide_eq_true_iff _ (Classical.propDecidable _)
theorem sameL_yes {l m : List flM.Ms} (h : l = m) : sameL l m = true := sameL_iff.2 h
theorem sameL_no {l m : List flM.Ms} (h : l ≠ m) : sameL l m = false := by
  cases hh : sameL l m with
  | false => rfl
  | true => exact absurd (sameL_iff.1 hh) h
theorem bdrewN {B : Nat} {a w : World} (h : Below B a w) (n : Nat) : Below B a (w.drewN n) := ⟨h.os, h.tape, h.output, h.size, h.block⟩
theorem len_of {w : World} {B n : Nat} {U : TypeId} {s : Nat} {v : Value} {xs : List Value} (h : w.ownsRow B U s v n xs) : n ≤ maxLen := by
  obtain ⟨_, ⟨_, h0⟩ | ⟨g, cap, cur, _, _, _, h4, h5, _⟩⟩ := h
  · omega
  · omega

set_option maxRecDepth 100000 in
set_option maxHeartbeats 1000000 in
theorem same_messages (l m : List flM.Ms) (a b : Option Addr) (ca cb : Nat) (w : World) (hl : l.length ≤ maxLen) (hm : m.length ≤ maxLen) (hA : Row flM.c 5 w w.heap.size a l) (hB : Row flM.c 5 w w.heap.size b m) :
    Calls Try.prog 29 #[.slice a l.length ca, .slice b m.length cb] w fun e w' => e = .returned (.bool (sameL l m)) ∧ Below w.heap.size w w' := by
  have hl' : l.length ≤ 9223372036854775807 := hl
  have hm' : m.length ≤ 9223372036854775807 := hm
  by_cases hne : l.length = m.length
  case neg =>
    have HN : Hid (sameL l m = false) := sameL_no (fun e => hne (by rw [e]))
    have n1 : ¬ ((l.length : Int) = (m.length : Int)) := by omega
    rw [HN.out]
    go_enter Try.func29, Try.ntmps29
    go_wp2
    go_ret
    exact ⟨rfl, Below.refl _ _⟩
  have HA : Hid (Row flM.c 5 w w.heap.size a l) := hA
  have HB : Hid (Row flM.c 5 w w.heap.size b m) := hB
  obtain ⟨n, hn⟩ : ∃ n, l.length = n := ⟨_, rfl⟩
  have hnm : m.length = n := by omega
  obtain ⟨sl, hsl⟩ : ∃ sl, sameL l m = sl := ⟨_, rfl⟩
  have HSL : Hid (sameL l m = sl) := hsl
  rw [hn, hnm, hsl]
  clear hA hB hsl
  go_enter Try.func29, Try.ntmps29
  go_wp2
  go_loopw [5] (fun x wr => ∃ k : Nat, k ≤ n ∧ x = .int .i64 k ∧ Hid (∀ i, i < k → l[i]? = m[i]?) ∧ Hid (Below w.heap.size w wr)) (fun x _ => n - (intOf x).toNat)
  case atStart => exact ⟨0, Nat.zero_le _, rfl, fun i h => by omega, Below.refl _ _⟩
  case round =>
    obtain ⟨k, hk, rfl, hall, hbel⟩ := hrel
    by_cases hkl : k < n
    · have i2 : (k : Int) < (n : Int) := by omega
      have h1 : k < l.length := by omega
      have h2 : k < m.length := by omega
      have HG : Hid (l[k]? = some l[k]) := List.getElem?_eq_getElem h1
      have HG2 : Hid (m[k]? = some m[k]) := List.getElem?_eq_getElem h2
      obtain ⟨⟨pa, pb, pc, pd, pe⟩, he⟩ : ∃ e, l[k] = e := ⟨_, rfl⟩
      obtain ⟨⟨qa, qb, qc, qd, qe⟩, he2⟩ : ∃ e, m[k] = e := ⟨_, rfl⟩
      rw [he] at HG
      rw [he2] at HG2
      obtain ⟨b1, o1, rfl, hlt1, hc1⟩ := HA.out.resolve_left (by rintro rfl; simp at h1)
      obtain ⟨b2, o2, rfl, hlt2, hc2⟩ := HB.out.resolve_left (by rintro rfl; simp at h2)
      have go1 : ∀ (o : Nat) (v : Value), w.cell? ⟨b1, o, none⟩ = some v → wr.cell? ⟨b1, o, none⟩ = some v := fun o v hv => (hbel.out.cell (p := ⟨b1, o, none⟩) hlt1).trans hv
      have go2 : ∀ (o : Nat) (v : Value), w.cell? ⟨b2, o, none⟩ = some v → wr.cell? ⟨b2, o, none⟩ = some v := fun o v hv => (hbel.out.cell (p := ⟨b2, o, none⟩) hlt2).trans hv
      have p0 := go1 _ _ (hc1 k _ HG.out 0 _ rfl)
      have p1 := go1 _ _ (hc1 k _ HG.out 1 _ rfl)
      have p2 := go1 _ _ (hc1 k _ HG.out 2 _ rfl)
      have p3 := go1 _ _ (hc1 k _ HG.out 3 _ rfl)
      have p4 := go1 _ _ (hc1 k _ HG.out 4 _ rfl)
      have q0 := go2 _ _ (hc2 k _ HG2.out 0 _ rfl)
      have q1 := go2 _ _ (hc2 k _ HG2.out 1 _ rfl)
      have q2 := go2 _ _ (hc2 k _ HG2.out 2 _ rfl)
      have q3 := go2 _ _ (hc2 k _ HG2.out 3 _ rfl)
      have q4 := go2 _ _ (hc2 k _ HG2.out 4 _ rfl)
      rw [Nat.add_zero] at p0 q0
      have hgd := @guard_run
      have hrn := neq_run ⟨pa, pb, pc, pd, pe⟩ ⟨qa, qb, qc, qd, qe⟩
      simp only at hrn
      have HSM : Hid (same ⟨pa, pb, pc, pd, pe⟩ ⟨qa, qb, qc, qd, qe⟩ = true → l[k]? = m[k]?) := fun h => by rw [HG.out, HG2.out, same_iff.1 h]
      have HSN : Hid (same ⟨pa, pb, pc, pd, pe⟩ ⟨qa, qb, qc, qd, qe⟩ = false → sameL l m = false) := fun h => sameL_no (fun e => same_no.1 h (by have h3 := HG.out; rw [e, HG2.out] at h3; exact (Option.some.inj h3).symm))
      generalize same ⟨pa, pb, pc, pd, pe⟩ ⟨qa, qb, qc, qd, qe⟩ = sm at hrn HSM HSN
      clear he he2 hc1 hc2 go1 go2
      cases sm with
      | false =>
        obtain rfl : sl = false := HSL.out.symm.trans (HSN.out rfl)
        go_wp2
        go_quiet (fail)
        have hbN := bdrewN hbel.out nq
        go_wp2
        go_ret
        exact ⟨rfl, hbN⟩
      | true =>
        have HN : Hid (∀ i, i < k + 1 → l[i]? = m[i]?) := fun i hi => by
          rcases Nat.lt_or_ge i k with h | h
          · exact hall.out i h
          · obtain rfl : i = k := by omega
            exact HSM.out rfl
        go_wp2
        go_quiet (fail)
        have HBN : Hid (Below w.heap.size w (wr.drewN nq)) := bdrewN hbel.out nq
        go_wp2
        go_roundw
        case rel => exact ⟨k + 1, by omega, by go_num, HN, HBN⟩
        case measure => simp [intOf]; omega
    · obtain rfl : k = n := by omega
      have HY : Hid (sameL l m = true) := sameL_yes (List.ext_getElem? fun i => by
        rcases Nat.lt_or_ge i k with h | h
        · exact hall.out i h
        · rw [List.getElem?_eq_none (by omega), List.getElem?_eq_none (by omega)])
      obtain rfl : sl = true := HSL.out.symm.trans HY.out
      go_wp2
      go_ret
      exact ⟨rfl, hbel.out⟩
end Go.Proofs.Ytnlcmheahihlpaa.smm

/- Two held ones beside each other as a whole: what == and != of the struct answer. -/
namespace Go.Proofs.Ytnlcmheahihlpaa.heq
open Go.ChangeShapes Go.WideShapes Go.ChangeAt Go.RowKit Go.Proofs.Ytnlcmheahihlpaa.fl
set_option linter.unusedVariables false

theorem fields : ∃ f0 f1 f2 : Field, Try.prog.fieldsOf 55 = #[f0, f1, f2] ∧ (f0.name ≠ "_" ∧ f0.type = 3 ∧ f0.offset = 0) ∧ (f1.name ≠ "_" ∧ f1.type = 3 ∧ f1.offset = 1) ∧ (f2.name ≠ "_" ∧ f2.type = 41 ∧ f2.offset = 2) := by
  refine ⟨_, _, _, (by kernel_rfl : Try.prog.fieldsOf 55 = #[(Try.prog.fieldsOf 55).getD 0 default, (Try.prog.fieldsOf 55).getD 1 default, (Try.prog.fieldsOf 55).getD 2 default]), ⟨by decide +kernel, by kernel_rfl, by kernel_rfl⟩, ⟨by decide +kernel, by kernel_rfl, by kernel_rfl⟩, ⟨by decide +kernel, by kernel_rfl, by kernel_rfl⟩⟩
theorem und : Try.prog.underlying 55 = some (.struct (Try.prog.fieldsOf 55)) := by kernel_rfl
theorem held : Try.prog.stoodInHeld 55 = false := by kernel_rfl
theorem guard : Try.prog.eqGuardType Try.prog.depth 55 = false := by kernel_rfl
/-- whether two held ones are one -/
def same (p q : flH.Hd) : Bool := decide (p.t = q.t) && (decide (p.o = q.o) && meq.same p.m q.m)
theorem same_iff {p q : flH.Hd} : same p q = true ↔ p = q := by
  obtain ⟨p1, p2, p3⟩ := p
  obtain ⟨q1, q2, q3⟩ := q
  simp [same, meq.same_iff]
theorem same_no {p q : flH.Hd} : same p q = false ↔ p ≠ q := by
  rw [← Bool.not_eq_true, same_iff]
def ag (p : flH.Hd) : Value := .agg #[.int .i64 p.t, .int .i64 p.o, .int .i64 p.m.q, .string p.m.x, .string p.m.k, .string p.m.b, .bool p.m.a]
theorem eq_in (p q : flH.Hd) (w : World) : (Op.equalIn 10000 55 (ag p) (ag q)).run Try.prog w = .ok (same p q) w := by
  obtain ⟨f0, f1, f2, hf, ⟨a0, b0, c0⟩, ⟨a1, b1, c1⟩, ⟨a2, b2, c2⟩⟩ := fields
  unfold ag
  rw [show (10000 : Nat) = 9999 + 1 from rfl, run_equalIn_agg w 9999 _ _ _ und held, hf]
  obtain ⟨p1, p2, ⟨p3, p4, p5, p6, p7⟩⟩ := p
  obtain ⟨q1, q2, ⟨q3, q4, q5, q6, q7⟩⟩ := q
  simp [Op.eqFields, a0, a1, a2, b0, b1, b2, c0, c1, c2, go_sem, part, Try.underlying3]
  simp only [meq.tl]
  unfold same meq.same
  by_cases h1 : p1 = q1
  · by_cases h2 : p2 = q2
    · by_cases h3 : p3 = q3
      · by_cases h4 : p4 = q4
        · by_cases h5 : p5 = q5
          · by_cases h6 : p6 = q6
            · cases p7 <;> cases q7 <;> simp [h1, h2, h3, h4, h5, h6]
            · simp [h1, h2, h3, h4, h5, h6]
          · simp [h1, h2, h3, h4, h5]
        · simp [h1, h2, h3, h4]
      · simp [h1, h2, h3]
    · simp [h1, h2]
  · simp [h1]
theorem neq_run (p q : flH.Hd) (w : World) : (binOp .neq 55 (ag p) (ag q)).run Try.prog w = .ok (.bool (!same p q)) w := by
  unfold ag
  rw [run_neq_struct]
  have := eq_in p q w
  unfold ag at this
  rw [this]
  rfl
theorem guard_run (x y : Operand) (xs ys : Array Value) (w : World) : (eqGuard .neq 55 x y (.agg xs) (.agg ys)).run Try.prog w = .ok () w := run_eqGuard_agg w .neq _ x y xs ys guard
end Go.Proofs.Ytnlcmheahihlpaa.heq

/- Two queues of one content held beside each other: the laws' sameQueue. -/
namespace Go.Proofs.Ytnlcmheahihlpaa.smq
open Go.ChangeShapes Go.WideShapes Go.ChangeAt Go.RowKit Go.Proofs.Ytnlcmheahihlpaa.fl
set_option linter.unusedVariables false

set_option maxRecDepth 100000 in
set_option maxHeartbeats 2000000 in
theorem same_queue (nm : ByteArray) (nx : Int) (es : List flM.Ms) (ms : List flH.Hd) (a1 b1 a2 b2 : Option Addr) (c1 d1 c2 d2 : Nat) (w : World) (hel : es.length ≤ maxLen) (hml : ms.length ≤ 1048576) (hE1 : Row flM.c 5 w w.heap.size a1 es) (hE2 : Row flM.c 5 w w.heap.size a2 es) (hM1 : Row flH.c 7 w w.heap.size b1 ms) (hM2 : Row flH.c 7 w w.heap.size b2 ms) :
    Calls Try.prog 10 #[.agg #[.string nm, .int .i64 nx, .slice a1 es.length c1, .slice b1 ms.length d1], .agg #[.string nm, .int .i64 nx, .slice a2 es.length c2, .slice b2 ms.length d2]] w fun e w' => e = .returned (.bool true) ∧ Below w.heap.size w w' := by
  have hb : Below w.heap.size w ((w.alloc (.cells #[.string nm, .int .i64 nx, .slice a1 es.length c1, .slice b1 ms.length d1] 27)).alloc (.cells #[.string nm, .int .i64 nx, .slice a2 es.length c2, .slice b2 ms.length d2] 27)) := ((Below.refl _ _).alloc (Nat.le_refl _) _).alloc (by simp) _
  have hX := bold (bnew w #[.string nm, .int .i64 nx, .slice a1 es.length c1, .slice b1 ms.length d1] 27) (.cells #[.string nm, .int .i64 nx, .slice a2 es.length c2, .slice b2 ms.length d2] 27)
  have hY := bnew (w.alloc (.cells #[.string nm, .int .i64 nx, .slice a1 es.length c1, .slice b1 ms.length d1] 27)) #[.string nm, .int .i64 nx, .slice a2 es.length c2, .slice b2 ms.length d2] 27
  rw [World.size_alloc] at hY
  obtain ⟨W, hW⟩ : ∃ W, ((w.alloc (.cells #[.string nm, .int .i64 nx, .slice a1 es.length c1, .slice b1 ms.length d1] 27)).alloc (.cells #[.string nm, .int .i64 nx, .slice a2 es.length c2, .slice b2 ms.length d2] 27)) = W := ⟨_, rfl⟩
  rw [hW] at hb hX hY
  have h1 := smm.same_messages es es a1 a2 c1 c2 W hel hel (hE1.inn hb) (hE2.inn hb)
  rw [smm.sameL_yes rfl] at h1
  have x0 : W.cell? ⟨w.heap.size, 0, none⟩ = some (.string nm) := bcell hX rfl
  have x1 : W.cell? ⟨w.heap.size, 1, none⟩ = some (.int .i64 nx) := bcell hX rfl
  have x2 : W.cell? ⟨w.heap.size, 2, none⟩ = some (.slice a1 es.length c1) := bcell hX rfl
  have y0 : W.cell? ⟨w.heap.size + 1, 0, none⟩ = some (.string nm) := bcell hY rfl
  have y1 : W.cell? ⟨w.heap.size + 1, 1, none⟩ = some (.int .i64 nx) := bcell hY rfl
  have y2 : W.cell? ⟨w.heap.size + 1, 2, none⟩ = some (.slice a2 es.length c2) := bcell hY rfl
  have HX : Hid (W.heap[w.heap.size]? = some (.cells #[.string nm, .int .i64 nx, .slice a1 es.length c1, .slice b1 ms.length d1] 27 (0, 0))) := hX
  have HY : Hid (W.heap[w.heap.size + 1]? = some (.cells #[.string nm, .int .i64 nx, .slice a2 es.length c2, .slice b2 ms.length d2] 27 (0, 0))) := hY
  have HB : Hid (Below w.heap.size w W) := hb
  have HM1 : Hid (Row flH.c 7 w w.heap.size b1 ms) := hM1
  have HM2 : Hid (Row flH.c 7 w w.heap.size b2 ms) := hM2
  clear hX hY hb hE1 hE2 hM1 hM2
  go_enter Try.func10, Try.ntmps10
  go_wp2_with (go_at_call 29; fail)
  clear hW x0 x1 x2 y0 y1 y2
  refine h1.mono ?_
  rintro e w1 ⟨rfl, hb1⟩
  clear h1
  have HX1 : Hid (w1.heap[w.heap.size]? = some (.cells #[.string nm, .int .i64 nx, .slice a1 es.length c1, .slice b1 ms.length d1] 27 (0, 0))) := bstay HX.out hb1 (Array.getElem?_eq_some_iff.1 HX.out).1
  have HY1 : Hid (w1.heap[w.heap.size + 1]? = some (.cells #[.string nm, .int .i64 nx, .slice a2 es.length c2, .slice b2 ms.length d2] 27 (0, 0))) := bstay HY.out hb1 (Array.getElem?_eq_some_iff.1 HY.out).1
  have HB1 : Hid (Below w.heap.size w w1) := HB.out.trans (Below.mono hb1 (Below.size HB.out))
  have x3 : w1.cell? ⟨w.heap.size, 3, none⟩ = some (.slice b1 ms.length d1) := bcell HX1.out rfl
  have y3 : w1.cell? ⟨w.heap.size + 1, 3, none⟩ = some (.slice b2 ms.length d2) := bcell HY1.out rfl
  clear hb1 HX HY HB
  go_wp2
  clear x3 y3
  go_loopw [5] (fun x wr => ∃ k : Nat, k ≤ ms.length ∧ x = .int .i64 k ∧ Hid (Below w1.heap.size w1 wr)) (fun x _ => ms.length - (intOf x).toNat)
  case atStart => exact ⟨0, Nat.zero_le _, rfl, by first | exact Below.refl _ _ | exact (Below.refl _ _).drew⟩
  case round =>
    obtain ⟨k, hk, rfl, hbr⟩ := hrel
    have x3 : wr.cell? ⟨w.heap.size, 3, none⟩ = some (.slice b1 ms.length d1) := bcell (bstay HX1.out hbr.out (Array.getElem?_eq_some_iff.1 HX1.out).1) rfl
    have y3 : wr.cell? ⟨w.heap.size + 1, 3, none⟩ = some (.slice b2 ms.length d2) := bcell (bstay HY1.out hbr.out (Array.getElem?_eq_some_iff.1 HY1.out).1) rfl
    by_cases hkl : k < ms.length
    · have i2 : (k : Int) < (ms.length : Int) := by omega
      have HG : Hid (ms[k]? = some ms[k]) := List.getElem?_eq_getElem hkl
      obtain ⟨⟨et, eo, ⟨eq, ex, ek, eb, ea⟩⟩, he⟩ : ∃ e, ms[k] = e := ⟨_, rfl⟩
      rw [he] at HG
      have hbw : Below w.heap.size w wr := HB1.out.trans (Below.mono hbr.out (Below.size HB1.out))
      obtain ⟨g1, o1, rfl, hlt1, hc1⟩ := (HM1.out.inn hbw).resolve_left (by rintro rfl; simp at hkl)
      obtain ⟨g2, o2, rfl, hlt2, hc2⟩ := (HM2.out.inn hbw).resolve_left (by rintro rfl; simp at hkl)
      have p0 := hc1 k _ HG.out 0 _ rfl
      have p1 := hc1 k _ HG.out 1 _ rfl
      have p2 := hc1 k _ HG.out 2 _ rfl
      have p3 := hc1 k _ HG.out 3 _ rfl
      have p4 := hc1 k _ HG.out 4 _ rfl
      have p5 := hc1 k _ HG.out 5 _ rfl
      have p6 := hc1 k _ HG.out 6 _ rfl
      have q0 := hc2 k _ HG.out 0 _ rfl
      have q1 := hc2 k _ HG.out 1 _ rfl
      have q2 := hc2 k _ HG.out 2 _ rfl
      have q3 := hc2 k _ HG.out 3 _ rfl
      have q4 := hc2 k _ HG.out 4 _ rfl
      have q5 := hc2 k _ HG.out 5 _ rfl
      have q6 := hc2 k _ HG.out 6 _ rfl
      rw [Nat.add_zero] at p0 q0
      have hgd := @heq.guard_run
      have hrn := heq.neq_run ⟨et, eo, ⟨eq, ex, ek, eb, ea⟩⟩ ⟨et, eo, ⟨eq, ex, ek, eb, ea⟩⟩
      rw [heq.same_iff.2 rfl] at hrn
      unfold heq.ag at hrn
      simp only at hrn
      have HBR : Hid (Below w1.heap.size w1 wr) := hbr
      clear he hc1 hc2 hlt1 hlt2 hbw hbr
      go_wp2
      go_quiet (fail)
      have HBN : Hid (Below w1.heap.size w1 (wr.drewN nq)) := smm.bdrewN HBR.out nq
      go_wp2
      go_roundw
      case rel => exact ⟨k + 1, by omega, by go_num, HBN⟩
      case measure => simp [intOf]; omega
    · obtain rfl : k = ms.length := by omega
      have i2 : ¬ (ms.length : Int) < (ms.length : Int) := by omega
      have HBF : Hid (Below w.heap.size w wr) := HB1.out.trans (Below.mono hbr.out (Below.size HB1.out))
      clear hbr
      go_wp2
      go_ret
      exact ⟨rfl, HBF.out⟩
end Go.Proofs.Ytnlcmheahihlpaa.smq
