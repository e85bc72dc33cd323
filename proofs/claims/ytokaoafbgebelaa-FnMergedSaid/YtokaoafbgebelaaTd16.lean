/- laws.sameTable of two tables with the same pairs answers true; new memory alone. -/
import Derived.Test.YtokaoafbgebelaaFlPair
import Derived.Laws.StructEq
import Derived.Lib.Strings
import Derived.Test.YtokaoafbgebelaaTd01
import Derived.Deep.QuietTactic
import Derived.BigQuiet
import Derived.Test.YtokaoafbgebelaaTabOk
import Derived.Test.YtokaoafbgebelaaQuietIn

/- Two pairs held beside each other as a whole: what == and != of the struct answer. -/
namespace Go.Proofs.Ytokaoafbgebelaa.peq
open Go.ChangeShapes Go.WideShapes Go.ChangeAt Go.RowKit Go.Proofs.Ytokaoafbgebelaa.fl
set_option linter.unusedVariables false

theorem fields : ∃ f0 f1 f2 : Field, Try.prog.fieldsOf 40 = #[f0, f1, f2] ∧ (f0.name ≠ "_" ∧ f0.type = 9 ∧ f0.offset = 0) ∧ (f1.name ≠ "_" ∧ f1.type = 9 ∧ f1.offset = 1) ∧ (f2.name ≠ "_" ∧ f2.type = 4 ∧ f2.offset = 2) := by
  refine ⟨_, _, _, (by kernel_rfl : Try.prog.fieldsOf 40 = #[(Try.prog.fieldsOf 40).getD 0 default, (Try.prog.fieldsOf 40).getD 1 default, (Try.prog.fieldsOf 40).getD 2 default]), ⟨by decide +kernel, by kernel_rfl, by kernel_rfl⟩, ⟨by decide +kernel, by kernel_rfl, by kernel_rfl⟩, ⟨by decide +kernel, by kernel_rfl, by kernel_rfl⟩⟩
theorem und : Try.prog.underlying 40 = some (.struct (Try.prog.fieldsOf 40)) := by kernel_rfl
theorem held : Try.prog.stoodInHeld 40 = false := by kernel_rfl
theorem guard : Try.prog.eqGuardType Try.prog.depth 40 = false := by kernel_rfl
theorem tl {x y : ByteArray} : x.toList = y.toList ↔ x = y := by
  constructor
  · intro h
    rw [Lib.toList_data, Lib.toList_data] at h
    exact ByteArray.ext (Array.toList_inj.1 h)
  · rintro rfl; rfl
/-- whether two pairs are one -/
def same (p q : flP.Pr) : Bool := decide (p.k = q.k) && (decide (p.v = q.v) && (p.g == q.g))
theorem same_iff {p q : flP.Pr} : same p q = true ↔ p = q := by
  obtain ⟨pk, pv, pg⟩ := p
  obtain ⟨qk, qv, qg⟩ := q
  simp [same]
theorem same_no {p q : flP.Pr} : same p q = false ↔ p ≠ q := by
  rw [← Bool.not_eq_true, same_iff]
theorem eq_in (p q : flP.Pr) (w : World) : (Op.equalIn 10000 40 (.agg #[.string p.k, .string p.v, .bool p.g]) (.agg #[.string q.k, .string q.v, .bool q.g])).run Try.prog w = .ok (same p q) w := by
  obtain ⟨f0, f1, f2, hf, ⟨a0, b0, c0⟩, ⟨a1, b1, c1⟩, ⟨a2, b2, c2⟩⟩ := fields
  rw [show (10000 : Nat) = 9999 + 1 from rfl, run_equalIn_agg w 9999 _ _ _ und held, hf]
  obtain ⟨pk, pv, pg⟩ := p
  obtain ⟨qk, qv, qg⟩ := q
  simp [Op.eqFields, a0, a1, a2, b0, b1, b2, c0, c1, c2, go_sem, part, Try.underlying9, Try.underlying4]
  simp only [tl]
  unfold same
  by_cases h1 : pk = qk
  · by_cases h2 : pv = qv
    · cases pg <;> cases qg <;> simp [h1, h2]
    · simp [h1, h2]
  · simp [h1]
theorem neq_run (pk pv qk qv : ByteArray) (pg qg : Bool) (w : World) : (binOp .neq 40 (.agg #[.string pk, .string pv, .bool pg]) (.agg #[.string qk, .string qv, .bool qg])).run Try.prog w = .ok (.bool (!same ⟨pk, pv, pg⟩ ⟨qk, qv, qg⟩)) w := by
  rw [run_neq_struct, eq_in ⟨pk, pv, pg⟩ ⟨qk, qv, qg⟩ w]
  rfl
theorem guard_run (x y : Operand) (xs ys : Array Value) (w : World) : (eqGuard .neq 40 x y (.agg xs) (.agg ys)).run Try.prog w = .ok () w := run_eqGuard_agg w .neq _ x y xs ys guard
end Go.Proofs.Ytokaoafbgebelaa.peq

/- Two lists of pairs held beside each other: the laws' samePairs. -/
namespace Go.Proofs.Ytokaoafbgebelaa.smp
open Go.ChangeShapes Go.WideShapes Go.ChangeAt Go.RowKit Go.Proofs.Ytokaoafbgebelaa.fl Go.Proofs.Ytokaoafbgebelaa.peq
set_option linter.unusedVariables false

noncomputable def sameL (l m : List flP.Pr) : Bool := @decide (l = m) (Classical.propDecidable _)
theorem sameL_iff {l m : List flP.Pr} : sameL l m = true ↔ l = m := by unfold sameL; exact @decide_eq_true_iff _ (Classical.propDecidable _)
theorem sameL_yes {l m : List flP.Pr} (h : l = m) : sameL l m = true := sameL_iff.2 h
theorem sameL_no {l m : List flP.Pr} (h : l ≠ m) : sameL l m = false := by
  cases hh : sameL l m with
  | false => rfl
  | true => exact absurd (sameL_iff.1 hh) h
theorem bdrewN {B : Nat} {a w : World} (h : Below B a w) (n : Nat) : Below B a (w.drewN n) := ⟨h.os, h.tape, h.output, h.size, h.block⟩
set_option maxRecDepth 100000 in
set_option maxHeartbeats 1000000 in
theorem same_pairs (l m : List flP.Pr) (a b : Option Addr) (ca cb : Nat) (w : World) (hl : l.length ≤ maxLen) (hm : m.length ≤ maxLen) (hA : Row flP.c 3 w w.heap.size a l) (hB : Row flP.c 3 w w.heap.size b m) :
    Calls Try.prog 24 #[.slice a l.length ca, .slice b m.length cb] w fun e w' => e = .returned (.bool (sameL l m)) ∧ Below w.heap.size w w' := by
  have hl' : l.length ≤ 9223372036854775807 := hl
  have hm' : m.length ≤ 9223372036854775807 := hm
  by_cases hne : l.length = m.length
  case neg =>
    have HN : Hid (sameL l m = false) := sameL_no (fun e => hne (by rw [e]))
    have n1 : ¬ ((l.length : Int) = (m.length : Int)) := by omega
    rw [HN.out]
    go_enter Try.func24, Try.ntmps24
    go_wp2
    go_ret
    exact ⟨rfl, Below.refl _ _⟩
  have HA : Hid (Row flP.c 3 w w.heap.size a l) := hA
  have HB : Hid (Row flP.c 3 w w.heap.size b m) := hB
  obtain ⟨n, hn⟩ : ∃ n, l.length = n := ⟨_, rfl⟩
  have hnm : m.length = n := by omega
  obtain ⟨sl, hsl⟩ : ∃ sl, sameL l m = sl := ⟨_, rfl⟩
  have HSL : Hid (sameL l m = sl) := hsl
  rw [hn, hnm, hsl]
  clear hA hB hsl
  go_enter Try.func24, Try.ntmps24
  go_wp2
  go_loopw [5] (fun x wr => ∃ k : Nat, k ≤ n ∧ x = .int .i64 k ∧ Hid (∀ i, i < k → l[i]? = m[i]?) ∧ Hid (Below w.heap.size w wr)) (fun x _ => n - (intOf x).toNat)
  case atStart => exact ⟨0, Nat.zero_le _, rfl, fun i h => by omega, Below.refl _ _⟩
  case round =>
    obtain ⟨k, hk, rfl, hall, hbel⟩ := hrel
    by_cases hkl : k < n
    · have i2 : (k : Int) < (n : Int) := by omega
      have h1 : k < l.length := by omega
      have h2 : k < m.length := by omega
      have HG : Hid (l[k]? = some l[k]) := List.getElem?_eq_getElem h1
      have HG2 : Hid (m[k]? = some m[k]) := List.getElem?_eq_getElem h2
      obtain ⟨⟨pk, pv, pg⟩, he⟩ : ∃ e, l[k] = e := ⟨_, rfl⟩
      obtain ⟨⟨qk, qv, qg⟩, he2⟩ : ∃ e, m[k] = e := ⟨_, rfl⟩
      rw [he] at HG
      rw [he2] at HG2
      obtain ⟨b1, o1, rfl, hlt1, hc1⟩ := HA.out.resolve_left (by rintro rfl; simp at h1)
      obtain ⟨b2, o2, rfl, hlt2, hc2⟩ := HB.out.resolve_left (by rintro rfl; simp at h2)
      have go1 : ∀ (o : Nat) (v : Value), w.cell? ⟨b1, o, none⟩ = some v → wr.cell? ⟨b1, o, none⟩ = some v := fun o v hv => (hbel.out.cell (p := ⟨b1, o, none⟩) hlt1).trans hv
      have go2 : ∀ (o : Nat) (v : Value), w.cell? ⟨b2, o, none⟩ = some v → wr.cell? ⟨b2, o, none⟩ = some v := fun o v hv => (hbel.out.cell (p := ⟨b2, o, none⟩) hlt2).trans hv
      have p0 := go1 _ _ (hc1 k _ HG.out 0 _ rfl)
      have p1 := go1 _ _ (hc1 k _ HG.out 1 _ rfl)
      have p2 := go1 _ _ (hc1 k _ HG.out 2 _ rfl)
      have q0 := go2 _ _ (hc2 k _ HG2.out 0 _ rfl)
      have q1 := go2 _ _ (hc2 k _ HG2.out 1 _ rfl)
      have q2 := go2 _ _ (hc2 k _ HG2.out 2 _ rfl)
      rw [Nat.add_zero] at p0 q0
      have hgd := @guard_run
      have hrn := neq_run pk pv qk qv pg qg
      have HSM : Hid (same ⟨pk, pv, pg⟩ ⟨qk, qv, qg⟩ = true → l[k]? = m[k]?) := fun h => by rw [HG.out, HG2.out, same_iff.1 h]
      have HSN : Hid (same ⟨pk, pv, pg⟩ ⟨qk, qv, qg⟩ = false → sameL l m = false) := fun h => sameL_no (fun e => same_no.1 h (by have h3 := HG.out; rw [e, HG2.out] at h3; exact (Option.some.inj h3).symm))
      generalize same ⟨pk, pv, pg⟩ ⟨qk, qv, qg⟩ = sm at hrn HSM HSN
      clear he he2 hc1 hc2 go1 go2
      cases sm with
      | false =>
        obtain rfl : sl = false := HSL.out.symm.trans (HSN.out rfl)
        go_wp2
        go_quiet (fail)
        have hbN := bdrewN hbel.out nq
        go_wp2
        go_ret
        exact ⟨rfl, hbN⟩
      | true =>
        have HN : Hid (∀ i, i < k + 1 → l[i]? = m[i]?) := fun i hi => by
          rcases Nat.lt_or_ge i k with h | h
          · exact hall.out i h
          · obtain rfl : i = k := by omega
            exact HSM.out rfl
        go_wp2
        go_quiet (fail)
        have HBN : Hid (Below w.heap.size w (wr.drewN nq)) := bdrewN hbel.out nq
        go_wp2
        go_roundw
        case rel => exact ⟨k + 1, by omega, by go_num, HN, HBN⟩
        case measure => simp [intOf]; omega
    · obtain rfl : k = n := by omega
      have HY : Hid (sameL l m = true) := sameL_yes (List.ext_getElem? fun i => by
        rcases Nat.lt_or_ge i k with h | h
        · exact hall.out i h
        · rw [List.getElem?_eq_none (by omega), List.getElem?_eq_none (by omega)])
      obtain rfl : sl = true := HSL.out.symm.trans HY.out
      go_wp2
      go_ret
      exact ⟨rfl, hbel.out⟩
end Go.Proofs.Ytokaoafbgebelaa.smp

/- laws.sameTable of two tables with the same pairs answers true; new memory alone. -/
namespace Go.Proofs.Ytokaoafbgebelaa.sta
open Go.ChangeShapes Go.WideShapes Go.ChangeAt Go.RowKit Go.Proofs.Ytokaoafbgebelaa.fl Go.Proofs.Ytokaoafbgebelaa.rn Go.Proofs.Ytokaoafbgebelaa.tko
set_option linter.unusedVariables false

set_option maxRecDepth 100000 in
set_option maxHeartbeats 4000000 in
theorem same_table (ys : List flP.Pr) (k1 k2 : List Rn) (y1 y2 r1 r2 : Option Addr) (c1 c2 d1 d2 : Nat) (w : World) (F : tb.Fit ys k1) (hm : k2.map (·.l) = k1.map (·.l)) (hY1 : Row flP.c 3 w w.heap.size y1 ys) (hY2 : Row flP.c 3 w w.heap.size y2 ys) (hR1 : VR w w.heap.size r1 k1) (hR2 : VR w w.heap.size r2 k2) :
    Calls Try.prog 11 #[.agg #[.slice y1 ys.length c1, .slice r1 k1.length d1], .agg #[.slice y2 ys.length c2, .slice r2 k1.length d2]] w fun e w' => e = .returned (.bool true) ∧ Below w.heap.size w w' := by
  have hb : Below w.heap.size w ((w.alloc (.cells #[.slice y1 ys.length c1, .slice r1 k1.length d1] 27)).alloc (.cells #[.slice y2 ys.length c2, .slice r2 k1.length d2] 27)) := ((Below.refl _ _).alloc (Nat.le_refl _) _).alloc (by simp) _
  have hA := bold (bnew w #[.slice y1 ys.length c1, .slice r1 k1.length d1] 27) (.cells #[.slice y2 ys.length c2, .slice r2 k1.length d2] 27)
  have hB := bnew (w.alloc (.cells #[.slice y1 ys.length c1, .slice r1 k1.length d1] 27)) #[.slice y2 ys.length c2, .slice r2 k1.length d2] 27
  rw [World.size_alloc] at hB
  obtain ⟨W, hW⟩ : ∃ W, (w.alloc (.cells #[.slice y1 ys.length c1, .slice r1 k1.length d1] 27)).alloc (.cells #[.slice y2 ys.length c2, .slice r2 k1.length d2] 27) = W := ⟨_, rfl⟩
  rw [hW] at hb hA hB
  have hyl := F.yl
  have hrl := F.rl
  have hp := smp.same_pairs ys ys y1 y2 c1 c2 W (by unfold maxLen; omega) (by unfold maxLen; omega) (hY1.inn hb) (hY2.inn hb)
  rw [smp.sameL_yes rfl] at hp
  have HF : Hid (tb.Fit ys k1) := F
  have HM : Hid (k2.map (·.l) = k1.map (·.l)) := hm
  have HR1 : Hid (VR W W.heap.size r1 k1) := hR1.inn hb
  have HR2 : Hid (VR W W.heap.size r2 k2) := hR2.inn hb
  have HA : Hid (W.heap[w.heap.size]? = some (.cells #[.slice y1 ys.length c1, .slice r1 k1.length d1] 27 (0, 0))) := hA
  have HB : Hid (W.heap[w.heap.size + 1]? = some (.cells #[.slice y2 ys.length c2, .slice r2 k1.length d2] 27 (0, 0))) := hB
  have HBW : Hid (Below w.heap.size w W) := hb
  have x0 : W.cell? ⟨w.heap.size, 0, none⟩ = some (.slice y1 ys.length c1) := bcell hA rfl
  have x1 : W.cell? ⟨w.heap.size, 1, none⟩ = some (.slice r1 k1.length d1) := bcell hA rfl
  have z0 : W.cell? ⟨w.heap.size + 1, 0, none⟩ = some (.slice y2 ys.length c2) := bcell hB rfl
  have z1 : W.cell? ⟨w.heap.size + 1, 1, none⟩ = some (.slice r2 k1.length d2) := bcell hB rfl
  clear hA hB hb F hm hY1 hY2 hR1 hR2
  go_enter Try.func11, Try.ntmps11
  go_wp2_with (go_at_call 24; fail)
  clear hW x0 x1 z0 z1
  refine hp.mono ?_
  rintro e w1 ⟨rfl, hb1⟩
  have HA1 : Hid (w1.heap[w.heap.size]? = some (.cells #[.slice y1 ys.length c1, .slice r1 k1.length d1] 27 (0, 0))) := bstay HA.out hb1 (Array.getElem?_eq_some_iff.1 HA.out).1
  have HB1 : Hid (w1.heap[w.heap.size + 1]? = some (.cells #[.slice y2 ys.length c2, .slice r2 k1.length d2] 27 (0, 0))) := bstay HB.out hb1 (Array.getElem?_eq_some_iff.1 HB.out).1
  have HRA : Hid (VR w1 w1.heap.size r1 k1) := HR1.out.inn hb1
  have HRB : Hid (VR w1 w1.heap.size r2 k2) := HR2.out.inn hb1
  have HBX : Hid (Below w.heap.size w w1) := HBW.out.trans (hb1.mono HBW.out.size)
  have x1 : w1.cell? ⟨w.heap.size, 1, none⟩ = some (.slice r1 k1.length d1) := bcell HA1.out rfl
  have z1 : w1.cell? ⟨w.heap.size + 1, 1, none⟩ = some (.slice r2 k1.length d2) := bcell HB1.out rfl
  clear hp hb1 HA HB HR1 HR2 HBW
  go_wp2
  clear x1 z1
  go_loopw [5] (fun x wr => ∃ k : Nat, k ≤ k1.length ∧ x = .int .i64 k ∧ Hid (Below w1.heap.size w1 wr)) (fun x _ => k1.length - (intOf x).toNat)
  case atStart => exact ⟨0, Nat.zero_le _, rfl, by first | exact Below.refl _ _ | exact (Below.refl _ _).drew⟩
  case round =>
    obtain ⟨k, hk, rfl, hbr⟩ := hrel
    have x1 : wr.cell? ⟨w.heap.size, 1, none⟩ = some (.slice r1 k1.length d1) := bcell (bstay HA1.out hbr.out (Array.getElem?_eq_some_iff.1 HA1.out).1) rfl
    by_cases hkl : k < k1.length
    · have i2 : (k : Int) < (k1.length : Int) := by omega
      have hlen : k2.length = k1.length := by have := congrArg List.length HM.out; simpa using this
      have g1 : k1[k]? = some k1[k] := List.getElem?_eq_getElem hkl
      have g2 : k2[k]? = some (k2[k]'(by omega)) := List.getElem?_eq_getElem (by omega)
      obtain ⟨⟨qa, qc, ql⟩, he⟩ : ∃ e, k1[k] = e := ⟨_, rfl⟩
      obtain ⟨⟨pa, pc, pl⟩, he2⟩ : ∃ e, k2[k]'(by omega) = e := ⟨_, rfl⟩
      rw [he] at g1
      rw [he2] at g2
      have hll : pl = ql := by
        have e1 := map_at g1
        have e2 := map_at g2
        rw [HM.out, e1] at e2
        exact (Option.some.inj e2).symm
      subst hll
      have hql := (HF.out.ro _ (List.mem_of_getElem? g1)).1
      simp only at hql
      have HBR := hbr
      have k9 : ∀ N : qi.Cls wr, Calls Try.prog 24 #[.slice qa pl.length qc, .slice pa pl.length pc] N.x fun e w' => e = .returned (.bool true) ∧ qi.T wr w' := fun N => by
        have hbn : Below w1.heap.size w1 N.x := HBR.out.trans (Below.mono N.h (Below.size HBR.out))
        have h9 := smp.same_pairs pl pl qa pa qc pc N.x (by unfold maxLen; omega) (by unfold maxLen; omega) ((HRA.out.2 _ (List.mem_of_getElem? g1)).inn hbn) ((HRB.out.2 _ (List.mem_of_getElem? g2)).inn hbn)
        rw [smp.sameL_yes rfl] at h9
        exact h9.mono fun e w' ⟨h1, h2⟩ => ⟨h1, Below.trans N.h (Below.mono h2 (Below.size N.h))⟩
      obtain ⟨b1, o1, hr1, hlt1, hcl1⟩ := HRA.out.1.resolve_left (by rintro rfl; simp at hkl)
      obtain ⟨b2, o2, hr2, hlt2, hcl2⟩ := HRB.out.1.resolve_left (by rintro rfl; simp at hlen; omega)
      have hq1 := hcl1 k _ g1 0 _ rfl
      have hq2 := hcl2 k _ g2 0 _ rfl
      have u1 : ∀ N : qi.Cls wr, N.x.cell? ⟨w.heap.size, 1, none⟩ = some (.slice r1 k1.length d1) := fun N => bcell (bstay HA1.out (HBR.out.trans (Below.mono N.h (Below.size HBR.out))) (Array.getElem?_eq_some_iff.1 HA1.out).1) rfl
      have u2 : ∀ N : qi.Cls wr, N.x.cell? ⟨w.heap.size + 1, 1, none⟩ = some (.slice r2 k1.length d2) := fun N => bcell (bstay HB1.out (HBR.out.trans (Below.mono N.h (Below.size HBR.out))) (Array.getElem?_eq_some_iff.1 HB1.out).1) rfl
      have u3 : ∀ N : qi.Cls wr, N.x.cell? ⟨b1, o1 + k, none⟩ = some (.slice qa pl.length qc) := fun N => ((HBR.out.trans (Below.mono N.h (Below.size HBR.out))).cell (p := ⟨b1, o1 + k, none⟩) hlt1).trans (by simpa using hq1)
      have u4 : ∀ N : qi.Cls wr, N.x.cell? ⟨b2, o2 + k, none⟩ = some (.slice pa pl.length pc) := fun N => ((HBR.out.trans (Below.mono N.h (Below.size HBR.out))).cell (p := ⟨b2, o2 + k, none⟩) hlt2).trans (by simpa using hq2)
      subst hr1
      subst hr2
      clear hbr he he2 g1 g2 hq1 hq2 hcl1 hcl2 hlt1 hlt2 hlen
      go_wp2
      refine qi.region_in wr (qi.T.refl wr) (by kernel_rfl) (by kernel_rfl) ?_
      repeat (go_big_quiet_step (first | (go_at_call 24; with_reducible refine (k9 _).mono ?_; rintro e wx ⟨rfl, hTx⟩; exact ⟨rfl, ⟨wx, hTx⟩, rfl⟩)))
      refine wpQuiet_nil ?_
      rintro _ ⟨N, rfl⟩
      have hN := N.h
      generalize N.x = vx at hN ⊢
      have HBN : Hid (Below w1.heap.size w1 vx) := HBR.out.trans (Below.mono hN (Below.size HBR.out))
      clear N hN k9 u1 u2 u3 u4 x1
      go_wp2
      go_roundw
      case rel => exact ⟨k + 1, by omega, by go_num, HBN⟩
      case measure => simp [intOf]; omega
    · obtain rfl : k = k1.length := by omega
      have i2 : ¬ (k1.length : Int) < (k1.length : Int) := by omega
      have HBF : Hid (Below w.heap.size w wr) := HBX.out.trans (hbr.out.mono HBX.out.size)
      clear hbr
      go_wp2
      go_ret
      exact ⟨rfl, HBF.out⟩
end Go.Proofs.Ytokaoafbgebelaa.sta
