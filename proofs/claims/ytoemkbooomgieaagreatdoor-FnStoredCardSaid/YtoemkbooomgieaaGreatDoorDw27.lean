/- A region that draws its order, whose operations with an effect wait for one another: they are done in one order, the others wherever they come. -/
import Derived.Test.YtoemkbooomgieaaGreatDoorDw12
import Derived.Test.YtoemkbooomgieaaGreatDoorFlatOwn
import Derived.Deep.QuietTactic
import Derived.BigQuiet
import Derived.Test.YtoemkbooomgieaaGreatDoorTabOk
import Derived.Test.YtoemkbooomgieaaGreatDoorQuietIn
import Derived.Test.YtoemkbooomgieaaGreatDoorDw20
import Derived.Test.YtoemkbooomgieaaGreatDoorDw25
import Derived.Test.YtoemkbooomgieaaGreatDoorDw26
import Derived.Test.YtoemkbooomgieaaGreatDoorDoneKit
import Derived.Test.YtoemkbooomgieaaGreatDoorDw01

/- Two lists of pairs held beside each other: the laws' samePairs. -/
namespace Go.Proofs.YtoemkbooomgieaaGreatDoor.smp
open Go.ChangeShapes Go.WideShapes Go.ChangeAt Go.RowKit Go.Proofs.YtoemkbooomgieaaGreatDoor.fl Go.Proofs.YtoemkbooomgieaaGreatDoor.peq
set_option linter.unusedVariables false

noncomputable def sameL (l m : List flP.Pr) : Bool := @decide (l = m) (Classical.propDecidable _)
theorem sameL_iff {l m : List flP.Pr} : sameL l m = true ↔ l = m := by unfold sameL; exact @decide_eq_true_iff _ (Classical.propDecidable _)
theorem sameL_yes {l m : List flP.Pr} (h : l = m) : sameL l m = true := sameL_iff.2 h
theorem sameL_no {l m : List flP.Pr} (h : l ≠ m) : sameL l m = false := by
  cases hh : sameL l m with
  | false => rfl
  | true => exact absurd (sameL_iff.1 hh) h
theorem bdrewN {B : Nat} {a w : World} (h : Below B a w) (n : Nat) : Below B a (w.drewN n) := ⟨h.os, h.tape, h.output, h.size, h.block⟩
set_option maxRecDepth 100000 in
set_option maxHeartbeats 1000000 in
theorem same_pairs (l m : List flP.Pr) (a b : Option Addr) (ca cb : Nat) (w : World) (hl : l.length ≤ maxLen) (hm : m.length ≤ maxLen) (hA : Row flP.c 3 w w.heap.size a l) (hB : Row flP.c 3 w w.heap.size b m) :
    Calls Tryz.prog 11 #[.slice a l.length ca, .slice b m.length cb] w fun e w' => e = .returned (.bool (sameL l m)) ∧ Below w.heap.size w w' := by
  have hl' : l.length ≤ 9223372036854775807 := hl
  have hm' : m.length ≤ 9223372036854775807 := hm
  by_cases hne : l.length = m.length
  case neg =>
    have HN : Hid (sameL l m = false) := sameL_no (fun e => hne (by rw [e]))
    have n1 : ¬ ((l.length : Int) = (m.length : Int)) := by omega
    rw [HN.out]
    go_enter Tryz.func11, Tryz.ntmps11
    go_wp2
    go_ret
    exact ⟨rfl, Below.refl _ _⟩
  have HA : Hid (Row flP.c 3 w w.heap.size a l) := hA
  have HB : Hid (Row flP.c 3 w w.heap.size b m) := hB
  obtain ⟨n, hn⟩ : ∃ n, l.length = n := ⟨_, rfl⟩
  have hnm : m.length = n := by omega
  obtain ⟨sl, hsl⟩ : ∃ sl, sameL l m = sl := ⟨_, rfl⟩
  have HSL : Hid (sameL l m = sl) := hsl
  rw [hn, hnm, hsl]
  clear hA hB hsl
  go_enter Tryz.func11, Tryz.ntmps11
  go_wp2
  go_loopw [5] (fun x wr => ∃ k : Nat, k ≤ n ∧ x = .int .i64 k ∧ Hid (∀ i, i < k → l[i]? = m[i]?) ∧ Hid (Below w.heap.size w wr)) (fun x _ => n - (intOf x).toNat)
  case atStart => exact ⟨0, Nat.zero_le _, rfl, fun i h => by omega, Below.refl _ _⟩
  case round =>
    obtain ⟨k, hk, rfl, hall, hbel⟩ := hrel
    by_cases hkl : k < n
    · have i2 : (k : Int) < (n : Int) := by omega
      have h1 : k < l.length := by omega
      have h2 : k < m.length := by omega
      have HG : Hid (l[k]? = some l[k]) := List.getElem?_eq_getElem h1
      have HG2 : Hid (m[k]? = some m[k]) := List.getElem?_eq_getElem h2
      obtain ⟨⟨pk, pv, pg⟩, he⟩ : ∃ e, l[k] = e := ⟨_, rfl⟩
      obtain ⟨⟨qk, qv, qg⟩, he2⟩ : ∃ e, m[k] = e := ⟨_, rfl⟩
      rw [he] at HG
      rw [he2] at HG2
      obtain ⟨b1, o1, rfl, hlt1, hc1⟩ := HA.out.resolve_left (by rintro rfl; simp at h1)
      obtain ⟨b2, o2, rfl, hlt2, hc2⟩ := HB.out.resolve_left (by rintro rfl; simp at h2)
      have go1 : ∀ (o : Nat) (v : Value), w.cell? ⟨b1, o, none⟩ = some v → wr.cell? ⟨b1, o, none⟩ = some v := fun o v hv => (hbel.out.cell (p := ⟨b1, o, none⟩) hlt1).trans hv
      have go2 : ∀ (o : Nat) (v : Value), w.cell? ⟨b2, o, none⟩ = some v → wr.cell? ⟨b2, o, none⟩ = some v := fun o v hv => (hbel.out.cell (p := ⟨b2, o, none⟩) hlt2).trans hv
      have p0 := go1 _ _ (hc1 k _ HG.out 0 _ rfl)
      have p1 := go1 _ _ (hc1 k _ HG.out 1 _ rfl)
      have p2 := go1 _ _ (hc1 k _ HG.out 2 _ rfl)
      have q0 := go2 _ _ (hc2 k _ HG2.out 0 _ rfl)
      have q1 := go2 _ _ (hc2 k _ HG2.out 1 _ rfl)
      have q2 := go2 _ _ (hc2 k _ HG2.out 2 _ rfl)
      rw [Nat.add_zero] at p0 q0
      have hgd := @guard_run
      have hrn := neq_run pk pv qk qv pg qg
      have HSM : Hid (same ⟨pk, pv, pg⟩ ⟨qk, qv, qg⟩ = true → l[k]? = m[k]?) := fun h => by rw [HG.out, HG2.out, same_iff.1 h]
      have HSN : Hid (same ⟨pk, pv, pg⟩ ⟨qk, qv, qg⟩ = false → sameL l m = false) := fun h => sameL_no (fun e => same_no.1 h (by have h3 := HG.out; rw [e, HG2.out] at h3; exact (Option.some.inj h3).symm))
      generalize same ⟨pk, pv, pg⟩ ⟨qk, qv, qg⟩ = sm at hrn HSM HSN
      clear he he2 hc1 hc2 go1 go2
      cases sm with
      | false =>
        obtain rfl : sl = false := HSL.out.symm.trans (HSN.out rfl)
        go_wp2
        go_quiet (fail)
        have hbN := bdrewN hbel.out nq
        go_wp2
        go_ret
        exact ⟨rfl, hbN⟩
      | true =>
        have HN : Hid (∀ i, i < k + 1 → l[i]? = m[i]?) := fun i hi => by
          rcases Nat.lt_or_ge i k with h | h
          · exact hall.out i h
          · obtain rfl : i = k := by omega
            exact HSM.out rfl
        go_wp2
        go_quiet (fail)
        have HBN : Hid (Below w.heap.size w (wr.drewN nq)) := bdrewN hbel.out nq
        go_wp2
        go_roundw
        case rel => exact ⟨k + 1, by omega, by go_num, HN, HBN⟩
        case measure => simp [intOf]; omega
    · obtain rfl : k = n := by omega
      have HY : Hid (sameL l m = true) := sameL_yes (List.ext_getElem? fun i => by
        rcases Nat.lt_or_ge i k with h | h
        · exact hall.out i h
        · rw [List.getElem?_eq_none (by omega), List.getElem?_eq_none (by omega)])
      obtain rfl : sl = true := HSL.out.symm.trans HY.out
      go_wp2
      go_ret
      exact ⟨rfl, hbel.out⟩
end Go.Proofs.YtoemkbooomgieaaGreatDoor.smp

/- laws.sameTable of two tables with the same pairs answers true; new memory alone. -/
namespace Go.Proofs.YtoemkbooomgieaaGreatDoor.sta
open Go.ChangeShapes Go.WideShapes Go.ChangeAt Go.RowKit Go.Proofs.YtoemkbooomgieaaGreatDoor.fl Go.Proofs.YtoemkbooomgieaaGreatDoor.rn Go.Proofs.YtoemkbooomgieaaGreatDoor.tko
set_option linter.unusedVariables false

set_option maxRecDepth 100000 in
set_option maxHeartbeats 4000000 in
theorem same_table (ys : List flP.Pr) (k1 k2 : List Rn) (y1 y2 r1 r2 : Option Addr) (c1 c2 d1 d2 : Nat) (w : World) (F : tb.Fit ys k1) (hm : k2.map (·.l) = k1.map (·.l)) (hY1 : Row flP.c 3 w w.heap.size y1 ys) (hY2 : Row flP.c 3 w w.heap.size y2 ys) (hR1 : VR w w.heap.size r1 k1) (hR2 : VR w w.heap.size r2 k2) :
    Calls Tryz.prog 23 #[.agg #[.slice y1 ys.length c1, .slice r1 k1.length d1], .agg #[.slice y2 ys.length c2, .slice r2 k1.length d2]] w fun e w' => e = .returned (.bool true) ∧ Below w.heap.size w w' := by
  have hb : Below w.heap.size w ((w.alloc (.cells #[.slice y1 ys.length c1, .slice r1 k1.length d1] 30)).alloc (.cells #[.slice y2 ys.length c2, .slice r2 k1.length d2] 30)) := ((Below.refl _ _).alloc (Nat.le_refl _) _).alloc (by simp) _
  have hA := bold (bnew w #[.slice y1 ys.length c1, .slice r1 k1.length d1] 30) (.cells #[.slice y2 ys.length c2, .slice r2 k1.length d2] 30)
  have hB := bnew (w.alloc (.cells #[.slice y1 ys.length c1, .slice r1 k1.length d1] 30)) #[.slice y2 ys.length c2, .slice r2 k1.length d2] 30
  rw [World.size_alloc] at hB
  obtain ⟨W, hW⟩ : ∃ W, (w.alloc (.cells #[.slice y1 ys.length c1, .slice r1 k1.length d1] 30)).alloc (.cells #[.slice y2 ys.length c2, .slice r2 k1.length d2] 30) = W := ⟨_, rfl⟩
  rw [hW] at hb hA hB
  have hyl := F.yl
  have hrl := F.rl
  have hp := smp.same_pairs ys ys y1 y2 c1 c2 W (by unfold maxLen; omega) (by unfold maxLen; omega) (hY1.inn hb) (hY2.inn hb)
  rw [smp.sameL_yes rfl] at hp
  have HF : Hid (tb.Fit ys k1) := F
  have HM : Hid (k2.map (·.l) = k1.map (·.l)) := hm
  have HR1 : Hid (VR W W.heap.size r1 k1) := hR1.inn hb
  have HR2 : Hid (VR W W.heap.size r2 k2) := hR2.inn hb
  have HA : Hid (W.heap[w.heap.size]? = some (.cells #[.slice y1 ys.length c1, .slice r1 k1.length d1] 30 (0, 0))) := hA
  have HB : Hid (W.heap[w.heap.size + 1]? = some (.cells #[.slice y2 ys.length c2, .slice r2 k1.length d2] 30 (0, 0))) := hB
  have HBW : Hid (Below w.heap.size w W) := hb
  have x0 : W.cell? ⟨w.heap.size, 0, none⟩ = some (.slice y1 ys.length c1) := bcell hA rfl
  have x1 : W.cell? ⟨w.heap.size, 1, none⟩ = some (.slice r1 k1.length d1) := bcell hA rfl
  have z0 : W.cell? ⟨w.heap.size + 1, 0, none⟩ = some (.slice y2 ys.length c2) := bcell hB rfl
  have z1 : W.cell? ⟨w.heap.size + 1, 1, none⟩ = some (.slice r2 k1.length d2) := bcell hB rfl
  clear hA hB hb F hm hY1 hY2 hR1 hR2
  go_enter Tryz.func23, Tryz.ntmps23
  go_wp2_with (go_at_call 11; fail)
  clear hW x0 x1 z0 z1
  refine hp.mono ?_
  rintro e w1 ⟨rfl, hb1⟩
  have HA1 : Hid (w1.heap[w.heap.size]? = some (.cells #[.slice y1 ys.length c1, .slice r1 k1.length d1] 30 (0, 0))) := bstay HA.out hb1 (Array.getElem?_eq_some_iff.1 HA.out).1
  have HB1 : Hid (w1.heap[w.heap.size + 1]? = some (.cells #[.slice y2 ys.length c2, .slice r2 k1.length d2] 30 (0, 0))) := bstay HB.out hb1 (Array.getElem?_eq_some_iff.1 HB.out).1
  have HRA : Hid (VR w1 w1.heap.size r1 k1) := HR1.out.inn hb1
  have HRB : Hid (VR w1 w1.heap.size r2 k2) := HR2.out.inn hb1
  have HBX : Hid (Below w.heap.size w w1) := HBW.out.trans (hb1.mono HBW.out.size)
  have x1 : w1.cell? ⟨w.heap.size, 1, none⟩ = some (.slice r1 k1.length d1) := bcell HA1.out rfl
  have z1 : w1.cell? ⟨w.heap.size + 1, 1, none⟩ = some (.slice r2 k1.length d2) := bcell HB1.out rfl
  clear hp hb1 HA HB HR1 HR2 HBW
  go_wp2
  clear x1 z1
  go_loopw [5] (fun x wr => ∃ k : Nat, k ≤ k1.length ∧ x = .int .i64 k ∧ Hid (Below w1.heap.size w1 wr)) (fun x _ => k1.length - (intOf x).toNat)
  case atStart => exact ⟨0, Nat.zero_le _, rfl, by first | exact Below.refl _ _ | exact (Below.refl _ _).drew⟩
  case round =>
    obtain ⟨k, hk, rfl, hbr⟩ := hrel
    have x1 : wr.cell? ⟨w.heap.size, 1, none⟩ = some (.slice r1 k1.length d1) := bcell (bstay HA1.out hbr.out (Array.getElem?_eq_some_iff.1 HA1.out).1) rfl
    by_cases hkl : k < k1.length
    · have i2 : (k : Int) < (k1.length : Int) := by omega
      have hlen : k2.length = k1.length := by have := congrArg List.length HM.out; simpa using this
      have g1 : k1[k]? = some k1[k] := List.getElem?_eq_getElem hkl
      have g2 : k2[k]? = some (k2[k]'(by omega)) := List.getElem?_eq_getElem (by omega)
      obtain ⟨⟨qa, qc, ql⟩, he⟩ : ∃ e, k1[k] = e := ⟨_, rfl⟩
      obtain ⟨⟨pa, pc, pl⟩, he2⟩ : ∃ e, k2[k]'(by omega) = e := ⟨_, rfl⟩
      rw [he] at g1
      rw [he2] at g2
      have hll : pl = ql := by
        have e1 := map_at g1
        have e2 := map_at g2
        rw [HM.out, e1] at e2
        exact (Option.some.inj e2).symm
      subst hll
      have hql := (HF.out.ro _ (List.mem_of_getElem? g1)).1
      simp only at hql
      have HBR := hbr
      have k9 : ∀ N : qi.Cls wr, Calls Tryz.prog 11 #[.slice qa pl.length qc, .slice pa pl.length pc] N.x fun e w' => e = .returned (.bool true) ∧ qi.T wr w' := fun N => by
        have hbn : Below w1.heap.size w1 N.x := HBR.out.trans (Below.mono N.h (Below.size HBR.out))
        have h9 := smp.same_pairs pl pl qa pa qc pc N.x (by unfold maxLen; omega) (by unfold maxLen; omega) ((HRA.out.2 _ (List.mem_of_getElem? g1)).inn hbn) ((HRB.out.2 _ (List.mem_of_getElem? g2)).inn hbn)
        rw [smp.sameL_yes rfl] at h9
        exact h9.mono fun e w' ⟨h1, h2⟩ => ⟨h1, Below.trans N.h (Below.mono h2 (Below.size N.h))⟩
      obtain ⟨b1, o1, hr1, hlt1, hcl1⟩ := HRA.out.1.resolve_left (by rintro rfl; simp at hkl)
      obtain ⟨b2, o2, hr2, hlt2, hcl2⟩ := HRB.out.1.resolve_left (by rintro rfl; simp at hlen; omega)
      have hq1 := hcl1 k _ g1 0 _ rfl
      have hq2 := hcl2 k _ g2 0 _ rfl
      have u1 : ∀ N : qi.Cls wr, N.x.cell? ⟨w.heap.size, 1, none⟩ = some (.slice r1 k1.length d1) := fun N => bcell (bstay HA1.out (HBR.out.trans (Below.mono N.h (Below.size HBR.out))) (Array.getElem?_eq_some_iff.1 HA1.out).1) rfl
      have u2 : ∀ N : qi.Cls wr, N.x.cell? ⟨w.heap.size + 1, 1, none⟩ = some (.slice r2 k1.length d2) := fun N => bcell (bstay HB1.out (HBR.out.trans (Below.mono N.h (Below.size HBR.out))) (Array.getElem?_eq_some_iff.1 HB1.out).1) rfl
      have u3 : ∀ N : qi.Cls wr, N.x.cell? ⟨b1, o1 + k, none⟩ = some (.slice qa pl.length qc) := fun N => ((HBR.out.trans (Below.mono N.h (Below.size HBR.out))).cell (p := ⟨b1, o1 + k, none⟩) hlt1).trans (by simpa using hq1)
      have u4 : ∀ N : qi.Cls wr, N.x.cell? ⟨b2, o2 + k, none⟩ = some (.slice pa pl.length pc) := fun N => ((HBR.out.trans (Below.mono N.h (Below.size HBR.out))).cell (p := ⟨b2, o2 + k, none⟩) hlt2).trans (by simpa using hq2)
      subst hr1
      subst hr2
      clear hbr he he2 g1 g2 hq1 hq2 hcl1 hcl2 hlt1 hlt2 hlen
      go_wp2
      refine qi.region_in wr (qi.T.refl wr) (by kernel_rfl) (by kernel_rfl) ?_
      repeat (go_big_quiet_step (first | (go_at_call 11; with_reducible refine (k9 _).mono ?_; rintro e wx ⟨rfl, hTx⟩; exact ⟨rfl, ⟨wx, hTx⟩, rfl⟩)))
      refine wpQuiet_nil ?_
      rintro _ ⟨N, rfl⟩
      have hN := N.h
      generalize N.x = vx at hN ⊢
      have HBN : Hid (Below w1.heap.size w1 vx) := HBR.out.trans (Below.mono hN (Below.size HBR.out))
      clear N hN k9 u1 u2 u3 u4 x1
      go_wp2
      go_roundw
      case rel => exact ⟨k + 1, by omega, by go_num, HBN⟩
      case measure => simp [intOf]; omega
    · obtain rfl : k = k1.length := by omega
      have i2 : ¬ (k1.length : Int) < (k1.length : Int) := by omega
      have HBF : Hid (Below w.heap.size w wr) := HBX.out.trans (hbr.out.mono HBX.out.size)
      clear hbr
      go_wp2
      go_ret
      exact ⟨rfl, HBF.out⟩
end Go.Proofs.YtoemkbooomgieaaGreatDoor.sta

/- laws.sameStore at two stores of one content, wherever their lists lie. -/
namespace Go.Proofs.YtoemkbooomgieaaGreatDoor.sms
open Go.ChangeShapes Go.WideShapes Go.ChangeAt Go.RowKit Go.Proofs.YtoemkbooomgieaaGreatDoor.fl Go.Proofs.YtoemkbooomgieaaGreatDoor.fo Go.Proofs.YtoemkbooomgieaaGreatDoor.rn Go.Proofs.YtoemkbooomgieaaGreatDoor.sdl
set_option linter.unusedVariables false

set_option maxRecDepth 100000 in
theorem same_store {w : World} {ys : List flP.Pr} {R : List (List flP.Pr)} {y1 y2 r1 r2 : Option Addr} {c1 c2 d1 d2 : Nat} (lg : ByteArray) (sf : Int) (h1 : Pt w ys R y1 c1 r1 d1) (h2 : Pt w ys R y2 c2 r2 d2) (hf : Ft ys R) :
    Calls Tryz.prog 9 #[.agg #[.slice y1 ys.length c1, .slice r1 R.length d1, .string lg, .int .i64 sf], .agg #[.slice y2 ys.length c2, .slice r2 R.length d2, .string lg, .int .i64 sf]] w fun e w' => e = .returned (.bool true) ∧ Below w.heap.size w w' := by
  have hb : Below w.heap.size w ((w.alloc (.cells #[.slice y1 ys.length c1, .slice r1 R.length d1, .string lg, .int .i64 sf] 32)).alloc (.cells #[.slice y2 ys.length c2, .slice r2 R.length d2, .string lg, .int .i64 sf] 32)) := ((Below.refl _ _).alloc (Nat.le_refl _) _).alloc (by simp) _
  have hX := bold (bnew w #[.slice y1 ys.length c1, .slice r1 R.length d1, .string lg, .int .i64 sf] 32) (.cells #[.slice y2 ys.length c2, .slice r2 R.length d2, .string lg, .int .i64 sf] 32)
  have hY := bnew (w.alloc (.cells #[.slice y1 ys.length c1, .slice r1 R.length d1, .string lg, .int .i64 sf] 32)) #[.slice y2 ys.length c2, .slice r2 R.length d2, .string lg, .int .i64 sf] 32
  rw [World.size_alloc] at hY
  obtain ⟨W, hW⟩ : ∃ W, ((w.alloc (.cells #[.slice y1 ys.length c1, .slice r1 R.length d1, .string lg, .int .i64 sf] 32)).alloc (.cells #[.slice y2 ys.length c2, .slice r2 R.length d2, .string lg, .int .i64 sf] 32)) = W := ⟨_, rfl⟩
  rw [hW] at hb hX hY
  obtain ⟨k1, hk1, i1⟩ := h1.below hb
  obtain ⟨k2, hk2, i2⟩ := h2.below hb
  have hs := sta.same_table ys k1 k2 y1 y2 r1 r2 c1 c2 d1 d2 W (hf.fit hk1) (hk2.trans hk1.symm) i1.hy i2.hy i1.hr i2.hr
  have l1 : k1.length = R.length := by rw [← hk1, List.length_map]
  simp only [l1] at hs
  have HX : Hid (W.heap[w.heap.size]? = some (.cells #[.slice y1 ys.length c1, .slice r1 R.length d1, .string lg, .int .i64 sf] 32 (0, 0))) := hX
  have HY : Hid (W.heap[w.heap.size + 1]? = some (.cells #[.slice y2 ys.length c2, .slice r2 R.length d2, .string lg, .int .i64 sf] 32 (0, 0))) := hY
  have p0 : W.cell? ⟨w.heap.size, 0, none⟩ = some (.slice y1 ys.length c1) := bcell hX rfl
  have p1 : W.cell? ⟨w.heap.size, 1, none⟩ = some (.slice r1 R.length d1) := bcell hX rfl
  have q0 : W.cell? ⟨w.heap.size + 1, 0, none⟩ = some (.slice y2 ys.length c2) := bcell hY rfl
  have q1 : W.cell? ⟨w.heap.size + 1, 1, none⟩ = some (.slice r2 R.length d2) := bcell hY rfl
  clear hX hY h1 h2 hk1 i1 hk2 i2 hf l1 k1 k2
  go_enter Tryz.func9, Tryz.ntmps9
  go_wp2_with (go_at_call 23; fail)
  clear hW p0 p1 q0 q1
  refine hs.mono ?_
  rintro e w1 ⟨rfl, hb1⟩
  have hx := bstay HX.out hb1 (Array.getElem?_eq_some_iff.1 HX.out).1
  have hy := bstay HY.out hb1 (Array.getElem?_eq_some_iff.1 HY.out).1
  have p2 : w1.cell? ⟨w.heap.size, 2, none⟩ = some (.string lg) := bcell hx rfl
  have p3 : w1.cell? ⟨w.heap.size, 3, none⟩ = some (.int .i64 sf) := bcell hx rfl
  have q2 : w1.cell? ⟨w.heap.size + 1, 2, none⟩ = some (.string lg) := bcell hy rfl
  have q3 : w1.cell? ⟨w.heap.size + 1, 3, none⟩ = some (.int .i64 sf) := bcell hy rfl
  have HB : Hid (Below w.heap.size w w1) := hb.trans (hb1.mono hb.size)
  clear hs hx hy hb1 HX HY
  go_wp2
  go_ret
  exact ⟨rfl, HB.out⟩
end Go.Proofs.YtoemkbooomgieaaGreatDoor.sms

/- FnStored: the lists that are laid by, as they lie. -/
namespace Go.Proofs.YtoemkbooomgieaaGreatDoor.swl
open Go.ChangeShapes Go.WideShapes Go.ChangeAt Go.RowKit Go.Proofs.YtoemkbooomgieaaGreatDoor.fl Go.Proofs.YtoemkbooomgieaaGreatDoor.fo Go.Proofs.YtoemkbooomgieaaGreatDoor.rn Go.Proofs.YtoemkbooomgieaaGreatDoor.sok Go.Proofs.YtoemkbooomgieaaGreatDoor.sdl
set_option linter.unusedVariables false

theorem own_block {W : World} {B n s b : Nat} {U V : TypeId} {v : Value} {xs : List Value} {cur : Array Value} (h : W.ownsRow B U s v n xs) (hb : W.heap[b]? = some (.cells cur V (0, 0))) (hUV : U ≠ V) : v.ownBlock = none ∨ v.ownBlock ≠ some b := by
  obtain ⟨_, ⟨rfl, _⟩ | ⟨g, cap, cur', rfl, _, h1, _⟩⟩ := h
  · exact .inl rfl
  · right
    intro e
    have e2 : g = b := by simpa [Value.ownBlock] using e
    subst e2
    rw [h1] at hb
    simp at hb
    exact hUV hb.2
/-- lists laid by, in rows of their own -/
structure Sl (B : Nat) (X : World) (v : Value) (K : List Rn) : Prop where
  out : X.ownsRow B 28 1 v K.length (K.flatMap cR)
  inn : ∀ r ∈ K, X.ownsRow B 61 3 (.slice r.a r.l.length r.c) r.l.length (r.l.flatMap flP.c)
section
variable {B : Nat} {X X' W : World} {v : Value} {K : List Rn} {ys : List flP.Pr} {R : List (List flP.Pr)} {ya ra : Option Addr} {yc rc : Nat}
theorem Sl.on (h : Sl B X v K) (hb : Below X.heap.size X X') : Sl B X' v K := ⟨rnw.own_below h.out hb, fun r hr => rnw.own_below (h.inn r hr) hb⟩
/-- a store's box is written -/
theorem Sl.set (h : Sl B X v K) {b o : Nat} {u : Value} {cur : Array Value} (hb : X.heap[b]? = some (.cells cur 32 (0, 0))) : Sl B (X.setCell ⟨b, o, none⟩ u) v K := by
  have hg : X.grownBy (X.setCell ⟨b, o, none⟩ u) (some b) := ⟨rfl, rfl, rfl, by simp, fun k hk hne => Below.heap_setCell _ _ _ _ (fun e => hne (by rw [e]))⟩
  exact ⟨h.out.kept hg (own_block h.out hb (by decide)), fun r hr => (h.inn r hr).kept hg (own_block (h.inn r hr) hb (by decide))⟩
/-- one list more -/
theorem Sl.app (h : Sl B X v K) {g : Nat} {a : Option Addr} {c : Nat} {l : List flP.Pr} (hg : X.heap[g]? = some (.cells #[.slice a l.length c] 28 (0, 0))) (hr : X.ownsRow B 61 3 (.slice a l.length c) l.length (l.flatMap flP.c)) (hl : K.length ≤ 100) (hB : B ≤ X.heap.size) (t : TypeId) :
    ∃ v' Y, (Builtin.append_ #[24, 24] t #[v, .slice (some ⟨g, 0, none⟩) 1 1]).run Tryz.prog X = .ok v' Y ∧ Sl B Y v' (K ++ [⟨a, c, l⟩]) ∧ X.grownBy Y v.ownBlock ∧ (∀ z, v.ownBlock = some z → B ≤ z) := by
  obtain ⟨i0, hi, hz0, hz1, hz2⟩ := rcm.infoR
  obtain ⟨v', Y, hrun, ho, hgr, _, _⟩ := run_append_own_at (P := Tryz.prog) X B 24 t 28 i0 (.slice none 0 0) 1 24 Tryz.underlying24 hi hz0 hz1 hz2 rfl (by decide) v K.length (K.flatMap cR) h.out ⟨g, 0, none⟩ 1 1 [.slice a l.length c] rfl (fun j u hu => by rw [gbs.cpadd]; exact bcell hg (by simpa using hu)) (by intro u hu; simp at hu; subst hu; rfl) (by unfold maxLen; omega) (by omega) (by omega)
  refine ⟨v', Y, hrun, ⟨?_, fun r hr' => ?_⟩, hgr, fun z hz => (h.out.lt z hz).1⟩
  · rw [List.length_append, List.flatMap_append]
    simpa [cR] using ho
  · rcases List.mem_append.1 hr' with hr' | hr'
    · exact (h.inn r hr').kept hgr (dlf.own_apart (h.inn r hr') h.out (by decide))
    · rw [List.mem_singleton.1 hr']
      exact hr.kept hgr (dlf.own_apart hr h.out (by decide))
theorem p_all2 (h : Pt W ys R ya yc ra rc) (hf : Ft ys R) (lg : ByteArray) (sf : Int) : Calls Tryz.prog 6 #[.agg #[.slice ya ys.length yc, .slice ra R.length rc, .string lg, .int .i64 sf]] W fun e w' =>
    ∃ a c, e = .returned (.slice a (all0 ys R).length c) ∧ w'.ownsRow W.heap.size 61 3 (.slice a (all0 ys R).length c) (all0 ys R).length ((all0 ys R).flatMap flP.c) ∧ Below W.heap.size W w' := by
  have hF := hf
  obtain ⟨K, rfl, hI⟩ := h
  obtain ⟨rq, hn⟩ := hI.nr
  rw [List.length_map]
  refine (sal.impl_all ys K ya ra rq yc rc hn lg sf W (hF.fit rfl) hI.yl hI.kl hI.hy hI.hr).mono ?_
  rintro e w' ⟨v, rfl, h1, h2, hb⟩
  obtain ⟨a, c, rfl, h3⟩ := own_row flP.c_len h2
  exact ⟨a, c, rfl, h2, hb⟩
end
end Go.Proofs.YtoemkbooomgieaaGreatDoor.swl

/- A region that draws its order, whose operations with an effect wait for one another: they are done in one order, the others wherever they come. -/
namespace Go.Proofs.YtoemkbooomgieaaGreatDoor.chn
open Go.Proofs.YtoemkbooomgieaaGreatDoor.dn
set_option linter.unusedVariables false

/-- what is done waited for what it must; of the operations js the first k are done, and the world is as S says -/
def Cn {σ : Type} (l : List Oper) (js : List Nat) (S : σ → Nat → World → Prop) (s : σ) (L : Nat → Bool) (w : World) : Prop :=
  (∀ (i : Nat) (o : Oper), l[i]? = some o → L i = true → ∀ e ∈ o.after, Region.binds .any e = true → L e.on = true) ∧
  ∃ k, k ≤ js.length ∧ (∀ (m j : Nat), js[m]? = some j → L j = decide (m < k)) ∧ S s k w
theorem on (L : Nat → Bool) (i : Nat) : more L i i = true := by unfold more; rw [if_pos rfl]
theorem off (L : Nat → Bool) {i j : Nat} (h : j ≠ i) : more L i j = L j := by unfold more; rw [if_neg h]
theorem up {L : Nat → Bool} {i j : Nat} (h : L j = true) : more L i j = true := by
  unfold more
  split
  · rfl
  · exact h
theorem shut {l : List Oper} {L : Nat → Bool} {i : Nat} {o : Oper} (hl : l[i]? = some o) (hd : ∀ e ∈ o.after, Region.binds .any e = true → L e.on = true) (h : ∀ (i : Nat) (o : Oper), l[i]? = some o → L i = true → ∀ e ∈ o.after, Region.binds .any e = true → L e.on = true) :
    ∀ (i' : Nat) (o' : Oper), l[i']? = some o' → more L i i' = true → ∀ e ∈ o'.after, Region.binds .any e = true → more L i e.on = true := fun i' o' hl' hL e he hb => by
  by_cases hi : i' = i
  · subst hi
    rw [hl] at hl'
    cases hl'
    exact up (hd e he hb)
  · rw [off L hi] at hL
    exact up (h i' o' hl' hL e he hb)
section
variable {σ : Type} {P : Program} {act : Act} {ws : σ → List (Nat × Value)} {l : List Oper} {js : List Nat} {S : σ → Nat → World → Prop} {Q : Exit → Act → World → Prop} {i : Nat} {o : Oper}
/-- an operation without an effect, which the m-th of those with one waits for (or none does: m is how many they are) -/
theorem quiet (m : Nat) (hl : l[i]? = some o) (hi : i ∉ js) (hm : m = js.length ∨ ∃ j oj, js[m]? = some j ∧ l[j]? = some oj ∧ ∃ e ∈ oj.after, Region.binds .any e = true ∧ e.on = i) (hsel : ∀ cs b, o.op ≠ .select cs b) (u : σ → Value)
    (hd : ∀ s d, o.dst = some d → (dk.sets act (ws s)).tmps[d]? = some (u s)) (hrun : ∀ s k W, k ≤ m → S s k W → (execOp (dk.sets act (ws s)).eval o).run P W = .ok (.value (u s)) W) : gh.Step P (fun s => dk.sets act (ws s)) (Cn l js S) Q i o := by
  refine gh.step_val hsel fun s L W hdp h0 hC => ⟨s, u s, gh.Agree.refl _ _, hd s, ?_⟩
  obtain ⟨hc, k, hk, hL, hS⟩ := hC
  have hkm : k ≤ m := by
    rcases hm with rfl | ⟨j, oj, hj, hoj, e, he, hb, hon⟩
    · exact hk
    · rcases Nat.lt_or_ge m k with h | h
      · have h1 : L j = true := by rw [hL m j hj]; simpa using h
        have := hc j oj hoj h1 e he hb
        rw [hon, h0] at this
        cases this
      · exact h
  rw [hrun s k W hkm hS]
  refine ⟨rfl, shut hl hdp hc, k, hk, fun m' j hj => ?_, hS⟩
  rw [off L (fun e => hi (by rw [← e]; exact List.mem_of_getElem? hj))]
  exact hL m' j hj
theorem at_m {L : Nat → Bool} {k m : Nat} (hk : ∀ (m j : Nat), js[m]? = some j → L j = decide (m < k)) (hm : js[m]? = some i) (h0 : L i = false) (hdep : m = 0 ∨ ∃ e ∈ o.after, Region.binds .any e = true ∧ js[m - 1]? = some e.on) (hd : ∀ e ∈ o.after, Region.binds .any e = true → L e.on = true) : k = m := by
  have h1 := hk m i hm
  rw [h0] at h1
  have h2 : ¬ m < k := fun h => by simp [h] at h1
  rcases hdep with rfl | ⟨e, he, hb, hj⟩
  · omega
  · have h3 := hk (m - 1) e.on hj
    rw [hd e he hb] at h3
    have h4 : m - 1 < k := by simpa using h3.symm
    omega
theorem next_m {L : Nat → Bool} {m : Nat} (hnd : js.Nodup) (hm : js[m]? = some i) (hk : ∀ (m' j : Nat), js[m']? = some j → L j = decide (m' < m)) : ∀ (m' j : Nat), js[m']? = some j → more L i j = decide (m' < m + 1) := fun m' j hj => by
  by_cases hji : j = i
  · subst hji
    have h1 := (List.getElem?_eq_some_iff.1 hj)
    have h2 := (List.getElem?_eq_some_iff.1 hm)
    obtain ⟨a1, b1⟩ := h1
    obtain ⟨a2, b2⟩ := h2
    have : m' = m := by
      rcases Nat.lt_trichotomy m' m with h | h | h
      · exact absurd (b1.trans b2.symm) (List.pairwise_iff_getElem.1 hnd m' m a1 a2 h)
      · exact h
      · exact absurd (b2.trans b1.symm) (List.pairwise_iff_getElem.1 hnd m m' a2 a1 h)
    subst this
    rw [on]
    simp
  · rw [off L hji, hk m' j hj]
    have : m' ≠ m := fun e => by subst e; rw [hm] at hj; cases hj; exact hji rfl
    by_cases h : m' < m
    · simp [h, Nat.lt_succ_of_lt h]
    · simp [h, show ¬ m' < m + 1 by omega]
/-- the m-th of those with an effect -/
theorem eff (m : Nat) (hl : l[i]? = some o) (hnd : js.Nodup) (hm : js[m]? = some i) (hdep : m = 0 ∨ ∃ e ∈ o.after, Region.binds .any e = true ∧ js[m - 1]? = some e.on) (hsel : ∀ cs b, o.op ≠ .select cs b)
    (h : ∀ s W, S s m W → ∃ s' v, gh.Agree o (dk.sets act (ws s)) (dk.sets act (ws s')) ∧ (∀ d, o.dst = some d → (dk.sets act (ws s')).tmps[d]? = some v) ∧ left P v (S s' (m + 1)) ((execOp (dk.sets act (ws s)).eval o).run P W)) : gh.Step P (fun s => dk.sets act (ws s)) (Cn l js S) Q i o := by
  refine gh.step_val hsel fun s L W hdp h0 hC => ?_
  obtain ⟨hc, k, hk, hL, hS⟩ := hC
  obtain rfl := at_m hL hm h0 hdep hdp
  obtain ⟨s', v, h1, h2, h3⟩ := h s W hS
  refine ⟨s', v, h1, h2, ?_⟩
  have hlt := (List.getElem?_eq_some_iff.1 hm).1
  have hnew : ∀ W', S s' (k + 1) W' → Cn l js S s' (more L i) W' := fun W' hS' => ⟨shut hl hdp hc, k + 1, hlt, next_m hnd hm hL, hS'⟩
  generalize (execOp (dk.sets act (ws s)).eval o).run P W = r at *
  cases r with
  | ok n w' =>
    cases n <;> simp only [left] at h3 ⊢
    case value u => exact ⟨h3.1, hnew _ h3.2⟩
    case skip => exact ⟨h3.1, hnew _ h3.2⟩
    case enter f args => exact h3.mono fun e w'' ⟨he, hD⟩ => ⟨he, hnew _ hD⟩
  | halt x w' => simp only [left] at h3
/-- one of them that enters a function whose answer is known only behind it -/
theorem call (m : Nat) (hl : l[i]? = some o) (hnd : js.Nodup) (hm : js[m]? = some i) (hdep : m = 0 ∨ ∃ e ∈ o.after, Region.binds .any e = true ∧ js[m - 1]? = some e.on) (hsel : ∀ cs b, o.op ≠ .select cs b) (f : FuncId) (args : Array Value)
    (h : ∀ s W, S s m W → (execOp (dk.sets act (ws s)).eval o).run P W = .ok (.enter f args) W ∧ Calls P f args W fun e w' => ∃ s' v, e = .returned v ∧ gh.Agree o (dk.sets act (ws s)) (dk.sets act (ws s')) ∧ (∀ d, o.dst = some d → (dk.sets act (ws s')).tmps[d]? = some v) ∧ S s' (m + 1) w') : gh.Step P (fun s => dk.sets act (ws s)) (Cn l js S) Q i o := by
  refine stc.step_call hsel f args fun s L W hdp h0 hC => ?_
  obtain ⟨hc, k, hk, hL, hS⟩ := hC
  obtain rfl := at_m hL hm h0 hdep hdp
  obtain ⟨h1, h2⟩ := h s W hS
  have hlt := (List.getElem?_eq_some_iff.1 hm).1
  exact ⟨h1, h2.mono fun e w' ⟨s', v, he, ha, hv, hS'⟩ => ⟨s', v, he, ha, hv, shut hl hdp hc, k + 1, hlt, next_m hnd hm hL, hS'⟩⟩
theorem val {v : Value} {D : World → Prop} {r : Result Next} {w' : World} (h : r = .ok (.value v) w') (hD : D w') : left P v D r := by rw [h]; exact ⟨rfl, hD⟩
theorem skip {D : World → Prop} {r : Result Next} {w' : World} (h : r = .ok .skip w') (hD : D w') : left P undef D r := by rw [h]; exact ⟨rfl, hD⟩
/-- one of them that stores -/
theorem sto (m : Nat) (hl : l[i]? = some o) (hnd : js.Nodup) (hm : js[m]? = some i) (hdep : m = 0 ∨ ∃ e ∈ o.after, Region.binds .any e = true ∧ js[m - 1]? = some e.on) (hsel : ∀ cs b, o.op ≠ .select cs b) (hdst : o.dst = none)
    (h : ∀ s W, S s m W → ∃ w', (execOp (dk.sets act (ws s)).eval o).run P W = .ok .skip w' ∧ S s (m + 1) w') : gh.Step P (fun s => dk.sets act (ws s)) (Cn l js S) Q i o := by
  refine eff m hl hnd hm hdep hsel fun s W hS => ?_
  obtain ⟨w', h1, h2⟩ := h s W hS
  exact ⟨s, undef, gh.Agree.refl _ _, fun d hd => (by rw [hdst] at hd; cases hd), skip h1 h2⟩
/-- the whole region -/
theorem region {id : Nat} {w : World} (ks : List Nat) (s0 : σ) (hm : P.follows .mixedOrders = true) (hok : okB l.toArray = true) (hw : ∀ g, (ws g).map (·.1) = ks) (hks : (ks.all fun t => keepB l t) = true) (hjs : ∀ j ∈ js, j < l.length) (hS : S s0 0 w.drew)
    (hstep : gh.Each P (fun g => dk.sets act (ws g)) (Cn l js S) Q 0 l) (hend : ∀ s w', S s js.length w' → Q .normal (dk.sets act (ws s)) w') : (Code.region id l.toArray true).wp P Q act w := by
  refine dk.region_gsets ws ks (Cn l js S) s0 hm hok hw hks ⟨fun i o _ h => (by cases h), 0, Nat.zero_le _, fun m j _ => by simp, hS⟩ hstep fun s L w' hL hC => ?_
  obtain ⟨_, k, hk, hLk, hS'⟩ := hC
  have : k = js.length := by
    rcases Nat.lt_or_ge k js.length with h | h
    · have h1 := hLk k js[k] (List.getElem?_eq_getElem h)
      rw [hL _ (hjs _ (List.getElem_mem h))] at h1
      simp at h1
    · omega
  subst this
  exact hend s w' hS'
end
end Go.Proofs.YtoemkbooomgieaaGreatDoor.chn
