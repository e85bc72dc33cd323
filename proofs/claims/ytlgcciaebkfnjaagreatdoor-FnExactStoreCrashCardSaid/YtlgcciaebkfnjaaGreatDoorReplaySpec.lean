/- The specification's Replay. -/
import Derived.Test.YtlgcciaebkfnjaaGreatDoorReplayPure
import Derived.Test.YtlgcciaebkfnjaaGreatDoorPutSetCore
import Derived.Test.YtlgcciaebkfnjaaGreatDoorRecSpec
namespace Go.Proofs.YtlgcciaebkfnjaaGreatDoor.rps
open Go.ChangeShapes Go.WideShapes Go.ChangeAt Go.RowKit Go.Proofs.YtlgcciaebkfnjaaGreatDoor.fl Go.Proofs.YtlgcciaebkfnjaaGreatDoor.fo Go.Proofs.YtlgcciaebkfnjaaGreatDoor.rn Go.Proofs.YtlgcciaebkfnjaaGreatDoor.mrR Go.Proofs.YtlgcciaebkfnjaaGreatDoor.rcp Go.Proofs.YtlgcciaebkfnjaaGreatDoor.rcm Go.Proofs.YtlgcciaebkfnjaaGreatDoor.rpp
set_option linter.unusedVariables false

def kp (e : flP.Pr) : Bool := !e.g
theorem nx_no {p : flP.Pr → Bool} {all : List flP.Pr} {k : Nat} {e : flP.Pr} (h : all[k]? = some e) (hk : p e = false) : (all.take (k + 1)).filter p = (all.take k).filter p := by
  rw [List.take_add_one, List.filter_append, h]
  simp [hk]
theorem nx_yes {p : flP.Pr → Bool} {all : List flP.Pr} {k : Nat} {e : flP.Pr} (h : all[k]? = some e) (hk : p e = true) : (all.take (k + 1)).filter p = (all.take k).filter p ++ [e] := by
  rw [List.take_add_one, List.filter_append, h]
  simp [hk]
theorem row_of {W : World} {B g c : Nat} {l : List flP.Pr} (h : W.ownsRow B 49 3 (.slice (some ⟨g, 0, none⟩) l.length c) l.length (l.flatMap flP.c)) : Row flP.c 3 W W.heap.size (some ⟨g, 0, none⟩) l ∧ l.length ≤ c := by
  refine ⟨?_, ?_⟩
  · obtain ⟨a, cap, e, hr⟩ := own_row flP.c_len h
    have e2 := (Value.slice.inj e).1
    rw [← e2] at hr
    exact hr
  · obtain ⟨_, ⟨h1, _⟩ | ⟨g', cap, cur, h1, _, _, h4, _⟩⟩ := h
    · cases h1
    · have e2 := (Value.slice.inj h1).2.2
      omega
/-- what stands while what stays is laid -/
def S4 (w w9 : World) (gl : Nat) (all : List flP.Pr) (k : Nat) (v : Value) (wx : World) : Prop := Below w.heap.size w wx ∧ wx.ownsRow w.heap.size 49 3 v ((all.take k).filter kp).length (((all.take k).filter kp).flatMap flP.c) ∧ v.ownBlock ≠ some gl ∧ wx.heap[gl]? = w9.heap[gl]? ∧ gl < wx.heap.size

set_option maxRecDepth 100000 in
set_option maxHeartbeats 2000000 in
theorem spec_last (b : List flP.Pr) (aa : Option Addr) (bg ac bc : Nat) (w : World) (hbl : b.length ≤ 500000) (hB : Row flP.c 3 w w.heap.size (some ⟨bg, 0, none⟩) b) :
    Calls Tryz.prog 89 #[.slice aa 0 ac, .slice (some ⟨bg, 0, none⟩) b.length bc, .bool true] w fun r w' => ∃ v, r = .returned v ∧ w'.ownsRow w.heap.size 49 3 v (b.filter kp).length ((b.filter kp).flatMap flP.c) ∧ Below w.heap.size w w' := by
  obtain ⟨i0, hi, hz0, hz1, hz2⟩ := sct.infoP
  have hal1 : Below w.heap.size w (w.alloc (.cells #[] 49)) := (Below.refl _ _).alloc (Nat.le_refl _) _
  have hmade : (w.alloc (.cells #[] 49)).ownsRow w.heap.size 49 3 (.slice (some ⟨w.heap.size, 0, none⟩) 0 0) 0 [] := World.ownsRow_made w #[] 0 (Nat.le_refl _) (by unfold maxLen; omega) (by simp)
  have hyw : Row flP.c 3 (w.alloc (.cells #[] 49)) (w.alloc (.cells #[] 49)).heap.size (some ⟨bg, 0, none⟩) b := hB.inn hal1
  obtain ⟨X, hX⟩ : ∃ X, w.alloc (.cells #[] 49) = X := ⟨_, rfl⟩
  rw [hX] at hal1 hmade hyw
  obtain ⟨v', Y, hr, ho, hg, hnil, _⟩ := run_append_own_at (P := Tryz.prog) X w.heap.size 24 24 49 i0 (.agg #[.string ByteArray.empty, .string ByteArray.empty, .bool false]) 3 40 Tryz.underlying24 hi hz0 hz1 hz2 rfl (by decide) _ 0 [] hmade ⟨bg, 0, none⟩ b.length bc (b.flatMap flP.c) (flat_len flP.c_len b) (sct.newsP hyw) (sct.oneP b) (by unfold maxLen; omega) (by omega) hal1.size
  have hbY : Below w.heap.size w Y := hal1.grown hg hal1.size (fun b hb => (hmade.lt b hb).1)
  rw [Nat.zero_add, List.nil_append] at ho
  obtain ⟨gl, ca, rfl⟩ : ∃ ga ca, v' = .slice (some ⟨ga, 0, none⟩) b.length ca := by
    obtain ⟨_, ⟨rfl, h0⟩ | ⟨g, cap, cur, e, _⟩⟩ := ho
    · have := hnil.1 rfl; cases this.1
    · exact ⟨_, _, e⟩
  have hal9 : Below Y.heap.size Y (Y.alloc (.cells #[] 49)) := (Below.refl _ _).alloc (Nat.le_refl _) _
  have hbs := hbY.size
  have HRW : Hid (Row flP.c 3 (Y.alloc (.cells #[] 49)) (Y.alloc (.cells #[] 49)).heap.size (some ⟨gl, 0, none⟩) b) := (row_of ho).1.inn hal9
  have hgl1 : w.heap.size ≤ gl ∧ gl < Y.heap.size := ho.lt gl rfl
  have HS0 : Hid (S4 w (Y.alloc (.cells #[] 49)) gl b 0 (.slice (some ⟨Y.heap.size, 0, none⟩) 0 0) (Y.alloc (.cells #[] 49))) := by
    refine ⟨hbY.alloc hbs _, sct.own_low (World.ownsRow_made Y #[] 0 (Nat.le_refl _) (by unfold maxLen; omega) (by simp)) hbs, ?_, rfl, by simp; omega⟩
    show some Y.heap.size ≠ some gl
    intro h; have := Option.some.inj h; omega
  have hg9 : gl < (Y.alloc (.cells #[] 49)).heap.size := by simp; omega
  obtain ⟨w9, hw9⟩ : ∃ w9, Y.alloc (.cells #[] 49) = w9 := ⟨_, rfl⟩
  rw [hw9] at HRW HS0 hg9
  clear hmade hyw ho hg hnil hal1 hB hbY hal9 hgl1
  go_enter Tryz.func89, Tryz.ntmps89
  go_wp2_with (at_builtin; refine cpr.wpList_append_run rfl _ _ _ _ rfl _ _ _ rfl rfl hr ?_)
  clear hr hX
  refine wp_loop_rounds 1 ?_
  rw [rounds_succ]
  go_wp2
  clear hw9
  go_loopw [9, 10] (fun v x wx => ∃ k : Nat, k ≤ b.length ∧ x = .int .i64 k ∧ Hid (S4 w w9 gl b k v wx)) (fun _ x _ => b.length - (intOf x).toNat)
  case atStart => exact ⟨0, Nat.zero_le _, rfl, HS0⟩
  case round =>
    obtain ⟨k, hk2, rfl, hst⟩ := hrel
    by_cases hkl2 : k < b.length
    · obtain ⟨s1, s2, s3, s4, s5⟩ := hst.out
      have s6 := s1.size
      have HG : Hid (b[k]? = some b[k]) := List.getElem?_eq_getElem hkl2
      obtain ⟨⟨pk, pv, pg⟩, he⟩ : ∃ e, b[k] = e := ⟨_, rfl⟩
      rw [he] at HG
      obtain ⟨b', off, hbo, hlt, hc⟩ := HRW.out.resolve_left (by rintro rfl; simp at hkl2)
      cases hbo
      have go : ∀ (o : Nat) (v : Value), w9.cell? ⟨gl, o, none⟩ = some v → wr.cell? ⟨gl, o, none⟩ = some v := fun o v hv => (World.cell?_of_block (a := ⟨gl, o, none⟩) s4).trans hv
      have c0 : wr.cell? ⟨gl, k * 3, none⟩ = some (.string pk) := go _ _ (by have := hc k _ HG.out 0 _ rfl; simpa using this)
      have c1 : wr.cell? ⟨gl, k * 3 + 1, none⟩ = some (.string pv) := go _ _ (by have := hc k _ HG.out 1 _ rfl; simpa using this)
      have c2 : wr.cell? ⟨gl, k * 3 + 2, none⟩ = some (.bool pg) := go _ _ (by have := hc k _ HG.out 2 _ rfl; simpa using this)
      have i2 : (k : Int) < (b.length : Int) := by omega
      have hlen : ((b.take k).filter kp).length ≤ 1000000 := by have := List.length_filter_le kp (b.take k); rw [List.length_take] at this; omega
      clear he hc go
      cases pg with
      | true =>
        have HN : Hid ((b.take (k + 1)).filter kp = (b.take k).filter kp) := nx_no HG.out rfl
        have hst2 : Hid (S4 w w9 gl b (k + 1) u9 wr) := by
          unfold Hid S4
          rw [HN.out]
          exact hst.out
        clear hst s1 s2 s3 s4
        go_wp2
        go_roundw
        case rel => exact ⟨k + 1, by omega, by go_num, hst2⟩
        case measure => simp [intOf]; omega
      | false =>
        have HN : Hid ((b.take (k + 1)).filter kp = (b.take k).filter kp ++ [⟨pk, pv, false⟩]) := nx_yes HG.out rfl
        have hal5 : Below wr.heap.size wr (wr.alloc (.cells #[.string pk, .string pv, .bool false] 49)) := (Below.refl _ _).alloc (Nat.le_refl _) _
        obtain ⟨v', Y4, hr, ho, hg, _, hat⟩ := run_append_own_at (P := Tryz.prog) (wr.alloc (.cells #[.string pk, .string pv, .bool false] 49)) w.heap.size 24 24 49 i0 (.agg #[.string ByteArray.empty, .string ByteArray.empty, .bool false]) 3 40 Tryz.underlying24 hi hz0 hz1 hz2 rfl (by decide) u9 _ _ (gbs.own_on s2 hal5) ⟨wr.heap.size, 0, none⟩ 1 1 [.string pk, .string pv, .bool false] rfl (fun j u hu => by rw [sct.add0]; exact bcell (bnew wr _ _) (by simpa using hu)) (by intro u hu; simp at hu; rcases hu with rfl | rfl | rfl <;> rfl) (by unfold maxLen; omega) (by omega) (by simp; omega)
        have hst2 : Hid (S4 w w9 gl b (k + 1) v' Y4) := by
          unfold Hid S4
          rw [HN.out, List.length_append, List.flatMap_append]
          have hgs := hg.size
          simp at hgs
          refine ⟨(s1.alloc (by omega) _).grown hg (by simp; omega) (fun b hb => (s2.lt b hb).1), by simpa [flP.c] using ho, ?_, ((hg.block gl (by simp; omega) (Ne.symm s3)).trans (hal5.block gl s5)).trans s4, by omega⟩
          rcases hat with h | h
          · rw [h]; exact s3
          · rw [h]; intro h2; have := Option.some.inj h2; simp at this; omega
        clear ho hg hal5 hst hat s1 s2 s3 s4
        go_wp2_with (at_builtin; refine cpr.wpList_append_run rfl _ _ _ _ rfl _ _ _ rfl rfl hr ?_)
        go_roundw
        case rel => exact ⟨k + 1, by omega, by go_num, hst2⟩
        case measure => simp [intOf]; omega
    · obtain rfl : k = b.length := by omega
      have HFN : Hid (wr.ownsRow w.heap.size 49 3 u9 (b.filter kp).length ((b.filter kp).flatMap flP.c) ∧ Below w.heap.size w wr) := by
        unfold Hid
        have h2 := hst.out.2.1
        rw [List.take_length] at h2
        exact ⟨h2, hst.out.1⟩
      clear hst
      go_wp2
      go_ret
      exact ⟨_, rfl, HFN.out⟩

/-- all pairs of the first batches, and of the first pairs of the next -/
def upto (R : List (List flP.Pr)) (i k : Nat) : List flP.Pr := (R.take i).flatten ++ (R.getD i []).take k
theorem upto_next {R : List (List flP.Pr)} {i k : Nat} {l : List flP.Pr} {e : flP.Pr} (h : R[i]? = some l) (he : l[k]? = some e) : upto R i (k + 1) = upto R i k ++ [e] := by
  unfold upto
  rw [List.getD_eq_getElem?_getD, h, Option.getD_some, List.take_add_one, he]
  simp
theorem upto_row {R : List (List flP.Pr)} {i : Nat} {l : List flP.Pr} (h : R[i]? = some l) : upto R i l.length = upto R (i + 1) 0 := by
  unfold upto
  rw [List.getD_eq_getElem?_getD, h, Option.getD_some, List.take_add_one, h, List.take_length]
  simp
theorem upto_0 (R : List (List flP.Pr)) : upto R 0 0 = [] := by simp [upto]
theorem upto_all (R : List (List flP.Pr)) : upto R R.length 0 = R.flatten := by simp [upto]
theorem upto_le {R : List (List flP.Pr)} (i k : Nat) : (upto R i k).length ≤ R.flatten.length := by
  by_cases hi : i < R.length
  · have h := List.getElem?_eq_getElem hi
    have e : R.flatten = (R.take i).flatten ++ (R[i] ++ (R.drop (i + 1)).flatten) := by
      have h0 : R = R.take i ++ R[i] :: R.drop (i + 1) := by rw [← List.drop_eq_getElem_cons hi, List.take_append_drop]
      have h1 := congrArg List.flatten h0
      rw [List.flatten_append, List.flatten_cons] at h1
      exact h1
    unfold upto
    rw [e, List.getD_eq_getElem?_getD, h, Option.getD_some]
    simp only [List.length_append, List.length_take]
    omega
  · unfold upto
    rw [List.getD_eq_getElem?_getD, List.getElem?_eq_none (by omega), Option.getD_none, List.take_of_length_le (by omega)]
    simp
/-- what stands when some pairs are set -/
structure Sa (W : World) (R : List (List flP.Pr)) (i k : Nat) (v : Value) (wr : World) : Prop where
  bel : Below W.heap.size W wr
  al : ∃ g c, v = .slice (some ⟨g, 0, none⟩) (ev (upto R i k)).length c ∧ (ev (upto R i k)).length ≤ c ∧ Row flP.c 3 wr wr.heap.size (some ⟨g, 0, none⟩) (ev (upto R i k))

set_option maxRecDepth 100000 in
set_option maxHeartbeats 4000000 in
theorem spec_replay (s : ByteArray) (w : World) (hs : s.size ≤ 1048576) :
    Calls Tryz.prog 56 #[.string s] w fun e w' => ∃ v, e = .returned v ∧ w'.ownsRow w.heap.size 49 3 v (rep s).length ((rep s).flatMap flP.c) ∧ Below w.heap.size w w' := by
  have hal : Below w.heap.size w (w.alloc (.cells #[] 49)) := (Below.refl _ _).alloc (Nat.le_refl _) _
  have hnw := bnew w #[] 49
  obtain ⟨W0, hW0⟩ : ∃ W0, w.alloc (.cells #[] 49) = W0 := ⟨_, rfl⟩
  rw [hW0] at hal hnw
  have hlt0 := (Array.getElem?_eq_some_iff.1 hnw).1
  have hrc := rcS.spec_recs s W0 hs
  obtain ⟨R, hR⟩ : ∃ R, (recs s).1 = R := ⟨_, rfl⟩
  obtain ⟨z, hz⟩ : ∃ z, (recs s).2 = z := ⟨_, rfl⟩
  have HRep : Hid (rep s = (ev R.flatten).filter kp) := by unfold Hid rep; rw [hR]; rfl
  have hfl : R.flatten.length ≤ 200000 ∧ R.length ≤ 25000 := by
    by_cases h : s.size ≤ 200000
    · obtain ⟨i, hi, _⟩ := left_ex s h
      rw [hR] at hi
      exact ⟨by have := hi.tot; have := hi.hi; omega, left_len h hi⟩
    · rw [recs_big (by omega)] at hR
      subst hR
      simp
  rw [hR, hz] at hrc
  clear hR hz
  go_enter Tryz.func56, Tryz.ntmps56
  go_wp2_with (go_at_call 55; fail)
  clear hW0
  refine hrc.mono ?_
  rintro e W ⟨v1, rfl, rs, hm, hro⟩
  obtain ⟨la, lc, rfl, hvr, _⟩ := hro.vr
  have hb1 := hro.bel
  have hrl : rs.length = R.length := by rw [← hm, List.length_map]
  have HVR : Hid (VR W W.heap.size la rs) := hvr
  have HM : Hid (rs.map (·.l) = R) := hm
  have hBW : Below w.heap.size w W := hal.trans (hb1.mono hal.size)
  have HS0 : Hid (Sa W R 0 0 (.slice (some ⟨w.heap.size, 0, none⟩) 0 0) W) := ⟨Below.refl _ _, w.heap.size, 0, by rw [upto_0]; rfl, by rw [upto_0]; exact Nat.le_refl _, .inl (by rw [upto_0]; rfl)⟩
  clear hrc hro hvr hm hb1 hal hnw hlt0
  rw [hrl]
  go_wp2
  go_loopw [3, 6] (fun v x wr => ∃ i : Nat, i ≤ R.length ∧ x = .int .i64 i ∧ Hid (Sa W R i 0 v wr)) (fun _ x _ => R.length - (intOf x).toNat)
  case atStart => exact ⟨0, Nat.zero_le _, rfl, HS0⟩
  case round =>
    obtain ⟨i, hi, rfl, hst⟩ := hrel
    by_cases hil : i < R.length
    · have hir : i < rs.length := by omega
      have i2 : (i : Int) < (R.length : Int) := by omega
      have HG : Hid (rs[i]? = some rs[i]) := List.getElem?_eq_getElem hir
      have HRR : Hid (Row flP.c 3 W W.heap.size rs[i].a rs[i].l) := HVR.out.2 rs[i] (List.getElem_mem hir)
      have HRI : Hid (R[i]? = some rs[i].l) := by unfold Hid; rw [← HM.out, List.getElem?_map, List.getElem?_eq_getElem hir]; rfl
      obtain ⟨⟨ra, rc, rl⟩, he⟩ : ∃ e, rs[i] = e := ⟨_, rfl⟩
      rw [he] at HG HRR HRI
      obtain ⟨b, off, rfl, hlt, hc⟩ := HVR.out.1.resolve_left (by rintro rfl; simp at hir)
      have HC : Hid (∀ wr, Below W.heap.size W wr → wr.cell? ⟨b, off + i, none⟩ = some (.slice ra rl.length rc)) := fun wr hb => (hb.cell (p := ⟨b, off + i, none⟩) hlt).trans (by have := hc i _ HG.out 0 _ rfl; simpa using this)
      have hrl60 : rl.length ≤ R.flatten.length := by
        have := List.length_flatten (L := R)
        have h2 := upto_le (R := R) i rl.length
        unfold upto at h2
        rw [List.getD_eq_getElem?_getD, HRI.out, Option.getD_some, List.take_length, List.length_append] at h2
        omega
      clear he hc HS0 hir
      go_wp2
      go_loopw [3, 7] (fun v x wr => ∃ k : Nat, k ≤ rl.length ∧ x = .int .i64 k ∧ Hid (Sa W R i k v wr)) (fun _ x _ => rl.length - (intOf x).toNat)
      case atStart => exact ⟨0, Nat.zero_le _, rfl, hst⟩
      case round =>
        obtain ⟨k, hk, rfl, hs2⟩ := hrel
        clear hst
        have c0 := HC.out wr hs2.out.bel
        by_cases hkl : k < rl.length
        · have i3 : (k : Int) < (rl.length : Int) := by omega
          have HE : Hid (rl[k]? = some rl[k]) := List.getElem?_eq_getElem hkl
          obtain ⟨⟨pk, pv, pg⟩, hpe⟩ : ∃ e, rl[k] = e := ⟨_, rfl⟩
          rw [hpe] at HE
          obtain ⟨qb, qo, rfl, hqlt, hqc⟩ := HRR.out.resolve_left (by rintro h0; rw [h0] at hkl; simp at hkl)
          have go : ∀ (o : Nat) (v : Value), W.cell? ⟨qb, o, none⟩ = some v → wr.cell? ⟨qb, o, none⟩ = some v := fun o v hv => (hs2.out.bel.cell (p := ⟨qb, o, none⟩) hqlt).trans hv
          have p0 := go _ _ (hqc k _ HE.out 0 _ rfl)
          have p1 := go _ _ (hqc k _ HE.out 1 _ rfl)
          have p2 := go _ _ (hqc k _ HE.out 2 _ rfl)
          rw [Nat.add_zero] at p0
          obtain ⟨gl, cl, rfl, hlc, hrow⟩ := hs2.out.al
          have hln : (ev (upto R i k)).length ≤ 200000 := by have := ev_len (upto R i k); have := upto_le (R := R) i k; omega
          have hset := pss.spec_set (ev (upto R i k)) gl cl pk pv pg wr (by omega) hlc hrow
          have HEV : Hid (ptp.setP (ev (upto R i k)) ⟨pk, pv, pg⟩ = ev (upto R i (k + 1))) := by unfold Hid; rw [upto_next HRI.out HE.out, ev_app]
          have HB : Hid (Below W.heap.size W wr) := hs2.out.bel
          rw [HEV.out] at hset
          clear hpe hqc go hrow hs2
          go_wp2_with (go_at_call 80; fail)
          refine hset.mono ?_
          rintro e w3 ⟨g2, c2, rfl, ho3, hb3⟩
          obtain ⟨hr3, hle3⟩ := row_of ho3
          have HN : Hid (Sa W R i (k + 1) (.slice (some ⟨g2, 0, none⟩) (ev (upto R i (k + 1))).length c2) w3) := ⟨HB.out.trans (hb3.mono HB.out.size), g2, c2, rfl, hle3, hr3⟩
          clear hset ho3 hb3 p0 p1 p2 hr3 c0 HB
          go_wp2
          go_roundw
          case rel => exact ⟨k + 1, by omega, by go_num, HN⟩
          case measure => simp [intOf]; omega
        · obtain rfl : k = rl.length := by omega
          have HN : Hid (Sa W R (i + 1) 0 u3 wr) := by
            obtain ⟨h1, h2⟩ := hs2.out
            rw [upto_row HRI.out] at h2
            exact ⟨h1, h2⟩
          clear hs2
          go_wp2
          go_roundw
          case rel => exact ⟨i + 1, by omega, by go_num, HN⟩
          case measure => simp [intOf]; omega
    · obtain rfl : i = R.length := by omega
      obtain ⟨h1, gl, cl, rfl, hlc, hrow⟩ := hst.out
      rw [upto_all] at hlc hrow ⊢
      have hln : (ev R.flatten).length ≤ 200000 := by have := ev_len R.flatten; omega
      have hal2 : Below wr.heap.size wr (wr.alloc (.cells #[] 49)) := (Below.refl _ _).alloc (Nat.le_refl _) _
      have hls := spec_last (ev R.flatten) (some ⟨wr.heap.size, 0, none⟩) gl 0 cl (wr.alloc (.cells #[] 49)) (by omega) (hrow.inn hal2)
      have hb2 : Below w.heap.size w wr := hBW.trans (h1.mono hBW.size)
      have hb3 : Below w.heap.size w (wr.alloc (.cells #[] 49)) := hb2.trans (hal2.mono hb2.size)
      clear hst HS0 hrow h1
      go_wp2_with (go_at_call 89; fail)
      refine hls.mono ?_
      rintro e w5 ⟨v5, rfl, ho5, hb5⟩
      have HF : Hid (∃ v, Ending.returned v5 = .returned v ∧ w5.ownsRow w.heap.size 49 3 v (rep s).length ((rep s).flatMap flP.c) ∧ Below w.heap.size w w5) := by
        unfold Hid
        rw [HRep.out]
        exact ⟨v5, rfl, sct.own_low ho5 hb3.size, hb3.trans (hb5.mono hb3.size)⟩
      clear hls ho5 hb5
      go_wp2
      go_ret
      exact HF.out
end Go.Proofs.YtlgcciaebkfnjaaGreatDoor.rps
