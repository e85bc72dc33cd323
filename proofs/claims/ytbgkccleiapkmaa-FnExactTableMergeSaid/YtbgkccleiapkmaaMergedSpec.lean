/- The specification's l07Merged: two runs as one. -/
import Derived.Test.YtbgkccleiapkmaaScanSpec
namespace Go.Proofs.Ytbgkccleiapkmaa.mgd
open Go.ChangeShapes Go.WideShapes Go.ChangeAt Go.RowKit Go.Proofs.Ytbgkccleiapkmaa.fl Go.Proofs.Ytbgkccleiapkmaa.rn Go.Proofs.Ytbgkccleiapkmaa.rc Go.Proofs.Ytbgkccleiapkmaa.ro Go.Proofs.Ytbgkccleiapkmaa.tk Go.Proofs.Ytbgkccleiapkmaa.tko Go.Proofs.Ytbgkccleiapkmaa.sci Go.Proofs.Ytbgkccleiapkmaa.scs
set_option linter.unusedVariables false

/-- what stays of a merged run -/
def kp (last : Bool) (e : flP.Pr) : Bool := !e.g || !last
noncomputable def merged (a b : List flP.Pr) (last : Bool) : List flP.Pr := (nwL [a, b]).filter (kp last)
theorem nx_no {p : flP.Pr → Bool} {all : List flP.Pr} {k : Nat} {e : flP.Pr} (h : all[k]? = some e) (hk : p e = false) : (all.take (k + 1)).filter p = (all.take k).filter p := by
  obtain ⟨hl, rfl⟩ := List.getElem?_eq_some_iff.1 h
  rw [List.take_succ_eq_append_getElem hl, List.filter_append]
  simp [hk]
theorem nx_yes {p : flP.Pr → Bool} {all : List flP.Pr} {k : Nat} {e : flP.Pr} (h : all[k]? = some e) (hk : p e = true) : (all.take (k + 1)).filter p = (all.take k).filter p ++ [e] := by
  obtain ⟨hl, rfl⟩ := List.getElem?_eq_some_iff.1 h
  rw [List.take_succ_eq_append_getElem hl, List.filter_append]
  simp [hk]
theorem is_start {b : List flP.Pr} (h : mgp.Asc b) : mgp.Is [[], b] b := ⟨h, fun x => by
  have := mgs.new_app (L := [[]]) (m := b) (x := x)
  rw [show [[], b] = [[]] ++ [b] from rfl, this]
  constructor
  · intro hx
    exact .inr ⟨hx, fun j q hq y hy => by
      cases j with
      | zero => simp at hq; subst hq; cases hy
      | succ j => simp at hq⟩
  · rintro (⟨i, q, h1, h2, _⟩ | ⟨h1, _⟩)
    · cases i with
      | zero => simp at h1; subst h1; cases h2
      | succ i => simp at h1
    · exact h1⟩
/-- what stands while what stays is laid -/
def S4 (w w9 : World) (gl : Nat) (p : flP.Pr → Bool) (all : List flP.Pr) (k : Nat) (v : Value) (wx : World) : Prop := Below w.heap.size w wx ∧ wx.ownsRow w.heap.size 40 3 v ((all.take k).filter p).length (((all.take k).filter p).flatMap flP.c) ∧ v.ownBlock ≠ some gl ∧ wx.heap[gl]? = w9.heap[gl]? ∧ gl < wx.heap.size

set_option maxRecDepth 100000 in
set_option maxHeartbeats 2000000 in
theorem spec_merged (a b : List flP.Pr) (aa : Option Addr) (bp : Addr) (ac bc : Nat) (last : Bool) (w : World) (hal : a.length ≤ 500000) (hbl : b.length ≤ 500000) (hAa : mgp.Asc a) (hAb : mgp.Asc b) (hA : Row flP.c 3 w w.heap.size aa a) (hB : Row flP.c 3 w w.heap.size (some bp) b) :
    Calls Try.prog 66 #[.slice aa a.length ac, .slice (some bp) b.length bc, .bool last] w fun r w' => ∃ v, r = .returned v ∧ mgp.Is [a, b] (nwL [a, b]) ∧ (merged a b last).length ≤ a.length + b.length ∧ w'.ownsRow w.heap.size 40 3 v (merged a b last).length ((merged a b last).flatMap flP.c) ∧ Below w.heap.size w w' := by
  obtain ⟨i0, hi, hz0, hz1, hz2⟩ := info_parts rnw.infoP
  have hal1 : Below w.heap.size w (w.alloc (.cells #[] 40)) := (Below.refl _ _).alloc (Nat.le_refl _) _
  have hmade : (w.alloc (.cells #[] 40)).ownsRow w.heap.size 40 3 (.slice (some ⟨w.heap.size, 0, none⟩) 0 0) 0 [] := World.ownsRow_made w #[] 0 (Nat.le_refl _) (by unfold maxLen; omega) (by simp)
  have hyw : Row flP.c 3 (w.alloc (.cells #[] 40)) (w.alloc (.cells #[] 40)).heap.size (some bp) b := hB.inn hal1
  obtain ⟨X, hX⟩ : ∃ X, w.alloc (.cells #[] 40) = X := ⟨_, rfl⟩
  rw [hX] at hal1 hmade hyw
  obtain ⟨v', Y, hr, ho, hg, hnil, _⟩ := run_append_own_at (P := Try.prog) X w.heap.size 24 24 40 i0 (.agg #[.string ByteArray.empty, .string ByteArray.empty, .bool false]) 3 40 Try.underlying24 hi hz0 hz1 hz2 rfl (by decide) _ 0 [] hmade bp b.length bc (b.flatMap flP.c) (flat_len flP.c_len b) (news_row hyw) (one_all b) (by unfold maxLen; omega) (by omega) hal1.size
  have hbY : Below w.heap.size w Y := hal1.grown hg hal1.size (fun b hb => (hmade.lt b hb).1)
  rw [Nat.zero_add, List.nil_append] at ho
  obtain ⟨ga, ca, rfl⟩ : ∃ ga ca, v' = .slice (some ⟨ga, 0, none⟩) b.length ca := by
    obtain ⟨_, ⟨rfl, h0⟩ | ⟨g, cap, cur, e, _⟩⟩ := ho
    · have := hnil.1 rfl; cases this.1
    · exact ⟨_, _, e⟩
  have HSP0 : Hid (Sp w [a.take 0, b] (b.length + 0) (.slice (some ⟨ga, 0, none⟩) b.length ca) b Y) := ⟨⟨ga, ca, rfl, ho⟩, hbY, by rw [List.take_zero]; exact is_start hAb, by omega⟩
  have HRA : Hid (Row flP.c 3 w w.heap.size aa a) := hA
  have HAA : Hid (mgp.Asc a) := hAa
  have hal' : a.length ≤ maxLen := by unfold maxLen; omega
  obtain ⟨mr, hmr⟩ : ∃ mr, merged a b last = mr := ⟨_, rfl⟩
  have HMR : Hid (merged a b last = mr) := hmr
  rw [hmr]
  clear hmade hyw ho hg hnil hal1 hA hB hbY hAa hAb hmr
  go_enter Try.func66, Try.ntmps66
  go_wp2_with (at_builtin; refine cpr.wpList_append_run rfl _ _ _ _ rfl _ _ _ rfl rfl hr ?_)
  clear hr hX
  go_loopw [7, 8] (fun v x wr => ∃ (k : Nat) (al2 : List flP.Pr), k ≤ a.length ∧ x = .int .i64 k ∧ Hid (Sp w [a.take k, b] (b.length + k) v al2 wr)) (fun _ x _ => a.length - (intOf x).toNat)
  case atStart => exact ⟨0, b, Nat.zero_le _, rfl, HSP0⟩
  case round =>
    obtain ⟨k, al2, hkl, rfl, hsi⟩ := hrel
    by_cases hk : k < a.length
    · have HE : Hid (a[k]? = some a[k]) := List.getElem?_eq_getElem hk
      obtain ⟨⟨pk, pv, pg⟩, hpe⟩ : ∃ e, a[k] = e := ⟨_, rfl⟩
      rw [hpe] at HE
      obtain ⟨qb, qo, rfl, hqlt, hqc⟩ := HRA.out.resolve_left (by rintro rfl; simp at hk)
      have go : ∀ (o : Nat) (v : Value), w.cell? ⟨qb, o, none⟩ = some v → wr.cell? ⟨qb, o, none⟩ = some v := fun o v hv => (hsi.out.bel.cell (p := ⟨qb, o, none⟩) hqlt).trans hv
      have p0 := go _ _ (hqc k _ HE.out 0 _ rfl)
      have p1 := go _ _ (hqc k _ HE.out 1 _ rfl)
      have p2 := go _ _ (hqc k _ HE.out 2 _ rfl)
      rw [Nat.add_zero] at p0
      obtain ⟨gl, cl, rfl, _⟩ := hsi.out.al
      have hln : al2.length ≤ 1000000 := by have := hsi.out.len; omega
      have i3 : (k : Int) < (a.length : Int) := by omega
      have hset := pss.spec_set al2 gl cl pk pv pg wr (by omega) hsi.out.al.row.2 hsi.out.al.row.1
      have HNEW : Hid (mgp.Is [a.take (k + 1), b] (ptp.setP al2 ⟨pk, pv, pg⟩)) := mgs.is_over hsi.out.is HAA.out HE.out
      clear hpe hqc go
      go_wp2_with (go_at_call 70; fail)
      refine hset.mono ?_
      rintro e w3 ⟨g2, c2, rfl, ho3, hb3⟩
      have hXs := hsi.out.bel.size
      have HN : Hid (Sp w [a.take (k + 1), b] (b.length + (k + 1)) (.slice (some ⟨g2, 0, none⟩) (ptp.setP al2 ⟨pk, pv, pg⟩).length c2) (ptp.setP al2 ⟨pk, pv, pg⟩) w3) :=
        ⟨⟨g2, c2, rfl, sct.own_low ho3 hXs⟩, hsi.out.bel.trans (hb3.mono hXs), HNEW.out, by have := hsi.out.len; have := ptp.setP_le al2 ⟨pk, pv, pg⟩; omega⟩
      clear hset ho3 hb3 hsi HNEW p0 p1 p2
      go_wp2
      go_roundw
      case rel => exact ⟨k + 1, ptp.setP al2 ⟨pk, pv, pg⟩, by omega, by go_num, HN⟩
      case measure => simp [intOf]; omega
    · obtain rfl : k = a.length := by omega
      have hIs : mgp.Is [a, b] al2 := by have := hsi.out.is; rw [List.take_length] at this; exact this
      have HIS : Hid (mgp.Is [a, b] al2) := hIs
      have hall : Hid (mr = al2.filter (kp last)) := by unfold Hid; rw [← HMR.out]; unfold merged; rw [nwL_eq hIs]
      have hln : al2.length ≤ 1000000 := by have := hsi.out.len; omega
      have HLN : Hid (al2.length ≤ a.length + b.length) := by have := hsi.out.len; unfold Hid; omega
      obtain ⟨gl, cl, rfl, _⟩ := hsi.out.al
      have hal9 : Below wr.heap.size wr (wr.alloc (.cells #[] 40)) := (Below.refl _ _).alloc (Nat.le_refl _) _
      have hbs := hsi.out.bel.size
      have HRW : Hid (Row flP.c 3 (wr.alloc (.cells #[] 40)) (wr.alloc (.cells #[] 40)).heap.size (some ⟨gl, 0, none⟩) al2) := hsi.out.al.row.1.inn hal9
      have hgl1 : w.heap.size ≤ gl ∧ gl < wr.heap.size := by
        obtain ⟨_, _, _, h2⟩ := hsi.out.al
        exact h2.lt gl rfl
      have HS0 : Hid (S4 w (wr.alloc (.cells #[] 40)) gl (kp last) al2 0 (.slice (some ⟨wr.heap.size, 0, none⟩) 0 0) (wr.alloc (.cells #[] 40))) := by
        refine ⟨hsi.out.bel.alloc hbs _, sct.own_low (World.ownsRow_made wr #[] 0 (Nat.le_refl _) (by unfold maxLen; omega) (by simp)) hbs, ?_, rfl, by simp; omega⟩
        show some wr.heap.size ≠ some gl
        intro h; have := Option.some.inj h; omega
      have hg9 : gl < (wr.alloc (.cells #[] 40)).heap.size := by simp; omega
      obtain ⟨w9, hw9⟩ : ∃ w9, wr.alloc (.cells #[] 40) = w9 := ⟨_, rfl⟩
      rw [hw9] at HRW HS0 hg9
      clear hsi hIs hal9 hgl1
      go_wp2
      clear hw9
      go_loopw [9, 10] (fun v x wx => ∃ k : Nat, k ≤ al2.length ∧ x = .int .i64 k ∧ Hid (S4 w w9 gl (kp last) al2 k v wx)) (fun _ x _ => al2.length - (intOf x).toNat)
      case atStart => exact ⟨0, Nat.zero_le _, rfl, HS0⟩
      case round =>
        obtain ⟨k, hk2, rfl, hst⟩ := hrel
        by_cases hkl2 : k < al2.length
        · obtain ⟨s1, s2, s3, s4, s5⟩ := hst.out
          have s6 := s1.size
          have HG : Hid (al2[k]? = some al2[k]) := List.getElem?_eq_getElem hkl2
          obtain ⟨⟨pk, pv, pg⟩, he⟩ : ∃ e, al2[k] = e := ⟨_, rfl⟩
          rw [he] at HG
          obtain ⟨b', off, hbo, hlt, hc⟩ := HRW.out.resolve_left (by rintro rfl; simp at hkl2)
          cases hbo
          have go : ∀ (o : Nat) (v : Value), w9.cell? ⟨gl, o, none⟩ = some v → wr.cell? ⟨gl, o, none⟩ = some v := fun o v hv => (World.cell?_of_block (a := ⟨gl, o, none⟩) s4).trans hv
          have c0 : wr.cell? ⟨gl, k * 3, none⟩ = some (.string pk) := go _ _ (by have := hc k _ HG.out 0 _ rfl; simpa using this)
          have c1 : wr.cell? ⟨gl, k * 3 + 1, none⟩ = some (.string pv) := go _ _ (by have := hc k _ HG.out 1 _ rfl; simpa using this)
          have c2 : wr.cell? ⟨gl, k * 3 + 2, none⟩ = some (.bool pg) := go _ _ (by have := hc k _ HG.out 2 _ rfl; simpa using this)
          have i2 : (k : Int) < (al2.length : Int) := by omega
          have hlen : ((al2.take k).filter (kp last)).length ≤ 1000000 := by have := List.length_filter_le (kp last) (al2.take k); rw [List.length_take] at this; omega
          clear he hc go
          cases hkp : kp last ⟨pk, pv, pg⟩ with
          | false =>
            obtain ⟨rfl, rfl⟩ : pg = true ∧ last = true := by cases pg <;> cases last <;> simp [kp] at hkp <;> exact ⟨rfl, rfl⟩
            have HN : Hid ((al2.take (k + 1)).filter (kp true) = (al2.take k).filter (kp true)) := nx_no HG.out hkp
            have hst2 : Hid (S4 w w9 gl (kp true) al2 (k + 1) u9 wr) := by
              unfold Hid S4
              rw [HN.out]
              exact hst.out
            clear hst s1 s2 s3 s4
            go_wp2
            go_roundw
            case rel => exact ⟨k + 1, by omega, by go_num, hst2⟩
            case measure => simp [intOf]; omega
          | true =>
            have HN : Hid ((al2.take (k + 1)).filter (kp last) = (al2.take k).filter (kp last) ++ [⟨pk, pv, pg⟩]) := nx_yes HG.out hkp
            have hal5 : Below wr.heap.size wr (wr.alloc (.cells #[.string pk, .string pv, .bool pg] 40)) := (Below.refl _ _).alloc (Nat.le_refl _) _
            obtain ⟨v', Y4, hr, ho, hg, _, hat⟩ := run_append_own_at (P := Try.prog) (wr.alloc (.cells #[.string pk, .string pv, .bool pg] 40)) w.heap.size 24 24 40 i0 (.agg #[.string ByteArray.empty, .string ByteArray.empty, .bool false]) 3 40 Try.underlying24 hi hz0 hz1 hz2 rfl (by decide) u9 _ _ (own_stay s2 hal5) ⟨wr.heap.size, 0, none⟩ 1 1 [.string pk, .string pv, .bool pg] rfl (fun j u hu => by rw [pap.add0]; exact bcell (bnew wr _ _) (by simpa using hu)) (by intro u hu; simp at hu; rcases hu with rfl | rfl | rfl <;> rfl) (by unfold maxLen; omega) (by omega) (by simp; omega)
            have hst2 : Hid (S4 w w9 gl (kp last) al2 (k + 1) v' Y4) := by
              unfold Hid S4
              rw [HN.out, List.length_append, List.flatMap_append]
              have hgs := hg.size
              simp at hgs
              refine ⟨(s1.alloc (by omega) _).grown hg (by simp; omega) (fun b hb => (s2.lt b hb).1), by simpa [flP.c] using ho, ?_, ((hg.block gl (by simp; omega) (Ne.symm s3)).trans (hal5.block gl s5)).trans s4, by omega⟩
              rcases hat with h | h
              · rw [h]; exact s3
              · rw [h]; intro h2; have := Option.some.inj h2; simp at this; omega
            clear ho hg hal5 hst hat s1 s2 s3 s4
            cases pg with
            | false =>
              clear hkp
              go_wp2_with (at_builtin; refine cpr.wpList_append_run rfl _ _ _ _ rfl _ _ _ rfl rfl hr ?_)
              go_roundw
              case rel => exact ⟨k + 1, by omega, by go_num, hst2⟩
              case measure => simp [intOf]; omega
            | true =>
              obtain rfl : last = false := by cases last <;> simp [kp] at hkp <;> rfl
              clear hkp
              go_wp2_with (at_builtin; refine cpr.wpList_append_run rfl _ _ _ _ rfl _ _ _ rfl rfl hr ?_)
              go_roundw
              case rel => exact ⟨k + 1, by omega, by go_num, hst2⟩
              case measure => simp [intOf]; omega
        · obtain rfl : k = al2.length := by omega
          have HFN : Hid (mgp.Is [a, b] (nwL [a, b]) ∧ mr.length ≤ a.length + b.length ∧ wr.ownsRow w.heap.size 40 3 u9 mr.length (mr.flatMap flP.c) ∧ Below w.heap.size w wr) := by
            unfold Hid
            have h2 := hst.out.2.1
            rw [List.take_length] at h2
            rw [hall.out, nwL_eq HIS.out]
            exact ⟨HIS.out, Nat.le_trans (List.length_filter_le _ _) HLN.out, h2, hst.out.1⟩
          clear hst
          go_wp2
          go_ret
          exact ⟨_, rfl, HFN.out⟩
end Go.Proofs.Ytbgkccleiapkmaa.mgd
