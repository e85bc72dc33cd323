/- The specification's TableMerge: the region of its loop that copies one run. -/
import Derived.Test.YtokaoafbgebelaaAppendAny
import Derived.Test.YtokaoafbgebelaaTd12
import Derived.Test.YtokaoafbgebelaaTabAns
import Derived.Test.YtokaoafbgebelaaTd03

/- The specification's l07Merged: two runs as one. -/
namespace Go.Proofs.Ytokaoafbgebelaa.mgd
open Go.ChangeShapes Go.WideShapes Go.ChangeAt Go.RowKit Go.Proofs.Ytokaoafbgebelaa.fl Go.Proofs.Ytokaoafbgebelaa.rn Go.Proofs.Ytokaoafbgebelaa.rc Go.Proofs.Ytokaoafbgebelaa.ro Go.Proofs.Ytokaoafbgebelaa.tk Go.Proofs.Ytokaoafbgebelaa.tko Go.Proofs.Ytokaoafbgebelaa.sci Go.Proofs.Ytokaoafbgebelaa.scs
set_option linter.unusedVariables false

/-- what stays of a merged run -/
def kp (last : Bool) (e : flP.Pr) : Bool := !e.g || !last
noncomputable def merged (a b : List flP.Pr) (last : Bool) : List flP.Pr := (nwL [a, b]).filter (kp last)
theorem nx_no {p : flP.Pr → Bool} {all : List flP.Pr} {k : Nat} {e : flP.Pr} (h : all[k]? = some e) (hk : p e = false) : (all.take (k + 1)).filter p = (all.take k).filter p := by
  obtain ⟨hl, rfl⟩ := List.getElem?_eq_some_iff.1 h
  rw [List.take_succ_eq_append_getElem hl, List.filter_append]
  simp [hk]
theorem nx_yes {p : flP.Pr → Bool} {all : List flP.Pr} {k : Nat} {e : flP.Pr} (h : all[k]? = some e) (hk : p e = true) : (all.take (k + 1)).filter p = (all.take k).filter p ++ [e] := by
  obtain ⟨hl, rfl⟩ := List.getElem?_eq_some_iff.1 h
  rw [List.take_succ_eq_append_getElem hl, List.filter_append]
  simp [hk]
theorem is_start {b : List flP.Pr} (h : mgp.Asc b) : mgp.Is [[], b] b := ⟨h, fun x => by
  have := mgs.new_app (L := [[]]) (m := b) (x := x)
  rw [show [[], b] = [[]] ++ [b] from rfl, this]
  constructor
  · intro hx
    exact .inr ⟨hx, fun j q hq y hy => by
      cases j with
      | zero => simp at hq; subst hq; cases hy
      | succ j => simp at hq⟩
  · rintro (⟨i, q, h1, h2, _⟩ | ⟨h1, _⟩)
    · cases i with
      | zero => simp at h1; subst h1; cases h2
      | succ i => simp at h1
    · exact h1⟩
/-- what stands while what stays is laid -/
def S4 (w w9 : World) (gl : Nat) (p : flP.Pr → Bool) (all : List flP.Pr) (k : Nat) (v : Value) (wx : World) : Prop := Below w.heap.size w wx ∧ wx.ownsRow w.heap.size 40 3 v ((all.take k).filter p).length (((all.take k).filter p).flatMap flP.c) ∧ v.ownBlock ≠ some gl ∧ wx.heap[gl]? = w9.heap[gl]? ∧ gl < wx.heap.size

set_option maxRecDepth 100000 in
set_option maxHeartbeats 2000000 in
theorem spec_merged (a b : List flP.Pr) (aa : Option Addr) (ba : Option Addr) (bq : Addr) (ac bc : Nat) (hNQ : apa.NQ ba bq b.length bc) (last : Bool) (w : World) (hal : a.length ≤ 500000) (hbl : b.length ≤ 500000) (hAa : mgp.Asc a) (hAb : mgp.Asc b) (hA : Row flP.c 3 w w.heap.size aa a) (hB : Row flP.c 3 w w.heap.size ba b) :
    Calls Try.prog 49 #[.slice aa a.length ac, .slice ba b.length bc, .bool last] w fun r w' => ∃ v, r = .returned v ∧ mgp.Is [a, b] (nwL [a, b]) ∧ (merged a b last).length ≤ a.length + b.length ∧ w'.ownsRow w.heap.size 40 3 v (merged a b last).length ((merged a b last).flatMap flP.c) ∧ Below w.heap.size w w' := by
  obtain ⟨i0, hi, hz0, hz1, hz2⟩ := info_parts rnw.infoP
  have hal1 : Below w.heap.size w (w.alloc (.cells #[] 40)) := (Below.refl _ _).alloc (Nat.le_refl _) _
  have hmade : (w.alloc (.cells #[] 40)).ownsRow w.heap.size 40 3 (.slice (some ⟨w.heap.size, 0, none⟩) 0 0) 0 [] := World.ownsRow_made w #[] 0 (Nat.le_refl _) (by unfold maxLen; omega) (by simp)
  have hyw : Row flP.c 3 (w.alloc (.cells #[] 40)) (w.alloc (.cells #[] 40)).heap.size ba b := hB.inn hal1
  obtain ⟨X, hX⟩ : ∃ X, w.alloc (.cells #[] 40) = X := ⟨_, rfl⟩
  rw [hX] at hal1 hmade hyw
  obtain ⟨v', Y, hr, ho, hg, hnil⟩ := apa.run_append_any (P := Try.prog) X w.heap.size 24 24 40 i0 (.agg #[.string ByteArray.empty, .string ByteArray.empty, .bool false]) 3 40 Try.underlying24 hi hz0 hz1 hz2 rfl (by decide) _ 0 [] hmade ba bq b.length bc hNQ (b.flatMap flP.c) (flat_len flP.c_len b) (scs.newsN hNQ hyw) (one_all b) (by unfold maxLen; omega) (by omega) hal1.size
  have hbY : Below w.heap.size w Y := hal1.grown hg hal1.size (fun b hb => (hmade.lt b hb).1)
  rw [Nat.zero_add, List.nil_append] at ho
  obtain ⟨ga, ca, rfl⟩ : ∃ ga ca, v' = .slice (some ⟨ga, 0, none⟩) b.length ca := by
    obtain ⟨_, ⟨rfl, h0⟩ | ⟨g, cap, cur, e, _⟩⟩ := ho
    · have := hnil.1 rfl; cases this.1
    · exact ⟨_, _, e⟩
  have HSP0 : Hid (Sp w [a.take 0, b] (b.length + 0) (.slice (some ⟨ga, 0, none⟩) b.length ca) b Y) := ⟨⟨ga, ca, rfl, ho⟩, hbY, by rw [List.take_zero]; exact is_start hAb, by omega⟩
  have HRA : Hid (Row flP.c 3 w w.heap.size aa a) := hA
  have HAA : Hid (mgp.Asc a) := hAa
  have hal' : a.length ≤ maxLen := by unfold maxLen; omega
  obtain ⟨mr, hmr⟩ : ∃ mr, merged a b last = mr := ⟨_, rfl⟩
  have HMR : Hid (merged a b last = mr) := hmr
  rw [hmr]
  clear hmade hyw ho hg hnil hal1 hA hB hbY hAa hAb hmr
  go_enter Try.func49, Try.ntmps49
  go_wp2_with (at_builtin; refine cpr.wpList_append_run rfl _ _ _ _ rfl _ _ _ rfl rfl hr ?_)
  clear hr hX
  go_loopw [7, 8] (fun v x wr => ∃ (k : Nat) (al2 : List flP.Pr), k ≤ a.length ∧ x = .int .i64 k ∧ Hid (Sp w [a.take k, b] (b.length + k) v al2 wr)) (fun _ x _ => a.length - (intOf x).toNat)
  case atStart => exact ⟨0, b, Nat.zero_le _, rfl, HSP0⟩
  case round =>
    obtain ⟨k, al2, hkl, rfl, hsi⟩ := hrel
    by_cases hk : k < a.length
    · have HE : Hid (a[k]? = some a[k]) := List.getElem?_eq_getElem hk
      obtain ⟨⟨pk, pv, pg⟩, hpe⟩ : ∃ e, a[k] = e := ⟨_, rfl⟩
      rw [hpe] at HE
      obtain ⟨qb, qo, rfl, hqlt, hqc⟩ := HRA.out.resolve_left (by rintro rfl; simp at hk)
      have go : ∀ (o : Nat) (v : Value), w.cell? ⟨qb, o, none⟩ = some v → wr.cell? ⟨qb, o, none⟩ = some v := fun o v hv => (hsi.out.bel.cell (p := ⟨qb, o, none⟩) hqlt).trans hv
      have p0 := go _ _ (hqc k _ HE.out 0 _ rfl)
      have p1 := go _ _ (hqc k _ HE.out 1 _ rfl)
      have p2 := go _ _ (hqc k _ HE.out 2 _ rfl)
      rw [Nat.add_zero] at p0
      obtain ⟨gl, cl, rfl, _⟩ := hsi.out.al
      have hln : al2.length ≤ 1000000 := by have := hsi.out.len; omega
      have i3 : (k : Int) < (a.length : Int) := by omega
      have hset := pss.spec_set al2 gl cl pk pv pg wr (by omega) hsi.out.al.row.2 hsi.out.al.row.1
      have HNEW : Hid (mgp.Is [a.take (k + 1), b] (ptp.setP al2 ⟨pk, pv, pg⟩)) := mgs.is_over hsi.out.is HAA.out HE.out
      clear hpe hqc go
      go_wp2_with (go_at_call 53; fail)
      refine hset.mono ?_
      rintro e w3 ⟨g2, c2, rfl, ho3, hb3⟩
      have hXs := hsi.out.bel.size
      have HN : Hid (Sp w [a.take (k + 1), b] (b.length + (k + 1)) (.slice (some ⟨g2, 0, none⟩) (ptp.setP al2 ⟨pk, pv, pg⟩).length c2) (ptp.setP al2 ⟨pk, pv, pg⟩) w3) :=
        ⟨⟨g2, c2, rfl, sct.own_low ho3 hXs⟩, hsi.out.bel.trans (hb3.mono hXs), HNEW.out, by have := hsi.out.len; have := ptp.setP_le al2 ⟨pk, pv, pg⟩; omega⟩
      clear hset ho3 hb3 hsi HNEW p0 p1 p2
      go_wp2
      go_roundw
      case rel => exact ⟨k + 1, ptp.setP al2 ⟨pk, pv, pg⟩, by omega, by go_num, HN⟩
      case measure => simp [intOf]; omega
    · obtain rfl : k = a.length := by omega
      have hIs : mgp.Is [a, b] al2 := by have := hsi.out.is; rw [List.take_length] at this; exact this
      have HIS : Hid (mgp.Is [a, b] al2) := hIs
      have hall : Hid (mr = al2.filter (kp last)) := by unfold Hid; rw [← HMR.out]; unfold merged; rw [nwL_eq hIs]
      have hln : al2.length ≤ 1000000 := by have := hsi.out.len; omega
      have HLN : Hid (al2.length ≤ a.length + b.length) := by have := hsi.out.len; unfold Hid; omega
      obtain ⟨gl, cl, rfl, _⟩ := hsi.out.al
      have hal9 : Below wr.heap.size wr (wr.alloc (.cells #[] 40)) := (Below.refl _ _).alloc (Nat.le_refl _) _
      have hbs := hsi.out.bel.size
      have HRW : Hid (Row flP.c 3 (wr.alloc (.cells #[] 40)) (wr.alloc (.cells #[] 40)).heap.size (some ⟨gl, 0, none⟩) al2) := hsi.out.al.row.1.inn hal9
      have hgl1 : w.heap.size ≤ gl ∧ gl < wr.heap.size := by
        obtain ⟨_, _, _, h2⟩ := hsi.out.al
        exact h2.lt gl rfl
      have HS0 : Hid (S4 w (wr.alloc (.cells #[] 40)) gl (kp last) al2 0 (.slice (some ⟨wr.heap.size, 0, none⟩) 0 0) (wr.alloc (.cells #[] 40))) := by
        refine ⟨hsi.out.bel.alloc hbs _, sct.own_low (World.ownsRow_made wr #[] 0 (Nat.le_refl _) (by unfold maxLen; omega) (by simp)) hbs, ?_, rfl, by simp; omega⟩
        show some wr.heap.size ≠ some gl
        intro h; have := Option.some.inj h; omega
      have hg9 : gl < (wr.alloc (.cells #[] 40)).heap.size := by simp; omega
      obtain ⟨w9, hw9⟩ : ∃ w9, wr.alloc (.cells #[] 40) = w9 := ⟨_, rfl⟩
      rw [hw9] at HRW HS0 hg9
      clear hsi hIs hal9 hgl1
      go_wp2
      clear hw9
      go_loopw [9, 10] (fun v x wx => ∃ k : Nat, k ≤ al2.length ∧ x = .int .i64 k ∧ Hid (S4 w w9 gl (kp last) al2 k v wx)) (fun _ x _ => al2.length - (intOf x).toNat)
      case atStart => exact ⟨0, Nat.zero_le _, rfl, HS0⟩
      case round =>
        obtain ⟨k, hk2, rfl, hst⟩ := hrel
        by_cases hkl2 : k < al2.length
        · obtain ⟨s1, s2, s3, s4, s5⟩ := hst.out
          have s6 := s1.size
          have HG : Hid (al2[k]? = some al2[k]) := List.getElem?_eq_getElem hkl2
          obtain ⟨⟨pk, pv, pg⟩, he⟩ : ∃ e, al2[k] = e := ⟨_, rfl⟩
          rw [he] at HG
          obtain ⟨b', off, hbo, hlt, hc⟩ := HRW.out.resolve_left (by rintro rfl; simp at hkl2)
          cases hbo
          have go : ∀ (o : Nat) (v : Value), w9.cell? ⟨gl, o, none⟩ = some v → wr.cell? ⟨gl, o, none⟩ = some v := fun o v hv => (World.cell?_of_block (a := ⟨gl, o, none⟩) s4).trans hv
          have c0 : wr.cell? ⟨gl, k * 3, none⟩ = some (.string pk) := go _ _ (by have := hc k _ HG.out 0 _ rfl; simpa using this)
          have c1 : wr.cell? ⟨gl, k * 3 + 1, none⟩ = some (.string pv) := go _ _ (by have := hc k _ HG.out 1 _ rfl; simpa using this)
          have c2 : wr.cell? ⟨gl, k * 3 + 2, none⟩ = some (.bool pg) := go _ _ (by have := hc k _ HG.out 2 _ rfl; simpa using this)
          have i2 : (k : Int) < (al2.length : Int) := by omega
          have hlen : ((al2.take k).filter (kp last)).length ≤ 1000000 := by have := List.length_filter_le (kp last) (al2.take k); rw [List.length_take] at this; omega
          clear he hc go
          cases hkp : kp last ⟨pk, pv, pg⟩ with
          | false =>
            obtain ⟨rfl, rfl⟩ : pg = true ∧ last = true := by cases pg <;> cases last <;> simp [kp] at hkp <;> exact ⟨rfl, rfl⟩
            have HN : Hid ((al2.take (k + 1)).filter (kp true) = (al2.take k).filter (kp true)) := nx_no HG.out hkp
            have hst2 : Hid (S4 w w9 gl (kp true) al2 (k + 1) u9 wr) := by
              unfold Hid S4
              rw [HN.out]
              exact hst.out
            clear hst s1 s2 s3 s4
            go_wp2
            go_roundw
            case rel => exact ⟨k + 1, by omega, by go_num, hst2⟩
            case measure => simp [intOf]; omega
          | true =>
            have HN : Hid ((al2.take (k + 1)).filter (kp last) = (al2.take k).filter (kp last) ++ [⟨pk, pv, pg⟩]) := nx_yes HG.out hkp
            have hal5 : Below wr.heap.size wr (wr.alloc (.cells #[.string pk, .string pv, .bool pg] 40)) := (Below.refl _ _).alloc (Nat.le_refl _) _
            obtain ⟨v', Y4, hr, ho, hg, _, hat⟩ := run_append_own_at (P := Try.prog) (wr.alloc (.cells #[.string pk, .string pv, .bool pg] 40)) w.heap.size 24 24 40 i0 (.agg #[.string ByteArray.empty, .string ByteArray.empty, .bool false]) 3 40 Try.underlying24 hi hz0 hz1 hz2 rfl (by decide) u9 _ _ (own_stay s2 hal5) ⟨wr.heap.size, 0, none⟩ 1 1 [.string pk, .string pv, .bool pg] rfl (fun j u hu => by rw [pap.add0]; exact bcell (bnew wr _ _) (by simpa using hu)) (by intro u hu; simp at hu; rcases hu with rfl | rfl | rfl <;> rfl) (by unfold maxLen; omega) (by omega) (by simp; omega)
            have hst2 : Hid (S4 w w9 gl (kp last) al2 (k + 1) v' Y4) := by
              unfold Hid S4
              rw [HN.out, List.length_append, List.flatMap_append]
              have hgs := hg.size
              simp at hgs
              refine ⟨(s1.alloc (by omega) _).grown hg (by simp; omega) (fun b hb => (s2.lt b hb).1), by simpa [flP.c] using ho, ?_, ((hg.block gl (by simp; omega) (Ne.symm s3)).trans (hal5.block gl s5)).trans s4, by omega⟩
              rcases hat with h | h
              · rw [h]; exact s3
              · rw [h]; intro h2; have := Option.some.inj h2; simp at this; omega
            clear ho hg hal5 hst hat s1 s2 s3 s4
            cases pg with
            | false =>
              clear hkp
              go_wp2_with (at_builtin; refine cpr.wpList_append_run rfl _ _ _ _ rfl _ _ _ rfl rfl hr ?_)
              go_roundw
              case rel => exact ⟨k + 1, by omega, by go_num, hst2⟩
              case measure => simp [intOf]; omega
            | true =>
              obtain rfl : last = false := by cases last <;> simp [kp] at hkp <;> rfl
              clear hkp
              go_wp2_with (at_builtin; refine cpr.wpList_append_run rfl _ _ _ _ rfl _ _ _ rfl rfl hr ?_)
              go_roundw
              case rel => exact ⟨k + 1, by omega, by go_num, hst2⟩
              case measure => simp [intOf]; omega
        · obtain rfl : k = al2.length := by omega
          have HFN : Hid (mgp.Is [a, b] (nwL [a, b]) ∧ mr.length ≤ a.length + b.length ∧ wr.ownsRow w.heap.size 40 3 u9 mr.length (mr.flatMap flP.c) ∧ Below w.heap.size w wr) := by
            unfold Hid
            have h2 := hst.out.2.1
            rw [List.take_length] at h2
            rw [hall.out, nwL_eq HIS.out]
            exact ⟨HIS.out, Nat.le_trans (List.length_filter_le _ _) HLN.out, h2, hst.out.1⟩
          clear hst
          go_wp2
          go_ret
          exact ⟨_, rfl, HFN.out⟩
end Go.Proofs.Ytokaoafbgebelaa.mgd

/- TableMerge: what it answers, on lists; and a table's memory where a run may be nothing. -/
namespace Go.Proofs.Ytokaoafbgebelaa.mga
open Go.ChangeShapes Go.WideShapes Go.ChangeAt Go.RowKit Go.Proofs.Ytokaoafbgebelaa.fl Go.Proofs.Ytokaoafbgebelaa.fo Go.Proofs.Ytokaoafbgebelaa.rn Go.Proofs.Ytokaoafbgebelaa.mrR Go.Proofs.Ytokaoafbgebelaa.mrT Go.Proofs.Ytokaoafbgebelaa.tan Go.Proofs.Ytokaoafbgebelaa.tk Go.Proofs.Ytokaoafbgebelaa.tko Go.Proofs.Ytokaoafbgebelaa.mgd Go.Proofs.Ytokaoafbgebelaa.sci
set_option linter.unusedVariables false

theorem is_ex {a b : List flP.Pr} (ha : mgp.Asc a) (hb : mgp.Asc b) : ∀ k, k ≤ a.length → ∃ out, mgp.Is [a.take k, b] out ∧ out.length ≤ b.length + k
  | 0, _ => ⟨b, by rw [List.take_zero]; exact is_start hb, by omega⟩
  | k + 1, h => by
    obtain ⟨out, h1, h2⟩ := is_ex ha hb k (by omega)
    exact ⟨ptp.setP out a[k], mgs.is_over h1 ha (List.getElem?_eq_getElem (by omega)), by have := ptp.setP_le out a[k]; omega⟩
theorem is_nw {a b : List flP.Pr} (ha : mgp.Asc a) (hb : mgp.Asc b) : mgp.Is [a, b] (nwL [a, b]) ∧ (nwL [a, b]).length ≤ a.length + b.length := by
  obtain ⟨out, h1, h2⟩ := is_ex ha hb a.length (Nat.le_refl _)
  rw [List.take_length] at h1
  rw [nwL_eq h1]
  exact ⟨h1, by omega⟩
theorem merged_le {a b : List flP.Pr} (ha : mgp.Asc a) (hb : mgp.Asc b) (last : Bool) : (merged a b last).length ≤ a.length + b.length := Nat.le_trans (List.length_filter_le _ _) (is_nw ha hb).2
theorem merged_no (a b : List flP.Pr) : merged a b false = nwL [a, b] := by
  unfold merged
  rw [List.filter_eq_self]
  intro e _
  simp [kp]
theorem merged_yes (a b : List flP.Pr) : merged a b true = (nwL [a, b]).filter (fun e => !e.g) := by
  unfold merged
  congr 1
  funext e
  simp [kp]
theorem merged_mem {a b : List flP.Pr} (ha : mgp.Asc a) (hb : mgp.Asc b) {last : Bool} {e : flP.Pr} (h : e ∈ merged a b last) : e ∈ a ∨ e ∈ b := by
  have h1 := (List.mem_filter.1 h).1
  obtain ⟨i, l, h2, h3, _⟩ := ((is_nw ha hb).1.2 e).1 h1
  match i, h2 with
  | 0, h2 => simp at h2; subst h2; exact .inl h3
  | 1, h2 => simp at h2; subst h2; exact .inr h3
  | i + 2, h2 => simp at h2
/-- the runs number i and i + 1 as one -/
noncomputable def mrg (R : List (List flP.Pr)) (i : Nat) : List (List flP.Pr) := R.take i ++ merged (R.getD i []) (R.getD (i + 1) []) (decide (i + 2 = R.length)) :: R.drop (i + 2)
noncomputable def inB (R : List (List flP.Pr)) (x : Int) : Bool := decide (0 ≤ x ∧ x + 2 ≤ R.length)
noncomputable def can (ys : List flP.Pr) (R : List (List flP.Pr)) (x : Int) : Bool := okB ys R && (inB R x && okB ys (mrg R x.toNat))
noncomputable def ansR (ys : List flP.Pr) (R : List (List flP.Pr)) (x : Int) : List (List flP.Pr) := if can ys R x then mrg R x.toNat else R
theorem tot_app : ∀ (A B : List (List flP.Pr)), tot (A ++ B) = tot A + tot B
  | [], B => by simp [tot, bulk]
  | a :: A, B => by
    have := tot_app A B
    simp only [tot, List.cons_append, bulk] at this ⊢
    omega
theorem tot_cons (a : List flP.Pr) (A : List (List flP.Pr)) : tot (a :: A) = a.length + tot A := rfl
theorem parts {α : Type} {R : List α} {i : Nat} (h : i + 2 ≤ R.length) : R = R.take i ++ R[i]'(by omega) :: R[i + 1]'(by omega) :: R.drop (i + 2) := by
  conv => lhs; rw [← List.take_append_drop i R]
  rw [List.drop_eq_getElem_cons (show i < R.length by omega), List.drop_eq_getElem_cons (show i + 1 < R.length by omega)]
theorem mrg_at {R : List (List flP.Pr)} {i : Nat} (h : i + 2 ≤ R.length) : mrg R i = R.take i ++ merged (R[i]'(by omega)) (R[i + 1]'(by omega)) (decide (i + 2 = R.length)) :: R.drop (i + 2) := by
  unfold mrg
  rw [List.getD_eq_getElem?_getD, List.getD_eq_getElem?_getD, List.getElem?_eq_getElem (show i < R.length by omega), List.getElem?_eq_getElem (show i + 1 < R.length by omega)]
  rfl
theorem mrg_len {R : List (List flP.Pr)} {i : Nat} (h : i + 2 ≤ R.length) : (mrg R i).length = R.length - 1 := by
  rw [mrg_at h]
  simp
  omega
theorem asc_at {ys : List flP.Pr} {R : List (List flP.Pr)} (h : OkT ys R) {i : Nat} {l : List flP.Pr} (hl : R[i]? = some l) : mgp.Asc l := mgp.asc_of (h.ro i l hl).up
theorem mrg_tot {ys : List flP.Pr} {R : List (List flP.Pr)} {i : Nat} (hok : OkT ys R) (h : i + 2 ≤ R.length) : tot (mrg R i) ≤ tot R := by
  have h1 := merged_le (asc_at hok (List.getElem?_eq_getElem (show i < R.length by omega))) (asc_at hok (List.getElem?_eq_getElem (show i + 1 < R.length by omega))) (decide (i + 2 = R.length))
  have h2 := congrArg tot (parts h)
  rw [tot_app, tot_cons, tot_cons] at h2
  rw [mrg_at h, tot_app, tot_cons]
  omega
theorem mrg_fit {ys : List flP.Pr} {R : List (List flP.Pr)} {i : Nat} (hok : OkT ys R) (h : i + 2 ≤ R.length) (hold : ∀ l ∈ R, l.length ≤ 1048576 ∧ ∀ e ∈ l, e.k.size ≤ 1048576 ∧ e.v.size ≤ 1048576) : ∀ l ∈ mrg R i, l.length ≤ 1048576 ∧ ∀ e ∈ l, e.k.size ≤ 1048576 ∧ e.v.size ≤ 1048576 := fun l hl => by
  have g1 := List.getElem?_eq_getElem (show i < R.length by omega)
  have g2 := List.getElem?_eq_getElem (show i + 1 < R.length by omega)
  have ha1 := asc_at hok g1
  have ha2 := asc_at hok g2
  rw [mrg_at h] at hl
  rcases List.mem_append.1 hl with hl | hl
  · exact hold l (List.mem_of_mem_take hl)
  · rcases List.mem_cons.1 hl with rfl | hl
    · refine ⟨?_, fun e he => ?_⟩
      · have := merged_le ha1 ha2 (decide (i + 2 = R.length))
        have := (hok.ro _ _ g1).ll
        have := (hok.ro _ _ g2).ll
        omega
      · rcases merged_mem ha1 ha2 he with h | h
        · exact (hold _ (List.getElem_mem _)).2 e h
        · exact (hold _ (List.getElem_mem _)).2 e h
    · exact hold l (List.mem_of_mem_drop hl)
theorem ans_no {ys : List flP.Pr} {R : List (List flP.Pr)} {x : Int} (h : can ys R x = false) : ansR ys R x = R := by
  unfold ansR
  rw [h]
  rfl
theorem ans_yes {ys : List flP.Pr} {R : List (List flP.Pr)} {x : Int} (h : can ys R x = true) : ansR ys R x = mrg R x.toNat := by
  unfold ansR
  rw [h]
  rfl
/-- a run in memory: nothing, or a row of its own at or above B -/
def RV (w : World) (B : Nat) (r : Rn) : Prop := r.l = [] ∨ ∃ h, r.a = some ⟨h, 0, none⟩ ∧ B ≤ h ∧ OwnO flP.c 3 40 w h 0 r.l r.l.length
/-- a table is its own where its runs are, and no two of them lie in one place -/
theorem of_runs {w : World} {B : Nat} {fa : Option Addr} {l : List flP.Pr} {rs : List Rn} {g2 : Nat} {cur : Array Value} (hf : MP w B fa l) (hg2 : B ≤ g2) (hty : w.heap[g2]? = some (.cells cur 24 (0, 0))) (hrow : Row cR 1 w w.heap.size (some ⟨g2, 0, none⟩) rs) (hown : ∀ (i : Nat) (r : Rn), rs[i]? = some r → RV w B r) (hnd : ∀ (i j : Nat) (r s : Rn), i < j → rs[i]? = some r → rs[j]? = some s → r.l ≠ [] → s.l ≠ [] → r.a ≠ s.a) (hne : ∀ (i : Nat) (r : Rn), rs[i]? = some r → r.l ≠ [] → ∀ k, blk fa l k → r.a ≠ some ⟨k, 0, none⟩) : TA w B fa (some ⟨g2, 0, none⟩) l rs := by
  have clash : ∀ (h : Nat) (m : Nat × List flP.Pr), OwnO flP.c 3 40 w h m.1 m.2 m.2.length → h ≠ g2 := fun h m ho e => by
    subst e
    obtain ⟨c, hc, _⟩ := ho
    rw [hty] at hc
    simp at hc
  refine ⟨⟨hf, hrow, fun r hr => ?_, fun i j r s hr hs hij k hk1 hk2 => ?_, fun g' o e hn => ?_, fun k hk hb => ?_⟩, fun g' o e => by cases e; exact hg2⟩
  · obtain ⟨i, hi⟩ := List.getElem?_of_mem hr
    rcases hown i r hi with h0 | ⟨h', e, hB', ho'⟩
    · exact .inl h0
    · exact .inr ⟨h', 0, e, hB', ho'⟩
  · obtain ⟨n1, g1, o1, a1, rfl⟩ := hk1
    obtain ⟨n2, g2, o2, a2, b2⟩ := hk2
    obtain ⟨h1, e1, _⟩ := (hown i r hr).resolve_left n1
    obtain ⟨h2, e2, _⟩ := (hown j s hs).resolve_left n2
    rw [e1] at a1
    rw [e2] at a2
    have p1 := congrArg Addr.block (Option.some.inj a1)
    have p2 := congrArg Addr.block (Option.some.inj a2)
    simp only at p1 p2
    have hh : h1 = h2 := by omega
    subst hh
    rcases Nat.lt_or_gt_of_ne hij with hij | hij
    · exact hnd i j r s hij hr hs n1 n2 (by rw [e1, e2])
    · exact hnd j i s r hij hs hr n2 n1 (by rw [e1, e2])
  · cases e
    refine ⟨fun hb => ?_, fun hb => ?_⟩
    · obtain ⟨r, hr, n1, g1, o1, a1, b1⟩ := hb
      obtain ⟨i, hi⟩ := List.getElem?_of_mem hr
      obtain ⟨h', e, hB', ho'⟩ := (hown i r hi).resolve_left n1
      rw [e] at a1
      have p1 := congrArg Addr.block (Option.some.inj a1)
      simp only at p1
      exact clash h' (0, r.l) ho' (by omega)
    · obtain ⟨hl, g1, o1, a1, b1⟩ := hb
      rcases hf with hf | ⟨g3, o3, e3, _, ho3⟩
      · exact hl hf
      · rw [e3] at a1
        have p1 := congrArg Addr.block (Option.some.inj a1)
        simp only at p1
        exact clash g3 (o3, l) ho3 (by omega)
  · obtain ⟨r, hr, n2, g2, o2, a2, b2⟩ := hb
    obtain ⟨i, hi⟩ := List.getElem?_of_mem hr
    obtain ⟨h', e, hB', ho'⟩ := (hown i r hi).resolve_left n2
    rw [e] at a2
    have p2 := congrArg Addr.block (Option.some.inj a2)
    simp only at p2
    exact hne i r hi n2 k hk (by rw [e]; congr 2; omega)
/-- two neighbours of a row of runs -/
theorem two_runs {w : World} {h : Nat} {ks : List Rn} {i : Nat} (hi : i + 2 ≤ ks.length) (hv : VR w w.heap.size (some ⟨h, 0, none⟩) ks) : VR w w.heap.size (some ⟨h, i, none⟩) [ks[i]'(by omega), ks[i + 1]'(by omega)] := by
  refine ⟨?_, fun r hr => ?_⟩
  · rcases hv.1 with h0 | ⟨b, off, hb, hlt, hc⟩
    · rw [h0] at hi; simp at hi
    · cases hb
      refine .inr ⟨h, i, rfl, hlt, fun j e he q v hq => ?_⟩
      have : ks[i + j]? = some e := by
        match j, he with
        | 0, he => simp at he; subst he; exact List.getElem?_eq_getElem (by omega)
        | 1, he => simp at he; subst he; exact List.getElem?_eq_getElem (by omega)
        | j + 2, he => simp at he
      have h2 := hc (i + j) e this q v hq
      rw [show i + j * 1 + q = 0 + (i + j) * 1 + q by omega]
      exact h2
  · simp at hr
    rcases hr with rfl | rfl
    · exact hv.2 _ (List.getElem_mem _)
    · exact hv.2 _ (List.getElem_mem _)
theorem owns_ownO {α : Type} {c : α → List Value} {n B g cap : Nat} {U : TypeId} {l : List α} {w : World} (hn : ∀ e, (c e).length = n) (ho : w.ownsRow B U n (.slice (some ⟨g, 0, none⟩) l.length cap) l.length (l.flatMap c)) : OwnO c n U w g 0 l l.length := by
  obtain ⟨_, ⟨h1, _⟩ | ⟨g', cap', cur, h1, h2, h3, h4, h5, h6, h7⟩⟩ := ho
  · cases h1
  cases h1
  refine ⟨cur, h3, by rw [h6, Nat.zero_add]; exact Nat.mul_le_mul_right n h4, fun i e hi he j v hv => ?_⟩
  have hf := flat_at hn l i e he j v hv
  rw [← h7] at hf
  have hlt := (List.getElem?_eq_some_iff.1 hf).1
  rw [List.length_take] at hlt
  rw [List.getElem?_take_of_lt (by omega)] at hf
  rw [Nat.zero_add]
  simpa using hf
/-- a copy given back as it is -/
theorem ta_set {w' : World} {B r n g h : Nat} {ys : List flP.Pr} {ks : List Rn} (hn : n = ks.length) (hr : r < B) (ho : Own flP.c 3 40 w' g ys ys.length) (hor : OR w' B h n ks) (hg : B ≤ g) (hh : B ≤ h) (hne : ∀ (i : Nat) (r : Rn), ks[i]? = some r → r.a ≠ some ⟨g, 0, none⟩) (u v : Value) : TA ((w'.setCell ⟨r, 0, none⟩ u).setCell ⟨r, 1, none⟩ v) B (some ⟨g, 0, none⟩) (some ⟨h, 0, none⟩) ys ks := by
  subst hn
  exact of_own_runs (B' := B) ((ho.kept (Below.heap_setCell _ _ _ _ (show g ≠ r by omega))).kept (Below.heap_setCell _ _ _ _ (show g ≠ r by omega))) ((hor.set hr (by omega) _ _).set hr (by omega) _ _) hg hh (Nat.le_refl _) hne
end Go.Proofs.Ytokaoafbgebelaa.mga

/- The specification's TableMerge: the region of its loop that copies one run. -/
namespace Go.Proofs.Ytokaoafbgebelaa.smr
open Go.ChangeShapes Go.WideShapes Go.ChangeAt Go.RowKit Go.Proofs.Ytokaoafbgebelaa.fl Go.Proofs.Ytokaoafbgebelaa.fo Go.Proofs.Ytokaoafbgebelaa.rn Go.Proofs.Ytokaoafbgebelaa.sct
set_option linter.unusedVariables false

def ws (p : Pm) (s0 b m rc : Nat) (a : Option Addr) (c j : Nat) (g : G) : List (Nat × Value) := [(64, .pointer (some ⟨p.n3, 1, none⟩)), (65, p.rv), (66, .slice (some ⟨g.e0, 0, none⟩) 0 0), (67, .pointer (some ⟨s0, 1, none⟩)), (68, .slice (some ⟨b, 0, none⟩) m rc), (69, .int .i64 j), (70, .pointer (some ⟨b, j, none⟩)), (71, .slice a p.n c), (72, v1 p g), (73, .slice (some ⟨g.h, 0, none⟩) 1 1), (74, g.v2), (75, .pointer (some ⟨p.n3, 1, none⟩))]
section
variable {p : Pm} {s0 b m rc : Nat} {a : Option Addr} {c j : Nat} {act : Act} {Q : Exit → Act → World → Prop} {o : Oper}
theorem quiet {i : Nat} (hi : i = 0 ∨ i = 3 ∨ i = 4 ∨ i = 5 ∨ i = 6 ∨ i = 7 ∨ i = 11) (hsel : ∀ cs b, o.op ≠ .select cs b) (u : Value) (hd : ∀ s d, o.dst = some d → (dk.sets act (ws p s0 b m rc a c j s)).tmps[d]? = some u)
    (hrun : ∀ s W, (∀ (b : Nat) (o : Obj), p.W0.heap[b]? = some o → b ≠ p.n3 → p.rv.ownBlock ≠ some b → W.heap[b]? = some o) → (execOp (dk.sets act (ws p s0 b m rc a c j s)).eval o).run Try.prog W = .ok (.value u) W) : gh.Step Try.prog (fun s => dk.sets act (ws p s0 b m rc a c j s)) (C p) Q i o := by
  refine gh.step_val hsel fun s L W hdp h0 hC => ⟨s, u, gh.Agree.refl _ _, hd s, ?_⟩
  rw [hrun s W (fun b o hb hne hr => hC.d.old hb hne hr)]
  refine ⟨rfl, ?_⟩
  unfold C
  rw [more_off L (show 1 ≠ i by omega), more_off L (show 2 ≠ i by omega), more_off L (show 8 ≠ i by omega), more_off L (show 9 ≠ i by omega), more_off L (show 10 ≠ i by omega), more_off L (show 12 ≠ i by omega)]
  exact hC
theorem st1 (hsel : ∀ cs b, o.op ≠ .select cs b) (hd : ∀ s d, o.dst = some d → (dk.sets act (ws p s0 b m rc a c j s)).tmps[d]? = some p.rv)
    (hrun : ∀ s W, W.heap[p.n3]? = some (.cells #[p.f0, p.rv] 27 (0, 0)) → (execOp (dk.sets act (ws p s0 b m rc a c j s)).eval o).run Try.prog W = .ok (.value p.rv) W) : gh.Step Try.prog (fun s => dk.sets act (ws p s0 b m rc a c j s)) (C p) Q 1 o := by
  refine gh.step_val hsel fun s L W hdp h0 hC => ⟨s, p.rv, gh.Agree.refl _ _, hd s, ?_⟩
  have hd := hC.d
  rw [h0] at hd
  have e12 : L 12 = false := by
    have e10 := no101 hd
    rw [e10] at hd
    exact no12 hd
  have ho := hd.out
  rw [e12] at ho
  rw [hrun s W ho]
  refine ⟨rfl, ?_⟩
  unfold C
  rw [more_on, more_off L (show 2 ≠ 1 by omega), more_off L (show 8 ≠ 1 by omega), more_off L (show 9 ≠ 1 by omega), more_off L (show 10 ≠ 1 by omega), more_off L (show 12 ≠ 1 by omega)]
  exact hd.s1
theorem st2 (hA : Ah p) (hsz : 75 < act.tmps.size) (hop : o.op = .buildSlice 24 0 #[]) (hdst : o.dst = some 66) : gh.Step Try.prog (fun s => dk.sets act (ws p s0 b m rc a c j s)) (C p) Q 2 o := by
  refine gh.step_val (by rw [hop]; simp) fun s L W hdp h0 hC => ⟨{ s with e0 := W.heap.size }, .slice (some ⟨W.heap.size, 0, none⟩) 0 0, dk.agree_sets 2 66 _ hdst rfl rfl, (fun d hd => by rw [hdst] at hd; cases hd; exact dk.sets_on _ (by omega) _ rfl), ?_⟩
  have hrun : (execOp (dk.sets act (ws p s0 b m rc a c j s)).eval o).run Try.prog W = .ok (.value (.slice (some ⟨W.heap.size, 0, none⟩) 0 0)) (W.alloc (.cells #[] 40)) := by
    simp [execOp, hop, go_sem]
  rw [hrun]
  refine ⟨rfl, ?_⟩
  have hd := hC.d
  rw [h0] at hd
  unfold C
  rw [more_on, more_off L (show 1 ≠ 2 by omega), more_off L (show 8 ≠ 2 by omega), more_off L (show 9 ≠ 2 by omega), more_off L (show 10 ≠ 2 by omega), more_off L (show 12 ≠ 2 by omega)]
  exact hd.s2 hA
variable {i0 i1 : TypeInfo} {z z1 : Value}
theorem st8 {aq : Nat} (hNQ : apa.NQ a ⟨aq, 0, none⟩ p.n c) (hA : Ah p) (hi : Try.prog.info? 40 = some i0) (hz : i0.zero = some z) (hn : i0.size = 3) (hb : i0.bytes = 40) (hzs : z.cells.size = 3) (hsz : 75 < act.tmps.size)
    (hop : o.op = .call { callee := .builtin .append, args := #[.tmp 66, .tmp 71], argTypes := #[24, 24] }) (hdst : o.dst = some 72)
    (hlen : p.xs.length = p.n * 3) (hnews : ∀ W, Below p.W0.heap.size p.W0 W → ∀ j u, p.xs[j]? = some u → W.cell? ((⟨aq, 0, none⟩ : Addr).add j) = some u) (h1c : ∀ u ∈ p.xs, u.oneCell' = true) (hk : p.n ≤ 1048576)
    (hdep : ∃ e ∈ o.after, Region.binds .any e = true ∧ e.on = 2) : gh.Step Try.prog (fun s => dk.sets act (ws p s0 b m rc a c j s)) (C p) Q 8 o := by
  refine gh.step_val (by rw [hop]; simp) fun s L W hdp h0 hC => ?_
  obtain ⟨xp, mp, yp, zp⟩ := hdep
  have lp := hdp xp mp yp
  rw [zp] at lp
  have hd := hC.d
  rw [h0] at hd
  have hbel : Below p.W0.heap.size p.W0 W := by
    have e9 := no9 hd
    rw [e9] at hd
    have e10 := no10 hd
    rw [e10] at hd
    have e12 := no12 hd
    rw [e12] at hd
    exact hd.below
  have hold := hd.at2 lp rfl
  obtain ⟨v', w', hr, ho, hg, hnil⟩ := apa.run_append_any (P := Try.prog) W p.W0.heap.size 24 o.type 40 i0 z 3 40 Try.underlying24 hi hz hn hb hzs (by omega) _ 0 [] hold a ⟨aq, 0, none⟩ p.n c hNQ p.xs hlen (hnews W hbel) h1c (by unfold maxLen; omega) (by omega) hd.tn.size
  rw [Nat.zero_add, List.nil_append] at ho
  obtain ⟨b', q', rfl⟩ : ∃ b' q', v' = .slice (some ⟨b', 0, none⟩) p.n q' := by
    exact apa.form_of ho fun e => absurd (hnil.1 e).1 apa.not_none
  refine ⟨{ s with b1 := b', q1 := q' }, .slice (some ⟨b', 0, none⟩) p.n q', dk.agree_sets 8 72 _ hdst rfl rfl, (fun d' hd => by rw [hdst] at hd; cases hd; exact dk.sets_on _ (by omega) _ rfl), ?_⟩
  rw [app_run hop (dk.eval_on _ _ (by omega) rfl) (dk.eval_on _ _ (by omega) rfl) hr]
  refine ⟨rfl, ?_⟩
  unfold C
  rw [more_on, more_off L (show 1 ≠ 8 by omega), more_off L (show 2 ≠ 8 by omega), more_off L (show 9 ≠ 8 by omega), more_off L (show 10 ≠ 8 by omega), more_off L (show 12 ≠ 8 by omega)]
  exact hd.s8 hA lp hg ho
theorem st9 (hA : Ah p) (hsz : 75 < act.tmps.size) (hop : o.op = .buildSlice 25 1 #[(0, .tmp 72)]) (hdst : o.dst = some 73) (hdep : ∃ e ∈ o.after, Region.binds .any e = true ∧ e.on = 8) : gh.Step Try.prog (fun s => dk.sets act (ws p s0 b m rc a c j s)) (C p) Q 9 o := by
  refine gh.step_val (by rw [hop]; simp) fun s L W hdp h0 hC => ⟨{ s with h := W.heap.size }, .slice (some ⟨W.heap.size, 0, none⟩) 1 1, dk.agree_sets 9 73 _ hdst rfl rfl, (fun d hd => by rw [hdst] at hd; cases hd; exact dk.sets_on _ (by omega) _ rfl), ?_⟩
  obtain ⟨xp, mp, yp, zp⟩ := hdep
  have lp := hdp xp mp yp
  rw [zp] at lp
  have e25 : (dk.sets act (ws p s0 b m rc a c j s)).tmps[72]? = some (.slice (some ⟨s.b1, 0, none⟩) p.n s.q1) := dk.sets_on _ (by omega) _ rfl
  have hrun : (execOp (dk.sets act (ws p s0 b m rc a c j s)).eval o).run Try.prog W = .ok (.value (.slice (some ⟨W.heap.size, 0, none⟩) 1 1)) (W.alloc (.cells #[v1 p s] 24)) := by
    simp [execOp, hop, go_sem, e25, v1]
  rw [hrun]
  refine ⟨rfl, ?_⟩
  have hd := hC.d
  rw [h0] at hd
  unfold C
  rw [more_on, more_off L (show 1 ≠ 9 by omega), more_off L (show 2 ≠ 9 by omega), more_off L (show 8 ≠ 9 by omega), more_off L (show 10 ≠ 9 by omega), more_off L (show 12 ≠ 9 by omega)]
  exact hd.s9 hA lp
theorem st10 (hA : Ah p) (hi : Try.prog.info? 24 = some i1) (hz : i1.zero = some z1) (hn : i1.size = 1) (hb : i1.bytes = 24) (hzs : z1.cells.size = 1) (hsz : 75 < act.tmps.size)
    (hop : o.op = .call { callee := .builtin .append, args := #[.tmp 65, .tmp 73], argTypes := #[25, 25] }) (hdst : o.dst = some 74) (hk : p.k ≤ 1048576)
    (hdep : ∃ e ∈ o.after, Region.binds .any e = true ∧ e.on = 9) (hdep1 : ∃ e ∈ o.after, Region.binds .any e = true ∧ e.on = 1) : gh.Step Try.prog (fun s => dk.sets act (ws p s0 b m rc a c j s)) (C p) Q 10 o := by
  refine gh.step_val (by rw [hop]; simp) fun s L W hdp h0 hC => ?_
  obtain ⟨xp, mp, yp, zp⟩ := hdep
  have lp := hdp xp mp yp
  rw [zp] at lp
  obtain ⟨xq, mq, yq, zq⟩ := hdep1
  have lq := hdp xq mq yq
  rw [zq] at lq
  have hd := hC.d
  rw [h0] at hd
  have hbel : Below p.W0.heap.size p.W0 W := by
    have e12 := no12 hd
    rw [e12] at hd
    exact hd.below
  have hcell := (hd.at9 lp).2 rfl
  have hold : W.ownsRow p.B 24 1 p.rv p.k p.ys := hA.runs.kept (row := none) ⟨hbel.os, hbel.tape, hbel.output, hbel.size, fun k hk _ => hbel.block k hk⟩ (by cases p.rv.ownBlock <;> simp)
  have hnews : ∀ j u, [v1 p s][j]? = some u → W.cell? ((⟨s.h, 0, none⟩ : Addr).add j) = some u := fun j u hu => by
    rw [add0]
    exact bcell hcell (by simpa using hu)
  obtain ⟨v', w', hr, ho, hg, _, hat⟩ := run_append_own_at (P := Try.prog) W p.B 25 o.type 24 i1 z1 1 24 Try.underlying25 hi hz hn hb hzs (by omega) _ p.k p.ys hold ⟨s.h, 0, none⟩ 1 1 [v1 p s] rfl hnews (by intro u hu; simp at hu; subst hu; rfl) (by unfold maxLen; omega) (by omega) (Nat.le_trans hA.sz hd.tn.size)
  refine ⟨{ s with v2 := v' }, v', dk.agree_sets 10 74 _ hdst rfl rfl, (fun d' hd => by rw [hdst] at hd; cases hd; exact dk.sets_on _ (by omega) _ rfl), ?_⟩
  rw [app_run hop (dk.eval_on _ _ (by omega) rfl) (dk.eval_on _ _ (by omega) rfl) hr]
  refine ⟨rfl, ?_⟩
  unfold C
  rw [more_on, more_off L (show 1 ≠ 10 by omega), more_off L (show 2 ≠ 10 by omega), more_off L (show 8 ≠ 10 by omega), more_off L (show 9 ≠ 10 by omega), more_off L (show 12 ≠ 10 by omega)]
  exact hd.s10 hA lp lq hg ho
theorem st12 (hA : Ah p) (hsz : 75 < act.tmps.size) (hsel : ∀ cs b, o.op ≠ .select cs b) (hdst : o.dst = none)
    (hrun : ∀ s W, W.heap[p.n3]? = some (.cells #[p.f0, p.rv] 27 (0, 0)) → (∃ a n c, s.v2 = .slice a n c) → (execOp (dk.sets act (ws p s0 b m rc a c j s)).eval o).run Try.prog W = .ok .skip (W.setCell ⟨p.n3, 1, none⟩ s.v2))
    (hdep : ∃ e ∈ o.after, Region.binds .any e = true ∧ e.on = 10) : gh.Step Try.prog (fun s => dk.sets act (ws p s0 b m rc a c j s)) (C p) Q 12 o := by
  refine gh.step_val hsel fun s L W hdp h0 hC => ⟨s, undef, gh.Agree.refl _ _, (fun d hd => by rw [hdst] at hd; cases hd), ?_⟩
  obtain ⟨xp, mp, yp, zp⟩ := hdep
  have lp := hdp xp mp yp
  rw [zp] at lp
  have hd := hC.d
  rw [h0] at hd
  have hv : ∃ a n c, s.v2 = .slice a n c := by
    obtain ⟨_, ⟨e, _⟩ | ⟨g, cap, cur, e, _⟩⟩ := (hd.at10 lp).2.2
    · exact ⟨_, _, _, e⟩
    · exact ⟨_, _, _, e⟩
  rw [hrun s W hd.out hv]
  refine ⟨rfl, ?_⟩
  unfold C
  rw [more_on, more_off L (show 1 ≠ 12 by omega), more_off L (show 2 ≠ 12 by omega), more_off L (show 8 ≠ 12 by omega), more_off L (show 9 ≠ 12 by omega), more_off L (show 10 ≠ 12 by omega)]
  exact hd.s12 hA lp
end
end Go.Proofs.Ytokaoafbgebelaa.smr
