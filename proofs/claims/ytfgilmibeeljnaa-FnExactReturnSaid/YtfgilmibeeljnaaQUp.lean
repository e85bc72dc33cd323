/- container/heap's up and down over the messages: the same messages, in a heap's order. -/
import Derived.Test.YtfgilmibeeljnaaQState
namespace Go.Proofs.Ytfgilmibeeljnaa.qup
open Go.ChangeShapes Go.WideShapes Go.ChangeAt Go.RowKit Go.Proofs.Ytfgilmibeeljnaa.fl Go.Proofs.Ytfgilmibeeljnaa.qit Go.Proofs.Ytfgilmibeeljnaa.qst
set_option linter.unusedVariables false

theorem half {k : Nat} (h : k ≠ 0) : ((k : Int) - 1).tdiv 2 = ((hp.P k : Nat) : Int) ∧ ((k : Int) - 1) / 2 = ((hp.P k : Nat) : Int) := by
  obtain ⟨m, rfl⟩ : ∃ m, k = m + 1 := ⟨k - 1, by omega⟩
  have e : ((m + 1 : Nat) : Int) - 1 = (m : Int) := by omega
  have e2 : hp.P (m + 1) = m / 2 := rfl
  rw [e, e2]
  exact ⟨rfl, by omega⟩

set_option maxRecDepth 100000 in
set_option maxHeartbeats 1000000 in
theorem up_run (W0 : World) (Q : qit.Qx) (hb g cap j : Nat) (L : List flM.Ms) (w : World) (hS : SG W0 hb Q g cap L w) (hj : j < L.length) (hl : L.length ≤ 1000) (hU : hp.UpI less L j L.length) :
    Calls Try.prog 79 #[.iface 52 (.pointer (some ⟨hb, 0, none⟩)), .int .i64 j] w fun e w' => e = .returned (.tuple #[]) ∧ ∃ M : List flM.Ms, M.Perm L ∧ hp.Heap less M M.length ∧ SG W0 hb Q g cap M w' ∧ Kp g w w' := by
  go_enter Try.func79, Try.ntmps79
  go_wp2
  go_loopw [1, 4] (fun x _ wr => ∃ (k : Nat) (M : List flM.Ms), x = .int .i64 k ∧ k < M.length ∧ Hid (M.length = L.length) ∧ Hid (M.Perm L) ∧ Hid (hp.UpI less M k M.length) ∧ SG W0 hb Q g cap M wr ∧ Kp g w wr) (fun x _ _ => (intOf x).toNat)
  case atStart => exact ⟨j, L, rfl, hj, rfl, List.Perm.refl _, hU, hS, Kp.refl _ _⟩
  case round =>
    obtain ⟨k, M, rfl, hkm, hml, hperm, hup, hst, hkp⟩ := hrel
    have HST : Hid (SG W0 hb Q g cap M wr) := hst
    have HKP : Hid (Kp g w wr) := hkp
    clear hst hkp
    by_cases hk0 : k = 0
    · subst hk0
      have hfin : Hid (hp.Heap less M M.length) := hp.up_end hup.out (fun h => absurd h (by omega))
      go_wp2
      go_end0
      exact ⟨rfl, M, hperm.out, hfin.out, HST.out, HKP.out⟩
    · obtain ⟨hd, hd2⟩ := half hk0
      have hk100 : k ≤ 1000 := by have := hml.out; omega
      have hpk : hp.P k < k := hp.P_lt (by omega)
      have gk : M[k]? = some M[k] := List.getElem?_eq_getElem hkm
      have gp : M[hp.P k]? = some (M[hp.P k]'(by omega)) := List.getElem?_eq_getElem _
      obtain ⟨A, hA⟩ : ∃ A, M[k] = A := ⟨_, rfl⟩
      obtain ⟨B, hB⟩ : ∃ B, M[hp.P k]'(by omega) = B := ⟨_, rfl⟩
      rw [hA] at gk
      rw [hB] at gp
      have HA : Hid (M[k]? = some A) := gk
      have HB : Hid (M[hp.P k]? = some B) := gp
      have HU2 : Hid (less A B = true → hp.UpI less (hp.sw M (hp.P k) k) (hp.P k) M.length) := fun h => hp.up_step ord (Nat.le_refl _) (by omega) hkm hup.out gp gk h
      have HU3 : Hid (less A B = false → hp.Heap less M M.length) := fun h => hp.up_end hup.out (fun _ a b ha hb => by rw [gp] at ha; rw [gk] at hb; cases ha; cases hb; exact h)
      obtain ⟨p, hp'⟩ : ∃ p, hp.P k = p := ⟨_, rfl⟩
      rw [hp'] at hd hd2 hpk HB HU2
      clear gk gp hA hB hp' hup
      have hne : ¬ ((p : Int) = (k : Int)) := by omega
      have hbx : wr.cell? ⟨hb, 0, none⟩ = some (.slice (some ⟨g, 0, none⟩) M.length cap) := bcell HST.out.box rfl
      have hm := meth_less hb _ wr hbx
      have hless := qit.less_run g M.length cap k p A B wr hkm (by omega) (HST.out.row.at HA.out) (HST.out.row.at HB.out) (HST.out.fit HA.out) (HST.out.fit HB.out)
      obtain ⟨bb, hbb⟩ : ∃ bb, less A B = bb := ⟨_, rfl⟩
      rw [hbb] at hless HU2 HU3
      clear hbb
      go_wp2_with (go_at_call 116; fail)
      refine hless.mono ?_
      rintro e w1 ⟨rfl, hb1⟩
      have HS1 : Hid (SG W0 hb Q g cap M w1) := HST.out.on hb1
      have HK1 : Hid (Kp g w w1) := HKP.out.trans (Kp.of hb1)
      clear hless hm hbx hb1 HST HKP
      cases bb with
      | false =>
        go_wp2
        go_end0
        exact ⟨rfl, M, hperm.out, HU3.out (by trivial), HS1.out, HK1.out⟩
      | true =>
        have hbx1 : w1.cell? ⟨hb, 0, none⟩ = some (.slice (some ⟨g, 0, none⟩) M.length cap) := bcell HS1.out.box rfl
        have hm1 := meth_swap hb _ w1 hbx1
        obtain ⟨cur, c1, c2, c3, _⟩ := HS1.out.row
        have hsw := qsw.swap_run g M.length cap p k cur B A w1 (by omega) hkm (by omega) c1 (HS1.out.row.at HB.out) (HS1.out.row.at HA.out)
        obtain ⟨hs2, hk2⟩ := HS1.out.swap HB.out HA.out
        have HS2 : Hid (SG W0 hb Q g cap (hp.sw M p k) (qsw.S2 w1.drew g p k B A)) := hs2
        have HK2 : Hid (Kp g w (qsw.S2 w1.drew g p k B A)) := HK1.out.trans hk2
        have HP2 : Hid ((hp.sw M p k).Perm L) := (hp.sw_perm HB.out HA.out).trans hperm.out
        have HLN : Hid ((hp.sw M p k).length = M.length) := hp.sw_len
        have HU4 : Hid (hp.UpI less (hp.sw M p k) p (hp.sw M p k).length) := by unfold Hid; rw [HLN.out]; exact HU2.out rfl
        obtain ⟨X, hX⟩ : ∃ X, qsw.S2 w1.drew g p k B A = X := ⟨_, rfl⟩
        rw [hX] at hsw HS2 HK2
        clear hs2 hk2 c1 c2 c3 hX
        go_wp2_with (go_at_call 119; fail)
        refine hsw.mono ?_
        rintro e w2 ⟨rfl, rfl⟩
        clear hsw hm1 hbx1
        go_wp2
        go_roundw
        case rel => exact ⟨p, hp.sw M p k, rfl, by rw [HLN.out]; omega, by unfold Hid; rw [HLN.out]; exact hml.out, HP2, HU4, HS2.out, HK2.out⟩
        case measure => simp [intOf]; omega
end Go.Proofs.Ytfgilmibeeljnaa.qup
