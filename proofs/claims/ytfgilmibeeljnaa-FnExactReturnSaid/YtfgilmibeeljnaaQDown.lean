/- container/heap's down over the messages: the same messages, in a heap's order. -/
import Derived.Test.YtfgilmibeeljnaaQUp
namespace Go.Proofs.Ytfgilmibeeljnaa.qdn
open Go.ChangeShapes Go.WideShapes Go.ChangeAt Go.RowKit Go.Proofs.Ytfgilmibeeljnaa.fl Go.Proofs.Ytfgilmibeeljnaa.qit Go.Proofs.Ytfgilmibeeljnaa.qst
set_option linter.unusedVariables false

/-- what stands at the head of a round -/
structure Rd (W0 : World) (hb : Nat) (Q : qit.Qx) (g cap n : Nat) (L : List flM.Ms) (w : World) (k : Nat) (M : List flM.Ms) (wr : World) : Prop where
  kn : k < n ∨ k = 0
  len : M.length = L.length
  perm : M.Perm L
  dn : hp.DnI less M k n
  rest : ∀ q, n ≤ q → M[q]? = L[q]?
  st : SG W0 hb Q g cap M wr
  kp : Kp g w wr
theorem Rd.on {W0 : World} {Q : qit.Qx} {hb g cap n k : Nat} {L M : List flM.Ms} {w wr w1 : World} (h : Rd W0 hb Q g cap n L w k M wr) (hb1 : Below wr.heap.size wr w1) : Rd W0 hb Q g cap n L w k M w1 := ⟨h.kn, h.len, h.perm, h.dn, h.rest, h.st.on hb1, h.kp.trans (Kp.of hb1)⟩
theorem Rd.swap {W0 : World} {Q : qit.Qx} {hb g cap n k j : Nat} {L M : List flM.Ms} {w wr : World} {A J : flM.Ms} (h : Rd W0 hb Q g cap n L w k M wr) (hA : M[k]? = some A) (hJ : M[j]? = some J) (hkn : k < n) (hjn : j < n) (hd : hp.DnI less (hp.sw M k j) j n) : Rd W0 hb Q g cap n L w j (hp.sw M k j) (qsw.S2 wr.drew g k j A J) := by
  obtain ⟨h1, h2⟩ := h.st.swap hA hJ
  exact ⟨.inl hjn, hp.sw_len.trans h.len, (hp.sw_perm hA hJ).trans h.perm, hd, fun q hq => by rw [hp.sw_else hA hJ (by omega) (by omega)]; exact h.rest q hq, h1, h.kp.trans h2⟩
/-- what is left when it is done -/
def Fin (W0 : World) (hb : Nat) (Q : qit.Qx) (g cap n : Nat) (L : List flM.Ms) (w w' : World) : Prop := ∃ M : List flM.Ms, M.Perm L ∧ hp.Heap less M n ∧ (∀ q, n ≤ q → M[q]? = L[q]?) ∧ SG W0 hb Q g cap M w' ∧ Kp g w w'
theorem Rd.fin {W0 : World} {Q : qit.Qx} {hb g cap n k : Nat} {L M : List flM.Ms} {w wr : World} (h : Rd W0 hb Q g cap n L w k M wr) (hh : hp.Heap less M n) : Fin W0 hb Q g cap n L w wr := ⟨M, h.perm, hh, h.rest, h.st, h.kp⟩
/-- Less, asked through the interface -/
theorem ask {W0 : World} {Q : qit.Qx} {hb g cap n k : Nat} {L M : List flM.Ms} {w wr : World} (h : Rd W0 hb Q g cap n L w k M wr) {i j : Nat} {A B : flM.Ms} (hi : M[i]? = some A) (hj : M[j]? = some B) :
    Calls Try.prog 116 #[.slice (some ⟨g, 0, none⟩) M.length cap, .int .i64 i, .int .i64 j] wr fun r w' => r = .returned (.bool (less A B)) ∧ Below wr.heap.size wr w' :=
  qit.less_run g M.length cap i j A B wr (List.getElem?_eq_some_iff.1 hi).1 (List.getElem?_eq_some_iff.1 hj).1 (h.st.row.at hi) (h.st.row.at hj) (h.st.fit hi) (h.st.fit hj)
theorem turn {W0 : World} {Q : qit.Qx} {hb g cap n k : Nat} {L M : List flM.Ms} {w wr : World} (h : Rd W0 hb Q g cap n L w k M wr) {i j : Nat} {A B : flM.Ms} (hi : M[i]? = some A) (hj : M[j]? = some B) :
    Calls Try.prog 119 #[.slice (some ⟨g, 0, none⟩) M.length cap, .int .i64 i, .int .i64 j] wr fun r w' => r = .returned (.tuple #[]) ∧ w' = qsw.S2 wr.drew g i j A B := by
  obtain ⟨cur, c1, c2, c3, _⟩ := h.st.row
  exact qsw.swap_run g M.length cap i j cur A B wr (List.getElem?_eq_some_iff.1 hi).1 (List.getElem?_eq_some_iff.1 hj).1 (by omega) c1 (h.st.row.at hi) (h.st.row.at hj)
theorem getM {M : List flM.Ms} {i : Nat} (h : i < M.length) : ∃ A, M[i]? = some A := ⟨_, List.getElem?_eq_getElem h⟩

set_option maxRecDepth 100000 in
set_option maxHeartbeats 2000000 in
theorem down_run (W0 : World) (Q : qit.Qx) (hb g cap i n : Nat) (L : List flM.Ms) (w : World) (hS : SG W0 hb Q g cap L w) (hin : i < n ∨ i = 0) (hnl : n ≤ L.length) (hl : L.length ≤ 1000) (hD : hp.DnI less L i n) :
    Calls Try.prog 80 #[.iface 52 (.pointer (some ⟨hb, 0, none⟩)), .int .i64 i, .int .i64 n] w fun e w' => (∃ b : Bool, e = .returned (.bool b)) ∧ Fin W0 hb Q g cap n L w w' := by
  have HR0 : Hid (Rd W0 hb Q g cap n L w i L w) := ⟨hin, rfl, List.Perm.refl _, hD, fun _ _ => rfl, hS, Kp.refl _ _⟩
  have hn100 : n ≤ 1000 := by omega
  have HNL : Hid (n ≤ L.length) := hnl
  clear hS hD hnl hl
  go_enter Try.func80, Try.ntmps80
  go_wp2
  go_loopw [7, 8, 9, 10] (fun x _ _ _ wr => ∃ (k : Nat) (M : List flM.Ms), x = .int .i64 k ∧ k ≤ 1000 ∧ Hid (Rd W0 hb Q g cap n L w k M wr)) (fun x _ _ _ _ => n - (intOf x).toNat)
  case atStart => exact ⟨i, L, rfl, by omega, HR0⟩
  case round =>
    obtain ⟨k, M, rfl, hk100, hrd⟩ := hrel
    by_cases h1 : 2 * k + 1 < n
    case neg =>
      have hf : Hid (Fin W0 hb Q g cap n L w wr) := hrd.out.fin (hp.down_end hrd.out.dn (hp.none_child h1))
      have c1 : (n : Int) ≤ 2 * (k : Int) + 1 := by omega
      clear h1
      go_wp2
      go_ret
      exact ⟨⟨_, rfl⟩, hf.out⟩
    case pos =>
      have hML : Hid (n ≤ M.length) := by unfold Hid; rw [hrd.out.len]; exact HNL.out
      obtain ⟨A, gA⟩ := getM (M := M) (i := k) (by have := hML.out; omega)
      have HA : Hid (M[k]? = some A) := gA
      obtain ⟨J1, g1⟩ := getM (M := M) (i := 2 * k + 1) (by have := hML.out; omega)
      have H1 : Hid (M[2 * k + 1]? = some J1) := g1
      clear gA g1
      have c1 : ¬ (n : Int) ≤ 2 * (k : Int) + 1 := by omega
      have c2 : ¬ 2 * (k : Int) + 1 < 0 := by omega
      have hbx : wr.cell? ⟨hb, 0, none⟩ = some (.slice (some ⟨g, 0, none⟩) M.length cap) := bcell hrd.out.st.box rfl
      have hm := meth_less hb _ wr hbx
      by_cases h2 : 2 * k + 2 < n
      case pos =>
        obtain ⟨J2, g2⟩ := getM (M := M) (i := 2 * k + 2) (by have := hML.out; omega)
        have H2 : Hid (M[2 * k + 2]? = some J2) := g2
        clear g2
        have c3 : 2 * (k : Int) + 1 + 1 < (n : Int) := by omega
        have hask := ask hrd.out H2.out H1.out
        have e2 : ((2 * k + 2 : Nat) : Int) = 2 * (k : Int) + 1 + 1 := by omega
        have e1 : ((2 * k + 1 : Nat) : Int) = 2 * (k : Int) + 1 := by omega
        rw [e2, e1] at hask
        have HL2 : Hid (less J2 J1 = true → ∀ c, 0 < c → c < n → hp.P c = k → hp.Le less M (2 * k + 2) c) := fun h => hp.least_two ord H1.out H2.out h
        have HL1 : Hid (less J2 J1 = false → ∀ c, 0 < c → c < n → hp.P c = k → hp.Le less M (2 * k + 1) c) := fun h => hp.least_one ord H1.out (fun _ y hy => by rw [H2.out] at hy; cases hy; exact h)
        obtain ⟨b1, hb1⟩ : ∃ b, less J2 J1 = b := ⟨_, rfl⟩
        rw [hb1] at hask HL1 HL2
        clear hb1
        go_wp2_with (go_at_call 116; fail)
        refine hask.mono ?_
        rintro e w1 ⟨rfl, hbe1⟩
        have HR1 : Hid (Rd W0 hb Q g cap n L w k M w1) := hrd.out.on hbe1
        clear hask hm hbx hbe1 hrd
        cases b1 with
        | false =>
          have HLE : Hid (∀ c, 0 < c → c < n → hp.P c = k → hp.Le less M (2 * k + 1) c) := HL1.out rfl
          clear HL1 HL2 H2
          have eJ : ((2 * k + 1 : Nat) : Int) = 2 * (k : Int) + 1 := by omega
          have hbx1 : w1.cell? ⟨hb, 0, none⟩ = some (.slice (some ⟨g, 0, none⟩) M.length cap) := bcell HR1.out.st.box rfl
          have hm1 := meth_less hb _ w1 hbx1
          have hask1 := ask HR1.out H1.out HA.out
          rw [eJ] at hask1
          have HD2 : Hid (less J1 A = true → hp.DnI less (hp.sw M k (2 * k + 1)) (2 * k + 1) n) := fun h => hp.down_step ord HA.out H1.out (by omega) (by omega) (hp.P_one k) HR1.out.dn h HLE.out
          have HD3 : Hid (less J1 A = false → hp.Heap less M n) := fun h => hp.down_end HR1.out.dn (hp.least_end ord H1.out HA.out h HLE.out)
          obtain ⟨b2, hb2⟩ : ∃ b, less J1 A = b := ⟨_, rfl⟩
          rw [hb2] at hask1 HD2 HD3
          clear hb2 HLE
          go_wp2_with (go_at_call 116; fail)
          refine hask1.mono ?_
          rintro e w2 ⟨rfl, hbe2⟩
          have HR2 : Hid (Rd W0 hb Q g cap n L w k M w2) := HR1.out.on hbe2
          clear hask1 hm1 hbx1 hbe2
          cases b2 with
          | false =>
            have hf : Hid (Fin W0 hb Q g cap n L w w2) := HR2.out.fin (HD3.out rfl)
            clear HD2 HD3
            go_wp2
            go_ret
            exact ⟨⟨_, rfl⟩, hf.out⟩
          | true =>
            have hbx2 : w2.cell? ⟨hb, 0, none⟩ = some (.slice (some ⟨g, 0, none⟩) M.length cap) := bcell HR2.out.st.box rfl
            have hm2 := meth_swap hb _ w2 hbx2
            have hsw := turn HR2.out HA.out H1.out
            have HR3 : Hid (Rd W0 hb Q g cap n L w (2 * k + 1) (hp.sw M k (2 * k + 1)) (qsw.S2 w2.drew g k (2 * k + 1) A J1)) := HR2.out.swap HA.out H1.out (by omega) (by omega) (HD2.out rfl)
            obtain ⟨X, hX⟩ : ∃ X, qsw.S2 w2.drew g k (2 * k + 1) A J1 = X := ⟨_, rfl⟩
            rw [hX] at hsw HR3
            rw [eJ] at hsw
            clear hX HD2 HD3
            go_wp2_with (go_at_call 119; fail)
            refine hsw.mono ?_
            rintro e w3 ⟨rfl, rfl⟩
            clear hsw hm2 hbx2
            go_wp2
            go_roundw
            case rel => exact ⟨2 * k + 1, hp.sw M k (2 * k + 1), by rw [eJ], by omega, HR3⟩
            case measure => simp [intOf]; omega
        | true =>
          have HLE : Hid (∀ c, 0 < c → c < n → hp.P c = k → hp.Le less M (2 * k + 2) c) := HL2.out rfl
          clear HL1 HL2 H1
          have eJ : ((2 * k + 2 : Nat) : Int) = 2 * (k : Int) + 1 + 1 := by omega
          have hbx1 : w1.cell? ⟨hb, 0, none⟩ = some (.slice (some ⟨g, 0, none⟩) M.length cap) := bcell HR1.out.st.box rfl
          have hm1 := meth_less hb _ w1 hbx1
          have hask1 := ask HR1.out H2.out HA.out
          rw [eJ] at hask1
          have HD2 : Hid (less J2 A = true → hp.DnI less (hp.sw M k (2 * k + 2)) (2 * k + 2) n) := fun h => hp.down_step ord HA.out H2.out (by omega) (by omega) (hp.P_two k) HR1.out.dn h HLE.out
          have HD3 : Hid (less J2 A = false → hp.Heap less M n) := fun h => hp.down_end HR1.out.dn (hp.least_end ord H2.out HA.out h HLE.out)
          obtain ⟨b2, hb2⟩ : ∃ b, less J2 A = b := ⟨_, rfl⟩
          rw [hb2] at hask1 HD2 HD3
          clear hb2 HLE
          go_wp2_with (go_at_call 116; fail)
          refine hask1.mono ?_
          rintro e w2 ⟨rfl, hbe2⟩
          have HR2 : Hid (Rd W0 hb Q g cap n L w k M w2) := HR1.out.on hbe2
          clear hask1 hm1 hbx1 hbe2
          cases b2 with
          | false =>
            have hf : Hid (Fin W0 hb Q g cap n L w w2) := HR2.out.fin (HD3.out rfl)
            clear HD2 HD3
            go_wp2
            go_ret
            exact ⟨⟨_, rfl⟩, hf.out⟩
          | true =>
            have hbx2 : w2.cell? ⟨hb, 0, none⟩ = some (.slice (some ⟨g, 0, none⟩) M.length cap) := bcell HR2.out.st.box rfl
            have hm2 := meth_swap hb _ w2 hbx2
            have hsw := turn HR2.out HA.out H2.out
            have HR3 : Hid (Rd W0 hb Q g cap n L w (2 * k + 2) (hp.sw M k (2 * k + 2)) (qsw.S2 w2.drew g k (2 * k + 2) A J2)) := HR2.out.swap HA.out H2.out (by omega) (by omega) (HD2.out rfl)
            obtain ⟨X, hX⟩ : ∃ X, qsw.S2 w2.drew g k (2 * k + 2) A J2 = X := ⟨_, rfl⟩
            rw [hX] at hsw HR3
            rw [eJ] at hsw
            clear hX HD2 HD3
            go_wp2_with (go_at_call 119; fail)
            refine hsw.mono ?_
            rintro e w3 ⟨rfl, rfl⟩
            clear hsw hm2 hbx2
            go_wp2
            go_roundw
            case rel => exact ⟨2 * k + 2, hp.sw M k (2 * k + 2), by rw [eJ], by omega, HR3⟩
            case measure => simp [intOf]; omega
      case neg =>
        have c3 : ¬ 2 * (k : Int) + 1 + 1 < (n : Int) := by omega
        have HLE : Hid (∀ c, 0 < c → c < n → hp.P c = k → hp.Le less M (2 * k + 1) c) := hp.least_one ord H1.out (fun h => absurd h h2)
        clear hm hbx
        have eJ : ((2 * k + 1 : Nat) : Int) = 2 * (k : Int) + 1 := by omega
        have hbx1 : wr.cell? ⟨hb, 0, none⟩ = some (.slice (some ⟨g, 0, none⟩) M.length cap) := bcell hrd.out.st.box rfl
        have hm1 := meth_less hb _ wr hbx1
        have hask1 := ask hrd.out H1.out HA.out
        rw [eJ] at hask1
        have HD2 : Hid (less J1 A = true → hp.DnI less (hp.sw M k (2 * k + 1)) (2 * k + 1) n) := fun h => hp.down_step ord HA.out H1.out (by omega) (by omega) (hp.P_one k) hrd.out.dn h HLE.out
        have HD3 : Hid (less J1 A = false → hp.Heap less M n) := fun h => hp.down_end hrd.out.dn (hp.least_end ord H1.out HA.out h HLE.out)
        obtain ⟨b2, hb2⟩ : ∃ b, less J1 A = b := ⟨_, rfl⟩
        rw [hb2] at hask1 HD2 HD3
        clear hb2 HLE
        go_wp2_with (go_at_call 116; fail)
        refine hask1.mono ?_
        rintro e w2 ⟨rfl, hbe2⟩
        have HR2 : Hid (Rd W0 hb Q g cap n L w k M w2) := hrd.out.on hbe2
        clear hask1 hm1 hbx1 hbe2
        cases b2 with
        | false =>
          have hf : Hid (Fin W0 hb Q g cap n L w w2) := HR2.out.fin (HD3.out rfl)
          clear HD2 HD3
          go_wp2
          go_ret
          exact ⟨⟨_, rfl⟩, hf.out⟩
        | true =>
          have hbx2 : w2.cell? ⟨hb, 0, none⟩ = some (.slice (some ⟨g, 0, none⟩) M.length cap) := bcell HR2.out.st.box rfl
          have hm2 := meth_swap hb _ w2 hbx2
          have hsw := turn HR2.out HA.out H1.out
          have HR3 : Hid (Rd W0 hb Q g cap n L w (2 * k + 1) (hp.sw M k (2 * k + 1)) (qsw.S2 w2.drew g k (2 * k + 1) A J1)) := HR2.out.swap HA.out H1.out (by omega) (by omega) (HD2.out rfl)
          obtain ⟨X, hX⟩ : ∃ X, qsw.S2 w2.drew g k (2 * k + 1) A J1 = X := ⟨_, rfl⟩
          rw [hX] at hsw HR3
          rw [eJ] at hsw
          clear hX HD2 HD3
          go_wp2_with (go_at_call 119; fail)
          refine hsw.mono ?_
          rintro e w3 ⟨rfl, rfl⟩
          clear hsw hm2 hbx2
          go_wp2
          go_roundw
          case rel => exact ⟨2 * k + 1, hp.sw M k (2 * k + 1), by rw [eJ], by omega, HR3⟩
          case measure => simp [intOf]; omega
end Go.Proofs.Ytfgilmibeeljnaa.qdn
