/- The law of patterns, walked. -/
import Derived.Test.YtipjhlfajefefaaDoorTopicFacts
import Derived.Test.YtipjhlfajefefaaDoorTopicImpl
import Derived.Test.YtipjhlfajefefaaDoorDrawTopic
namespace Go.Proofs.YtipjhlfajefefaaDoor.tw
set_option linter.unusedVariables false
open Go.ChangeShapes Go.WideShapes Go.ChangeAt Go.RowKit Go.Proofs.YtipjhlfajefefaaDoor.tp

theorem big_no (a : Option Addr) (len cap : Nat) (w : World) (h : len ≤ 1048576) : Calls Tryd.prog 12 #[.slice a len cap] w fun e w' => e = .returned (.bool false) ∧ w = w' := by
  have hd : decide ((1048576 : Int) < (len : Int)) = false := by simp; omega
  go_enter Tryd.func12, Tryd.ntmps12
  go_wp2
  go_ret
  exact ⟨by simp, rfl⟩

/-- TopicMatch of the program in whatever world that came of w, its answer under a name -/
theorem cI {w : World} {p k : ByteArray} {b : Bool} (m : Int) (hm : w.cell? ⟨0, 0, none⟩ = some (.int .i64 m)) (hp : p.size ≤ 1000) (hk : k.size ≤ 1000) (hb : topic p k = b) (W : World) (hT : Below w.heap.size w W) :
    Calls Tryd.prog 31 #[.string p, .string k] W fun e W' => e = .returned (.bool b) ∧ Below w.heap.size w W' := by
  have h := ti.impl_topic p k m W (by omega) (by omega) ((hT.cell (p := ⟨0, 0, none⟩) (block_lt_of_cell hm)).trans hm)
  rw [hb] at h
  exact h.mono fun e W' ⟨h1, h2⟩ => ⟨h1, hT.trans (h2.mono hT.size)⟩
theorem cS {w : World} {p k : ByteArray} {b : Bool} (hp : p.size ≤ 1000) (hk : k.size ≤ 1000) (hb : topic p k = b) (W : World) (hT : Below w.heap.size w W) :
    Calls Tryd.prog 32 #[.string p, .string k] W fun e W' => e = .returned (.bool b) ∧ Below w.heap.size w W' := by
  have h := ti.spec_topic p k W (by omega) (by omega)
  rw [hb] at h
  exact h.mono fun e W' ⟨h1, h2⟩ => ⟨h1, hT.trans (h2.mono hT.size)⟩

set_option maxRecDepth 100000 in
set_option maxHeartbeats 2000000 in
theorem walk (a0 : Option Addr) (len0 cap0 : Nat) (w : World) (hcode : dw.Code w w.heap.size a0 len0) (m : Int) (hm : w.cell? ⟨0, 0, none⟩ = some (.int .i64 m)) :
    Calls Tryd.prog 4 #[.slice a0 len0 cap0] w fun e w' => e = .returned (.bool true) ∧ Below w.heap.size w w' := by
  by_cases hbig : 1048576 < len0
  · have hd : decide ((1048576 : Int) < (len0 : Int)) = true := by simp; omega
    clear hm hcode
    go_enter Tryd.func4, Tryd.ntmps4
    go_wp2_with (go_at_call 12; go_in)
    go_ret
    exact ⟨rfl, Below.refl _ _⟩
  have hlen : len0 ≤ 1048576 := by omega
  have hdraw := dp.draw_TopicMatch a0 len0 cap0 w hlen hcode
  have HM : Hid (w.cell? ⟨0, 0, none⟩ = some (.int .i64 m)) := hm
  clear hm hcode
  go_enter Tryd.func4, Tryd.ntmps4
  have t1 : True := trivial
  go_wp2_with (first | (go_at_call 12; refine (big_no a0 len0 cap0 w hlen).mono ?_; rintro e w' ⟨rfl, rfl⟩) | (go_at_call 30; have _t := t1; refine hdraw.mono ?_; rintro e w1 ⟨⟨p, k, hps, hks, rfl⟩, hb1⟩; clear t1))
  obtain ⟨b, hb⟩ : ∃ b, topic p k = b := ⟨_, rfl⟩
  have hI := fun W (hT : Below w.heap.size w W) => cI (p := p) (k := k) m HM.out (by omega) (by omega) hb W hT
  have hS := fun W (hT : Below w.heap.size w W) => cS (p := p) (k := k) (by omega) (by omega) hb W hT
  have kI := fun W => ky.impl_key p W (by omega)
  have kS := fun W => ky.spec_key p W (by omega)
  have kK := fun W => ky.spec_key k W (by omega)
  obtain ⟨gp, hgp⟩ : ∃ gp, ky.good p = gp := ⟨_, rfl⟩
  obtain ⟨gk, hgk⟩ : ∃ gk, ky.good k = gk := ⟨_, rfl⟩
  simp only [hgp] at kI kS
  simp only [hgk] at kK
  have HB : Hid (topic p k = b) := hb
  have HP : Hid (ky.good p = gp) := hgp
  have HK : Hid (ky.good k = gk) := hgk
  clear hb hgp hgk hdraw
  have t2 : True := trivial
  have s1 : True := trivial
  have s2 : True := trivial
  by_cases h50 : 50 < p.size
  · have h50' : (50 : Int) < (p.size : Int) := by omega
    go_wp2_with (first | (go_at_call 31; have _t := t2; refine (hI w1 hb1).mono ?_; rintro e x1 ⟨rfl, hx1⟩; clear t2) | (go_at_call 32; refine (hS x1 hx1).mono ?_; rintro e x2 ⟨rfl, hx2⟩) | (go_at_call 33; refine (kI _).mono ?_; rintro e w0 ⟨rfl, hw0⟩; rw [← hw0]; clear hw0 w0) | (go_at_call 34; first | (have _t := s1; refine (kS _).mono ?_; rintro e w0 ⟨rfl, hw0⟩; rw [← hw0]; clear hw0 w0 s1)))
    all_goals go_ret
    all_goals exact ⟨rfl, hx2⟩
  have h50' : ¬ (50 : Int) < (p.size : Int) := by omega
  cases gp with
  | false =>
    go_wp2_with (first | (go_at_call 31; have _t := t2; refine (hI w1 hb1).mono ?_; rintro e x1 ⟨rfl, hx1⟩; clear t2) | (go_at_call 32; refine (hS x1 hx1).mono ?_; rintro e x2 ⟨rfl, hx2⟩) | (go_at_call 33; refine (kI _).mono ?_; rintro e w0 ⟨rfl, hw0⟩; rw [← hw0]; clear hw0 w0) | (go_at_call 34; first | (have _t := s1; refine (kS _).mono ?_; rintro e w0 ⟨rfl, hw0⟩; rw [← hw0]; clear hw0 w0 s1) | (have _t := s2; refine (kS _).mono ?_; rintro e w0 ⟨rfl, hw0⟩; rw [← hw0]; clear hw0 w0 s2)))
    all_goals go_ret
    all_goals exact ⟨rfl, hx2⟩
  | true =>
  cases gk with
  | false =>
    go_wp2_with (first | (go_at_call 31; have _t := t2; refine (hI w1 hb1).mono ?_; rintro e x1 ⟨rfl, hx1⟩; clear t2) | (go_at_call 32; refine (hS x1 hx1).mono ?_; rintro e x2 ⟨rfl, hx2⟩) | (go_at_call 33; refine (kI _).mono ?_; rintro e w0 ⟨rfl, hw0⟩; rw [← hw0]; clear hw0 w0) | (go_at_call 34; first | (have _t := s1; refine (kS _).mono ?_; rintro e w0 ⟨rfl, hw0⟩; rw [← hw0]; clear hw0 w0 s1) | (have _t := s2; refine (kS _).mono ?_; rintro e w0 ⟨rfl, hw0⟩; rw [← hw0]; clear hw0 w0 s2) | (refine (kK _).mono ?_; rintro e w0 ⟨rfl, hw0⟩; rw [← hw0]; clear hw0 w0)))
    all_goals go_ret
    all_goals exact ⟨rfl, hx2⟩
  | true =>
  have hT1 := f_any HK.out
  have hT2 := f_self HK.out
  have hT3 := f_word HP.out HK.out (by omega) hks
  have hT4 := f_star HP.out HK.out (by omega) hks
  have hT5 := fun h => f_ahead HP.out HK.out (by omega) h
  have hT6 := fun h => f_end HP.out HK.out (by omega) h
  have hT7 := fun h => f_more HP.out HK.out (by omega) hks h
  have hT8 := f_plain HP.out HK.out
  rw [HB.out] at hT3 hT4 hT8
  go_wp2_with (first | (go_at_call 31; have _t := t2; refine (hI w1 hb1).mono ?_; rintro e x1 ⟨rfl, hx1⟩; clear t2) | (go_at_call 32; refine (hS x1 hx1).mono ?_; rintro e x2 ⟨rfl, hx2⟩) | (go_at_call 33; refine (kI _).mono ?_; rintro e w0 ⟨rfl, hw0⟩; rw [← hw0]; clear hw0 w0) | (go_at_call 34; first | (have _t := s1; refine (kS _).mono ?_; rintro e w0 ⟨rfl, hw0⟩; rw [← hw0]; clear hw0 w0 s1) | (have _t := s2; refine (kS _).mono ?_; rintro e w0 ⟨rfl, hw0⟩; rw [← hw0]; clear hw0 w0 s2) | (refine (kK _).mono ?_; rintro e w0 ⟨rfl, hw0⟩; rw [← hw0]; clear hw0 w0)))
  have zH : (⟨#[35]⟩ : ByteArray).size ≤ 1000 := by decide
  have zK : k.size ≤ 1000 := by omega
  have zPX : ((⟨#[120, 46]⟩ : ByteArray) ++ p).size ≤ 1000 := by rw [ByteArray.size_append, size2]; omega
  have zPS : ((⟨#[42, 46]⟩ : ByteArray) ++ p).size ≤ 1000 := by rw [ByteArray.size_append, size2]; omega
  have zPH : ((⟨#[35, 46]⟩ : ByteArray) ++ p).size ≤ 1000 := by rw [ByteArray.size_append, size2]; omega
  have zPE : (p ++ (⟨#[46, 35]⟩ : ByteArray)).size ≤ 1000 := by rw [ByteArray.size_append, size2]; omega
  have zKX : ((⟨#[120, 46]⟩ : ByteArray) ++ k).size ≤ 1000 := by rw [ByteArray.size_append, size2]; omega
  have zKY : ((⟨#[121, 46]⟩ : ByteArray) ++ k).size ≤ 1000 := by rw [ByteArray.size_append, size2]; omega
  have zKE : (k ++ (⟨#[46, 122]⟩ : ByteArray)).size ≤ 1000 := by rw [ByteArray.size_append, size2]; omega
  have hZ : Hid (((⟨#[35]⟩ : ByteArray).size ≤ 1000 ∧ k.size ≤ 1000) ∧ (((⟨#[120, 46]⟩ : ByteArray) ++ p).size ≤ 1000 ∧ ((⟨#[42, 46]⟩ : ByteArray) ++ p).size ≤ 1000 ∧ ((⟨#[35, 46]⟩ : ByteArray) ++ p).size ≤ 1000 ∧ (p ++ (⟨#[46, 35]⟩ : ByteArray)).size ≤ 1000) ∧ ((⟨#[120, 46]⟩ : ByteArray) ++ k).size ≤ 1000 ∧ ((⟨#[121, 46]⟩ : ByteArray) ++ k).size ≤ 1000 ∧ (k ++ (⟨#[46, 122]⟩ : ByteArray)).size ≤ 1000) := ⟨⟨zH, zK⟩, ⟨zPX, zPS, zPH, zPE⟩, zKX, zKY, zKE⟩
  have g1 : Hid (topic ⟨#[35]⟩ k = true) := hT1
  have g2 : Hid (topic k k = true) := hT2
  have g3 : Hid (topic ((⟨#[120, 46]⟩ : ByteArray) ++ p) ((⟨#[120, 46]⟩ : ByteArray) ++ k) = b) := hT3
  have g4 : Hid (topic ((⟨#[42, 46]⟩ : ByteArray) ++ p) ((⟨#[121, 46]⟩ : ByteArray) ++ k) = b) := hT4
  have g5 : Hid (topic p k = true → topic ((⟨#[35, 46]⟩ : ByteArray) ++ p) k = true) := hT5
  have g6 : Hid (topic p k = true → topic (p ++ (⟨#[46, 35]⟩ : ByteArray)) k = true) := hT6
  have g7 : Hid (topic p k = true → topic (p ++ (⟨#[46, 35]⟩ : ByteArray)) (k ++ (⟨#[46, 122]⟩ : ByteArray)) = true) := hT7
  have g8 : Hid ((∀ j, j < p.size → ky.bt p j ≠ 42 ∧ ky.bt p j ≠ 35) → b = decide (p = k)) := hT8
  clear hT1 hT2 hT3 hT4 hT5 hT6 hT7 hT8 zH zK zPX zPS zPH zPE zKX zKY zKE hI hS kI kS kK
  have hp60 : p.size ≤ 60 := by omega
  go_loop [6, 7] (fun v y => ∃ (i : Nat) (pb : Bool), i ≤ p.size ∧ y = .int .i64 i ∧ v = .bool pb ∧ Hid (pb = true → ∀ j, j < i → ky.bt p j ≠ 42 ∧ ky.bt p j ≠ 35)) (fun _ y => p.size - (intOf y).toNat)
  case atStart => exact ⟨0, true, Nat.zero_le _, rfl, rfl, fun _ j hj => by omega⟩
  case round =>
    obtain ⟨i, pb, hi, rfl, rfl, hpb⟩ := hrel
    by_cases hip : i < p.size
    · obtain ⟨c, hc⟩ : ∃ c, p[i].toNat = c := ⟨_, rfl⟩
      have hbt : Hid (ky.bt p i = c) := by unfold Hid; rw [← ky.bt_eq p i hip, hc]
      cases pb with
      | false =>
        go_wp2
        go_round
        case rel => exact ⟨i + 1, false, by omega, by go_num, rfl, fun h => by cases h⟩
        case measure => simp [intOf]; omega
      | true =>
        by_cases c42 : c = 42
        · have e42 : ((c : Int) != 42) = false := by simp; omega
          go_wp2
          go_round
          case rel => exact ⟨i + 1, false, by omega, by go_num, rfl, fun h => by cases h⟩
          case measure => simp [intOf]; omega
        · have e42 : ((c : Int) != 42) = true := by simp; omega
          by_cases c35 : c = 35
          · have e35 : ((c : Int) != 35) = false := by simp; omega
            go_wp2
            go_round
            case rel => exact ⟨i + 1, false, by omega, by go_num, rfl, fun h => by cases h⟩
            case measure => simp [intOf]; omega
          · have e35 : ((c : Int) != 35) = true := by simp; omega
            have hnx : Hid (true = true → ∀ j, j < i + 1 → ky.bt p j ≠ 42 ∧ ky.bt p j ≠ 35) := fun _ j hj => by
              by_cases e : j = i
              · subst e; rw [hbt.out]; exact ⟨c42, c35⟩
              · exact hpb.out rfl j (by omega)
            go_wp2
            go_round
            case rel => exact ⟨i + 1, true, by omega, by go_num, rfl, hnx⟩
            case measure => simp [intOf]; omega
    · obtain rfl : i = p.size := by omega
      obtain ⟨⟨zH, zK⟩, ⟨zPX, zPS, zPH, zPE⟩, zKX, zKY, zKE⟩ := hZ.out
      have ZH : Hid ((⟨#[35]⟩ : ByteArray).size ≤ 1000) := zH
      have ZPX : Hid (((⟨#[120, 46]⟩ : ByteArray) ++ p).size ≤ 1000) := zPX
      have ZPS : Hid (((⟨#[42, 46]⟩ : ByteArray) ++ p).size ≤ 1000) := zPS
      have ZPH : Hid (((⟨#[35, 46]⟩ : ByteArray) ++ p).size ≤ 1000) := zPH
      have ZPE : Hid ((p ++ (⟨#[46, 35]⟩ : ByteArray)).size ≤ 1000) := zPE
      have ZKX : Hid (((⟨#[120, 46]⟩ : ByteArray) ++ k).size ≤ 1000) := zKX
      have ZKY : Hid (((⟨#[121, 46]⟩ : ByteArray) ++ k).size ≤ 1000) := zKY
      have ZKE : Hid ((k ++ (⟨#[46, 122]⟩ : ByteArray)).size ≤ 1000) := zKE
      have ZK : Hid (k.size ≤ 1000) := zK
      clear zH zPX zPS zPH zPE zKX zKY zKE hZ zK
      cases pb with
      | false =>
        cases b with
        | false =>
          have u0 : True := trivial
          have u1 : True := trivial
          have u2 : True := trivial
          have u3 : True := trivial
          go_wp2_with (go_at_call 31; first | (have _t := u0; refine (cI m HM.out ZH.out ZK.out g1.out x2 hx2).mono ?_; rintro e y1 ⟨rfl, hy1⟩; clear u0) | (have _t := u1; refine (cI m HM.out ZK.out ZK.out g2.out y1 hy1).mono ?_; rintro e y2 ⟨rfl, hy2⟩; clear u1) | (have _t := u2; refine (cI m HM.out ZPX.out ZKX.out g3.out y2 hy2).mono ?_; rintro e y3 ⟨rfl, hy3⟩; clear u2) | (have _t := u3; refine (cI m HM.out ZPS.out ZKY.out g4.out y3 hy3).mono ?_; rintro e y4 ⟨rfl, hy4⟩; clear u3))
          all_goals go_ret
          all_goals exact ⟨rfl, hy4⟩
        | true =>
          have u0 : True := trivial
          have u1 : True := trivial
          have u2 : True := trivial
          have u3 : True := trivial
          have u4 : True := trivial
          have u5 : True := trivial
          have u6 : True := trivial
          go_wp2_with (go_at_call 31; first | (have _t := u0; refine (cI m HM.out ZH.out ZK.out g1.out x2 hx2).mono ?_; rintro e y1 ⟨rfl, hy1⟩; clear u0) | (have _t := u1; refine (cI m HM.out ZK.out ZK.out g2.out y1 hy1).mono ?_; rintro e y2 ⟨rfl, hy2⟩; clear u1) | (have _t := u2; refine (cI m HM.out ZPX.out ZKX.out g3.out y2 hy2).mono ?_; rintro e y3 ⟨rfl, hy3⟩; clear u2) | (have _t := u3; refine (cI m HM.out ZPS.out ZKY.out g4.out y3 hy3).mono ?_; rintro e y4 ⟨rfl, hy4⟩; clear u3) | (have _t := u4; refine (cI m HM.out ZPH.out ZK.out (g5.out HB.out) y4 hy4).mono ?_; rintro e y5 ⟨rfl, hy5⟩; clear u4) | (have _t := u5; refine (cI m HM.out ZPE.out ZK.out (g6.out HB.out) y5 hy5).mono ?_; rintro e y6 ⟨rfl, hy6⟩; clear u5) | (have _t := u6; refine (cI m HM.out ZPE.out ZKE.out (g7.out HB.out) y6 hy6).mono ?_; rintro e y7 ⟨rfl, hy7⟩; clear u6))
          all_goals go_ret
          all_goals exact ⟨rfl, hy7⟩
      | true =>
        have hpk : (p.toList == k.toList) = b := by rw [← ti.dec_same]; exact (g8.out (hpb.out rfl)).symm
        cases b with
        | false =>
          have u0 : True := trivial
          have u1 : True := trivial
          have u2 : True := trivial
          have u3 : True := trivial
          go_wp2_with (go_at_call 31; first | (have _t := u0; refine (cI m HM.out ZH.out ZK.out g1.out x2 hx2).mono ?_; rintro e y1 ⟨rfl, hy1⟩; clear u0) | (have _t := u1; refine (cI m HM.out ZK.out ZK.out g2.out y1 hy1).mono ?_; rintro e y2 ⟨rfl, hy2⟩; clear u1) | (have _t := u2; refine (cI m HM.out ZPX.out ZKX.out g3.out y2 hy2).mono ?_; rintro e y3 ⟨rfl, hy3⟩; clear u2) | (have _t := u3; refine (cI m HM.out ZPS.out ZKY.out g4.out y3 hy3).mono ?_; rintro e y4 ⟨rfl, hy4⟩; clear u3))
          all_goals go_ret
          all_goals exact ⟨rfl, hy4⟩
        | true =>
          have u0 : True := trivial
          have u1 : True := trivial
          have u2 : True := trivial
          have u3 : True := trivial
          have u4 : True := trivial
          have u5 : True := trivial
          have u6 : True := trivial
          go_wp2_with (go_at_call 31; first | (have _t := u0; refine (cI m HM.out ZH.out ZK.out g1.out x2 hx2).mono ?_; rintro e y1 ⟨rfl, hy1⟩; clear u0) | (have _t := u1; refine (cI m HM.out ZK.out ZK.out g2.out y1 hy1).mono ?_; rintro e y2 ⟨rfl, hy2⟩; clear u1) | (have _t := u2; refine (cI m HM.out ZPX.out ZKX.out g3.out y2 hy2).mono ?_; rintro e y3 ⟨rfl, hy3⟩; clear u2) | (have _t := u3; refine (cI m HM.out ZPS.out ZKY.out g4.out y3 hy3).mono ?_; rintro e y4 ⟨rfl, hy4⟩; clear u3) | (have _t := u4; refine (cI m HM.out ZPH.out ZK.out (g5.out HB.out) y4 hy4).mono ?_; rintro e y5 ⟨rfl, hy5⟩; clear u4) | (have _t := u5; refine (cI m HM.out ZPE.out ZK.out (g6.out HB.out) y5 hy5).mono ?_; rintro e y6 ⟨rfl, hy6⟩; clear u5) | (have _t := u6; refine (cI m HM.out ZPE.out ZKE.out (g7.out HB.out) y6 hy6).mono ?_; rintro e y7 ⟨rfl, hy7⟩; clear u6))
          all_goals go_ret
          all_goals exact ⟨rfl, hy7⟩
end Go.Proofs.YtipjhlfajefefaaDoor.tw
