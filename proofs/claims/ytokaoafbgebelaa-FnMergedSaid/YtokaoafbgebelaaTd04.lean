/- The specification's TableFlush. -/
import Derived.Test.YtokaoafbgebelaaPutPure0
import Derived.Test.YtokaoafbgebelaaTd01
import Derived.Test.YtokaoafbgebelaaFlatOff
import Derived.Test.YtokaoafbgebelaaRunRows
import Derived.Test.YtokaoafbgebelaaTd03
import Derived.Deep.QuietTactic
import Derived.BigQuiet
import Derived.Test.YtokaoafbgebelaaPutPure
import Derived.Test.YtokaoafbgebelaaTabOk
import Derived.Test.YtokaoafbgebelaaTabAns

/- The specification's l07Set: a run with a pair in its place, in a row of its own. -/
namespace Go.Proofs.Ytokaoafbgebelaa.pss
open Go.ChangeShapes Go.WideShapes Go.ChangeAt Go.RowKit Go.Proofs.Ytokaoafbgebelaa.fl Go.Proofs.Ytokaoafbgebelaa.fo Go.Proofs.Ytokaoafbgebelaa.rn Go.Proofs.Ytokaoafbgebelaa.rc Go.Proofs.Ytokaoafbgebelaa.ro Go.Proofs.Ytokaoafbgebelaa.ptp
set_option linter.unusedVariables false

theorem row_cell {w : World} {B g k : Nat} {l : List flP.Pr} {e : flP.Pr} (h : Row flP.c 3 w B (some ⟨g, 0, none⟩) l) (he : l[k]? = some e) : w.cell? ⟨g, k * 3, none⟩ = some (.string e.k) := by
  rcases h with h0 | ⟨b', off', hh, hlt, hc⟩
  · rw [h0] at he; simp at he
  · cases hh
    have := hc k _ he 0 _ rfl
    simpa using this
theorem bdrewN {B : Nat} {a w : World} (h : Below B a w) (n : Nat) : Below B a (w.drewN n) := ⟨h.os, h.tape, h.output, h.size, h.block⟩
theorem add_at (g o j : Nat) : (⟨g, o, none⟩ : Addr).add j = ⟨g, o + j, none⟩ := by unfold Addr.add; split <;> simp_all
theorem take_drop_flat (l : List flP.Pr) (k : Nat) : l.flatMap flP.c = (l.take k).flatMap flP.c ++ (l.drop k).flatMap flP.c := by rw [← List.flatMap_append, List.take_append_drop]
theorem news_take {w : World} {B g : Nat} {l : List flP.Pr} (h : Row flP.c 3 w B (some ⟨g, 0, none⟩) l) (k : Nat) : ∀ (j : Nat) (u : Value), ((l.take k).flatMap flP.c)[j]? = some u → w.cell? ((⟨g, 0, none⟩ : Addr).add j) = some u := fun j u hu => sct.newsP h j u (by
  rw [take_drop_flat l k, List.getElem?_append_left (List.getElem?_eq_some_iff.1 hu).1]
  exact hu)
theorem news_drop {w : World} {B g : Nat} {l : List flP.Pr} (h : Row flP.c 3 w B (some ⟨g, 0, none⟩) l) (k : Nat) (hk : k ≤ l.length) : ∀ (j : Nat) (u : Value), ((l.drop k).flatMap flP.c)[j]? = some u → w.cell? ((⟨g, k * 3, none⟩ : Addr).add j) = some u := fun j u hu => by
  have hlen : ((l.take k).flatMap flP.c).length = k * 3 := by rw [flat_len flP.c_len, List.length_take]; congr 1; omega
  have := sct.newsP h (k * 3 + j) u (by
    rw [take_drop_flat l k, List.getElem?_append_right (by omega), hlen, show k * 3 + j - k * 3 = j by omega]
    exact hu)
  rw [sct.add0] at this
  rw [add_at]
  exact this
def ws (g n c k o m cc : Nat) (pk pv : ByteArray) (pg : Bool) (s : tas.G) : List (Nat × Value) := [(40, .slice (some ⟨s.e0, 0, none⟩) 0 0), (41, .slice (some ⟨g, 0, none⟩) n c), (42, .int .i64 k), (43, .slice (some ⟨g, 0, none⟩) k c), (44, s.v1), (45, .agg #[.string pk, .string pv, .bool pg]), (46, .slice (some ⟨s.h, 0, none⟩) 1 1), (47, s.v2), (48, .slice (some ⟨g, o, none⟩) m cc), (49, s.v3), (4, s.v4)]
def J0 : tas.J := ⟨0, 4, 6, 7, 9, 10⟩
theorem J0_up : J0.up := ⟨by decide, by decide, by decide, by decide, by decide⟩
set_option maxRecDepth 100000 in
set_option maxHeartbeats 4000000 in
theorem spec_set (l : List flP.Pr) (g c : Nat) (pk pv : ByteArray) (pg : Bool) (w : World) (hl : l.length ≤ 1048576) (hlc : l.length ≤ c) (hS : Row flP.c 3 w w.heap.size (some ⟨g, 0, none⟩) l) :
    Calls Try.prog 53 #[.slice (some ⟨g, 0, none⟩) l.length c, .agg #[.string pk, .string pv, .bool pg]] w fun e w' => ∃ g2 c2, e = .returned (.slice (some ⟨g2, 0, none⟩) (setP l ⟨pk, pv, pg⟩).length c2) ∧ w'.ownsRow w.heap.size 40 3 (.slice (some ⟨g2, 0, none⟩) (setP l ⟨pk, pv, pg⟩).length c2) (setP l ⟨pk, pv, pg⟩).length ((setP l ⟨pk, pv, pg⟩).flatMap flP.c) ∧ Below w.heap.size w w' := by
  obtain ⟨i0, hi, hz0, hz1, hz2⟩ := sct.infoP
  have hb : Below w.heap.size w (w.alloc (.cells #[.string pk, .string pv, .bool pg] 40)) := (Below.refl _ _).alloc (Nat.le_refl _) _
  have hA := bnew w #[.string pk, .string pv, .bool pg] 40
  obtain ⟨W, hW⟩ : ∃ W, w.alloc (.cells #[.string pk, .string pv, .bool pg] 40) = W := ⟨_, rfl⟩
  have hsW : W.heap.size = w.heap.size + 1 := by rw [← hW]; simp
  rw [hW] at hb hA
  have HS : Hid (Row flP.c 3 W W.heap.size (some ⟨g, 0, none⟩) l) := hS.inn hb
  have HA : Hid (W.heap[w.heap.size]? = some (.cells #[.string pk, .string pv, .bool pg] 40 (0, 0))) := hA
  clear hS hA
  go_enter Try.func53, Try.ntmps53
  go_wp2
  clear hW
  go_loopw [5] (fun v wr => ∃ k : Nat, k ≤ l.length ∧ v = .int .i64 k ∧ Hid (∀ (i : Nat) a, i < k → l[i]? = some a → lt a.k pk = true) ∧ Hid (Below W.heap.size W wr)) (fun v _ => l.length - (intOf v).toNat)
  case atStart => exact ⟨0, Nat.zero_le _, rfl, fun i a h => by omega, Below.refl _ _⟩
  case round =>
    obtain ⟨k, hk, rfl, hn, hB⟩ := hrel
    have p0 : wr.cell? ⟨w.heap.size, 0, none⟩ = some (.string pk) := bcell (bstay HA.out hB.out (by omega)) rfl
    have HSr : Hid (Row flP.c 3 wr wr.heap.size (some ⟨g, 0, none⟩) l) := HS.out.inn hB.out
    have hsr : w.heap.size + 1 ≤ wr.heap.size := by have := hB.out.size; omega
    by_cases hkl : k < l.length
    · have f0 : decide ((k : Int) < (l.length : Int)) = true := by simp; omega
      have HG : Hid (l[k]? = some l[k]) := List.getElem?_eq_getElem hkl
      obtain ⟨⟨mk, mv, mg⟩, he⟩ : ∃ e, l[k] = e := ⟨_, rfl⟩
      rw [he] at HG
      have a0 : wr.cell? ⟨g, k * 3, none⟩ = some (.string mk) := row_cell HSr.out HG.out
      have i2 : (k : Int) < (l.length : Int) := by omega
      clear he
      cases hq : Op.bytesLess mk.toList pk.toList with
      | true =>
        have hn2 : Hid (∀ (i : Nat) a, i < k + 1 → l[i]? = some a → lt a.k pk = true) := fun i a hi ha => by
          by_cases ei : i = k
          · subst ei; rw [HG.out] at ha; cases ha; exact hq
          · exact hn.out i a (by omega) ha
        go_wp2
        go_quiet (fail)
        go_wp2
        go_roundw
        case rel => exact ⟨k + 1, by omega, by go_num, hn2, bdrewN hB.out _⟩
        case measure => simp [intOf]; omega
      | false =>
        have HP : Hid (posP l pk = k) := posP_eq l pk k hk hn.out (fun a ha => by rw [HG.out] at ha; cases ha; exact hq)
        have r4 : ¬ c = k := by omega
        have r5 : 0 < l.length - k := by omega
        have r7 : (0 : Int) < ((l.length - k : Nat) : Int) := by omega
        have f5 : decide ((0 : Int) < ((l.length - k : Nat) : Int)) = true := decide_eq_true r7
        have r9 : k ≤ c := by omega
        by_cases heq : mk.toList = pk.toList
        · have hq2 : (mk.toList == pk.toList) = true := by simp [heq]
          have HIS : Hid (isP l k pk = true) := isP_true.2 ⟨_, HG.out, cmp_zero.2 (of_same heq)⟩
          clear heq
          have HRE : Hid (restP l pk = l.drop (k + 1)) := by show restP l pk = l.drop (k + 1); unfold restP; rw [HP.out, if_pos HIS.out]
          have r8 : 1 ≤ l.length - k := by omega
          by_cases hck : c = k + 1
          · have r6 : c - k = 1 := by omega
            have HLE : Hid (l.length = k + 1) := by exact (by omega : l.length = k + 1)
            have HCK : Hid (c = k + 1) := hck
            clear hck
            go_wp2
            go_quiet (fail)
            have hBX := bdrewN hB.out nq
            obtain ⟨X, hX⟩ : ∃ X, wr.drewN nq = X := ⟨_, rfl⟩
            rw [hX] at hBX ⊢
            have HSX := HS.out.inn hBX
            have hsx := hBX.size
            have x0 : X.cell? ⟨w.heap.size, 0, none⟩ = some (.string pk) := bcell (bstay HA.out hBX (by omega)) rfl
            have b0 : X.cell? ⟨g, k * 3, none⟩ = some (.string mk) := row_cell HSX HG.out
            clear hX p0 a0 HSX
            go_wp2
            go_quiet (fail)
            have hBX2 := bdrewN hBX nq
            obtain ⟨X2, hX2⟩ : ∃ X2, X.drewN nq = X2 := ⟨_, rfl⟩
            rw [hX2] at hBX2 ⊢
            clear hX2 x0 b0
            have hX2s := hBX2.size
            have HSX2 : Hid (Row flP.c 3 X2 X2.heap.size (some ⟨g, 0, none⟩) l) := HS.out.inn hBX2
            have HA2 : Hid (X2.heap[w.heap.size]? = some (.cells #[.string pk, .string pv, .bool pg] 40 (0, 0))) := bstay HA.out hBX2 (by omega)
            have HRL : Hid ((restP l pk).length = l.length - k - 1) := by show (restP l pk).length = l.length - k - 1; rw [HRE.out]; simp; omega
            have HBX2 : Hid (Below W.heap.size W X2) := hBX2
            go_wp2
            refine dk.region_gsets (ws g l.length c k (k * 3) (l.length - k - 1) (0) pk pv pg) [40, 41, 42, 43, 44, 45, 46, 47, 48, 49, 4] (tas.C ⟨X2, 40, 3, (l.take k).flatMap flP.c, [.string pk, .string pv, .bool pg], (restP l pk).flatMap flP.c, k, l.length - k - 1⟩ J0) ⟨0, .slice none 0 0, 0, .slice none 0 0, .slice none 0 0, .slice none 0 0⟩ (by kernel_rfl) (by kernel_rfl) (fun _ => rfl) (by kernel_rfl) (tas.start _ _ _) ?each ?fin
            case each =>
              refine ⟨tas.st0 (x := J0) (d := 40) (idx := 0) J0_up (by simp) rfl (by simp) (fun g => rfl) (fun g => rfl) (fun g e => rfl) (fun s W => by simp [execOp, go_sem]), ?_⟩
              refine ⟨tas.quiet (by decide) (by simp) (.slice (some ⟨g, 0, none⟩) l.length c) (by rintro s _ ⟨⟩; exact dk.sets_on _ (by simp) _ rfl) (fun s W h => by simp [execOp, go_sem, Act.eval, dk.sets_get, ws, List.lookup]), ?_⟩
              refine ⟨tas.quiet (by decide) (by simp) (.int .i64 k) (by rintro s _ ⟨⟩; exact dk.sets_on _ (by simp) _ rfl) (fun s W h => by simp [execOp, go_sem, Act.eval, dk.sets_get, ws, List.lookup]), ?_⟩
              refine ⟨tas.quiet (by decide) (by simp) (.slice (some ⟨g, 0, none⟩) k c) (by rintro s _ ⟨⟩; exact dk.sets_on _ (by simp) _ rfl) (fun s W h => by simp [execOp, go_sem, Act.eval, dk.sets_get, ws, List.lookup, r9]), ?_⟩
              refine ⟨tas.st1 (x := J0) (d := 44) (s1 := 40) (s2 := 43) (idx := 4) (c := c) (a := ⟨g, 0, none⟩) J0_up Try.underlying24 hi hz0 hz1 hz2 rfl (by show 0 < 3; decide) rfl rfl ⟨by simp, by simp, by simp⟩ (fun g => rfl) (fun g => rfl) (fun g => rfl) (fun g => rfl) (fun g v => rfl) (by show ((l.take k).flatMap flP.c).length = k * 3; rw [flat_len flP.c_len, List.length_take]; congr 1; omega) (fun W hb => news_take (HSX2.out.inn hb) k) (sct.oneP _) (by show k ≤ 1048576; omega) (by show (0 + k) * 40 ≤ 140737488355328; omega) ⟨⟨0, .data⟩, by simp, rfl, rfl⟩, ?_⟩
              refine ⟨tas.quiet (by decide) (by simp) (.agg #[.string pk, .string pv, .bool pg]) (by rintro s _ ⟨⟩; exact dk.sets_on _ (by simp) _ rfl) (fun s W h => by have hh := h _ _ HA2.out; have c0 : W.cell? ⟨w.heap.size, 0, none⟩ = some (.string pk) := bcell hh rfl; have c1 : W.cell? ⟨w.heap.size, 1, none⟩ = some (.string pv) := bcell hh rfl; have c2 : W.cell? ⟨w.heap.size, 2, none⟩ = some (.bool pg) := bcell hh rfl; simp [execOp, go_sem, Act.eval, dk.sets_get, ws, List.lookup, c0, c1, c2]), ?_⟩
              refine ⟨tas.st2 (x := J0) (d := 46) (idx := 6) J0_up (by simp) rfl (by simp) (fun g => rfl) (fun g => rfl) (fun g e => rfl) (fun s W => by simp [execOp, go_sem, Act.eval, dk.sets_get, ws, List.lookup]), ?_⟩
              refine ⟨tas.st3 (x := J0) (d := 47) (s1 := 44) (s2 := 46) (idx := 7) J0_up Try.underlying24 hi hz0 hz1 hz2 rfl (by show 0 < 3; decide) rfl rfl ⟨by simp, by simp, by simp⟩ (fun g => rfl) (fun g => rfl) (fun g => rfl) (fun g => rfl) (fun g v => rfl) rfl (by intro u hu; simp at hu; rcases hu with rfl | rfl | rfl <;> rfl) (by show k ≤ 1048576; omega) (by show (k + 1) * 40 ≤ 140737488355328; omega) ⟨⟨4, .data⟩, by simp, rfl, rfl⟩ ⟨⟨6, .data⟩, by simp, rfl, rfl⟩, ?_⟩
              refine ⟨tas.quiet (by decide) (by simp) (.slice (some ⟨g, k * 3, none⟩) (l.length - k - 1) (0)) (by rintro s _ ⟨⟩; exact dk.sets_on _ (by simp) _ rfl) (fun s W h => by simp [execOp, go_sem, Act.eval, dk.sets_get, ws, List.lookup]), ?_⟩
              refine ⟨tas.st4 (x := J0) (d := 49) (s1 := 47) (s2 := 48) (idx := 9) (c := 0) (a := ⟨g, k * 3, none⟩) J0_up Try.underlying24 hi hz0 hz1 hz2 rfl (by show 0 < 3; decide) rfl rfl ⟨by simp, by simp, by simp⟩ (fun g => rfl) (fun g => rfl) (fun g => rfl) (fun g => rfl) (fun g v => rfl) (by show ((restP l pk).flatMap flP.c).length = (l.length - k - 1) * 3; rw [flat_len flP.c_len, HRL.out]) (fun W hb => by rw [HRE.out, List.drop_of_length_le (by rw [HLE.out]; omega)]; intro j u hu; simp at hu) (sct.oneP _) (by show k ≤ 1048576 ∧ l.length - k - 1 ≤ 1048576; omega) (by show (k + 1 + (l.length - k - 1)) * 40 ≤ 140737488355328; omega) ⟨⟨7, .data⟩, by simp, rfl, rfl⟩, ?_⟩
              exact ⟨tas.st5 (x := J0) (d := 4) (s1 := 49) (idx := 10) J0_up rfl rfl ⟨by simp, by simp⟩ (fun g => rfl) (fun g => rfl) (fun g => rfl) (fun g v => rfl) ⟨⟨9, .data⟩, by simp, rfl, rfl⟩, trivial⟩
            case fin =>
              intro s L X3 hL hC
              obtain ⟨hbl, hv4, hown⟩ := tas.done hC J0_up (N := 11) (by decide) hL
              replace hbl : Below X2.heap.size X2 X3 := hbl
              replace hown : X3.ownsRow X2.heap.size 40 3 s.v3 (k + 1 + (l.length - k - 1)) ((l.take k).flatMap flP.c ++ [.string pk, .string pv, .bool pg] ++ (restP l pk).flatMap flP.c) := hown
              have hlen : k + 1 + (l.length - k - 1) = (setP l ⟨pk, pv, pg⟩).length := by unfold setP; rw [HP.out, List.length_append, List.length_cons, List.length_take, HRL.out]; omega
              have hfl : (l.take k).flatMap flP.c ++ [.string pk, .string pv, .bool pg] ++ (restP l pk).flatMap flP.c = (setP l ⟨pk, pv, pg⟩).flatMap flP.c := by unfold setP; rw [HP.out]; simp [flP.c]
              rw [hlen, hfl] at hown
              obtain ⟨g5, c5, hv3⟩ : ∃ g5 c5, s.v3 = .slice (some ⟨g5, 0, none⟩) (setP l ⟨pk, pv, pg⟩).length c5 := by
                obtain ⟨_, ⟨_, h0⟩ | ⟨g6, cap, cur, e, _⟩⟩ := hown
                · omega
                · exact ⟨g6, cap, e⟩
              rw [hv3] at hown hv4
              have HW : Hid (X3.ownsRow X2.heap.size 40 3 (.slice (some ⟨g5, 0, none⟩) (setP l ⟨pk, pv, pg⟩).length c5) (setP l ⟨pk, pv, pg⟩).length ((setP l ⟨pk, pv, pg⟩).flatMap flP.c)) := hown
              have HBL : Hid (Below X2.heap.size X2 X3) := hbl
              have HV4 : Hid (s.v4 = .slice (some ⟨g5, 0, none⟩) (setP l ⟨pk, pv, pg⟩).length c5) := hv4
              clear hC hL hbl hown hlen hfl hv3 hv4
              go_wp2
              refine bodyPost_ret (v := .slice (some ⟨g5, 0, none⟩) (setP l ⟨pk, pv, pg⟩).length c5) (by simp [results, Try.results53, go_sem, dk.sets_get, ws, List.lookup, HV4.out]) rfl ?_
              exact ⟨g5, c5, rfl, sct.own_low HW.out (by omega), hb.trans ((HBX2.out.trans (HBL.out.mono HBX2.out.size)).mono hb.size)⟩
          · have r6 : ¬ c - k = 1 := by omega
            go_wp2
            go_quiet (fail)
            have hBX := bdrewN hB.out nq
            obtain ⟨X, hX⟩ : ∃ X, wr.drewN nq = X := ⟨_, rfl⟩
            rw [hX] at hBX ⊢
            have HSX := HS.out.inn hBX
            have hsx := hBX.size
            have x0 : X.cell? ⟨w.heap.size, 0, none⟩ = some (.string pk) := bcell (bstay HA.out hBX (by omega)) rfl
            have b0 : X.cell? ⟨g, k * 3, none⟩ = some (.string mk) := row_cell HSX HG.out
            clear hX p0 a0 HSX
            go_wp2
            go_quiet (fail)
            have hBX2 := bdrewN hBX nq
            obtain ⟨X2, hX2⟩ : ∃ X2, X.drewN nq = X2 := ⟨_, rfl⟩
            rw [hX2] at hBX2 ⊢
            clear hX2 x0 b0
            have hX2s := hBX2.size
            have HSX2 : Hid (Row flP.c 3 X2 X2.heap.size (some ⟨g, 0, none⟩) l) := HS.out.inn hBX2
            have HA2 : Hid (X2.heap[w.heap.size]? = some (.cells #[.string pk, .string pv, .bool pg] 40 (0, 0))) := bstay HA.out hBX2 (by omega)
            have HRL : Hid ((restP l pk).length = l.length - k - 1) := by show (restP l pk).length = l.length - k - 1; rw [HRE.out]; simp; omega
            have HBX2 : Hid (Below W.heap.size W X2) := hBX2
            go_wp2
            refine dk.region_gsets (ws g l.length c k (k * 3 + 3) (l.length - k - 1) (c - k - 1) pk pv pg) [40, 41, 42, 43, 44, 45, 46, 47, 48, 49, 4] (tas.C ⟨X2, 40, 3, (l.take k).flatMap flP.c, [.string pk, .string pv, .bool pg], (restP l pk).flatMap flP.c, k, l.length - k - 1⟩ J0) ⟨0, .slice none 0 0, 0, .slice none 0 0, .slice none 0 0, .slice none 0 0⟩ (by kernel_rfl) (by kernel_rfl) (fun _ => rfl) (by kernel_rfl) (tas.start _ _ _) ?each ?fin
            case each =>
              refine ⟨tas.st0 (x := J0) (d := 40) (idx := 0) J0_up (by simp) rfl (by simp) (fun g => rfl) (fun g => rfl) (fun g e => rfl) (fun s W => by simp [execOp, go_sem]), ?_⟩
              refine ⟨tas.quiet (by decide) (by simp) (.slice (some ⟨g, 0, none⟩) l.length c) (by rintro s _ ⟨⟩; exact dk.sets_on _ (by simp) _ rfl) (fun s W h => by simp [execOp, go_sem, Act.eval, dk.sets_get, ws, List.lookup]), ?_⟩
              refine ⟨tas.quiet (by decide) (by simp) (.int .i64 k) (by rintro s _ ⟨⟩; exact dk.sets_on _ (by simp) _ rfl) (fun s W h => by simp [execOp, go_sem, Act.eval, dk.sets_get, ws, List.lookup]), ?_⟩
              refine ⟨tas.quiet (by decide) (by simp) (.slice (some ⟨g, 0, none⟩) k c) (by rintro s _ ⟨⟩; exact dk.sets_on _ (by simp) _ rfl) (fun s W h => by simp [execOp, go_sem, Act.eval, dk.sets_get, ws, List.lookup, r9]), ?_⟩
              refine ⟨tas.st1 (x := J0) (d := 44) (s1 := 40) (s2 := 43) (idx := 4) (c := c) (a := ⟨g, 0, none⟩) J0_up Try.underlying24 hi hz0 hz1 hz2 rfl (by show 0 < 3; decide) rfl rfl ⟨by simp, by simp, by simp⟩ (fun g => rfl) (fun g => rfl) (fun g => rfl) (fun g => rfl) (fun g v => rfl) (by show ((l.take k).flatMap flP.c).length = k * 3; rw [flat_len flP.c_len, List.length_take]; congr 1; omega) (fun W hb => news_take (HSX2.out.inn hb) k) (sct.oneP _) (by show k ≤ 1048576; omega) (by show (0 + k) * 40 ≤ 140737488355328; omega) ⟨⟨0, .data⟩, by simp, rfl, rfl⟩, ?_⟩
              refine ⟨tas.quiet (by decide) (by simp) (.agg #[.string pk, .string pv, .bool pg]) (by rintro s _ ⟨⟩; exact dk.sets_on _ (by simp) _ rfl) (fun s W h => by have hh := h _ _ HA2.out; have c0 : W.cell? ⟨w.heap.size, 0, none⟩ = some (.string pk) := bcell hh rfl; have c1 : W.cell? ⟨w.heap.size, 1, none⟩ = some (.string pv) := bcell hh rfl; have c2 : W.cell? ⟨w.heap.size, 2, none⟩ = some (.bool pg) := bcell hh rfl; simp [execOp, go_sem, Act.eval, dk.sets_get, ws, List.lookup, c0, c1, c2]), ?_⟩
              refine ⟨tas.st2 (x := J0) (d := 46) (idx := 6) J0_up (by simp) rfl (by simp) (fun g => rfl) (fun g => rfl) (fun g e => rfl) (fun s W => by simp [execOp, go_sem, Act.eval, dk.sets_get, ws, List.lookup]), ?_⟩
              refine ⟨tas.st3 (x := J0) (d := 47) (s1 := 44) (s2 := 46) (idx := 7) J0_up Try.underlying24 hi hz0 hz1 hz2 rfl (by show 0 < 3; decide) rfl rfl ⟨by simp, by simp, by simp⟩ (fun g => rfl) (fun g => rfl) (fun g => rfl) (fun g => rfl) (fun g v => rfl) rfl (by intro u hu; simp at hu; rcases hu with rfl | rfl | rfl <;> rfl) (by show k ≤ 1048576; omega) (by show (k + 1) * 40 ≤ 140737488355328; omega) ⟨⟨4, .data⟩, by simp, rfl, rfl⟩ ⟨⟨6, .data⟩, by simp, rfl, rfl⟩, ?_⟩
              refine ⟨tas.quiet (by decide) (by simp) (.slice (some ⟨g, k * 3 + 3, none⟩) (l.length - k - 1) (c - k - 1)) (by rintro s _ ⟨⟩; exact dk.sets_on _ (by simp) _ rfl) (fun s W h => by simp [execOp, go_sem, Act.eval, dk.sets_get, ws, List.lookup]), ?_⟩
              refine ⟨tas.st4 (x := J0) (d := 49) (s1 := 47) (s2 := 48) (idx := 9) (c := c - k - 1) (a := ⟨g, k * 3 + 3, none⟩) J0_up Try.underlying24 hi hz0 hz1 hz2 rfl (by show 0 < 3; decide) rfl rfl ⟨by simp, by simp, by simp⟩ (fun g => rfl) (fun g => rfl) (fun g => rfl) (fun g => rfl) (fun g v => rfl) (by show ((restP l pk).flatMap flP.c).length = (l.length - k - 1) * 3; rw [flat_len flP.c_len, HRL.out]) (fun W hb => by rw [HRE.out]; have hnd := news_drop (HSX2.out.inn hb) (k + 1) (by omega); rw [show (k + 1) * 3 = k * 3 + 3 by omega] at hnd; exact hnd) (sct.oneP _) (by show k ≤ 1048576 ∧ l.length - k - 1 ≤ 1048576; omega) (by show (k + 1 + (l.length - k - 1)) * 40 ≤ 140737488355328; omega) ⟨⟨7, .data⟩, by simp, rfl, rfl⟩, ?_⟩
              exact ⟨tas.st5 (x := J0) (d := 4) (s1 := 49) (idx := 10) J0_up rfl rfl ⟨by simp, by simp⟩ (fun g => rfl) (fun g => rfl) (fun g => rfl) (fun g v => rfl) ⟨⟨9, .data⟩, by simp, rfl, rfl⟩, trivial⟩
            case fin =>
              intro s L X3 hL hC
              obtain ⟨hbl, hv4, hown⟩ := tas.done hC J0_up (N := 11) (by decide) hL
              replace hbl : Below X2.heap.size X2 X3 := hbl
              replace hown : X3.ownsRow X2.heap.size 40 3 s.v3 (k + 1 + (l.length - k - 1)) ((l.take k).flatMap flP.c ++ [.string pk, .string pv, .bool pg] ++ (restP l pk).flatMap flP.c) := hown
              have hlen : k + 1 + (l.length - k - 1) = (setP l ⟨pk, pv, pg⟩).length := by unfold setP; rw [HP.out, List.length_append, List.length_cons, List.length_take, HRL.out]; omega
              have hfl : (l.take k).flatMap flP.c ++ [.string pk, .string pv, .bool pg] ++ (restP l pk).flatMap flP.c = (setP l ⟨pk, pv, pg⟩).flatMap flP.c := by unfold setP; rw [HP.out]; simp [flP.c]
              rw [hlen, hfl] at hown
              obtain ⟨g5, c5, hv3⟩ : ∃ g5 c5, s.v3 = .slice (some ⟨g5, 0, none⟩) (setP l ⟨pk, pv, pg⟩).length c5 := by
                obtain ⟨_, ⟨_, h0⟩ | ⟨g6, cap, cur, e, _⟩⟩ := hown
                · omega
                · exact ⟨g6, cap, e⟩
              rw [hv3] at hown hv4
              have HW : Hid (X3.ownsRow X2.heap.size 40 3 (.slice (some ⟨g5, 0, none⟩) (setP l ⟨pk, pv, pg⟩).length c5) (setP l ⟨pk, pv, pg⟩).length ((setP l ⟨pk, pv, pg⟩).flatMap flP.c)) := hown
              have HBL : Hid (Below X2.heap.size X2 X3) := hbl
              have HV4 : Hid (s.v4 = .slice (some ⟨g5, 0, none⟩) (setP l ⟨pk, pv, pg⟩).length c5) := hv4
              clear hC hL hbl hown hlen hfl hv3 hv4
              go_wp2
              refine bodyPost_ret (v := .slice (some ⟨g5, 0, none⟩) (setP l ⟨pk, pv, pg⟩).length c5) (by simp [results, Try.results53, go_sem, dk.sets_get, ws, List.lookup, HV4.out]) rfl ?_
              exact ⟨g5, c5, rfl, sct.own_low HW.out (by omega), hb.trans ((HBX2.out.trans (HBL.out.mono HBX2.out.size)).mono hb.size)⟩
        · have hq2 : (mk.toList == pk.toList) = false := by simp [heq]
          have HIS : Hid (isP l k pk = false) := by
            cases h : isP l k pk with
            | false => rfl
            | true =>
              obtain ⟨a, ha, hz⟩ := isP_true.1 h
              rw [HG.out] at ha
              cases ha
              exact absurd (congrArg ByteArray.toList (cmp_zero.1 hz)) heq
          clear heq
          have HRE : Hid (restP l pk = l.drop k) := by show restP l pk = l.drop k; unfold restP; rw [HP.out, if_neg (by rw [HIS.out]; simp)]
          go_wp2
          go_quiet (fail)
          have hBX := bdrewN hB.out nq
          obtain ⟨X, hX⟩ : ∃ X, wr.drewN nq = X := ⟨_, rfl⟩
          rw [hX] at hBX ⊢
          have HSX := HS.out.inn hBX
          have hsx := hBX.size
          have x0 : X.cell? ⟨w.heap.size, 0, none⟩ = some (.string pk) := bcell (bstay HA.out hBX (by omega)) rfl
          have b0 : X.cell? ⟨g, k * 3, none⟩ = some (.string mk) := row_cell HSX HG.out
          clear hX p0 a0 HSX
          go_wp2
          go_quiet (fail)
          have hBX2 := bdrewN hBX nq
          obtain ⟨X2, hX2⟩ : ∃ X2, X.drewN nq = X2 := ⟨_, rfl⟩
          rw [hX2] at hBX2 ⊢
          clear hX2 x0 b0
          have hX2s := hBX2.size
          have HSX2 : Hid (Row flP.c 3 X2 X2.heap.size (some ⟨g, 0, none⟩) l) := HS.out.inn hBX2
          have HA2 : Hid (X2.heap[w.heap.size]? = some (.cells #[.string pk, .string pv, .bool pg] 40 (0, 0))) := bstay HA.out hBX2 (by omega)
          have HRL : Hid ((restP l pk).length = l.length - k) := by show (restP l pk).length = l.length - k; rw [HRE.out]; simp
          have HBX2 : Hid (Below W.heap.size W X2) := hBX2
          go_wp2
          refine dk.region_gsets (ws g l.length c k (k * 3) (l.length - k) (c - k) pk pv pg) [40, 41, 42, 43, 44, 45, 46, 47, 48, 49, 4] (tas.C ⟨X2, 40, 3, (l.take k).flatMap flP.c, [.string pk, .string pv, .bool pg], (restP l pk).flatMap flP.c, k, l.length - k⟩ J0) ⟨0, .slice none 0 0, 0, .slice none 0 0, .slice none 0 0, .slice none 0 0⟩ (by kernel_rfl) (by kernel_rfl) (fun _ => rfl) (by kernel_rfl) (tas.start _ _ _) ?each ?fin
          case each =>
            refine ⟨tas.st0 (x := J0) (d := 40) (idx := 0) J0_up (by simp) rfl (by simp) (fun g => rfl) (fun g => rfl) (fun g e => rfl) (fun s W => by simp [execOp, go_sem]), ?_⟩
            refine ⟨tas.quiet (by decide) (by simp) (.slice (some ⟨g, 0, none⟩) l.length c) (by rintro s _ ⟨⟩; exact dk.sets_on _ (by simp) _ rfl) (fun s W h => by simp [execOp, go_sem, Act.eval, dk.sets_get, ws, List.lookup]), ?_⟩
            refine ⟨tas.quiet (by decide) (by simp) (.int .i64 k) (by rintro s _ ⟨⟩; exact dk.sets_on _ (by simp) _ rfl) (fun s W h => by simp [execOp, go_sem, Act.eval, dk.sets_get, ws, List.lookup]), ?_⟩
            refine ⟨tas.quiet (by decide) (by simp) (.slice (some ⟨g, 0, none⟩) k c) (by rintro s _ ⟨⟩; exact dk.sets_on _ (by simp) _ rfl) (fun s W h => by simp [execOp, go_sem, Act.eval, dk.sets_get, ws, List.lookup, r9]), ?_⟩
            refine ⟨tas.st1 (x := J0) (d := 44) (s1 := 40) (s2 := 43) (idx := 4) (c := c) (a := ⟨g, 0, none⟩) J0_up Try.underlying24 hi hz0 hz1 hz2 rfl (by show 0 < 3; decide) rfl rfl ⟨by simp, by simp, by simp⟩ (fun g => rfl) (fun g => rfl) (fun g => rfl) (fun g => rfl) (fun g v => rfl) (by show ((l.take k).flatMap flP.c).length = k * 3; rw [flat_len flP.c_len, List.length_take]; congr 1; omega) (fun W hb => news_take (HSX2.out.inn hb) k) (sct.oneP _) (by show k ≤ 1048576; omega) (by show (0 + k) * 40 ≤ 140737488355328; omega) ⟨⟨0, .data⟩, by simp, rfl, rfl⟩, ?_⟩
            refine ⟨tas.quiet (by decide) (by simp) (.agg #[.string pk, .string pv, .bool pg]) (by rintro s _ ⟨⟩; exact dk.sets_on _ (by simp) _ rfl) (fun s W h => by have hh := h _ _ HA2.out; have c0 : W.cell? ⟨w.heap.size, 0, none⟩ = some (.string pk) := bcell hh rfl; have c1 : W.cell? ⟨w.heap.size, 1, none⟩ = some (.string pv) := bcell hh rfl; have c2 : W.cell? ⟨w.heap.size, 2, none⟩ = some (.bool pg) := bcell hh rfl; simp [execOp, go_sem, Act.eval, dk.sets_get, ws, List.lookup, c0, c1, c2]), ?_⟩
            refine ⟨tas.st2 (x := J0) (d := 46) (idx := 6) J0_up (by simp) rfl (by simp) (fun g => rfl) (fun g => rfl) (fun g e => rfl) (fun s W => by simp [execOp, go_sem, Act.eval, dk.sets_get, ws, List.lookup]), ?_⟩
            refine ⟨tas.st3 (x := J0) (d := 47) (s1 := 44) (s2 := 46) (idx := 7) J0_up Try.underlying24 hi hz0 hz1 hz2 rfl (by show 0 < 3; decide) rfl rfl ⟨by simp, by simp, by simp⟩ (fun g => rfl) (fun g => rfl) (fun g => rfl) (fun g => rfl) (fun g v => rfl) rfl (by intro u hu; simp at hu; rcases hu with rfl | rfl | rfl <;> rfl) (by show k ≤ 1048576; omega) (by show (k + 1) * 40 ≤ 140737488355328; omega) ⟨⟨4, .data⟩, by simp, rfl, rfl⟩ ⟨⟨6, .data⟩, by simp, rfl, rfl⟩, ?_⟩
            refine ⟨tas.quiet (by decide) (by simp) (.slice (some ⟨g, k * 3, none⟩) (l.length - k) (c - k)) (by rintro s _ ⟨⟩; exact dk.sets_on _ (by simp) _ rfl) (fun s W h => by simp [execOp, go_sem, Act.eval, dk.sets_get, ws, List.lookup]), ?_⟩
            refine ⟨tas.st4 (x := J0) (d := 49) (s1 := 47) (s2 := 48) (idx := 9) (c := c - k) (a := ⟨g, k * 3, none⟩) J0_up Try.underlying24 hi hz0 hz1 hz2 rfl (by show 0 < 3; decide) rfl rfl ⟨by simp, by simp, by simp⟩ (fun g => rfl) (fun g => rfl) (fun g => rfl) (fun g => rfl) (fun g v => rfl) (by show ((restP l pk).flatMap flP.c).length = (l.length - k) * 3; rw [flat_len flP.c_len, HRL.out]) (fun W hb => by rw [HRE.out]; exact news_drop (HSX2.out.inn hb) k (by omega)) (sct.oneP _) (by show k ≤ 1048576 ∧ l.length - k ≤ 1048576; omega) (by show (k + 1 + (l.length - k)) * 40 ≤ 140737488355328; omega) ⟨⟨7, .data⟩, by simp, rfl, rfl⟩, ?_⟩
            exact ⟨tas.st5 (x := J0) (d := 4) (s1 := 49) (idx := 10) J0_up rfl rfl ⟨by simp, by simp⟩ (fun g => rfl) (fun g => rfl) (fun g => rfl) (fun g v => rfl) ⟨⟨9, .data⟩, by simp, rfl, rfl⟩, trivial⟩
          case fin =>
            intro s L X3 hL hC
            obtain ⟨hbl, hv4, hown⟩ := tas.done hC J0_up (N := 11) (by decide) hL
            replace hbl : Below X2.heap.size X2 X3 := hbl
            replace hown : X3.ownsRow X2.heap.size 40 3 s.v3 (k + 1 + (l.length - k)) ((l.take k).flatMap flP.c ++ [.string pk, .string pv, .bool pg] ++ (restP l pk).flatMap flP.c) := hown
            have hlen : k + 1 + (l.length - k) = (setP l ⟨pk, pv, pg⟩).length := by unfold setP; rw [HP.out, List.length_append, List.length_cons, List.length_take, HRL.out]; omega
            have hfl : (l.take k).flatMap flP.c ++ [.string pk, .string pv, .bool pg] ++ (restP l pk).flatMap flP.c = (setP l ⟨pk, pv, pg⟩).flatMap flP.c := by unfold setP; rw [HP.out]; simp [flP.c]
            rw [hlen, hfl] at hown
            obtain ⟨g5, c5, hv3⟩ : ∃ g5 c5, s.v3 = .slice (some ⟨g5, 0, none⟩) (setP l ⟨pk, pv, pg⟩).length c5 := by
              obtain ⟨_, ⟨_, h0⟩ | ⟨g6, cap, cur, e, _⟩⟩ := hown
              · omega
              · exact ⟨g6, cap, e⟩
            rw [hv3] at hown hv4
            have HW : Hid (X3.ownsRow X2.heap.size 40 3 (.slice (some ⟨g5, 0, none⟩) (setP l ⟨pk, pv, pg⟩).length c5) (setP l ⟨pk, pv, pg⟩).length ((setP l ⟨pk, pv, pg⟩).flatMap flP.c)) := hown
            have HBL : Hid (Below X2.heap.size X2 X3) := hbl
            have HV4 : Hid (s.v4 = .slice (some ⟨g5, 0, none⟩) (setP l ⟨pk, pv, pg⟩).length c5) := hv4
            clear hC hL hbl hown hlen hfl hv3 hv4
            go_wp2
            refine bodyPost_ret (v := .slice (some ⟨g5, 0, none⟩) (setP l ⟨pk, pv, pg⟩).length c5) (by simp [results, Try.results53, go_sem, dk.sets_get, ws, List.lookup, HV4.out]) rfl ?_
            exact ⟨g5, c5, rfl, sct.own_low HW.out (by omega), hb.trans ((HBX2.out.trans (HBL.out.mono HBX2.out.size)).mono hb.size)⟩
    · have HKE : Hid (k = l.length) := by exact (by omega : k = l.length)
      have HP : Hid (posP l pk = k) := posP_eq l pk k hk hn.out (fun a ha => by rw [HKE.out] at ha; simp at ha)
      have HRE : Hid (restP l pk = []) := by
        show restP l pk = []
        unfold restP
        rw [HP.out, HKE.out]
        split <;> simp
      have r9 : k ≤ c := by omega
      have f0 : decide ((k : Int) < (l.length : Int)) = false := by simp; omega
      have r5 : ¬ 0 < l.length - k := by omega
      have f5 : decide ((0 : Int) < ((l.length - k : Nat) : Int)) = false := by simp; omega
      by_cases hck : c = k
      · have hck' := hck.symm
        subst hck'
        clear hck
        go_wp2
        go_quiet (fail)
        have hBX := bdrewN hB.out nq
        obtain ⟨X, hX⟩ : ∃ X, wr.drewN nq = X := ⟨_, rfl⟩
        rw [hX] at hBX ⊢
        have HSX := HS.out.inn hBX
        have hsx := hBX.size
        have x0 : X.cell? ⟨w.heap.size, 0, none⟩ = some (.string pk) := bcell (bstay HA.out hBX (by omega)) rfl
        clear hX p0 HSX
        go_wp2
        go_quiet (fail)
        have hBX2 := bdrewN hBX nq
        obtain ⟨X2, hX2⟩ : ∃ X2, X.drewN nq = X2 := ⟨_, rfl⟩
        rw [hX2] at hBX2 ⊢
        clear hX2 x0
        have hX2s := hBX2.size
        have HSX2 : Hid (Row flP.c 3 X2 X2.heap.size (some ⟨g, 0, none⟩) l) := HS.out.inn hBX2
        have HA2 : Hid (X2.heap[w.heap.size]? = some (.cells #[.string pk, .string pv, .bool pg] 40 (0, 0))) := bstay HA.out hBX2 (by omega)
        have HRL : Hid ((restP l pk).length = 0) := by show (restP l pk).length = 0; rw [HRE.out]; rfl
        have HBX2 : Hid (Below W.heap.size W X2) := hBX2
        go_wp2
        refine dk.region_gsets (ws g l.length k k (0) (0) (0) pk pv pg) [40, 41, 42, 43, 44, 45, 46, 47, 48, 49, 4] (tas.C ⟨X2, 40, 3, (l.take k).flatMap flP.c, [.string pk, .string pv, .bool pg], (restP l pk).flatMap flP.c, k, 0⟩ J0) ⟨0, .slice none 0 0, 0, .slice none 0 0, .slice none 0 0, .slice none 0 0⟩ (by kernel_rfl) (by kernel_rfl) (fun _ => rfl) (by kernel_rfl) (tas.start _ _ _) ?each ?fin
        case each =>
          refine ⟨tas.st0 (x := J0) (d := 40) (idx := 0) J0_up (by simp) rfl (by simp) (fun g => rfl) (fun g => rfl) (fun g e => rfl) (fun s W => by simp [execOp, go_sem]), ?_⟩
          refine ⟨tas.quiet (by decide) (by simp) (.slice (some ⟨g, 0, none⟩) l.length k) (by rintro s _ ⟨⟩; exact dk.sets_on _ (by simp) _ rfl) (fun s W h => by simp [execOp, go_sem, Act.eval, dk.sets_get, ws, List.lookup]), ?_⟩
          refine ⟨tas.quiet (by decide) (by simp) (.int .i64 k) (by rintro s _ ⟨⟩; exact dk.sets_on _ (by simp) _ rfl) (fun s W h => by simp [execOp, go_sem, Act.eval, dk.sets_get, ws, List.lookup]), ?_⟩
          refine ⟨tas.quiet (by decide) (by simp) (.slice (some ⟨g, 0, none⟩) k k) (by rintro s _ ⟨⟩; exact dk.sets_on _ (by simp) _ rfl) (fun s W h => by simp [execOp, go_sem, Act.eval, dk.sets_get, ws, List.lookup]), ?_⟩
          refine ⟨tas.st1 (x := J0) (d := 44) (s1 := 40) (s2 := 43) (idx := 4) (c := k) (a := ⟨g, 0, none⟩) J0_up Try.underlying24 hi hz0 hz1 hz2 rfl (by show 0 < 3; decide) rfl rfl ⟨by simp, by simp, by simp⟩ (fun g => rfl) (fun g => rfl) (fun g => rfl) (fun g => rfl) (fun g v => rfl) (by show ((l.take k).flatMap flP.c).length = k * 3; rw [flat_len flP.c_len, List.length_take]; congr 1; omega) (fun W hb => news_take (HSX2.out.inn hb) k) (sct.oneP _) (by show k ≤ 1048576; omega) (by show (0 + k) * 40 ≤ 140737488355328; omega) ⟨⟨0, .data⟩, by simp, rfl, rfl⟩, ?_⟩
          refine ⟨tas.quiet (by decide) (by simp) (.agg #[.string pk, .string pv, .bool pg]) (by rintro s _ ⟨⟩; exact dk.sets_on _ (by simp) _ rfl) (fun s W h => by have hh := h _ _ HA2.out; have c0 : W.cell? ⟨w.heap.size, 0, none⟩ = some (.string pk) := bcell hh rfl; have c1 : W.cell? ⟨w.heap.size, 1, none⟩ = some (.string pv) := bcell hh rfl; have c2 : W.cell? ⟨w.heap.size, 2, none⟩ = some (.bool pg) := bcell hh rfl; simp [execOp, go_sem, Act.eval, dk.sets_get, ws, List.lookup, c0, c1, c2]), ?_⟩
          refine ⟨tas.st2 (x := J0) (d := 46) (idx := 6) J0_up (by simp) rfl (by simp) (fun g => rfl) (fun g => rfl) (fun g e => rfl) (fun s W => by simp [execOp, go_sem, Act.eval, dk.sets_get, ws, List.lookup]), ?_⟩
          refine ⟨tas.st3 (x := J0) (d := 47) (s1 := 44) (s2 := 46) (idx := 7) J0_up Try.underlying24 hi hz0 hz1 hz2 rfl (by show 0 < 3; decide) rfl rfl ⟨by simp, by simp, by simp⟩ (fun g => rfl) (fun g => rfl) (fun g => rfl) (fun g => rfl) (fun g v => rfl) rfl (by intro u hu; simp at hu; rcases hu with rfl | rfl | rfl <;> rfl) (by show k ≤ 1048576; omega) (by show (k + 1) * 40 ≤ 140737488355328; omega) ⟨⟨4, .data⟩, by simp, rfl, rfl⟩ ⟨⟨6, .data⟩, by simp, rfl, rfl⟩, ?_⟩
          refine ⟨tas.quiet (by decide) (by simp) (.slice (some ⟨g, 0, none⟩) (0) (0)) (by rintro s _ ⟨⟩; exact dk.sets_on _ (by simp) _ rfl) (fun s W h => by simp [execOp, go_sem, Act.eval, dk.sets_get, ws, List.lookup]), ?_⟩
          refine ⟨tas.st4 (x := J0) (d := 49) (s1 := 47) (s2 := 48) (idx := 9) (c := 0) (a := ⟨g, 0, none⟩) J0_up Try.underlying24 hi hz0 hz1 hz2 rfl (by show 0 < 3; decide) rfl rfl ⟨by simp, by simp, by simp⟩ (fun g => rfl) (fun g => rfl) (fun g => rfl) (fun g => rfl) (fun g v => rfl) (by show ((restP l pk).flatMap flP.c).length = (0) * 3; rw [flat_len flP.c_len, HRL.out]) (fun W hb => by rw [HRE.out]; intro j u hu; simp at hu) (sct.oneP _) (by show k ≤ 1048576 ∧ 0 ≤ 1048576; omega) (by show (k + 1 + (0)) * 40 ≤ 140737488355328; omega) ⟨⟨7, .data⟩, by simp, rfl, rfl⟩, ?_⟩
          exact ⟨tas.st5 (x := J0) (d := 4) (s1 := 49) (idx := 10) J0_up rfl rfl ⟨by simp, by simp⟩ (fun g => rfl) (fun g => rfl) (fun g => rfl) (fun g v => rfl) ⟨⟨9, .data⟩, by simp, rfl, rfl⟩, trivial⟩
        case fin =>
          intro s L X3 hL hC
          obtain ⟨hbl, hv4, hown⟩ := tas.done hC J0_up (N := 11) (by decide) hL
          replace hbl : Below X2.heap.size X2 X3 := hbl
          replace hown : X3.ownsRow X2.heap.size 40 3 s.v3 (k + 1 + (0)) ((l.take k).flatMap flP.c ++ [.string pk, .string pv, .bool pg] ++ (restP l pk).flatMap flP.c) := hown
          have hlen : k + 1 + (0) = (setP l ⟨pk, pv, pg⟩).length := by unfold setP; rw [HP.out, List.length_append, List.length_cons, List.length_take, HRL.out]; omega
          have hfl : (l.take k).flatMap flP.c ++ [.string pk, .string pv, .bool pg] ++ (restP l pk).flatMap flP.c = (setP l ⟨pk, pv, pg⟩).flatMap flP.c := by unfold setP; rw [HP.out]; simp [flP.c]
          rw [hlen, hfl] at hown
          obtain ⟨g5, c5, hv3⟩ : ∃ g5 c5, s.v3 = .slice (some ⟨g5, 0, none⟩) (setP l ⟨pk, pv, pg⟩).length c5 := by
            obtain ⟨_, ⟨_, h0⟩ | ⟨g6, cap, cur, e, _⟩⟩ := hown
            · omega
            · exact ⟨g6, cap, e⟩
          rw [hv3] at hown hv4
          have HW : Hid (X3.ownsRow X2.heap.size 40 3 (.slice (some ⟨g5, 0, none⟩) (setP l ⟨pk, pv, pg⟩).length c5) (setP l ⟨pk, pv, pg⟩).length ((setP l ⟨pk, pv, pg⟩).flatMap flP.c)) := hown
          have HBL : Hid (Below X2.heap.size X2 X3) := hbl
          have HV4 : Hid (s.v4 = .slice (some ⟨g5, 0, none⟩) (setP l ⟨pk, pv, pg⟩).length c5) := hv4
          clear hC hL hbl hown hlen hfl hv3 hv4
          go_wp2
          refine bodyPost_ret (v := .slice (some ⟨g5, 0, none⟩) (setP l ⟨pk, pv, pg⟩).length c5) (by simp [results, Try.results53, go_sem, dk.sets_get, ws, List.lookup, HV4.out]) rfl ?_
          exact ⟨g5, c5, rfl, sct.own_low HW.out (by omega), hb.trans ((HBX2.out.trans (HBL.out.mono HBX2.out.size)).mono hb.size)⟩
      · have r4 : ¬ c = k := hck
        clear hck
        go_wp2
        go_quiet (fail)
        have hBX := bdrewN hB.out nq
        obtain ⟨X, hX⟩ : ∃ X, wr.drewN nq = X := ⟨_, rfl⟩
        rw [hX] at hBX ⊢
        have HSX := HS.out.inn hBX
        have hsx := hBX.size
        have x0 : X.cell? ⟨w.heap.size, 0, none⟩ = some (.string pk) := bcell (bstay HA.out hBX (by omega)) rfl
        clear hX p0 HSX
        go_wp2
        go_quiet (fail)
        have hBX2 := bdrewN hBX nq
        obtain ⟨X2, hX2⟩ : ∃ X2, X.drewN nq = X2 := ⟨_, rfl⟩
        rw [hX2] at hBX2 ⊢
        clear hX2 x0
        have hX2s := hBX2.size
        have HSX2 : Hid (Row flP.c 3 X2 X2.heap.size (some ⟨g, 0, none⟩) l) := HS.out.inn hBX2
        have HA2 : Hid (X2.heap[w.heap.size]? = some (.cells #[.string pk, .string pv, .bool pg] 40 (0, 0))) := bstay HA.out hBX2 (by omega)
        have HRL : Hid ((restP l pk).length = l.length - k) := by show (restP l pk).length = l.length - k; rw [HRE.out]; simp; omega
        have HBX2 : Hid (Below W.heap.size W X2) := hBX2
        go_wp2
        refine dk.region_gsets (ws g l.length c k (k * 3) (l.length - k) (c - k) pk pv pg) [40, 41, 42, 43, 44, 45, 46, 47, 48, 49, 4] (tas.C ⟨X2, 40, 3, (l.take k).flatMap flP.c, [.string pk, .string pv, .bool pg], (restP l pk).flatMap flP.c, k, l.length - k⟩ J0) ⟨0, .slice none 0 0, 0, .slice none 0 0, .slice none 0 0, .slice none 0 0⟩ (by kernel_rfl) (by kernel_rfl) (fun _ => rfl) (by kernel_rfl) (tas.start _ _ _) ?each ?fin
        case each =>
          refine ⟨tas.st0 (x := J0) (d := 40) (idx := 0) J0_up (by simp) rfl (by simp) (fun g => rfl) (fun g => rfl) (fun g e => rfl) (fun s W => by simp [execOp, go_sem]), ?_⟩
          refine ⟨tas.quiet (by decide) (by simp) (.slice (some ⟨g, 0, none⟩) l.length c) (by rintro s _ ⟨⟩; exact dk.sets_on _ (by simp) _ rfl) (fun s W h => by simp [execOp, go_sem, Act.eval, dk.sets_get, ws, List.lookup]), ?_⟩
          refine ⟨tas.quiet (by decide) (by simp) (.int .i64 k) (by rintro s _ ⟨⟩; exact dk.sets_on _ (by simp) _ rfl) (fun s W h => by simp [execOp, go_sem, Act.eval, dk.sets_get, ws, List.lookup]), ?_⟩
          refine ⟨tas.quiet (by decide) (by simp) (.slice (some ⟨g, 0, none⟩) k c) (by rintro s _ ⟨⟩; exact dk.sets_on _ (by simp) _ rfl) (fun s W h => by simp [execOp, go_sem, Act.eval, dk.sets_get, ws, List.lookup, r9]), ?_⟩
          refine ⟨tas.st1 (x := J0) (d := 44) (s1 := 40) (s2 := 43) (idx := 4) (c := c) (a := ⟨g, 0, none⟩) J0_up Try.underlying24 hi hz0 hz1 hz2 rfl (by show 0 < 3; decide) rfl rfl ⟨by simp, by simp, by simp⟩ (fun g => rfl) (fun g => rfl) (fun g => rfl) (fun g => rfl) (fun g v => rfl) (by show ((l.take k).flatMap flP.c).length = k * 3; rw [flat_len flP.c_len, List.length_take]; congr 1; omega) (fun W hb => news_take (HSX2.out.inn hb) k) (sct.oneP _) (by show k ≤ 1048576; omega) (by show (0 + k) * 40 ≤ 140737488355328; omega) ⟨⟨0, .data⟩, by simp, rfl, rfl⟩, ?_⟩
          refine ⟨tas.quiet (by decide) (by simp) (.agg #[.string pk, .string pv, .bool pg]) (by rintro s _ ⟨⟩; exact dk.sets_on _ (by simp) _ rfl) (fun s W h => by have hh := h _ _ HA2.out; have c0 : W.cell? ⟨w.heap.size, 0, none⟩ = some (.string pk) := bcell hh rfl; have c1 : W.cell? ⟨w.heap.size, 1, none⟩ = some (.string pv) := bcell hh rfl; have c2 : W.cell? ⟨w.heap.size, 2, none⟩ = some (.bool pg) := bcell hh rfl; simp [execOp, go_sem, Act.eval, dk.sets_get, ws, List.lookup, c0, c1, c2]), ?_⟩
          refine ⟨tas.st2 (x := J0) (d := 46) (idx := 6) J0_up (by simp) rfl (by simp) (fun g => rfl) (fun g => rfl) (fun g e => rfl) (fun s W => by simp [execOp, go_sem, Act.eval, dk.sets_get, ws, List.lookup]), ?_⟩
          refine ⟨tas.st3 (x := J0) (d := 47) (s1 := 44) (s2 := 46) (idx := 7) J0_up Try.underlying24 hi hz0 hz1 hz2 rfl (by show 0 < 3; decide) rfl rfl ⟨by simp, by simp, by simp⟩ (fun g => rfl) (fun g => rfl) (fun g => rfl) (fun g => rfl) (fun g v => rfl) rfl (by intro u hu; simp at hu; rcases hu with rfl | rfl | rfl <;> rfl) (by show k ≤ 1048576; omega) (by show (k + 1) * 40 ≤ 140737488355328; omega) ⟨⟨4, .data⟩, by simp, rfl, rfl⟩ ⟨⟨6, .data⟩, by simp, rfl, rfl⟩, ?_⟩
          refine ⟨tas.quiet (by decide) (by simp) (.slice (some ⟨g, k * 3, none⟩) (l.length - k) (c - k)) (by rintro s _ ⟨⟩; exact dk.sets_on _ (by simp) _ rfl) (fun s W h => by simp [execOp, go_sem, Act.eval, dk.sets_get, ws, List.lookup]), ?_⟩
          refine ⟨tas.st4 (x := J0) (d := 49) (s1 := 47) (s2 := 48) (idx := 9) (c := c - k) (a := ⟨g, k * 3, none⟩) J0_up Try.underlying24 hi hz0 hz1 hz2 rfl (by show 0 < 3; decide) rfl rfl ⟨by simp, by simp, by simp⟩ (fun g => rfl) (fun g => rfl) (fun g => rfl) (fun g => rfl) (fun g v => rfl) (by show ((restP l pk).flatMap flP.c).length = (l.length - k) * 3; rw [flat_len flP.c_len, HRL.out]) (fun W hb => by rw [HRE.out]; intro j u hu; simp at hu) (sct.oneP _) (by show k ≤ 1048576 ∧ l.length - k ≤ 1048576; omega) (by show (k + 1 + (l.length - k)) * 40 ≤ 140737488355328; omega) ⟨⟨7, .data⟩, by simp, rfl, rfl⟩, ?_⟩
          exact ⟨tas.st5 (x := J0) (d := 4) (s1 := 49) (idx := 10) J0_up rfl rfl ⟨by simp, by simp⟩ (fun g => rfl) (fun g => rfl) (fun g => rfl) (fun g v => rfl) ⟨⟨9, .data⟩, by simp, rfl, rfl⟩, trivial⟩
        case fin =>
          intro s L X3 hL hC
          obtain ⟨hbl, hv4, hown⟩ := tas.done hC J0_up (N := 11) (by decide) hL
          replace hbl : Below X2.heap.size X2 X3 := hbl
          replace hown : X3.ownsRow X2.heap.size 40 3 s.v3 (k + 1 + (l.length - k)) ((l.take k).flatMap flP.c ++ [.string pk, .string pv, .bool pg] ++ (restP l pk).flatMap flP.c) := hown
          have hlen : k + 1 + (l.length - k) = (setP l ⟨pk, pv, pg⟩).length := by unfold setP; rw [HP.out, List.length_append, List.length_cons, List.length_take, HRL.out]; omega
          have hfl : (l.take k).flatMap flP.c ++ [.string pk, .string pv, .bool pg] ++ (restP l pk).flatMap flP.c = (setP l ⟨pk, pv, pg⟩).flatMap flP.c := by unfold setP; rw [HP.out]; simp [flP.c]
          rw [hlen, hfl] at hown
          obtain ⟨g5, c5, hv3⟩ : ∃ g5 c5, s.v3 = .slice (some ⟨g5, 0, none⟩) (setP l ⟨pk, pv, pg⟩).length c5 := by
            obtain ⟨_, ⟨_, h0⟩ | ⟨g6, cap, cur, e, _⟩⟩ := hown
            · omega
            · exact ⟨g6, cap, e⟩
          rw [hv3] at hown hv4
          have HW : Hid (X3.ownsRow X2.heap.size 40 3 (.slice (some ⟨g5, 0, none⟩) (setP l ⟨pk, pv, pg⟩).length c5) (setP l ⟨pk, pv, pg⟩).length ((setP l ⟨pk, pv, pg⟩).flatMap flP.c)) := hown
          have HBL : Hid (Below X2.heap.size X2 X3) := hbl
          have HV4 : Hid (s.v4 = .slice (some ⟨g5, 0, none⟩) (setP l ⟨pk, pv, pg⟩).length c5) := hv4
          clear hC hL hbl hown hlen hfl hv3 hv4
          go_wp2
          refine bodyPost_ret (v := .slice (some ⟨g5, 0, none⟩) (setP l ⟨pk, pv, pg⟩).length c5) (by simp [results, Try.results53, go_sem, dk.sets_get, ws, List.lookup, HV4.out]) rfl ?_
          exact ⟨g5, c5, rfl, sct.own_low HW.out (by omega), hb.trans ((HBX2.out.trans (HBL.out.mono HBX2.out.size)).mono hb.size)⟩
end Go.Proofs.Ytokaoafbgebelaa.pss

/- The specification's l07Set, beside the tables' own texts. -/


/- The specification's TableFlush. -/
namespace Go.Proofs.Ytokaoafbgebelaa.fls
open Go.ChangeShapes Go.WideShapes Go.ChangeAt Go.RowKit Go.Proofs.Ytokaoafbgebelaa.fl Go.Proofs.Ytokaoafbgebelaa.fo Go.Proofs.Ytokaoafbgebelaa.rn Go.Proofs.Ytokaoafbgebelaa.tko
set_option linter.unusedVariables false

theorem row_of {α : Type} {c : α → List Value} {n : Nat} (hn : ∀ e, (c e).length = n) {W : World} {B m : Nat} {T : TypeId} {a : Option Addr} {q : Nat} {l : List α} (hm : m = l.length) (h : W.ownsRow B T n (.slice a m q) m (l.flatMap c)) : Row c n W W.heap.size a l := by
  subst hm
  obtain ⟨a', cap, e, hr⟩ := own_row hn h
  cases e
  exact hr
/-- the copy's rows as rows -/
theorem rows_of {W : World} {B n m : Nat} {g1 c1 : Nat} {va : Option Addr} {vc : Nat} {ys : List flP.Pr} {ks : List Rn} (hm : m = ks.length) (hf : W.ownsRow B 40 3 (.slice (some ⟨g1, 0, none⟩) ys.length c1) ys.length (ys.flatMap flP.c)) (hr : W.ownsRow B 24 1 (.slice va m vc) m (ks.flatMap cR)) (hk : ∀ r ∈ ks, sct.OwnR W B r) :
    Row flP.c 3 W W.heap.size (some ⟨g1, 0, none⟩) ys ∧ VR W W.heap.size va ks :=
  ⟨row_of flP.c_len rfl hf, row_of cR_len hm hr, fun r h => row_of flP.c_len rfl (hk r h)⟩
theorem app_nil {P : Program} (w : World) (t ty e : TypeId) (i : TypeInfo) (ht : P.underlying t = some (.slice e)) (hi : P.info? e = some i) (base : Option Addr) (n m : Nat) (hle : n ≤ m) :
    (Builtin.append_ #[t, t] ty #[.slice base n m, .slice none 0 0]).run P w = .ok (.slice base n m) w := by
  cases base <;> simp [Builtin.append_, run_underlying ht, sizeOf, typeInfo, hi, hle, Builtin.lenOf, Builtin.firstCells, storeCells]
theorem app_runs {X : World} {B B' n0 m vc : Nat} {va : Option Addr} {u : Value} {xs : List Value} {i1 : TypeInfo} (hi : Try.prog.info? 24 = some i1) (hz : i1.zero = some (.slice none 0 0)) (hn : i1.size = 1) (hb : i1.bytes = 24) (hown : X.ownsRow B 24 1 (.slice (some ⟨n0, 0, none⟩) 1 1) 1 [u]) (hsrc : X.ownsRow B' 24 1 (.slice va m vc) m xs) (h1 : ∀ u ∈ xs, u.oneCell' = true) (hm : m ≤ 1048576) (hB : B ≤ X.heap.size) (ty : TypeId) :
    ∃ v' w', (Builtin.append_ #[25, 25] ty #[.slice (some ⟨n0, 0, none⟩) 1 1, .slice va m vc]).run Try.prog X = .ok v' w' ∧ w'.ownsRow B 24 1 v' (1 + m) ([u] ++ xs) ∧ X.grownBy w' (some n0) := by
  have hs := hsrc
  obtain ⟨hl, ⟨e, h0⟩ | ⟨g, cap, cur, e, hB', hg, h3, h4, h5, h6⟩⟩ := hs
  · cases e
    have hx : xs = [] := List.eq_nil_of_length_eq_zero (by omega)
    subst hx
    exact ⟨_, X, app_nil X 25 ty 24 i1 Try.underlying25 hi _ 1 1 (Nat.le_refl _), by simpa using hown, World.grownBy.refl _ _⟩
  · cases e
    obtain ⟨v', w', hr, ho, hgr, _⟩ := run_append_own_at (P := Try.prog) X B 25 ty 24 i1 (.slice none 0 0) 1 24 Try.underlying25 hi hz hn hb rfl (by decide) _ 1 [u] hown ⟨g, 0, none⟩ m vc xs hl (fun j u hu => by
      rw [sct.add0]
      refine bcell hg ?_
      rw [← h6, List.getElem?_take] at hu
      split at hu
      · simpa using hu
      · cases hu) h1 (by unfold maxLen; omega) (by omega) hB
    exact ⟨v', w', hr, ho, hgr⟩
theorem oneR (ks : List Rn) : ∀ u ∈ ks.flatMap cR, u.oneCell' = true := fun u hu => by
  obtain ⟨e, _, he⟩ := List.mem_flatMap.1 hu
  simp [cR] at he
  rw [he]
  rfl
noncomputable def can (ys : List flP.Pr) (R : List (List flP.Pr)) : Bool := okB ys R && (decide (ys.length ≠ 0) && decide (R.length < 8))
noncomputable def ansY (ys : List flP.Pr) (R : List (List flP.Pr)) : List flP.Pr := if can ys R then [] else ys
noncomputable def ansR (ys : List flP.Pr) (R : List (List flP.Pr)) : List (List flP.Pr) := if can ys R then ys :: R else R
theorem can_true {ys : List flP.Pr} {R : List (List flP.Pr)} (h1 : okB ys R = true) (h2 : ys.length ≠ 0) (h3 : R.length < 8) : can ys R = true := by
  unfold can
  rw [h1, decide_eq_true h2, decide_eq_true h3]
  rfl
theorem can_false {ys : List flP.Pr} {R : List (List flP.Pr)} {ob : Bool} (h : okB ys R = ob) (hc : ¬ (ob = true ∧ ys.length ≠ 0 ∧ R.length < 8)) : can ys R = false := by
  cases hcan : can ys R with
  | false => rfl
  | true =>
    exfalso
    unfold can at hcan
    rw [h] at hcan
    simp only [Bool.and_eq_true, decide_eq_true_eq] at hcan
    exact hc ⟨hcan.1, hcan.2.1, hcan.2.2⟩
theorem ans_no {ys : List flP.Pr} {R : List (List flP.Pr)} (h : can ys R = false) : ansY ys R = ys ∧ ansR ys R = R := by
  unfold ansY ansR
  rw [h]
  exact ⟨rfl, rfl⟩
theorem ans_yes {ys : List flP.Pr} {R : List (List flP.Pr)} (h : can ys R = true) : ansY ys R = [] ∧ ansR ys R = ys :: R := by
  unfold ansY ansR
  rw [h]
  exact ⟨rfl, rfl⟩

end Go.Proofs.Ytokaoafbgebelaa.fls
