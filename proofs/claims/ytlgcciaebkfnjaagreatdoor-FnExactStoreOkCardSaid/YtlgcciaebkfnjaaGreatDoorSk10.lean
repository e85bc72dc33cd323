/- The specification's TableScan. -/
import Derived.Test.YtlgcciaebkfnjaaGreatDoorPutPure0
import Derived.Test.YtlgcciaebkfnjaaGreatDoorSk08
import Derived.Test.YtlgcciaebkfnjaaGreatDoorFlatOff
import Derived.Test.YtlgcciaebkfnjaaGreatDoorRunRows
import Derived.Test.YtlgcciaebkfnjaaGreatDoorSk09
import Derived.Deep.QuietTactic
import Derived.BigQuiet
import Derived.Test.YtlgcciaebkfnjaaGreatDoorPutPure
import Derived.Test.YtlgcciaebkfnjaaGreatDoorSk05

/- The specification's l07Set: a run with a pair in its place, in a row of its own. -/
namespace Go.Proofs.YtlgcciaebkfnjaaGreatDoor.pss
open Go.ChangeShapes Go.WideShapes Go.ChangeAt Go.RowKit Go.Proofs.YtlgcciaebkfnjaaGreatDoor.fl Go.Proofs.YtlgcciaebkfnjaaGreatDoor.fo Go.Proofs.YtlgcciaebkfnjaaGreatDoor.rn Go.Proofs.YtlgcciaebkfnjaaGreatDoor.rc Go.Proofs.YtlgcciaebkfnjaaGreatDoor.ro Go.Proofs.YtlgcciaebkfnjaaGreatDoor.ptp
set_option linter.unusedVariables false

theorem row_cell {w : World} {B g k : Nat} {l : List flP.Pr} {e : flP.Pr} (h : Row flP.c 3 w B (some ⟨g, 0, none⟩) l) (he : l[k]? = some e) : w.cell? ⟨g, k * 3, none⟩ = some (.string e.k) := by
  rcases h with h0 | ⟨b', off', hh, hlt, hc⟩
  · rw [h0] at he; simp at he
  · cases hh
    have := hc k _ he 0 _ rfl
    simpa using this
theorem bdrewN {B : Nat} {a w : World} (h : Below B a w) (n : Nat) : Below B a (w.drewN n) := ⟨h.os, h.tape, h.output, h.size, h.block⟩
theorem add_at (g o j : Nat) : (⟨g, o, none⟩ : Addr).add j = ⟨g, o + j, none⟩ := by unfold Addr.add; split <;> simp_all
theorem take_drop_flat (l : List flP.Pr) (k : Nat) : l.flatMap flP.c = (l.take k).flatMap flP.c ++ (l.drop k).flatMap flP.c := by rw [← List.flatMap_append, List.take_append_drop]
theorem news_take {w : World} {B g : Nat} {l : List flP.Pr} (h : Row flP.c 3 w B (some ⟨g, 0, none⟩) l) (k : Nat) : ∀ (j : Nat) (u : Value), ((l.take k).flatMap flP.c)[j]? = some u → w.cell? ((⟨g, 0, none⟩ : Addr).add j) = some u := fun j u hu => sct.newsP h j u (by
  rw [take_drop_flat l k, List.getElem?_append_left (List.getElem?_eq_some_iff.1 hu).1]
  exact hu)
theorem news_drop {w : World} {B g : Nat} {l : List flP.Pr} (h : Row flP.c 3 w B (some ⟨g, 0, none⟩) l) (k : Nat) (hk : k ≤ l.length) : ∀ (j : Nat) (u : Value), ((l.drop k).flatMap flP.c)[j]? = some u → w.cell? ((⟨g, k * 3, none⟩ : Addr).add j) = some u := fun j u hu => by
  have hlen : ((l.take k).flatMap flP.c).length = k * 3 := by rw [flat_len flP.c_len, List.length_take]; congr 1; omega
  have := sct.newsP h (k * 3 + j) u (by
    rw [take_drop_flat l k, List.getElem?_append_right (by omega), hlen, show k * 3 + j - k * 3 = j by omega]
    exact hu)
  rw [sct.add0] at this
  rw [add_at]
  exact this
def ws (g n c k o m cc : Nat) (pk pv : ByteArray) (pg : Bool) (s : tas.G) : List (Nat × Value) := [(40, .slice (some ⟨s.e0, 0, none⟩) 0 0), (41, .slice (some ⟨g, 0, none⟩) n c), (42, .int .i64 k), (43, .slice (some ⟨g, 0, none⟩) k c), (44, s.v1), (45, .agg #[.string pk, .string pv, .bool pg]), (46, .slice (some ⟨s.h, 0, none⟩) 1 1), (47, s.v2), (48, .slice (some ⟨g, o, none⟩) m cc), (49, s.v3), (4, s.v4)]
def J0 : tas.J := ⟨0, 4, 6, 7, 9, 10⟩
theorem J0_up : J0.up := ⟨by decide, by decide, by decide, by decide, by decide⟩
theorem form {w : World} {B n : Nat} {U : TypeId} {s : Nat} {v : Value} {xs : List Value} (h : w.ownsRow B U s v (n + 1) xs) : ∃ g cap, v = .slice (some ⟨g, 0, none⟩) (n + 1) cap := by
  obtain ⟨_, ⟨rfl, h0⟩ | ⟨g, cap, cur, rfl, _⟩⟩ := h
  · omega
  · exact ⟨g, cap, rfl⟩

set_option maxRecDepth 100000 in
set_option maxHeartbeats 4000000 in
theorem spec_set (l : List flP.Pr) (g c : Nat) (pk pv : ByteArray) (pg : Bool) (w : World) (hl : l.length ≤ 1048576) (hlc : l.length ≤ c) (hS : Row flP.c 3 w w.heap.size (some ⟨g, 0, none⟩) l) :
    Calls Tryz.prog 80 #[.slice (some ⟨g, 0, none⟩) l.length c, .agg #[.string pk, .string pv, .bool pg]] w fun e w' => ∃ g2 c2, e = .returned (.slice (some ⟨g2, 0, none⟩) (setP l ⟨pk, pv, pg⟩).length c2) ∧ w'.ownsRow w.heap.size 49 3 (.slice (some ⟨g2, 0, none⟩) (setP l ⟨pk, pv, pg⟩).length c2) (setP l ⟨pk, pv, pg⟩).length ((setP l ⟨pk, pv, pg⟩).flatMap flP.c) ∧ Below w.heap.size w w' := by
  obtain ⟨i0, hi, hz0, hz1, hz2⟩ := sct.infoP
  have hb : Below w.heap.size w (w.alloc (.cells #[.string pk, .string pv, .bool pg] 49)) := (Below.refl _ _).alloc (Nat.le_refl _) _
  have hA := bnew w #[.string pk, .string pv, .bool pg] 49
  obtain ⟨W, hW⟩ : ∃ W, w.alloc (.cells #[.string pk, .string pv, .bool pg] 49) = W := ⟨_, rfl⟩
  have hsW : W.heap.size = w.heap.size + 1 := by rw [← hW]; simp
  rw [hW] at hb hA
  have HS : Hid (Row flP.c 3 W W.heap.size (some ⟨g, 0, none⟩) l) := hS.inn hb
  have HA : Hid (W.heap[w.heap.size]? = some (.cells #[.string pk, .string pv, .bool pg] 49 (0, 0))) := hA
  clear hS hA
  go_enter Tryz.func80, Tryz.ntmps80
  go_wp2
  clear hW
  go_loopw [5] (fun v wr => ∃ k : Nat, k ≤ l.length ∧ v = .int .i64 k ∧ Hid (∀ (i : Nat) a, i < k → l[i]? = some a → lt a.k pk = true) ∧ Hid (Below W.heap.size W wr)) (fun v _ => l.length - (intOf v).toNat)
  case atStart => exact ⟨0, Nat.zero_le _, rfl, fun i a h => by omega, Below.refl _ _⟩
  case round =>
    obtain ⟨k, hk, rfl, hn, hB⟩ := hrel
    have p0 : wr.cell? ⟨w.heap.size, 0, none⟩ = some (.string pk) := bcell (bstay HA.out hB.out (by omega)) rfl
    have HSr : Hid (Row flP.c 3 wr wr.heap.size (some ⟨g, 0, none⟩) l) := HS.out.inn hB.out
    have hsr : w.heap.size + 1 ≤ wr.heap.size := by have := hB.out.size; omega
    by_cases hkl : k < l.length
    · have f0 : decide ((k : Int) < (l.length : Int)) = true := by simp; omega
      have HG : Hid (l[k]? = some l[k]) := List.getElem?_eq_getElem hkl
      obtain ⟨⟨mk, mv, mg⟩, he⟩ : ∃ e, l[k] = e := ⟨_, rfl⟩
      rw [he] at HG
      have a0 : wr.cell? ⟨g, k * 3, none⟩ = some (.string mk) := row_cell HSr.out HG.out
      have i2 : (k : Int) < (l.length : Int) := by omega
      clear he
      cases hq : Op.bytesLess mk.toList pk.toList with
      | true =>
        have hn2 : Hid (∀ (i : Nat) a, i < k + 1 → l[i]? = some a → lt a.k pk = true) := fun i a hi ha => by
          by_cases ei : i = k
          · subst ei; rw [HG.out] at ha; cases ha; exact hq
          · exact hn.out i a (by omega) ha
        go_wp2
        go_quiet (fail)
        go_wp2
        go_roundw
        case rel => exact ⟨k + 1, by omega, by go_num, hn2, bdrewN hB.out _⟩
        case measure => simp [intOf]; omega
      | false =>
        have HP : Hid (posP l pk = k) := posP_eq l pk k hk hn.out (fun a ha => by rw [HG.out] at ha; cases ha; exact hq)
        have r4 : ¬ c = k := by omega
        have r5 : 0 < l.length - k := by omega
        have r7 : (0 : Int) < ((l.length - k : Nat) : Int) := by omega
        have f5 : decide ((0 : Int) < ((l.length - k : Nat) : Int)) = true := decide_eq_true r7
        have r9 : k ≤ c := by omega
        by_cases heq : mk.toList = pk.toList
        · have hq2 : (mk.toList == pk.toList) = true := by simp [heq]
          have HIS : Hid (isP l k pk = true) := isP_true.2 ⟨_, HG.out, cmp_zero.2 (of_same heq)⟩
          clear heq
          have HRE : Hid (restP l pk = l.drop (k + 1)) := by show restP l pk = l.drop (k + 1); unfold restP; rw [HP.out, if_pos HIS.out]
          have r8 : 1 ≤ l.length - k := by omega
          by_cases hck : c = k + 1
          · have r6 : c - k = 1 := by omega
            have HLE : Hid (l.length = k + 1) := by exact (by omega : l.length = k + 1)
            have HCK : Hid (c = k + 1) := hck
            clear hck
            go_wp2
            go_quiet (fail)
            have hBX := bdrewN hB.out nq
            obtain ⟨X, hX⟩ : ∃ X, wr.drewN nq = X := ⟨_, rfl⟩
            rw [hX] at hBX ⊢
            have HSX := HS.out.inn hBX
            have hsx := hBX.size
            have x0 : X.cell? ⟨w.heap.size, 0, none⟩ = some (.string pk) := bcell (bstay HA.out hBX (by omega)) rfl
            have b0 : X.cell? ⟨g, k * 3, none⟩ = some (.string mk) := row_cell HSX HG.out
            clear hX p0 a0 HSX
            go_wp2
            go_quiet (fail)
            have hBX2 := bdrewN hBX nq
            obtain ⟨X2, hX2⟩ : ∃ X2, X.drewN nq = X2 := ⟨_, rfl⟩
            rw [hX2] at hBX2 ⊢
            clear hX2 x0 b0
            have hX2s := hBX2.size
            have HSX2 : Hid (Row flP.c 3 X2 X2.heap.size (some ⟨g, 0, none⟩) l) := HS.out.inn hBX2
            have HA2 : Hid (X2.heap[w.heap.size]? = some (.cells #[.string pk, .string pv, .bool pg] 49 (0, 0))) := bstay HA.out hBX2 (by omega)
            have HRL : Hid ((restP l pk).length = l.length - k - 1) := by show (restP l pk).length = l.length - k - 1; rw [HRE.out]; simp; omega
            have HBX2 : Hid (Below W.heap.size W X2) := hBX2
            go_wp2
            refine dk.region_gsets (ws g l.length c k (k * 3) (l.length - k - 1) (0) pk pv pg) [40, 41, 42, 43, 44, 45, 46, 47, 48, 49, 4] (tas.C ⟨X2, 49, 3, (l.take k).flatMap flP.c, [.string pk, .string pv, .bool pg], (restP l pk).flatMap flP.c, k, l.length - k - 1⟩ J0) ⟨0, .slice none 0 0, 0, .slice none 0 0, .slice none 0 0, .slice none 0 0⟩ (by kernel_rfl) (by kernel_rfl) (fun _ => rfl) (by kernel_rfl) (tas.start _ _ _) ?each ?fin
            case each =>
              refine ⟨tas.st0 (x := J0) (d := 40) (idx := 0) J0_up (by simp) rfl (by simp) (fun g => rfl) (fun g => rfl) (fun g e => rfl) (fun s W => by simp [execOp, go_sem]), ?_⟩
              refine ⟨tas.quiet (by decide) (by simp) (.slice (some ⟨g, 0, none⟩) l.length c) (by rintro s _ ⟨⟩; exact dk.sets_on _ (by simp) _ rfl) (fun s W h => by simp [execOp, go_sem, Act.eval, dk.sets_get, ws, List.lookup]), ?_⟩
              refine ⟨tas.quiet (by decide) (by simp) (.int .i64 k) (by rintro s _ ⟨⟩; exact dk.sets_on _ (by simp) _ rfl) (fun s W h => by simp [execOp, go_sem, Act.eval, dk.sets_get, ws, List.lookup]), ?_⟩
              refine ⟨tas.quiet (by decide) (by simp) (.slice (some ⟨g, 0, none⟩) k c) (by rintro s _ ⟨⟩; exact dk.sets_on _ (by simp) _ rfl) (fun s W h => by simp [execOp, go_sem, Act.eval, dk.sets_get, ws, List.lookup, r9]), ?_⟩
              refine ⟨tas.st1 (x := J0) (d := 44) (s1 := 40) (s2 := 43) (idx := 4) (c := c) (a := ⟨g, 0, none⟩) J0_up Tryz.underlying24 hi hz0 hz1 hz2 rfl (by show 0 < 3; decide) rfl rfl ⟨by simp, by simp, by simp⟩ (fun g => rfl) (fun g => rfl) (fun g => rfl) (fun g => rfl) (fun g v => rfl) (by show ((l.take k).flatMap flP.c).length = k * 3; rw [flat_len flP.c_len, List.length_take]; congr 1; omega) (fun W hb => news_take (HSX2.out.inn hb) k) (sct.oneP _) (by show k ≤ 1048576; omega) (by show (0 + k) * 40 ≤ 140737488355328; omega) ⟨⟨0, .data⟩, by simp, rfl, rfl⟩, ?_⟩
              refine ⟨tas.quiet (by decide) (by simp) (.agg #[.string pk, .string pv, .bool pg]) (by rintro s _ ⟨⟩; exact dk.sets_on _ (by simp) _ rfl) (fun s W h => by have hh := h _ _ HA2.out; have c0 : W.cell? ⟨w.heap.size, 0, none⟩ = some (.string pk) := bcell hh rfl; have c1 : W.cell? ⟨w.heap.size, 1, none⟩ = some (.string pv) := bcell hh rfl; have c2 : W.cell? ⟨w.heap.size, 2, none⟩ = some (.bool pg) := bcell hh rfl; simp [execOp, go_sem, Act.eval, dk.sets_get, ws, List.lookup, c0, c1, c2]), ?_⟩
              refine ⟨tas.st2 (x := J0) (d := 46) (idx := 6) J0_up (by simp) rfl (by simp) (fun g => rfl) (fun g => rfl) (fun g e => rfl) (fun s W => by simp [execOp, go_sem, Act.eval, dk.sets_get, ws, List.lookup]), ?_⟩
              refine ⟨tas.st3 (x := J0) (d := 47) (s1 := 44) (s2 := 46) (idx := 7) J0_up Tryz.underlying24 hi hz0 hz1 hz2 rfl (by show 0 < 3; decide) rfl rfl ⟨by simp, by simp, by simp⟩ (fun g => rfl) (fun g => rfl) (fun g => rfl) (fun g => rfl) (fun g v => rfl) rfl (by intro u hu; simp at hu; rcases hu with rfl | rfl | rfl <;> rfl) (by show k ≤ 1048576; omega) (by show (k + 1) * 40 ≤ 140737488355328; omega) ⟨⟨4, .data⟩, by simp, rfl, rfl⟩ ⟨⟨6, .data⟩, by simp, rfl, rfl⟩, ?_⟩
              refine ⟨tas.quiet (by decide) (by simp) (.slice (some ⟨g, k * 3, none⟩) (l.length - k - 1) (0)) (by rintro s _ ⟨⟩; exact dk.sets_on _ (by simp) _ rfl) (fun s W h => by simp [execOp, go_sem, Act.eval, dk.sets_get, ws, List.lookup]), ?_⟩
              refine ⟨tas.st4 (x := J0) (d := 49) (s1 := 47) (s2 := 48) (idx := 9) (c := 0) (a := ⟨g, k * 3, none⟩) J0_up Tryz.underlying24 hi hz0 hz1 hz2 rfl (by show 0 < 3; decide) rfl rfl ⟨by simp, by simp, by simp⟩ (fun g => rfl) (fun g => rfl) (fun g => rfl) (fun g => rfl) (fun g v => rfl) (by show ((restP l pk).flatMap flP.c).length = (l.length - k - 1) * 3; rw [flat_len flP.c_len, HRL.out]) (fun W hb => by rw [HRE.out, List.drop_of_length_le (by rw [HLE.out]; omega)]; intro j u hu; simp at hu) (sct.oneP _) (by show k ≤ 1048576 ∧ l.length - k - 1 ≤ 1048576; omega) (by show (k + 1 + (l.length - k - 1)) * 40 ≤ 140737488355328; omega) ⟨⟨7, .data⟩, by simp, rfl, rfl⟩, ?_⟩
              exact ⟨tas.st5 (x := J0) (d := 4) (s1 := 49) (idx := 10) J0_up rfl rfl ⟨by simp, by simp⟩ (fun g => rfl) (fun g => rfl) (fun g => rfl) (fun g v => rfl) ⟨⟨9, .data⟩, by simp, rfl, rfl⟩, trivial⟩
            case fin =>
              intro s L X3 hL hC
              obtain ⟨hbl, hv4, hown⟩ := tas.done hC J0_up (N := 11) (by decide) hL
              replace hbl : Below X2.heap.size X2 X3 := hbl
              replace hown : X3.ownsRow X2.heap.size 49 3 s.v3 (k + 1 + (l.length - k - 1)) ((l.take k).flatMap flP.c ++ [.string pk, .string pv, .bool pg] ++ (restP l pk).flatMap flP.c) := hown
              have hlen : k + 1 + (l.length - k - 1) = (setP l ⟨pk, pv, pg⟩).length := by unfold setP; rw [HP.out, List.length_append, List.length_cons, List.length_take, HRL.out]; omega
              have hfl : (l.take k).flatMap flP.c ++ [.string pk, .string pv, .bool pg] ++ (restP l pk).flatMap flP.c = (setP l ⟨pk, pv, pg⟩).flatMap flP.c := by unfold setP; rw [HP.out]; simp [flP.c]
              rw [hlen, hfl] at hown
              obtain ⟨g5, c5, hv3⟩ : ∃ g5 c5, s.v3 = .slice (some ⟨g5, 0, none⟩) (setP l ⟨pk, pv, pg⟩).length c5 := by
                obtain ⟨_, ⟨_, h0⟩ | ⟨g6, cap, cur, e, _⟩⟩ := hown
                · omega
                · exact ⟨g6, cap, e⟩
              rw [hv3] at hown hv4
              have HW : Hid (X3.ownsRow X2.heap.size 49 3 (.slice (some ⟨g5, 0, none⟩) (setP l ⟨pk, pv, pg⟩).length c5) (setP l ⟨pk, pv, pg⟩).length ((setP l ⟨pk, pv, pg⟩).flatMap flP.c)) := hown
              have HBL : Hid (Below X2.heap.size X2 X3) := hbl
              have HV4 : Hid (s.v4 = .slice (some ⟨g5, 0, none⟩) (setP l ⟨pk, pv, pg⟩).length c5) := hv4
              clear hC hL hbl hown hlen hfl hv3 hv4
              go_wp2
              refine bodyPost_ret (v := .slice (some ⟨g5, 0, none⟩) (setP l ⟨pk, pv, pg⟩).length c5) (by simp [results, Tryz.results80, go_sem, dk.sets_get, ws, List.lookup, HV4.out]) rfl ?_
              exact ⟨g5, c5, rfl, sct.own_low HW.out (by omega), hb.trans ((HBX2.out.trans (HBL.out.mono HBX2.out.size)).mono hb.size)⟩
          · have r6 : ¬ c - k = 1 := by omega
            go_wp2
            go_quiet (fail)
            have hBX := bdrewN hB.out nq
            obtain ⟨X, hX⟩ : ∃ X, wr.drewN nq = X := ⟨_, rfl⟩
            rw [hX] at hBX ⊢
            have HSX := HS.out.inn hBX
            have hsx := hBX.size
            have x0 : X.cell? ⟨w.heap.size, 0, none⟩ = some (.string pk) := bcell (bstay HA.out hBX (by omega)) rfl
            have b0 : X.cell? ⟨g, k * 3, none⟩ = some (.string mk) := row_cell HSX HG.out
            clear hX p0 a0 HSX
            go_wp2
            go_quiet (fail)
            have hBX2 := bdrewN hBX nq
            obtain ⟨X2, hX2⟩ : ∃ X2, X.drewN nq = X2 := ⟨_, rfl⟩
            rw [hX2] at hBX2 ⊢
            clear hX2 x0 b0
            have hX2s := hBX2.size
            have HSX2 : Hid (Row flP.c 3 X2 X2.heap.size (some ⟨g, 0, none⟩) l) := HS.out.inn hBX2
            have HA2 : Hid (X2.heap[w.heap.size]? = some (.cells #[.string pk, .string pv, .bool pg] 49 (0, 0))) := bstay HA.out hBX2 (by omega)
            have HRL : Hid ((restP l pk).length = l.length - k - 1) := by show (restP l pk).length = l.length - k - 1; rw [HRE.out]; simp; omega
            have HBX2 : Hid (Below W.heap.size W X2) := hBX2
            go_wp2
            refine dk.region_gsets (ws g l.length c k (k * 3 + 3) (l.length - k - 1) (c - k - 1) pk pv pg) [40, 41, 42, 43, 44, 45, 46, 47, 48, 49, 4] (tas.C ⟨X2, 49, 3, (l.take k).flatMap flP.c, [.string pk, .string pv, .bool pg], (restP l pk).flatMap flP.c, k, l.length - k - 1⟩ J0) ⟨0, .slice none 0 0, 0, .slice none 0 0, .slice none 0 0, .slice none 0 0⟩ (by kernel_rfl) (by kernel_rfl) (fun _ => rfl) (by kernel_rfl) (tas.start _ _ _) ?each ?fin
            case each =>
              refine ⟨tas.st0 (x := J0) (d := 40) (idx := 0) J0_up (by simp) rfl (by simp) (fun g => rfl) (fun g => rfl) (fun g e => rfl) (fun s W => by simp [execOp, go_sem]), ?_⟩
              refine ⟨tas.quiet (by decide) (by simp) (.slice (some ⟨g, 0, none⟩) l.length c) (by rintro s _ ⟨⟩; exact dk.sets_on _ (by simp) _ rfl) (fun s W h => by simp [execOp, go_sem, Act.eval, dk.sets_get, ws, List.lookup]), ?_⟩
              refine ⟨tas.quiet (by decide) (by simp) (.int .i64 k) (by rintro s _ ⟨⟩; exact dk.sets_on _ (by simp) _ rfl) (fun s W h => by simp [execOp, go_sem, Act.eval, dk.sets_get, ws, List.lookup]), ?_⟩
              refine ⟨tas.quiet (by decide) (by simp) (.slice (some ⟨g, 0, none⟩) k c) (by rintro s _ ⟨⟩; exact dk.sets_on _ (by simp) _ rfl) (fun s W h => by simp [execOp, go_sem, Act.eval, dk.sets_get, ws, List.lookup, r9]), ?_⟩
              refine ⟨tas.st1 (x := J0) (d := 44) (s1 := 40) (s2 := 43) (idx := 4) (c := c) (a := ⟨g, 0, none⟩) J0_up Tryz.underlying24 hi hz0 hz1 hz2 rfl (by show 0 < 3; decide) rfl rfl ⟨by simp, by simp, by simp⟩ (fun g => rfl) (fun g => rfl) (fun g => rfl) (fun g => rfl) (fun g v => rfl) (by show ((l.take k).flatMap flP.c).length = k * 3; rw [flat_len flP.c_len, List.length_take]; congr 1; omega) (fun W hb => news_take (HSX2.out.inn hb) k) (sct.oneP _) (by show k ≤ 1048576; omega) (by show (0 + k) * 40 ≤ 140737488355328; omega) ⟨⟨0, .data⟩, by simp, rfl, rfl⟩, ?_⟩
              refine ⟨tas.quiet (by decide) (by simp) (.agg #[.string pk, .string pv, .bool pg]) (by rintro s _ ⟨⟩; exact dk.sets_on _ (by simp) _ rfl) (fun s W h => by have hh := h _ _ HA2.out; have c0 : W.cell? ⟨w.heap.size, 0, none⟩ = some (.string pk) := bcell hh rfl; have c1 : W.cell? ⟨w.heap.size, 1, none⟩ = some (.string pv) := bcell hh rfl; have c2 : W.cell? ⟨w.heap.size, 2, none⟩ = some (.bool pg) := bcell hh rfl; simp [execOp, go_sem, Act.eval, dk.sets_get, ws, List.lookup, c0, c1, c2]), ?_⟩
              refine ⟨tas.st2 (x := J0) (d := 46) (idx := 6) J0_up (by simp) rfl (by simp) (fun g => rfl) (fun g => rfl) (fun g e => rfl) (fun s W => by simp [execOp, go_sem, Act.eval, dk.sets_get, ws, List.lookup]), ?_⟩
              refine ⟨tas.st3 (x := J0) (d := 47) (s1 := 44) (s2 := 46) (idx := 7) J0_up Tryz.underlying24 hi hz0 hz1 hz2 rfl (by show 0 < 3; decide) rfl rfl ⟨by simp, by simp, by simp⟩ (fun g => rfl) (fun g => rfl) (fun g => rfl) (fun g => rfl) (fun g v => rfl) rfl (by intro u hu; simp at hu; rcases hu with rfl | rfl | rfl <;> rfl) (by show k ≤ 1048576; omega) (by show (k + 1) * 40 ≤ 140737488355328; omega) ⟨⟨4, .data⟩, by simp, rfl, rfl⟩ ⟨⟨6, .data⟩, by simp, rfl, rfl⟩, ?_⟩
              refine ⟨tas.quiet (by decide) (by simp) (.slice (some ⟨g, k * 3 + 3, none⟩) (l.length - k - 1) (c - k - 1)) (by rintro s _ ⟨⟩; exact dk.sets_on _ (by simp) _ rfl) (fun s W h => by simp [execOp, go_sem, Act.eval, dk.sets_get, ws, List.lookup]), ?_⟩
              refine ⟨tas.st4 (x := J0) (d := 49) (s1 := 47) (s2 := 48) (idx := 9) (c := c - k - 1) (a := ⟨g, k * 3 + 3, none⟩) J0_up Tryz.underlying24 hi hz0 hz1 hz2 rfl (by show 0 < 3; decide) rfl rfl ⟨by simp, by simp, by simp⟩ (fun g => rfl) (fun g => rfl) (fun g => rfl) (fun g => rfl) (fun g v => rfl) (by show ((restP l pk).flatMap flP.c).length = (l.length - k - 1) * 3; rw [flat_len flP.c_len, HRL.out]) (fun W hb => by rw [HRE.out]; have hnd := news_drop (HSX2.out.inn hb) (k + 1) (by omega); rw [show (k + 1) * 3 = k * 3 + 3 by omega] at hnd; exact hnd) (sct.oneP _) (by show k ≤ 1048576 ∧ l.length - k - 1 ≤ 1048576; omega) (by show (k + 1 + (l.length - k - 1)) * 40 ≤ 140737488355328; omega) ⟨⟨7, .data⟩, by simp, rfl, rfl⟩, ?_⟩
              exact ⟨tas.st5 (x := J0) (d := 4) (s1 := 49) (idx := 10) J0_up rfl rfl ⟨by simp, by simp⟩ (fun g => rfl) (fun g => rfl) (fun g => rfl) (fun g v => rfl) ⟨⟨9, .data⟩, by simp, rfl, rfl⟩, trivial⟩
            case fin =>
              intro s L X3 hL hC
              obtain ⟨hbl, hv4, hown⟩ := tas.done hC J0_up (N := 11) (by decide) hL
              replace hbl : Below X2.heap.size X2 X3 := hbl
              replace hown : X3.ownsRow X2.heap.size 49 3 s.v3 (k + 1 + (l.length - k - 1)) ((l.take k).flatMap flP.c ++ [.string pk, .string pv, .bool pg] ++ (restP l pk).flatMap flP.c) := hown
              have hlen : k + 1 + (l.length - k - 1) = (setP l ⟨pk, pv, pg⟩).length := by unfold setP; rw [HP.out, List.length_append, List.length_cons, List.length_take, HRL.out]; omega
              have hfl : (l.take k).flatMap flP.c ++ [.string pk, .string pv, .bool pg] ++ (restP l pk).flatMap flP.c = (setP l ⟨pk, pv, pg⟩).flatMap flP.c := by unfold setP; rw [HP.out]; simp [flP.c]
              rw [hlen, hfl] at hown
              obtain ⟨g5, c5, hv3⟩ : ∃ g5 c5, s.v3 = .slice (some ⟨g5, 0, none⟩) (setP l ⟨pk, pv, pg⟩).length c5 := by
                obtain ⟨_, ⟨_, h0⟩ | ⟨g6, cap, cur, e, _⟩⟩ := hown
                · omega
                · exact ⟨g6, cap, e⟩
              rw [hv3] at hown hv4
              have HW : Hid (X3.ownsRow X2.heap.size 49 3 (.slice (some ⟨g5, 0, none⟩) (setP l ⟨pk, pv, pg⟩).length c5) (setP l ⟨pk, pv, pg⟩).length ((setP l ⟨pk, pv, pg⟩).flatMap flP.c)) := hown
              have HBL : Hid (Below X2.heap.size X2 X3) := hbl
              have HV4 : Hid (s.v4 = .slice (some ⟨g5, 0, none⟩) (setP l ⟨pk, pv, pg⟩).length c5) := hv4
              clear hC hL hbl hown hlen hfl hv3 hv4
              go_wp2
              refine bodyPost_ret (v := .slice (some ⟨g5, 0, none⟩) (setP l ⟨pk, pv, pg⟩).length c5) (by simp [results, Tryz.results80, go_sem, dk.sets_get, ws, List.lookup, HV4.out]) rfl ?_
              exact ⟨g5, c5, rfl, sct.own_low HW.out (by omega), hb.trans ((HBX2.out.trans (HBL.out.mono HBX2.out.size)).mono hb.size)⟩
        · have hq2 : (mk.toList == pk.toList) = false := by simp [heq]
          have HIS : Hid (isP l k pk = false) := by
            cases h : isP l k pk with
            | false => rfl
            | true =>
              obtain ⟨a, ha, hz⟩ := isP_true.1 h
              rw [HG.out] at ha
              cases ha
              exact absurd (congrArg ByteArray.toList (cmp_zero.1 hz)) heq
          clear heq
          have HRE : Hid (restP l pk = l.drop k) := by show restP l pk = l.drop k; unfold restP; rw [HP.out, if_neg (by rw [HIS.out]; simp)]
          go_wp2
          go_quiet (fail)
          have hBX := bdrewN hB.out nq
          obtain ⟨X, hX⟩ : ∃ X, wr.drewN nq = X := ⟨_, rfl⟩
          rw [hX] at hBX ⊢
          have HSX := HS.out.inn hBX
          have hsx := hBX.size
          have x0 : X.cell? ⟨w.heap.size, 0, none⟩ = some (.string pk) := bcell (bstay HA.out hBX (by omega)) rfl
          have b0 : X.cell? ⟨g, k * 3, none⟩ = some (.string mk) := row_cell HSX HG.out
          clear hX p0 a0 HSX
          go_wp2
          go_quiet (fail)
          have hBX2 := bdrewN hBX nq
          obtain ⟨X2, hX2⟩ : ∃ X2, X.drewN nq = X2 := ⟨_, rfl⟩
          rw [hX2] at hBX2 ⊢
          clear hX2 x0 b0
          have hX2s := hBX2.size
          have HSX2 : Hid (Row flP.c 3 X2 X2.heap.size (some ⟨g, 0, none⟩) l) := HS.out.inn hBX2
          have HA2 : Hid (X2.heap[w.heap.size]? = some (.cells #[.string pk, .string pv, .bool pg] 49 (0, 0))) := bstay HA.out hBX2 (by omega)
          have HRL : Hid ((restP l pk).length = l.length - k) := by show (restP l pk).length = l.length - k; rw [HRE.out]; simp
          have HBX2 : Hid (Below W.heap.size W X2) := hBX2
          go_wp2
          refine dk.region_gsets (ws g l.length c k (k * 3) (l.length - k) (c - k) pk pv pg) [40, 41, 42, 43, 44, 45, 46, 47, 48, 49, 4] (tas.C ⟨X2, 49, 3, (l.take k).flatMap flP.c, [.string pk, .string pv, .bool pg], (restP l pk).flatMap flP.c, k, l.length - k⟩ J0) ⟨0, .slice none 0 0, 0, .slice none 0 0, .slice none 0 0, .slice none 0 0⟩ (by kernel_rfl) (by kernel_rfl) (fun _ => rfl) (by kernel_rfl) (tas.start _ _ _) ?each ?fin
          case each =>
            refine ⟨tas.st0 (x := J0) (d := 40) (idx := 0) J0_up (by simp) rfl (by simp) (fun g => rfl) (fun g => rfl) (fun g e => rfl) (fun s W => by simp [execOp, go_sem]), ?_⟩
            refine ⟨tas.quiet (by decide) (by simp) (.slice (some ⟨g, 0, none⟩) l.length c) (by rintro s _ ⟨⟩; exact dk.sets_on _ (by simp) _ rfl) (fun s W h => by simp [execOp, go_sem, Act.eval, dk.sets_get, ws, List.lookup]), ?_⟩
            refine ⟨tas.quiet (by decide) (by simp) (.int .i64 k) (by rintro s _ ⟨⟩; exact dk.sets_on _ (by simp) _ rfl) (fun s W h => by simp [execOp, go_sem, Act.eval, dk.sets_get, ws, List.lookup]), ?_⟩
            refine ⟨tas.quiet (by decide) (by simp) (.slice (some ⟨g, 0, none⟩) k c) (by rintro s _ ⟨⟩; exact dk.sets_on _ (by simp) _ rfl) (fun s W h => by simp [execOp, go_sem, Act.eval, dk.sets_get, ws, List.lookup, r9]), ?_⟩
            refine ⟨tas.st1 (x := J0) (d := 44) (s1 := 40) (s2 := 43) (idx := 4) (c := c) (a := ⟨g, 0, none⟩) J0_up Tryz.underlying24 hi hz0 hz1 hz2 rfl (by show 0 < 3; decide) rfl rfl ⟨by simp, by simp, by simp⟩ (fun g => rfl) (fun g => rfl) (fun g => rfl) (fun g => rfl) (fun g v => rfl) (by show ((l.take k).flatMap flP.c).length = k * 3; rw [flat_len flP.c_len, List.length_take]; congr 1; omega) (fun W hb => news_take (HSX2.out.inn hb) k) (sct.oneP _) (by show k ≤ 1048576; omega) (by show (0 + k) * 40 ≤ 140737488355328; omega) ⟨⟨0, .data⟩, by simp, rfl, rfl⟩, ?_⟩
            refine ⟨tas.quiet (by decide) (by simp) (.agg #[.string pk, .string pv, .bool pg]) (by rintro s _ ⟨⟩; exact dk.sets_on _ (by simp) _ rfl) (fun s W h => by have hh := h _ _ HA2.out; have c0 : W.cell? ⟨w.heap.size, 0, none⟩ = some (.string pk) := bcell hh rfl; have c1 : W.cell? ⟨w.heap.size, 1, none⟩ = some (.string pv) := bcell hh rfl; have c2 : W.cell? ⟨w.heap.size, 2, none⟩ = some (.bool pg) := bcell hh rfl; simp [execOp, go_sem, Act.eval, dk.sets_get, ws, List.lookup, c0, c1, c2]), ?_⟩
            refine ⟨tas.st2 (x := J0) (d := 46) (idx := 6) J0_up (by simp) rfl (by simp) (fun g => rfl) (fun g => rfl) (fun g e => rfl) (fun s W => by simp [execOp, go_sem, Act.eval, dk.sets_get, ws, List.lookup]), ?_⟩
            refine ⟨tas.st3 (x := J0) (d := 47) (s1 := 44) (s2 := 46) (idx := 7) J0_up Tryz.underlying24 hi hz0 hz1 hz2 rfl (by show 0 < 3; decide) rfl rfl ⟨by simp, by simp, by simp⟩ (fun g => rfl) (fun g => rfl) (fun g => rfl) (fun g => rfl) (fun g v => rfl) rfl (by intro u hu; simp at hu; rcases hu with rfl | rfl | rfl <;> rfl) (by show k ≤ 1048576; omega) (by show (k + 1) * 40 ≤ 140737488355328; omega) ⟨⟨4, .data⟩, by simp, rfl, rfl⟩ ⟨⟨6, .data⟩, by simp, rfl, rfl⟩, ?_⟩
            refine ⟨tas.quiet (by decide) (by simp) (.slice (some ⟨g, k * 3, none⟩) (l.length - k) (c - k)) (by rintro s _ ⟨⟩; exact dk.sets_on _ (by simp) _ rfl) (fun s W h => by simp [execOp, go_sem, Act.eval, dk.sets_get, ws, List.lookup]), ?_⟩
            refine ⟨tas.st4 (x := J0) (d := 49) (s1 := 47) (s2 := 48) (idx := 9) (c := c - k) (a := ⟨g, k * 3, none⟩) J0_up Tryz.underlying24 hi hz0 hz1 hz2 rfl (by show 0 < 3; decide) rfl rfl ⟨by simp, by simp, by simp⟩ (fun g => rfl) (fun g => rfl) (fun g => rfl) (fun g => rfl) (fun g v => rfl) (by show ((restP l pk).flatMap flP.c).length = (l.length - k) * 3; rw [flat_len flP.c_len, HRL.out]) (fun W hb => by rw [HRE.out]; exact news_drop (HSX2.out.inn hb) k (by omega)) (sct.oneP _) (by show k ≤ 1048576 ∧ l.length - k ≤ 1048576; omega) (by show (k + 1 + (l.length - k)) * 40 ≤ 140737488355328; omega) ⟨⟨7, .data⟩, by simp, rfl, rfl⟩, ?_⟩
            exact ⟨tas.st5 (x := J0) (d := 4) (s1 := 49) (idx := 10) J0_up rfl rfl ⟨by simp, by simp⟩ (fun g => rfl) (fun g => rfl) (fun g => rfl) (fun g v => rfl) ⟨⟨9, .data⟩, by simp, rfl, rfl⟩, trivial⟩
          case fin =>
            intro s L X3 hL hC
            obtain ⟨hbl, hv4, hown⟩ := tas.done hC J0_up (N := 11) (by decide) hL
            replace hbl : Below X2.heap.size X2 X3 := hbl
            replace hown : X3.ownsRow X2.heap.size 49 3 s.v3 (k + 1 + (l.length - k)) ((l.take k).flatMap flP.c ++ [.string pk, .string pv, .bool pg] ++ (restP l pk).flatMap flP.c) := hown
            have hlen : k + 1 + (l.length - k) = (setP l ⟨pk, pv, pg⟩).length := by unfold setP; rw [HP.out, List.length_append, List.length_cons, List.length_take, HRL.out]; omega
            have hfl : (l.take k).flatMap flP.c ++ [.string pk, .string pv, .bool pg] ++ (restP l pk).flatMap flP.c = (setP l ⟨pk, pv, pg⟩).flatMap flP.c := by unfold setP; rw [HP.out]; simp [flP.c]
            rw [hlen, hfl] at hown
            obtain ⟨g5, c5, hv3⟩ : ∃ g5 c5, s.v3 = .slice (some ⟨g5, 0, none⟩) (setP l ⟨pk, pv, pg⟩).length c5 := by
              obtain ⟨_, ⟨_, h0⟩ | ⟨g6, cap, cur, e, _⟩⟩ := hown
              · omega
              · exact ⟨g6, cap, e⟩
            rw [hv3] at hown hv4
            have HW : Hid (X3.ownsRow X2.heap.size 49 3 (.slice (some ⟨g5, 0, none⟩) (setP l ⟨pk, pv, pg⟩).length c5) (setP l ⟨pk, pv, pg⟩).length ((setP l ⟨pk, pv, pg⟩).flatMap flP.c)) := hown
            have HBL : Hid (Below X2.heap.size X2 X3) := hbl
            have HV4 : Hid (s.v4 = .slice (some ⟨g5, 0, none⟩) (setP l ⟨pk, pv, pg⟩).length c5) := hv4
            clear hC hL hbl hown hlen hfl hv3 hv4
            go_wp2
            refine bodyPost_ret (v := .slice (some ⟨g5, 0, none⟩) (setP l ⟨pk, pv, pg⟩).length c5) (by simp [results, Tryz.results80, go_sem, dk.sets_get, ws, List.lookup, HV4.out]) rfl ?_
            exact ⟨g5, c5, rfl, sct.own_low HW.out (by omega), hb.trans ((HBX2.out.trans (HBL.out.mono HBX2.out.size)).mono hb.size)⟩
    · have HKE : Hid (k = l.length) := by exact (by omega : k = l.length)
      have HP : Hid (posP l pk = k) := posP_eq l pk k hk hn.out (fun a ha => by rw [HKE.out] at ha; simp at ha)
      have HRE : Hid (restP l pk = []) := by
        show restP l pk = []
        unfold restP
        rw [HP.out, HKE.out]
        split <;> simp
      have r9 : k ≤ c := by omega
      have f0 : decide ((k : Int) < (l.length : Int)) = false := by simp; omega
      have r5 : ¬ 0 < l.length - k := by omega
      have f5 : decide ((0 : Int) < ((l.length - k : Nat) : Int)) = false := by simp; omega
      by_cases hck : c = k
      · have hck' := hck.symm
        subst hck'
        clear hck
        go_wp2
        go_quiet (fail)
        have hBX := bdrewN hB.out nq
        obtain ⟨X, hX⟩ : ∃ X, wr.drewN nq = X := ⟨_, rfl⟩
        rw [hX] at hBX ⊢
        have HSX := HS.out.inn hBX
        have hsx := hBX.size
        have x0 : X.cell? ⟨w.heap.size, 0, none⟩ = some (.string pk) := bcell (bstay HA.out hBX (by omega)) rfl
        clear hX p0 HSX
        go_wp2
        go_quiet (fail)
        have hBX2 := bdrewN hBX nq
        obtain ⟨X2, hX2⟩ : ∃ X2, X.drewN nq = X2 := ⟨_, rfl⟩
        rw [hX2] at hBX2 ⊢
        clear hX2 x0
        have hX2s := hBX2.size
        have HSX2 : Hid (Row flP.c 3 X2 X2.heap.size (some ⟨g, 0, none⟩) l) := HS.out.inn hBX2
        have HA2 : Hid (X2.heap[w.heap.size]? = some (.cells #[.string pk, .string pv, .bool pg] 49 (0, 0))) := bstay HA.out hBX2 (by omega)
        have HRL : Hid ((restP l pk).length = 0) := by show (restP l pk).length = 0; rw [HRE.out]; rfl
        have HBX2 : Hid (Below W.heap.size W X2) := hBX2
        go_wp2
        refine dk.region_gsets (ws g l.length k k (0) (0) (0) pk pv pg) [40, 41, 42, 43, 44, 45, 46, 47, 48, 49, 4] (tas.C ⟨X2, 49, 3, (l.take k).flatMap flP.c, [.string pk, .string pv, .bool pg], (restP l pk).flatMap flP.c, k, 0⟩ J0) ⟨0, .slice none 0 0, 0, .slice none 0 0, .slice none 0 0, .slice none 0 0⟩ (by kernel_rfl) (by kernel_rfl) (fun _ => rfl) (by kernel_rfl) (tas.start _ _ _) ?each ?fin
        case each =>
          refine ⟨tas.st0 (x := J0) (d := 40) (idx := 0) J0_up (by simp) rfl (by simp) (fun g => rfl) (fun g => rfl) (fun g e => rfl) (fun s W => by simp [execOp, go_sem]), ?_⟩
          refine ⟨tas.quiet (by decide) (by simp) (.slice (some ⟨g, 0, none⟩) l.length k) (by rintro s _ ⟨⟩; exact dk.sets_on _ (by simp) _ rfl) (fun s W h => by simp [execOp, go_sem, Act.eval, dk.sets_get, ws, List.lookup]), ?_⟩
          refine ⟨tas.quiet (by decide) (by simp) (.int .i64 k) (by rintro s _ ⟨⟩; exact dk.sets_on _ (by simp) _ rfl) (fun s W h => by simp [execOp, go_sem, Act.eval, dk.sets_get, ws, List.lookup]), ?_⟩
          refine ⟨tas.quiet (by decide) (by simp) (.slice (some ⟨g, 0, none⟩) k k) (by rintro s _ ⟨⟩; exact dk.sets_on _ (by simp) _ rfl) (fun s W h => by simp [execOp, go_sem, Act.eval, dk.sets_get, ws, List.lookup]), ?_⟩
          refine ⟨tas.st1 (x := J0) (d := 44) (s1 := 40) (s2 := 43) (idx := 4) (c := k) (a := ⟨g, 0, none⟩) J0_up Tryz.underlying24 hi hz0 hz1 hz2 rfl (by show 0 < 3; decide) rfl rfl ⟨by simp, by simp, by simp⟩ (fun g => rfl) (fun g => rfl) (fun g => rfl) (fun g => rfl) (fun g v => rfl) (by show ((l.take k).flatMap flP.c).length = k * 3; rw [flat_len flP.c_len, List.length_take]; congr 1; omega) (fun W hb => news_take (HSX2.out.inn hb) k) (sct.oneP _) (by show k ≤ 1048576; omega) (by show (0 + k) * 40 ≤ 140737488355328; omega) ⟨⟨0, .data⟩, by simp, rfl, rfl⟩, ?_⟩
          refine ⟨tas.quiet (by decide) (by simp) (.agg #[.string pk, .string pv, .bool pg]) (by rintro s _ ⟨⟩; exact dk.sets_on _ (by simp) _ rfl) (fun s W h => by have hh := h _ _ HA2.out; have c0 : W.cell? ⟨w.heap.size, 0, none⟩ = some (.string pk) := bcell hh rfl; have c1 : W.cell? ⟨w.heap.size, 1, none⟩ = some (.string pv) := bcell hh rfl; have c2 : W.cell? ⟨w.heap.size, 2, none⟩ = some (.bool pg) := bcell hh rfl; simp [execOp, go_sem, Act.eval, dk.sets_get, ws, List.lookup, c0, c1, c2]), ?_⟩
          refine ⟨tas.st2 (x := J0) (d := 46) (idx := 6) J0_up (by simp) rfl (by simp) (fun g => rfl) (fun g => rfl) (fun g e => rfl) (fun s W => by simp [execOp, go_sem, Act.eval, dk.sets_get, ws, List.lookup]), ?_⟩
          refine ⟨tas.st3 (x := J0) (d := 47) (s1 := 44) (s2 := 46) (idx := 7) J0_up Tryz.underlying24 hi hz0 hz1 hz2 rfl (by show 0 < 3; decide) rfl rfl ⟨by simp, by simp, by simp⟩ (fun g => rfl) (fun g => rfl) (fun g => rfl) (fun g => rfl) (fun g v => rfl) rfl (by intro u hu; simp at hu; rcases hu with rfl | rfl | rfl <;> rfl) (by show k ≤ 1048576; omega) (by show (k + 1) * 40 ≤ 140737488355328; omega) ⟨⟨4, .data⟩, by simp, rfl, rfl⟩ ⟨⟨6, .data⟩, by simp, rfl, rfl⟩, ?_⟩
          refine ⟨tas.quiet (by decide) (by simp) (.slice (some ⟨g, 0, none⟩) (0) (0)) (by rintro s _ ⟨⟩; exact dk.sets_on _ (by simp) _ rfl) (fun s W h => by simp [execOp, go_sem, Act.eval, dk.sets_get, ws, List.lookup]), ?_⟩
          refine ⟨tas.st4 (x := J0) (d := 49) (s1 := 47) (s2 := 48) (idx := 9) (c := 0) (a := ⟨g, 0, none⟩) J0_up Tryz.underlying24 hi hz0 hz1 hz2 rfl (by show 0 < 3; decide) rfl rfl ⟨by simp, by simp, by simp⟩ (fun g => rfl) (fun g => rfl) (fun g => rfl) (fun g => rfl) (fun g v => rfl) (by show ((restP l pk).flatMap flP.c).length = (0) * 3; rw [flat_len flP.c_len, HRL.out]) (fun W hb => by rw [HRE.out]; intro j u hu; simp at hu) (sct.oneP _) (by show k ≤ 1048576 ∧ 0 ≤ 1048576; omega) (by show (k + 1 + (0)) * 40 ≤ 140737488355328; omega) ⟨⟨7, .data⟩, by simp, rfl, rfl⟩, ?_⟩
          exact ⟨tas.st5 (x := J0) (d := 4) (s1 := 49) (idx := 10) J0_up rfl rfl ⟨by simp, by simp⟩ (fun g => rfl) (fun g => rfl) (fun g => rfl) (fun g v => rfl) ⟨⟨9, .data⟩, by simp, rfl, rfl⟩, trivial⟩
        case fin =>
          intro s L X3 hL hC
          obtain ⟨hbl, hv4, hown⟩ := tas.done hC J0_up (N := 11) (by decide) hL
          replace hbl : Below X2.heap.size X2 X3 := hbl
          replace hown : X3.ownsRow X2.heap.size 49 3 s.v3 (k + 1 + (0)) ((l.take k).flatMap flP.c ++ [.string pk, .string pv, .bool pg] ++ (restP l pk).flatMap flP.c) := hown
          have hlen : k + 1 + (0) = (setP l ⟨pk, pv, pg⟩).length := by unfold setP; rw [HP.out, List.length_append, List.length_cons, List.length_take, HRL.out]; omega
          have hfl : (l.take k).flatMap flP.c ++ [.string pk, .string pv, .bool pg] ++ (restP l pk).flatMap flP.c = (setP l ⟨pk, pv, pg⟩).flatMap flP.c := by unfold setP; rw [HP.out]; simp [flP.c]
          rw [hlen, hfl] at hown
          obtain ⟨g5, c5, hv3⟩ : ∃ g5 c5, s.v3 = .slice (some ⟨g5, 0, none⟩) (setP l ⟨pk, pv, pg⟩).length c5 := by
            obtain ⟨_, ⟨_, h0⟩ | ⟨g6, cap, cur, e, _⟩⟩ := hown
            · omega
            · exact ⟨g6, cap, e⟩
          rw [hv3] at hown hv4
          have HW : Hid (X3.ownsRow X2.heap.size 49 3 (.slice (some ⟨g5, 0, none⟩) (setP l ⟨pk, pv, pg⟩).length c5) (setP l ⟨pk, pv, pg⟩).length ((setP l ⟨pk, pv, pg⟩).flatMap flP.c)) := hown
          have HBL : Hid (Below X2.heap.size X2 X3) := hbl
          have HV4 : Hid (s.v4 = .slice (some ⟨g5, 0, none⟩) (setP l ⟨pk, pv, pg⟩).length c5) := hv4
          clear hC hL hbl hown hlen hfl hv3 hv4
          go_wp2
          refine bodyPost_ret (v := .slice (some ⟨g5, 0, none⟩) (setP l ⟨pk, pv, pg⟩).length c5) (by simp [results, Tryz.results80, go_sem, dk.sets_get, ws, List.lookup, HV4.out]) rfl ?_
          exact ⟨g5, c5, rfl, sct.own_low HW.out (by omega), hb.trans ((HBX2.out.trans (HBL.out.mono HBX2.out.size)).mono hb.size)⟩
      · have r4 : ¬ c = k := hck
        clear hck
        go_wp2
        go_quiet (fail)
        have hBX := bdrewN hB.out nq
        obtain ⟨X, hX⟩ : ∃ X, wr.drewN nq = X := ⟨_, rfl⟩
        rw [hX] at hBX ⊢
        have HSX := HS.out.inn hBX
        have hsx := hBX.size
        have x0 : X.cell? ⟨w.heap.size, 0, none⟩ = some (.string pk) := bcell (bstay HA.out hBX (by omega)) rfl
        clear hX p0 HSX
        go_wp2
        go_quiet (fail)
        have hBX2 := bdrewN hBX nq
        obtain ⟨X2, hX2⟩ : ∃ X2, X.drewN nq = X2 := ⟨_, rfl⟩
        rw [hX2] at hBX2 ⊢
        clear hX2 x0
        have hX2s := hBX2.size
        have HSX2 : Hid (Row flP.c 3 X2 X2.heap.size (some ⟨g, 0, none⟩) l) := HS.out.inn hBX2
        have HA2 : Hid (X2.heap[w.heap.size]? = some (.cells #[.string pk, .string pv, .bool pg] 49 (0, 0))) := bstay HA.out hBX2 (by omega)
        have HRL : Hid ((restP l pk).length = l.length - k) := by show (restP l pk).length = l.length - k; rw [HRE.out]; simp; omega
        have HBX2 : Hid (Below W.heap.size W X2) := hBX2
        go_wp2
        refine dk.region_gsets (ws g l.length c k (k * 3) (l.length - k) (c - k) pk pv pg) [40, 41, 42, 43, 44, 45, 46, 47, 48, 49, 4] (tas.C ⟨X2, 49, 3, (l.take k).flatMap flP.c, [.string pk, .string pv, .bool pg], (restP l pk).flatMap flP.c, k, l.length - k⟩ J0) ⟨0, .slice none 0 0, 0, .slice none 0 0, .slice none 0 0, .slice none 0 0⟩ (by kernel_rfl) (by kernel_rfl) (fun _ => rfl) (by kernel_rfl) (tas.start _ _ _) ?each ?fin
        case each =>
          refine ⟨tas.st0 (x := J0) (d := 40) (idx := 0) J0_up (by simp) rfl (by simp) (fun g => rfl) (fun g => rfl) (fun g e => rfl) (fun s W => by simp [execOp, go_sem]), ?_⟩
          refine ⟨tas.quiet (by decide) (by simp) (.slice (some ⟨g, 0, none⟩) l.length c) (by rintro s _ ⟨⟩; exact dk.sets_on _ (by simp) _ rfl) (fun s W h => by simp [execOp, go_sem, Act.eval, dk.sets_get, ws, List.lookup]), ?_⟩
          refine ⟨tas.quiet (by decide) (by simp) (.int .i64 k) (by rintro s _ ⟨⟩; exact dk.sets_on _ (by simp) _ rfl) (fun s W h => by simp [execOp, go_sem, Act.eval, dk.sets_get, ws, List.lookup]), ?_⟩
          refine ⟨tas.quiet (by decide) (by simp) (.slice (some ⟨g, 0, none⟩) k c) (by rintro s _ ⟨⟩; exact dk.sets_on _ (by simp) _ rfl) (fun s W h => by simp [execOp, go_sem, Act.eval, dk.sets_get, ws, List.lookup, r9]), ?_⟩
          refine ⟨tas.st1 (x := J0) (d := 44) (s1 := 40) (s2 := 43) (idx := 4) (c := c) (a := ⟨g, 0, none⟩) J0_up Tryz.underlying24 hi hz0 hz1 hz2 rfl (by show 0 < 3; decide) rfl rfl ⟨by simp, by simp, by simp⟩ (fun g => rfl) (fun g => rfl) (fun g => rfl) (fun g => rfl) (fun g v => rfl) (by show ((l.take k).flatMap flP.c).length = k * 3; rw [flat_len flP.c_len, List.length_take]; congr 1; omega) (fun W hb => news_take (HSX2.out.inn hb) k) (sct.oneP _) (by show k ≤ 1048576; omega) (by show (0 + k) * 40 ≤ 140737488355328; omega) ⟨⟨0, .data⟩, by simp, rfl, rfl⟩, ?_⟩
          refine ⟨tas.quiet (by decide) (by simp) (.agg #[.string pk, .string pv, .bool pg]) (by rintro s _ ⟨⟩; exact dk.sets_on _ (by simp) _ rfl) (fun s W h => by have hh := h _ _ HA2.out; have c0 : W.cell? ⟨w.heap.size, 0, none⟩ = some (.string pk) := bcell hh rfl; have c1 : W.cell? ⟨w.heap.size, 1, none⟩ = some (.string pv) := bcell hh rfl; have c2 : W.cell? ⟨w.heap.size, 2, none⟩ = some (.bool pg) := bcell hh rfl; simp [execOp, go_sem, Act.eval, dk.sets_get, ws, List.lookup, c0, c1, c2]), ?_⟩
          refine ⟨tas.st2 (x := J0) (d := 46) (idx := 6) J0_up (by simp) rfl (by simp) (fun g => rfl) (fun g => rfl) (fun g e => rfl) (fun s W => by simp [execOp, go_sem, Act.eval, dk.sets_get, ws, List.lookup]), ?_⟩
          refine ⟨tas.st3 (x := J0) (d := 47) (s1 := 44) (s2 := 46) (idx := 7) J0_up Tryz.underlying24 hi hz0 hz1 hz2 rfl (by show 0 < 3; decide) rfl rfl ⟨by simp, by simp, by simp⟩ (fun g => rfl) (fun g => rfl) (fun g => rfl) (fun g => rfl) (fun g v => rfl) rfl (by intro u hu; simp at hu; rcases hu with rfl | rfl | rfl <;> rfl) (by show k ≤ 1048576; omega) (by show (k + 1) * 40 ≤ 140737488355328; omega) ⟨⟨4, .data⟩, by simp, rfl, rfl⟩ ⟨⟨6, .data⟩, by simp, rfl, rfl⟩, ?_⟩
          refine ⟨tas.quiet (by decide) (by simp) (.slice (some ⟨g, k * 3, none⟩) (l.length - k) (c - k)) (by rintro s _ ⟨⟩; exact dk.sets_on _ (by simp) _ rfl) (fun s W h => by simp [execOp, go_sem, Act.eval, dk.sets_get, ws, List.lookup]), ?_⟩
          refine ⟨tas.st4 (x := J0) (d := 49) (s1 := 47) (s2 := 48) (idx := 9) (c := c - k) (a := ⟨g, k * 3, none⟩) J0_up Tryz.underlying24 hi hz0 hz1 hz2 rfl (by show 0 < 3; decide) rfl rfl ⟨by simp, by simp, by simp⟩ (fun g => rfl) (fun g => rfl) (fun g => rfl) (fun g => rfl) (fun g v => rfl) (by show ((restP l pk).flatMap flP.c).length = (l.length - k) * 3; rw [flat_len flP.c_len, HRL.out]) (fun W hb => by rw [HRE.out]; intro j u hu; simp at hu) (sct.oneP _) (by show k ≤ 1048576 ∧ l.length - k ≤ 1048576; omega) (by show (k + 1 + (l.length - k)) * 40 ≤ 140737488355328; omega) ⟨⟨7, .data⟩, by simp, rfl, rfl⟩, ?_⟩
          exact ⟨tas.st5 (x := J0) (d := 4) (s1 := 49) (idx := 10) J0_up rfl rfl ⟨by simp, by simp⟩ (fun g => rfl) (fun g => rfl) (fun g => rfl) (fun g v => rfl) ⟨⟨9, .data⟩, by simp, rfl, rfl⟩, trivial⟩
        case fin =>
          intro s L X3 hL hC
          obtain ⟨hbl, hv4, hown⟩ := tas.done hC J0_up (N := 11) (by decide) hL
          replace hbl : Below X2.heap.size X2 X3 := hbl
          replace hown : X3.ownsRow X2.heap.size 49 3 s.v3 (k + 1 + (l.length - k)) ((l.take k).flatMap flP.c ++ [.string pk, .string pv, .bool pg] ++ (restP l pk).flatMap flP.c) := hown
          have hlen : k + 1 + (l.length - k) = (setP l ⟨pk, pv, pg⟩).length := by unfold setP; rw [HP.out, List.length_append, List.length_cons, List.length_take, HRL.out]; omega
          have hfl : (l.take k).flatMap flP.c ++ [.string pk, .string pv, .bool pg] ++ (restP l pk).flatMap flP.c = (setP l ⟨pk, pv, pg⟩).flatMap flP.c := by unfold setP; rw [HP.out]; simp [flP.c]
          rw [hlen, hfl] at hown
          obtain ⟨g5, c5, hv3⟩ : ∃ g5 c5, s.v3 = .slice (some ⟨g5, 0, none⟩) (setP l ⟨pk, pv, pg⟩).length c5 := by
            obtain ⟨_, ⟨_, h0⟩ | ⟨g6, cap, cur, e, _⟩⟩ := hown
            · omega
            · exact ⟨g6, cap, e⟩
          rw [hv3] at hown hv4
          have HW : Hid (X3.ownsRow X2.heap.size 49 3 (.slice (some ⟨g5, 0, none⟩) (setP l ⟨pk, pv, pg⟩).length c5) (setP l ⟨pk, pv, pg⟩).length ((setP l ⟨pk, pv, pg⟩).flatMap flP.c)) := hown
          have HBL : Hid (Below X2.heap.size X2 X3) := hbl
          have HV4 : Hid (s.v4 = .slice (some ⟨g5, 0, none⟩) (setP l ⟨pk, pv, pg⟩).length c5) := hv4
          clear hC hL hbl hown hlen hfl hv3 hv4
          go_wp2
          refine bodyPost_ret (v := .slice (some ⟨g5, 0, none⟩) (setP l ⟨pk, pv, pg⟩).length c5) (by simp [results, Tryz.results80, go_sem, dk.sets_get, ws, List.lookup, HV4.out]) rfl ?_
          exact ⟨g5, c5, rfl, sct.own_low HW.out (by omega), hb.trans ((HBX2.out.trans (HBL.out.mono HBX2.out.size)).mono hb.size)⟩
end Go.Proofs.YtlgcciaebkfnjaaGreatDoor.pss

/- The specification's l07Set, beside the tables' own texts. -/


/- The specification's TableScan. -/
namespace Go.Proofs.YtlgcciaebkfnjaaGreatDoor.scs
open Go.ChangeShapes Go.WideShapes Go.ChangeAt Go.RowKit Go.Proofs.YtlgcciaebkfnjaaGreatDoor.fl Go.Proofs.YtlgcciaebkfnjaaGreatDoor.rn Go.Proofs.YtlgcciaebkfnjaaGreatDoor.rc Go.Proofs.YtlgcciaebkfnjaaGreatDoor.ro Go.Proofs.YtlgcciaebkfnjaaGreatDoor.tk Go.Proofs.YtlgcciaebkfnjaaGreatDoor.tko Go.Proofs.YtlgcciaebkfnjaaGreatDoor.sci
set_option linter.unusedVariables false

theorem news_row {w : World} {B : Nat} {p : Addr} {l : List flP.Pr} (h : Row flP.c 3 w B (some p) l) : ∀ j u, (l.flatMap flP.c)[j]? = some u → w.cell? (p.add j) = some u := fun j u hu => by
  rcases h with rfl | ⟨b, off, e, hlt, hc⟩
  · simp at hu
  · cases e
    obtain ⟨i, x, r, h1, h2, rfl⟩ := flat_get flP.c_len l j u hu
    have e2 : (⟨b, off, none⟩ : Addr).add (i * 3 + r) = ⟨b, off + i * 3 + r, none⟩ := by unfold Addr.add; split <;> simp_all <;> omega
    rw [e2]
    exact hc i x h1 r u h2
theorem one_all (l : List flP.Pr) : ∀ u ∈ l.flatMap flP.c, u.oneCell' = true := fun u hu => by
  obtain ⟨e, _, he⟩ := List.mem_flatMap.1 hu
  simp [flP.c] at he
  rcases he with rfl | rfl | rfl <;> rfl
/-- a growing list of pairs, never nil -/
def Al (B : Nat) (v : Value) (all : List flP.Pr) (w : World) : Prop := ∃ g c, v = .slice (some ⟨g, 0, none⟩) all.length c ∧ w.ownsRow B 49 3 v all.length (all.flatMap flP.c)

theorem Al.on {B : Nat} {v : Value} {all : List flP.Pr} {w w' : World} (h : Al B v all w) (hb : Below w.heap.size w w') : Al B v all w' := by
  obtain ⟨g, c, h1, h2⟩ := h
  exact ⟨g, c, h1, own_stay h2 hb⟩
theorem Al.row {B g c : Nat} {all : List flP.Pr} {w : World} (h : Al B (.slice (some ⟨g, 0, none⟩) all.length c) all w) : Row flP.c 3 w w.heap.size (some ⟨g, 0, none⟩) all ∧ all.length ≤ c := by
  obtain ⟨_, _, _, h2⟩ := h
  obtain ⟨a, cap, h3, h4⟩ := own_row flP.c_len h2
  cases h3
  refine ⟨h4, ?_⟩
  rcases h2.2 with ⟨h5, _⟩ | ⟨g', cap', cur, h5, _, _, h6, _⟩
  · cases h5
  · cases h5; exact h6
/-- what stands: the list, and what it is -/
structure Sp (w1 : World) (L : List (List flP.Pr)) (m : Nat) (v : Value) (all : List flP.Pr) (wr : World) : Prop where
  al : Al w1.heap.size v all wr
  bel : Below w1.heap.size w1 wr
  is : mgp.Is L all
  len : all.length ≤ m
theorem Sp.on {w1 : World} {L : List (List flP.Pr)} {m : Nat} {v : Value} {all : List flP.Pr} {wr w' : World} (h : Sp w1 L m v all wr) (hb : Below wr.heap.size wr w') : Sp w1 L m v all w' := ⟨h.al.on hb, h.bel.trans (hb.mono h.bel.size), h.is, h.len⟩
theorem take_app {L : List (List flP.Pr)} {i : Nat} {l : List flP.Pr} (h : L[i]? = some l) (ys : List flP.Pr) : (ys :: L.take i) ++ [l] = ys :: L.take (i + 1) := by
  obtain ⟨hl, rfl⟩ := List.getElem?_eq_some_iff.1 h
  rw [List.take_succ_eq_append_getElem hl]
  rfl
theorem asc_take {l : List flP.Pr} {k : Nat} {e : flP.Pr} (h : mgp.Asc l) (hk : l[k]? = some e) : l.take (k + 1) = l.take k ++ [e] ∧ mgp.Asc (l.take k ++ [e]) := by
  obtain ⟨hl, rfl⟩ := List.getElem?_eq_some_iff.1 hk
  have ht : l.take (k + 1) = l.take k ++ [l[k]] := by rw [List.take_succ_eq_append_getElem hl]
  exact ⟨ht, by rw [← ht]; exact h.sublist (List.take_sublist _ _)⟩
theorem fnd_some {l : List flP.Pr} {key : ByteArray} {z : flP.Pr} (h : tg.fnd l key = some z) : z ∈ l ∧ z.k = key := by
  unfold tg.fnd at h
  exact ⟨List.mem_of_find?_eq_some h, by have := List.find?_some h; simpa using this⟩
theorem fnd_no {l : List flP.Pr} {key : ByteArray} (h : tg.fnd l key = none) : ∀ z ∈ l, z.k ≠ key := fun z hz => by
  unfold tg.fnd at h
  have := List.find?_eq_none.1 h z hz
  simpa using this

def S3 (w w9 : World) (gl : Nat) (fr to : ByteArray) (all : List flP.Pr) (k : Nat) (v : Value) (wx : World) : Prop := Below w.heap.size w wx ∧ wx.ownsRow w.heap.size 49 3 v ((all.take k).filter (keep fr to)).length (((all.take k).filter (keep fr to)).flatMap flP.c) ∧ v.ownBlock ≠ some gl ∧ wx.heap[gl]? = w9.heap[gl]? ∧ gl < wx.heap.size

set_option maxRecDepth 100000 in
set_option maxHeartbeats 2000000 in
theorem spec_scan (ys : List flP.Pr) (rs : List Rn) (yp : Addr) (ra : Option Addr) (yc rc : Nat) (fr to : ByteArray) (w : World) (F : tb.Fit ys rs) (hY : Row flP.c 3 w w.heap.size (some yp) ys) (hR : VR w w.heap.size ra rs) :
    Calls Tryz.prog 41 #[.agg #[.slice (some yp) ys.length yc, .slice ra rs.length rc], .string fr, .string to] w fun r w' => ∃ v, r = .returned v ∧ w'.ownsRow w.heap.size 49 3 v (scan ys (rs.map (·.l)) fr to).length ((scan ys (rs.map (·.l)) fr to).flatMap flP.c) ∧ Below w.heap.size w w' := by
  have hb : Below w.heap.size w ((w.alloc (.cells #[.slice (some yp) ys.length yc, .slice ra rs.length rc] 27)).alloc (.cells #[] 49)) := ((Below.refl _ _).alloc (Nat.le_refl _) _).alloc (by simp) _
  have hA := bold (bnew w #[.slice (some yp) ys.length yc, .slice ra rs.length rc] 27) (.cells #[] 49)
  have ho0 : ((w.alloc (.cells #[.slice (some yp) ys.length yc, .slice ra rs.length rc] 27)).alloc (.cells #[] 49)).ownsRow w.heap.size 49 3 (.slice (some ⟨w.heap.size + 1, 0, none⟩) 0 0) 0 [] := by
    have := World.ownsRow_made (base := w.heap.size) (e := 49) (size := 3) (w.alloc (.cells #[.slice (some yp) ys.length yc, .slice ra rs.length rc] 27)) #[] 0 (by simp) (by unfold maxLen; omega) (by simp)
    simpa using this
  obtain ⟨W, hW⟩ : ∃ W, (w.alloc (.cells #[.slice (some yp) ys.length yc, .slice ra rs.length rc] 27)).alloc (.cells #[] 49) = W := ⟨_, rfl⟩
  rw [hW] at hb hA ho0
  have la := (Array.getElem?_eq_some_iff.1 hA).1
  have HA : Hid (W.heap[w.heap.size]? = some (.cells #[.slice (some yp) ys.length yc, .slice ra rs.length rc] 27 (0, 0))) := hA
  have HO0 : Hid (W.ownsRow w.heap.size 49 3 (.slice (some ⟨w.heap.size + 1, 0, none⟩) 0 0) 0 []) := ho0
  have HY : Hid (Row flP.c 3 W W.heap.size (some yp) ys) := hY.inn hb
  have HR : Hid (VR W W.heap.size ra rs) := hR.inn hb
  have HF : Hid (tb.Fit ys rs) := F
  have hok := spec_okb ys rs (some yp) ra yc rc W F HY.out HR.out
  have x0 : W.cell? ⟨w.heap.size, 0, none⟩ = some (.slice (some yp) ys.length yc) := bcell hA rfl
  have x1 : W.cell? ⟨w.heap.size, 1, none⟩ = some (.slice ra rs.length rc) := bcell hA rfl
  obtain ⟨sc, hsc⟩ : ∃ sc, scan ys (rs.map (·.l)) fr to = sc := ⟨_, rfl⟩
  have HSC : Hid (scan ys (rs.map (·.l)) fr to = sc) := hsc
  rw [hsc]
  have la2 := (ho0.lt (w.heap.size + 1) rfl).2
  clear hY hR hA F hsc ho0
  go_enter Tryz.func41, Tryz.ntmps41
  go_wp2_with (go_at_call 59; fail)
  clear hW x0 x1
  refine hok.mono ?_
  rintro e w1 ⟨rfl, hb1⟩
  have hbw1 : Below w.heap.size w w1 := hb.trans (hb1.mono hb.size)
  have HO1 : Hid (w1.ownsRow w.heap.size 49 3 (.slice (some ⟨w.heap.size + 1, 0, none⟩) 0 0) 0 []) := own_stay HO0.out hb1
  clear hok HO0
  cases hob : okB ys (rs.map (·.l)) with
  | false =>
    obtain rfl : sc = [] := by rw [← HSC.out]; unfold scan; rw [hob]; rfl
    clear hob HSC
    go_wp2
    go_ret
    exact ⟨_, rfl, HO1.out, hbw1⟩
  | true =>
    have HOK : Hid (OkT ys (rs.map (·.l))) := okB_true.1 hob
    have hsc : Hid (sc = (nwL (ys :: rs.map (·.l))).filter (keep fr to)) := by unfold Hid; rw [← HSC.out]; unfold scan; rw [hob]; rfl
    have x0 : w1.cell? ⟨w.heap.size, 0, none⟩ = some (.slice (some yp) ys.length yc) := bcell (bstay HA.out hb1 la) rfl
    have x1 : w1.cell? ⟨w.heap.size, 1, none⟩ = some (.slice ra rs.length rc) := bcell (bstay HA.out hb1 la) rfl
    clear hob HSC
    obtain ⟨i0, hi, hz0, hz1, hz2⟩ := info_parts rnw.infoP
    have hbs1 := hb1.size
    have hbw1s := hbw1.size
    have hal1 : Below w1.heap.size w1 (w1.alloc (.cells #[] 49)) := (Below.refl _ _).alloc (Nat.le_refl _) _
    have hmade : (w1.alloc (.cells #[] 49)).ownsRow w1.heap.size 49 3 (.slice (some ⟨w1.heap.size, 0, none⟩) 0 0) 0 [] := World.ownsRow_made w1 #[] 0 (Nat.le_refl _) (by unfold maxLen; omega) (by simp)
    have x0' : (w1.alloc (.cells #[] 49)).cell? ⟨w.heap.size, 0, none⟩ = some (.slice (some yp) ys.length yc) := (hal1.cell (p := ⟨w.heap.size, 0, none⟩) (by show w.heap.size < w1.heap.size; omega)).trans x0
    have hyw : Row flP.c 3 (w1.alloc (.cells #[] 49)) (w1.alloc (.cells #[] 49)).heap.size (some yp) ys := (HY.out.inn hb1).inn hal1
    obtain ⟨X, hX⟩ : ∃ X, w1.alloc (.cells #[] 49) = X := ⟨_, rfl⟩
    rw [hX] at hal1 hmade x0' hyw
    have hyl := HOK.out.yo.ll
    obtain ⟨v', Y, hr, ho, hg, hnil, _⟩ := run_append_own_at (P := Tryz.prog) X w1.heap.size 24 24 49 i0 (.agg #[.string ByteArray.empty, .string ByteArray.empty, .bool false]) 3 40 Tryz.underlying24 hi hz0 hz1 hz2 rfl (by decide) _ 0 [] hmade yp ys.length yc (ys.flatMap flP.c) (flat_len flP.c_len ys) (news_row hyw) (one_all ys) (by unfold maxLen; omega) (by omega) hal1.size
    have hbY : Below w1.heap.size w1 Y := hal1.grown hg hal1.size (fun b hb => (hmade.lt b hb).1)
    rw [Nat.zero_add, List.nil_append] at ho
    obtain ⟨ga, ca, rfl⟩ : ∃ ga ca, v' = .slice (some ⟨ga, 0, none⟩) ys.length ca := by
      obtain ⟨_, ⟨rfl, h0⟩ | ⟨g, cap, cur, e, _⟩⟩ := ho
      · have := hnil.1 rfl; cases this.1
      · exact ⟨_, _, e⟩
    have HAL : Hid (Al w1.heap.size (.slice (some ⟨ga, 0, none⟩) ys.length ca) ys Y) := ⟨ga, ca, rfl, ho⟩
    clear hmade hyw ho hg hnil x0 x1 hal1
    go_wp2_with (at_builtin; refine cpr.wpList_append_run rfl _ _ _ _ rfl _ _ _ rfl rfl hr ?_)
    clear hr hX x0' hi hz0 hz1 hz2
    obtain ⟨ls, hls⟩ : ∃ ls, rs.map (·.l) = ls := ⟨_, rfl⟩
    rw [hls] at HOK hsc
    have HLS : Hid (rs.map (·.l) = ls) := hls
    have hrl8 : rs.length ≤ 8 := by have := HOK.out.rl; rw [← hls] at this; simpa using this
    have HSP0 : Hid (Sp w1 (ys :: ls.take 0) (300 * (0 + 1)) (.slice (some ⟨ga, 0, none⟩) ys.length ca) ys Y) := ⟨HAL.out, hbY, by rw [List.take_zero]; exact mgs.is_one (mgp.asc_of HOK.out.yo.up), by omega⟩
    have HBX : Hid (∀ wr, Below w1.heap.size w1 wr → wr.cell? ⟨w.heap.size, 1, none⟩ = some (.slice ra rs.length rc)) := fun wr h => bcell (bstay (bstay HA.out hb1 la) h (by omega)) rfl
    clear hls HAL hbY
    go_loopw [8, 9, 10, 11, 12] (fun v x _ _ _ wr => ∃ (i : Nat) (all : List flP.Pr), i ≤ rs.length ∧ x = .int .i64 i ∧ Hid (Sp w1 (ys :: ls.take i) (300 * (i + 1)) v all wr)) (fun _ x _ _ _ _ => rs.length - (intOf x).toNat)
    case atStart => exact ⟨0, ys, Nat.zero_le _, rfl, HSP0⟩
    case round =>
      obtain ⟨i, all, hil, rfl, hsp⟩ := hrel
      have x1 := HBX.out wr hsp.out.bel
      by_cases hir : i < rs.length
      · have HG : Hid (rs[i]? = some rs[i]) := List.getElem?_eq_getElem hir
        obtain ⟨⟨qa, qc, ql⟩, he⟩ : ∃ e, rs[i] = e := ⟨_, rfl⟩
        rw [he] at HG
        have hrw := HR.out.2 ⟨qa, qc, ql⟩ (List.mem_of_getElem? HG.out)
        have HQR : Hid (Row flP.c 3 W W.heap.size qa ql) := hrw
        obtain ⟨b, off, rfl, hlt, hc⟩ := HR.out.1.resolve_left (by rintro rfl; simp at hir)
        have HRC : Hid (∀ wx, Below w1.heap.size w1 wx → wx.cell? ⟨b, off + i, none⟩ = some (.slice qa ql.length qc)) := fun wx h => by
          have h1 : W.cell? ⟨b, off + i, none⟩ = some (.slice qa ql.length qc) := by have := hc i _ HG.out 0 _ rfl; simpa using this
          exact ((h.cell (p := ⟨b, off + i, none⟩) (by show b < w1.heap.size; omega)).trans (hb1.cell (p := ⟨b, off + i, none⟩) hlt)).trans h1
        have hq : ls[i]? = some ql := by rw [← HLS.out, List.getElem?_map, HG.out]; rfl
        have HQ : Hid (ls[i]? = some ql) := hq
        have hokl := HOK.out.ro i ql hq
        have hql : ql.length ≤ 300 := hokl.ll
        have HQA : Hid (mgp.Asc ql) := mgp.asc_of hokl.up
        have i2 : (i : Int) < (rs.length : Int) := by omega
        have HSI : Hid (Sp w1 ((ys :: ls.take i) ++ [ql.take 0]) (300 * (i + 1) + 0) u8 all wr) := ⟨hsp.out.al, hsp.out.bel, by rw [List.take_zero]; exact mgs.is_nil hsp.out.is, hsp.out.len⟩
        clear he hrw hc hq hokl hsp
        go_wp2
        go_loopw [8, 10, 11, 12] (fun v x _ _ wx => ∃ (k : Nat) (al2 : List flP.Pr), k ≤ ql.length ∧ x = .int .i64 k ∧ Hid (Sp w1 ((ys :: ls.take i) ++ [ql.take k]) (300 * (i + 1) + k) v al2 wx)) (fun _ x _ _ _ => ql.length - (intOf x).toNat)
        case atStart => exact ⟨0, all, Nat.zero_le _, rfl, HSI⟩
        case round =>
          obtain ⟨k, al2, hkl, rfl, hsi⟩ := hrel
          have y1 := HBX.out _ hsi.out.bel
          have yr := HRC.out _ hsi.out.bel
          by_cases hk : k < ql.length
          · have HE : Hid (ql[k]? = some ql[k]) := List.getElem?_eq_getElem hk
            obtain ⟨⟨pk, pv, pg⟩, hpe⟩ : ∃ e, ql[k] = e := ⟨_, rfl⟩
            rw [hpe] at HE
            obtain ⟨qb, qo, rfl, hqlt, hqc⟩ := HQR.out.resolve_left (by rintro rfl; simp at hk)
            have HPC : Hid (∀ wx, Below w1.heap.size w1 wx → wx.cell? ⟨qb, qo + k * 3, none⟩ = some (.string pk) ∧ wx.cell? ⟨qb, qo + k * 3 + 1, none⟩ = some (.string pv) ∧ wx.cell? ⟨qb, qo + k * 3 + 2, none⟩ = some (.bool pg)) := fun wx h => by
              have go : ∀ (o : Nat) (v : Value), W.cell? ⟨qb, o, none⟩ = some v → wx.cell? ⟨qb, o, none⟩ = some v := fun o v hv => ((h.cell (p := ⟨qb, o, none⟩) (by show qb < w1.heap.size; omega)).trans (hb1.cell (p := ⟨qb, o, none⟩) hqlt)).trans hv
              exact ⟨go _ _ (hqc k _ HE.out 0 _ rfl), go _ _ (hqc k _ HE.out 1 _ rfl), go _ _ (hqc k _ HE.out 2 _ rfl)⟩
            obtain ⟨p0, _, _⟩ := HPC.out wr hsi.out.bel
            obtain ⟨gl, cl, rfl, _⟩ := hsi.out.al
            have hln : al2.length ≤ 3000 := by have := hsi.out.len; omega
            have hfi := tg.spec_find al2 (some ⟨gl, 0, none⟩) cl pk wr (by omega) hsi.out.al.row.1
            obtain ⟨hT1, hT2⟩ := asc_take HQA.out HE.out
            have HOLD : Hid (∀ z, tg.fnd al2 pk = some z → mgp.Is ((ys :: ls.take i) ++ [ql.take (k + 1)]) al2) := fun z hz => by rw [hT1]; exact mgs.is_old hsi.out.is hT2 (fnd_some hz).1 (fnd_some hz).2
            have HNEW : Hid (tg.fnd al2 pk = none → mgp.Is ((ys :: ls.take i) ++ [ql.take (k + 1)]) (ptp.setP al2 ⟨pk, pv, pg⟩)) := fun hz => by rw [hT1]; exact mgs.is_new hsi.out.is (fnd_no hz)
            obtain ⟨fo, hfo⟩ : ∃ fo, tg.fnd al2 pk = fo := ⟨_, rfl⟩
            rw [hfo] at hfi HOLD HNEW
            obtain ⟨⟨fk, fv, fg⟩, hfp⟩ : ∃ e, fo.getD tg.p0 = e := ⟨_, rfl⟩
            rw [hfp] at hfi
            have i3 : (k : Int) < (ql.length : Int) := by omega
            clear hpe hqc hT1 hT2 hfo hfp
            cases fo with
            | some z =>
              have hfi : Calls Tryz.prog 79 #[.slice (some ⟨gl, 0, none⟩) al2.length cl, .string pk] wr fun r w' => r = .returned (.tuple #[.agg #[.string fk, .string fv, .bool fg], .bool true]) ∧ Below wr.heap.size wr w' := hfi
              go_wp2_with (go_at_call 79; fail)
              refine hfi.mono ?_
              rintro e w2 ⟨rfl, hb2⟩
              have hb2' : Below wr.heap.size wr (w2.alloc (.cells #[.string fk, .string fv, .bool fg] 49)) := hb2.alloc hb2.size _
              have HN : Hid (Sp w1 ((ys :: ls.take i) ++ [ql.take (k + 1)]) (300 * (i + 1) + (k + 1)) (.slice (some ⟨gl, 0, none⟩) al2.length cl) al2 (w2.alloc (.cells #[.string fk, .string fv, .bool fg] 49))) := by
                have h := hsi.out.on hb2'
                exact ⟨h.al, h.bel, HOLD.out z rfl, by have := h.len; omega⟩
              clear hfi hsi HOLD HNEW p0 y1 yr
              go_wp2
              go_roundw
              case rel => exact ⟨k + 1, al2, by omega, by go_num, HN⟩
              case measure => simp [intOf]; omega
            | none =>
              have hfi : Calls Tryz.prog 79 #[.slice (some ⟨gl, 0, none⟩) al2.length cl, .string pk] wr fun r w' => r = .returned (.tuple #[.agg #[.string fk, .string fv, .bool fg], .bool false]) ∧ Below wr.heap.size wr w' := hfi
              go_wp2_with (go_at_call 79; fail)
              refine hfi.mono ?_
              rintro e w2 ⟨rfl, hb2⟩
              have hb2' : Below wr.heap.size wr (w2.alloc (.cells #[.string fk, .string fv, .bool fg] 49)) := hb2.alloc hb2.size _
              have HSX : Hid (Sp w1 ((ys :: ls.take i) ++ [ql.take k]) (300 * (i + 1) + k) (.slice (some ⟨gl, 0, none⟩) al2.length cl) al2 (w2.alloc (.cells #[.string fk, .string fv, .bool fg] 49))) := hsi.out.on hb2'
              have hset := pss.spec_set al2 gl cl pk pv pg (w2.alloc (.cells #[.string fk, .string fv, .bool fg] 49)) (by omega) HSX.out.al.row.2 HSX.out.al.row.1
              obtain ⟨q0, q1, q2⟩ := HPC.out _ HSX.out.bel
              have z1 := HBX.out _ HSX.out.bel
              have zr := HRC.out _ HSX.out.bel
              clear hfi hsi HOLD p0 y1 yr hb2'
              go_wp2_with (go_at_call 80; fail)
              refine hset.mono ?_
              rintro e w3 ⟨g2, c2, rfl, ho3, hb3⟩
              have hXs := HSX.out.bel.size
              have HN : Hid (Sp w1 ((ys :: ls.take i) ++ [ql.take (k + 1)]) (300 * (i + 1) + (k + 1)) (.slice (some ⟨g2, 0, none⟩) (ptp.setP al2 ⟨pk, pv, pg⟩).length c2) (ptp.setP al2 ⟨pk, pv, pg⟩) w3) :=
                ⟨⟨g2, c2, rfl, sct.own_low ho3 hXs⟩, HSX.out.bel.trans (hb3.mono hXs), HNEW.out (by trivial), by have := HSX.out.len; have := ptp.setP_le al2 ⟨pk, pv, pg⟩; omega⟩
              clear hset ho3 hb3 HSX HNEW q0 q1 q2 z1 zr
              go_wp2
              go_roundw
              case rel => exact ⟨k + 1, ptp.setP al2 ⟨pk, pv, pg⟩, by omega, by go_num, HN⟩
              case measure => simp [intOf]; omega
          · obtain rfl : k = ql.length := by omega
            have HN : Hid (Sp w1 (ys :: ls.take (i + 1)) (300 * (i + 1 + 1)) u8 al2 wr) := by
              have h := hsi.out
              rw [List.take_length, take_app HQ.out] at h
              exact ⟨h.al, h.bel, h.is, by have := h.len; omega⟩
            clear hsi
            go_wp2
            go_roundw
            case rel => exact ⟨i + 1, al2, by omega, by go_num, HN⟩
            case measure => simp [intOf]; omega
      · obtain rfl : i = rs.length := by omega
        have hlsl : ls.length = rs.length := by rw [← HLS.out]; simp
        have hIs : mgp.Is (ys :: ls) all := by have := hsp.out.is; rw [← hlsl, List.take_length] at this; exact this
        have hall : Hid (sc = all.filter (keep fr to)) := by unfold Hid; rw [hsc.out, nwL_eq hIs]
        have hln : all.length ≤ 3000 := by have := hsp.out.len; omega
        have HSP : Hid (Sp w1 (ys :: ls.take rs.length) (300 * (rs.length + 1)) u8 all wr) := hsp.out
        obtain ⟨gl, cl, rfl, _⟩ := hsp.out.al
        have HRW : Hid (Row flP.c 3 wr wr.heap.size (some ⟨gl, 0, none⟩) all) := hsp.out.al.row.1
        have HGL : Hid (w1.heap.size ≤ gl ∧ gl < wr.heap.size) := by
          obtain ⟨_, _, _, h2⟩ := hsp.out.al
          exact h2.lt gl rfl
        have HOO : Hid (wr.ownsRow w.heap.size 49 3 (.slice (some ⟨w.heap.size + 1, 0, none⟩) 0 0) 0 []) := own_stay HO1.out hsp.out.bel
        have hbwr : Below w.heap.size w wr := hbw1.trans (hsp.out.bel.mono hbw1s)
        clear hsp hIs hir hil hlsl HSP
        obtain ⟨i0, hi, hz0, hz1, hz2⟩ := info_parts rnw.infoP
        have hgl1 := HGL.out
        go_wp2
        obtain ⟨w9, hw9⟩ : ∃ w9, wr = w9 := ⟨wr, rfl⟩
        rw [hw9] at hbwr HOO HRW HGL hgl1 ⊢
        clear hw9
        go_loopw [7, 13] (fun v x wx => ∃ k : Nat, k ≤ all.length ∧ x = .int .i64 k ∧ Hid (S3 w w9 gl fr to all k v wx)) (fun _ x _ => all.length - (intOf x).toNat)
        case atStart => exact ⟨0, Nat.zero_le _, rfl, ⟨hbwr, HOO.out, by show some (w.heap.size + 1) ≠ some gl; intro h; have := Option.some.inj h; omega, rfl, hgl1.2⟩⟩
        case round =>
          obtain ⟨k, hk, rfl, hst⟩ := hrel
          by_cases hkl : k < all.length
          · obtain ⟨s1, s2, s3, s4, s5⟩ := hst.out
            have s6 := s1.size
            have HG : Hid (all[k]? = some all[k]) := List.getElem?_eq_getElem hkl
            obtain ⟨⟨pk, pv, pg⟩, he⟩ : ∃ e, all[k] = e := ⟨_, rfl⟩
            rw [he] at HG
            obtain ⟨b, off, hbo, hlt, hc⟩ := HRW.out.resolve_left (by rintro rfl; simp at hkl)
            cases hbo
            have go : ∀ (o : Nat) (v : Value), w9.cell? ⟨gl, o, none⟩ = some v → wr.cell? ⟨gl, o, none⟩ = some v := fun o v hv => (World.cell?_of_block (a := ⟨gl, o, none⟩) s4).trans hv
            have c0 : wr.cell? ⟨gl, k * 3, none⟩ = some (.string pk) := go _ _ (by have := hc k _ HG.out 0 _ rfl; simpa using this)
            have c1 : wr.cell? ⟨gl, k * 3 + 1, none⟩ = some (.string pv) := go _ _ (by have := hc k _ HG.out 1 _ rfl; simpa using this)
            have c2 : wr.cell? ⟨gl, k * 3 + 2, none⟩ = some (.bool pg) := go _ _ (by have := hc k _ HG.out 2 _ rfl; simpa using this)
            have i2 : (k : Int) < (all.length : Int) := by omega
            have hlen : ((all.take k).filter (keep fr to)).length ≤ 3000 := by have := List.length_filter_le (keep fr to) (all.take k); rw [List.length_take] at this; omega
            clear he hc go
            cases pg with
            | true =>
              have HN : Hid ((all.take (k + 1)).filter (keep fr to) = (all.take k).filter (keep fr to)) := next_no HG.out (by simp [keep])
              have hst2 : Hid (S3 w w9 gl fr to all (k + 1) u7 wr) := by
                unfold Hid S3
                rw [HN.out]
                exact hst.out
              go_wp2
              go_roundw
              case rel => exact ⟨k + 1, by omega, by go_num, hst2⟩
              case measure => simp [intOf]; omega
            | false =>
              cases hge : Op.bytesLess pk.toList fr.toList with
              | true =>
                have hkp : keep fr to ⟨pk, pv, false⟩ = false := keep_no hge
                have HN : Hid ((all.take (k + 1)).filter (keep fr to) = (all.take k).filter (keep fr to)) := next_no HG.out (hkp)
                have hst2 : Hid (S3 w w9 gl fr to all (k + 1) u7 wr) := by
                  unfold Hid S3
                  rw [HN.out]
                  exact hst.out
                go_wp2
                go_roundw
                case rel => exact ⟨k + 1, by omega, by go_num, hst2⟩
                case measure => simp [intOf]; omega
              | false =>
                by_cases hto : to = ⟨#[]⟩
                · subst hto
                  have hkp : keep fr ⟨#[]⟩ ⟨pk, pv, false⟩ = true := keep_all hge
                  have HN : Hid ((all.take (k + 1)).filter (keep fr ⟨#[]⟩) = (all.take k).filter (keep fr ⟨#[]⟩) ++ [⟨pk, pv, false⟩]) := next_yes HG.out (hkp)
                  have hal5 : Below wr.heap.size wr (wr.alloc (.cells #[.string pk, .string pv, .bool false] 49)) := (Below.refl _ _).alloc (Nat.le_refl _) _
                  obtain ⟨v', Y4, hr, ho, hg, _, hat⟩ := run_append_own_at (P := Tryz.prog) (wr.alloc (.cells #[.string pk, .string pv, .bool false] 49)) w.heap.size 24 24 49 i0 (.agg #[.string ByteArray.empty, .string ByteArray.empty, .bool false]) 3 40 Tryz.underlying24 hi hz0 hz1 hz2 rfl (by decide) u7 _ _ (own_stay s2 hal5) ⟨wr.heap.size, 0, none⟩ 1 1 [.string pk, .string pv, .bool false] rfl (fun j u hu => by rw [pap.add0]; exact bcell (bnew wr _ _) (by simpa using hu)) (by intro u hu; simp at hu; rcases hu with rfl | rfl | rfl <;> rfl) (by unfold maxLen; omega) (by omega) (by simp; omega)
                  have hst2 : Hid (S3 w w9 gl fr ⟨#[]⟩ all (k + 1) v' Y4) := by
                    unfold Hid S3
                    rw [HN.out, List.length_append, List.flatMap_append]
                    have hgs := hg.size
                    simp at hgs
                    refine ⟨(s1.alloc (by omega) _).grown hg (by simp; omega) (fun b hb => (s2.lt b hb).1), by simpa [flP.c] using ho, ?_, ((hg.block gl (by simp; omega) (Ne.symm s3)).trans (hal5.block gl s5)).trans s4, by omega⟩
                    rcases hat with h | h
                    · rw [h]; exact s3
                    · rw [h]; intro h2; have := Option.some.inj h2; simp at this; omega
                  clear ho hg hal5 hst hat s1 s2 s3 s4
                  go_wp2_with (at_builtin; refine cpr.wpList_append_run rfl _ _ _ _ rfl _ _ _ rfl rfl hr ?_)
                  go_roundw
                  case rel => exact ⟨k + 1, by omega, by go_num, hst2⟩
                  case measure => simp [intOf]; omega
                · have hto2 : (to.toList == ([] : List UInt8)) = false := (emp_eq hto).1
                  have hto3 : to.toList ≠ [] := by simpa using hto2
                  have hto4 : to.toList.isEmpty = false := by simpa using hto3
                  cases hlt2 : Op.bytesLess pk.toList to.toList with
                  | false =>
                    have hkp : keep fr to ⟨pk, pv, false⟩ = false := keep_over hto hlt2
                    have HN : Hid ((all.take (k + 1)).filter (keep fr to) = (all.take k).filter (keep fr to)) := next_no HG.out (hkp)
                    have hst2 : Hid (S3 w w9 gl fr to all (k + 1) u7 wr) := by
                      unfold Hid S3
                      rw [HN.out]
                      exact hst.out
                    go_wp2
                    go_roundw
                    case rel => exact ⟨k + 1, by omega, by go_num, hst2⟩
                    case measure => simp [intOf]; omega
                  | true =>
                    have hkp : keep fr to ⟨pk, pv, false⟩ = true := keep_in hge hlt2
                    have HN : Hid ((all.take (k + 1)).filter (keep fr to) = (all.take k).filter (keep fr to) ++ [⟨pk, pv, false⟩]) := next_yes HG.out (hkp)
                    have hal5 : Below wr.heap.size wr (wr.alloc (.cells #[.string pk, .string pv, .bool false] 49)) := (Below.refl _ _).alloc (Nat.le_refl _) _
                    obtain ⟨v', Y4, hr, ho, hg, _, hat⟩ := run_append_own_at (P := Tryz.prog) (wr.alloc (.cells #[.string pk, .string pv, .bool false] 49)) w.heap.size 24 24 49 i0 (.agg #[.string ByteArray.empty, .string ByteArray.empty, .bool false]) 3 40 Tryz.underlying24 hi hz0 hz1 hz2 rfl (by decide) u7 _ _ (own_stay s2 hal5) ⟨wr.heap.size, 0, none⟩ 1 1 [.string pk, .string pv, .bool false] rfl (fun j u hu => by rw [pap.add0]; exact bcell (bnew wr _ _) (by simpa using hu)) (by intro u hu; simp at hu; rcases hu with rfl | rfl | rfl <;> rfl) (by unfold maxLen; omega) (by omega) (by simp; omega)
                    have hst2 : Hid (S3 w w9 gl fr to all (k + 1) v' Y4) := by
                      unfold Hid S3
                      rw [HN.out, List.length_append, List.flatMap_append]
                      have hgs := hg.size
                      simp at hgs
                      refine ⟨(s1.alloc (by omega) _).grown hg (by simp; omega) (fun b hb => (s2.lt b hb).1), by simpa [flP.c] using ho, ?_, ((hg.block gl (by simp; omega) (Ne.symm s3)).trans (hal5.block gl s5)).trans s4, by omega⟩
                      rcases hat with h | h
                      · rw [h]; exact s3
                      · rw [h]; intro h2; have := Option.some.inj h2; simp at this; omega
                    clear ho hg hal5 hst hat s1 s2 s3 s4
                    go_wp2_with (at_builtin; refine cpr.wpList_append_run rfl _ _ _ _ rfl _ _ _ rfl rfl hr ?_)
                    go_roundw
                    case rel => exact ⟨k + 1, by omega, by go_num, hst2⟩
                    case measure => simp [intOf]; omega
          · obtain rfl : k = all.length := by omega
            have HFN : Hid (wr.ownsRow w.heap.size 49 3 u7 sc.length (sc.flatMap flP.c) ∧ Below w.heap.size w wr) := by
              unfold Hid
              have h2 := hst.out.2.1
              rw [List.take_length] at h2
              rw [hall.out]
              exact ⟨h2, hst.out.1⟩
            clear hst
            go_wp2
            go_ret
            exact ⟨_, rfl, HFN.out⟩
end Go.Proofs.YtlgcciaebkfnjaaGreatDoor.scs
