/- The text that the laws mark a list with: laws.markText. -/
import Derived.Test.YtnooibeohdfcmaaGreatDoorRw10
import Derived.Deep.QuietTactic
import Derived.BigQuiet
import Derived.Test.YtnooibeohdfcmaaGreatDoorFlatOwn
import Derived.ArgAppend
import Derived.Lib.SliceRun
import Derived.Maps.AppendAt
import Derived.Test.YtnooibeohdfcmaaGreatDoorRows
import Derived.WalkKit
import Derived.WalkLawsBesides
import Derived.WalkSpells
import Derived.ProofKit
import Derived.OpenShut
import Derived.ShutString
import Derived.Laws.BytesArg
import Derived.Lib.ItoaNum
import Derived.Lib.Strings
import Derived.Deep.RegionWith

/- The specification's l04Put: an ascending list of texts with one more. -/
namespace Go.Proofs.YtnooibeohdfcmaaGreatDoor.ptt
open Go.ChangeShapes Go.WideShapes Go.ChangeAt Go.RowKit Go.Proofs.YtnooibeohdfcmaaGreatDoor.fl Go.Proofs.YtnooibeohdfcmaaGreatDoor.rc Go.Proofs.YtnooibeohdfcmaaGreatDoor.ro Go.Proofs.YtnooibeohdfcmaaGreatDoor.rtp
set_option linter.unusedVariables false

def cS (s : ByteArray) : List Value := [.string s]
theorem cS_len (s : ByteArray) : (cS s).length = 1 := rfl
theorem row_cell {w : World} {B g k : Nat} {l : List ByteArray} {e : ByteArray} (h : Row cS 1 w B (some ⟨g, 0, none⟩) l) (he : l[k]? = some e) : w.cell? ⟨g, k, none⟩ = some (.string e) := by
  rcases h with h0 | ⟨b', off', hh, hlt, hc⟩
  · rw [h0] at he; simp at he
  · cases hh
    have := hc k _ he 0 _ rfl
    simpa using this
theorem bdrewN {B : Nat} {a w : World} (h : Below B a w) (n : Nat) : Below B a (w.drewN n) := ⟨h.os, h.tape, h.output, h.size, h.block⟩
theorem add_at (g o j : Nat) : (⟨g, o, none⟩ : Addr).add j = ⟨g, o + j, none⟩ := by unfold Addr.add; split <;> simp_all
theorem infoS : ∃ i0, Tryz.prog.info? 9 = some i0 ∧ i0.zero = some (.string ByteArray.empty) ∧ i0.size = 1 ∧ i0.bytes = 16 := by
  have h : (Tryz.prog.info? 9).map (fun i => (i.zero, i.size, i.bytes)) = some (some (.string ByteArray.empty), 1, 16) := by kernel_rfl
  cases hh : Tryz.prog.info? 9 with
  | none => rw [hh] at h; cases h
  | some i => rw [hh] at h; simp at h; exact ⟨i, rfl, h.1, h.2.1, h.2.2⟩
theorem newsS {w : World} {a B : Nat} {l : List ByteArray} (h : Row cS 1 w B (some ⟨a, 0, none⟩) l) : ∀ (j : Nat) (u : Value), (l.flatMap cS)[j]? = some u → w.cell? ⟨a, j, none⟩ = some u := fun j u hu => by
  obtain ⟨i, e, r, h1, h2, rfl⟩ := flat_get cS_len l j u hu
  rcases h with rfl | ⟨g, off, ha, _, hc⟩
  · simp at h1
  · cases ha
    have := hc i e h1 r u h2
    rw [Nat.zero_add] at this
    exact this
theorem oneS (l : List ByteArray) : ∀ u ∈ l.flatMap cS, u.oneCell' = true := fun u hu => by
  obtain ⟨e, _, he⟩ := List.mem_flatMap.1 hu
  simp [cS] at he
  subst he
  rfl
theorem take_drop_flat (l : List ByteArray) (k : Nat) : l.flatMap cS = (l.take k).flatMap cS ++ (l.drop k).flatMap cS := by rw [← List.flatMap_append, List.take_append_drop]
theorem news_take {w : World} {B g : Nat} {l : List ByteArray} (h : Row cS 1 w B (some ⟨g, 0, none⟩) l) (k : Nat) : ∀ (j : Nat) (u : Value), ((l.take k).flatMap cS)[j]? = some u → w.cell? ((⟨g, 0, none⟩ : Addr).add j) = some u := fun j u hu => by
  rw [add_at, Nat.zero_add]
  refine newsS h j u ?_
  rw [take_drop_flat l k, List.getElem?_append_left (List.getElem?_eq_some_iff.1 hu).1]
  exact hu
theorem news_drop {w : World} {B g : Nat} {l : List ByteArray} (h : Row cS 1 w B (some ⟨g, 0, none⟩) l) (k : Nat) (hk : k ≤ l.length) : ∀ (j : Nat) (u : Value), ((l.drop k).flatMap cS)[j]? = some u → w.cell? ((⟨g, k, none⟩ : Addr).add j) = some u := fun j u hu => by
  have hlen : ((l.take k).flatMap cS).length = k := by rw [flat_len cS_len, List.length_take]; omega
  rw [add_at]
  refine newsS h (k + j) u ?_
  rw [take_drop_flat l k, List.getElem?_append_right (by omega), hlen, show k + j - k = j by omega]
  exact hu

def ws (g n c k o m cc : Nat) (x : ByteArray) (s : tas.G) : List (Nat × Value) := [(33, .slice (some ⟨s.e0, 0, none⟩) 0 0), (34, .slice (some ⟨g, 0, none⟩) n c), (35, .int .i64 k), (36, .slice (some ⟨g, 0, none⟩) k c), (37, s.v1), (38, .string x), (39, .slice (some ⟨s.h, 0, none⟩) 1 1), (40, s.v2), (41, .slice (some ⟨g, 0, none⟩) n c), (42, .int .i64 k), (43, .slice (some ⟨g, o, none⟩) m cc), (44, s.v3), (4, s.v4)]
def J0 : tas.J := ⟨0, 4, 6, 7, 11, 12⟩
theorem J0_up : J0.up := ⟨by decide, by decide, by decide, by decide, by decide⟩

theorem row_of {W : World} {B g c : Nat} {l : List ByteArray} (h : W.ownsRow B 9 1 (.slice (some ⟨g, 0, none⟩) l.length c) l.length (l.flatMap cS)) : Row cS 1 W W.heap.size (some ⟨g, 0, none⟩) l ∧ l.length ≤ c := by
  refine ⟨?_, ?_⟩
  · obtain ⟨a, cap, e, hr⟩ := own_row cS_len h
    have e2 := (Value.slice.inj e).1
    rw [← e2] at hr
    exact hr
  · obtain ⟨_, ⟨h1, _⟩ | ⟨g', cap, cur, h1, _, _, h4, _⟩⟩ := h
    · cases h1
    · have e2 := (Value.slice.inj h1).2.2
      omega

set_option maxRecDepth 100000 in
set_option maxHeartbeats 4000000 in
theorem spec_put (l : List ByteArray) (g c : Nat) (x : ByteArray) (w : World) (hl : l.length ≤ 1048576) (hlc : l.length ≤ c) (hS : Row cS 1 w w.heap.size (some ⟨g, 0, none⟩) l) :
    Calls Tryz.prog 35 #[.slice (some ⟨g, 0, none⟩) l.length c, .string x] w fun e w' => ∃ g2 c2, e = .returned (.slice (some ⟨g2, 0, none⟩) (putT l x).length c2) ∧ (putT l x).length ≤ c2 ∧ Row cS 1 w' w'.heap.size (some ⟨g2, 0, none⟩) (putT l x) ∧ Below w.heap.size w w' := by
  obtain ⟨i0, hi, hz0, hz1, hz2⟩ := infoS
  have HS : Hid (Row cS 1 w w.heap.size (some ⟨g, 0, none⟩) l) := hS
  clear hS
  go_enter Tryz.func35, Tryz.ntmps35
  go_wp2
  go_loopw [5] (fun v wr => ∃ k : Nat, k ≤ l.length ∧ v = .int .i64 k ∧ Hid (∀ (i : Nat) a, i < k → l[i]? = some a → lt a x = true) ∧ Hid (Below w.heap.size w wr)) (fun v _ => l.length - (intOf v).toNat)
  case atStart => exact ⟨0, Nat.zero_le _, rfl, fun i a h => by omega, Below.refl _ _⟩
  case round =>
    obtain ⟨k, hk, rfl, hn, hB⟩ := hrel
    have HSr : Hid (Row cS 1 wr wr.heap.size (some ⟨g, 0, none⟩) l) := HS.out.inn hB.out
    have r9 : k ≤ c := by omega
    by_cases hkl : k < l.length
    · have f0 : decide ((k : Int) < (l.length : Int)) = true := by simp; omega
      have HG : Hid (l[k]? = some l[k]) := List.getElem?_eq_getElem hkl
      obtain ⟨mk, he⟩ : ∃ e, l[k] = e := ⟨_, rfl⟩
      rw [he] at HG
      have a0 : wr.cell? ⟨g, k, none⟩ = some (.string mk) := row_cell HSr.out HG.out
      have i2 : (k : Int) < (l.length : Int) := by omega
      clear he
      cases hq : Op.bytesLess mk.toList x.toList with
      | true =>
        have hn2 : Hid (∀ (i : Nat) a, i < k + 1 → l[i]? = some a → lt a x = true) := fun i a hi ha => by
          by_cases ei : i = k
          · subst ei; rw [HG.out] at ha; cases ha; exact hq
          · exact hn.out i a (by omega) ha
        go_wp2
        go_roundw
        case rel => exact ⟨k + 1, by omega, by go_num, hn2, hB⟩
        case measure => simp [intOf]; omega
      | false =>
        have HP : Hid (posT l x = k) := posT_eq l x k hk hn.out (fun a ha => by rw [HG.out] at ha; cases ha; exact hq)
        by_cases heq : mk.toList = x.toList
        · have hq2 : (mk.toList == x.toList) = true := by simp [heq]
          have HPT : Hid (putT l x = l) := putT_there HP.out (by rw [HG.out, of_same heq])
          clear heq
          go_wp2
          refine bodyPost_ret (v := .slice (some ⟨g, 0, none⟩) l.length c) (by simp [results, Tryz.results35, go_sem]) rfl ?_
          rw [HPT.out]
          exact ⟨g, c, rfl, hlc, HSr.out, hB.out⟩
        · have hq2 : (mk.toList == x.toList) = false := by simp [heq]
          have HPT : Hid (putT l x = l.take k ++ x :: l.drop k) := putT_new HP.out (by rw [HG.out]; intro e; exact heq (by rw [Option.some.inj e]))
          have r4 : ¬ c = k := by omega
          have r10 : k ≤ l.length := by omega
          clear heq
          have HRL : Hid ((l.drop k).length = l.length - k) := by show (l.drop k).length = l.length - k; simp
          go_wp2
          refine dk.region_gsets (ws g l.length c (k) (k) (l.length - k) (c - k) x) [33, 34, 35, 36, 37, 38, 39, 40, 41, 42, 43, 44, 4] (tas.C ⟨wr, 9, 1, (l.take k).flatMap cS, [.string x], (l.drop k).flatMap cS, k, l.length - k⟩ J0) ⟨0, .slice none 0 0, 0, .slice none 0 0, .slice none 0 0, .slice none 0 0⟩ (by kernel_rfl) (by kernel_rfl) (fun _ => rfl) (by kernel_rfl) (tas.start _ _ _) ?each ?fin
          case each =>
            refine ⟨tas.st0 (x := J0) (d := 33) (idx := 0) J0_up (by simp) rfl (by simp) (fun g => rfl) (fun g => rfl) (fun g e => rfl) (fun s W => by simp [execOp, go_sem]), ?_⟩
            refine ⟨tas.quiet (by decide) (by simp) (.slice (some ⟨g, 0, none⟩) l.length c) (by rintro s _ ⟨⟩; exact dk.sets_on _ (by simp) _ rfl) (fun s W h => by simp [execOp, go_sem, Act.eval, dk.sets_get, ws, List.lookup]), ?_⟩
            refine ⟨tas.quiet (by decide) (by simp) (.int .i64 (k : Nat)) (by rintro s _ ⟨⟩; exact dk.sets_on _ (by simp) _ rfl) (fun s W h => by simp [execOp, go_sem, Act.eval, dk.sets_get, ws, List.lookup]), ?_⟩
            refine ⟨tas.quiet (by decide) (by simp) (.slice (some ⟨g, 0, none⟩) (k) c) (by rintro s _ ⟨⟩; exact dk.sets_on _ (by simp) _ rfl) (fun s W h => by simp [execOp, go_sem, Act.eval, dk.sets_get, ws, List.lookup, r9]), ?_⟩
            refine ⟨tas.st1 (x := J0) (d := 37) (s1 := 33) (s2 := 36) (idx := 4) (c := c) (a := ⟨g, 0, none⟩) J0_up Tryz.underlying30 hi hz0 hz1 hz2 rfl (by show 0 < 1; decide) rfl rfl ⟨by simp, by simp, by simp⟩ (fun g => rfl) (fun g => rfl) (fun g => rfl) (fun g => rfl) (fun g v => rfl) (by show ((l.take k).flatMap cS).length = (k) * 1; rw [flat_len cS_len, List.length_take, Nat.min_eq_left (by omega)]) (fun W hb => news_take (HSr.out.inn hb) (k)) (oneS _) (by show k ≤ 1048576; omega) (by show (0 + k) * 16 ≤ 140737488355328; omega) ⟨⟨0, .data⟩, by simp, rfl, rfl⟩, ?_⟩
            refine ⟨tas.quiet (by decide) (by simp) (.string x) (by rintro s _ ⟨⟩; exact dk.sets_on _ (by simp) _ rfl) (fun s W h => by simp [execOp, go_sem, Act.eval, dk.sets_get, ws, List.lookup]), ?_⟩
            refine ⟨tas.st2 (x := J0) (d := 39) (idx := 6) J0_up (by simp) rfl (by simp) (fun g => rfl) (fun g => rfl) (fun g e => rfl) (fun s W => by simp [execOp, go_sem, Act.eval, dk.sets_get, ws, List.lookup]), ?_⟩
            refine ⟨tas.st3 (x := J0) (d := 40) (s1 := 37) (s2 := 39) (idx := 7) J0_up Tryz.underlying30 hi hz0 hz1 hz2 rfl (by show 0 < 1; decide) rfl rfl ⟨by simp, by simp, by simp⟩ (fun g => rfl) (fun g => rfl) (fun g => rfl) (fun g => rfl) (fun g v => rfl) rfl (by intro u hu; simp at hu; subst hu; rfl) (by show k ≤ 1048576; omega) (by show (k + 1) * 16 ≤ 140737488355328; omega) ⟨⟨4, .data⟩, by simp, rfl, rfl⟩ ⟨⟨6, .data⟩, by simp, rfl, rfl⟩, ?_⟩
            refine ⟨tas.quiet (by decide) (by simp) (.slice (some ⟨g, 0, none⟩) l.length c) (by rintro s _ ⟨⟩; exact dk.sets_on _ (by simp) _ rfl) (fun s W h => by simp [execOp, go_sem, Act.eval, dk.sets_get, ws, List.lookup]), ?_⟩
            refine ⟨tas.quiet (by decide) (by simp) (.int .i64 (k : Nat)) (by rintro s _ ⟨⟩; exact dk.sets_on _ (by simp) _ rfl) (fun s W h => by simp [execOp, go_sem, Act.eval, dk.sets_get, ws, List.lookup]), ?_⟩
            refine ⟨tas.quiet (by decide) (by simp) (.slice (some ⟨g, k, none⟩) (l.length - k) (c - k)) (by rintro s _ ⟨⟩; exact dk.sets_on _ (by simp) _ rfl) (fun s W h => by simp [execOp, go_sem, Act.eval, dk.sets_get, ws, List.lookup, r4, r10]), ?_⟩
            refine ⟨tas.st4 (x := J0) (d := 44) (s1 := 40) (s2 := 43) (idx := 11) (c := c - k) (a := ⟨g, k, none⟩) J0_up Tryz.underlying30 hi hz0 hz1 hz2 rfl (by show 0 < 1; decide) rfl rfl ⟨by simp, by simp, by simp⟩ (fun g => rfl) (fun g => rfl) (fun g => rfl) (fun g => rfl) (fun g v => rfl) (by show ((l.drop k).flatMap cS).length = (l.length - k) * 1; rw [flat_len cS_len, HRL.out]) (fun W hb => news_drop (HSr.out.inn hb) k (by omega)) (oneS _) (by show k ≤ 1048576 ∧ l.length - k ≤ 1048576; omega) (by show (k + 1 + (l.length - k)) * 16 ≤ 140737488355328; omega) ⟨⟨7, .data⟩, by simp, rfl, rfl⟩, ?_⟩
            exact ⟨tas.st5 (x := J0) (d := 4) (s1 := 44) (idx := 12) J0_up rfl rfl ⟨by simp, by simp⟩ (fun g => rfl) (fun g => rfl) (fun g => rfl) (fun g v => rfl) ⟨⟨11, .data⟩, by simp, rfl, rfl⟩, trivial⟩
          case fin =>
            intro s L X3 hL hC
            obtain ⟨hbl, hv4, hown⟩ := tas.done hC J0_up (N := 13) (by decide) hL
            replace hbl : Below wr.heap.size wr X3 := hbl
            replace hown : X3.ownsRow wr.heap.size 9 1 s.v3 (k + 1 + (l.length - k)) ((l.take k).flatMap cS ++ [.string x] ++ (l.drop k).flatMap cS) := hown
            have hlen : k + 1 + (l.length - k) = (putT l x).length := by rw [HPT.out, List.length_append, List.length_cons, List.length_take, HRL.out]; omega
            have hfl : (l.take k).flatMap cS ++ [.string x] ++ (l.drop k).flatMap cS = (putT l x).flatMap cS := by rw [HPT.out]; simp [cS]
            rw [hlen, hfl] at hown
            obtain ⟨g5, c5, hv3⟩ : ∃ g5 c5, s.v3 = .slice (some ⟨g5, 0, none⟩) (putT l x).length c5 := by
              obtain ⟨_, ⟨_, h0⟩ | ⟨g6, cap, cur, e, _⟩⟩ := hown
              · omega
              · exact ⟨g6, cap, e⟩
            rw [hv3] at hown hv4
            obtain ⟨hrw, hle⟩ := row_of hown
            have HRW : Hid (Row cS 1 X3 X3.heap.size (some ⟨g5, 0, none⟩) (putT l x)) := hrw
            have HLE : Hid ((putT l x).length ≤ c5) := hle
            have HBL : Hid (Below wr.heap.size wr X3) := hbl
            have HV4 : Hid (s.v4 = .slice (some ⟨g5, 0, none⟩) (putT l x).length c5) := hv4
            clear hC hL hbl hown hlen hfl hv3 hv4 hrw hle
            go_wp2
            refine bodyPost_ret (v := .slice (some ⟨g5, 0, none⟩) (putT l x).length c5) (by simp [results, Tryz.results35, go_sem, dk.sets_get, ws, List.lookup, HV4.out]) rfl ?_
            exact ⟨g5, c5, rfl, HLE.out, HRW.out, hB.out.trans (HBL.out.mono hB.out.size)⟩
    · obtain rfl : k = l.length := by omega
      have HP : Hid (posT l x = l.length) := posT_eq l x l.length (Nat.le_refl _) hn.out (fun a ha => by simp at ha)
      have HPT : Hid (putT l x = l.take l.length ++ x :: l.drop l.length) := putT_new HP.out (by simp)
      have f0 : decide ((l.length : Int) < (l.length : Int)) = false := by simp
      by_cases hck : c = l.length
      · have r4 := hck
        have HRL : Hid ((l.drop l.length).length = 0) := by show (l.drop l.length).length = 0; simp
        go_wp2
        refine dk.region_gsets (ws g l.length c (l.length) (0) (0) (0) x) [33, 34, 35, 36, 37, 38, 39, 40, 41, 42, 43, 44, 4] (tas.C ⟨wr, 9, 1, (l.take l.length).flatMap cS, [.string x], (l.drop l.length).flatMap cS, l.length, 0⟩ J0) ⟨0, .slice none 0 0, 0, .slice none 0 0, .slice none 0 0, .slice none 0 0⟩ (by kernel_rfl) (by kernel_rfl) (fun _ => rfl) (by kernel_rfl) (tas.start _ _ _) ?each ?fin
        case each =>
          refine ⟨tas.st0 (x := J0) (d := 33) (idx := 0) J0_up (by simp) rfl (by simp) (fun g => rfl) (fun g => rfl) (fun g e => rfl) (fun s W => by simp [execOp, go_sem]), ?_⟩
          refine ⟨tas.quiet (by decide) (by simp) (.slice (some ⟨g, 0, none⟩) l.length c) (by rintro s _ ⟨⟩; exact dk.sets_on _ (by simp) _ rfl) (fun s W h => by simp [execOp, go_sem, Act.eval, dk.sets_get, ws, List.lookup]), ?_⟩
          refine ⟨tas.quiet (by decide) (by simp) (.int .i64 (l.length : Nat)) (by rintro s _ ⟨⟩; exact dk.sets_on _ (by simp) _ rfl) (fun s W h => by simp [execOp, go_sem, Act.eval, dk.sets_get, ws, List.lookup]), ?_⟩
          refine ⟨tas.quiet (by decide) (by simp) (.slice (some ⟨g, 0, none⟩) (l.length) c) (by rintro s _ ⟨⟩; exact dk.sets_on _ (by simp) _ rfl) (fun s W h => by simp [execOp, go_sem, Act.eval, dk.sets_get, ws, List.lookup, r9]), ?_⟩
          refine ⟨tas.st1 (x := J0) (d := 37) (s1 := 33) (s2 := 36) (idx := 4) (c := c) (a := ⟨g, 0, none⟩) J0_up Tryz.underlying30 hi hz0 hz1 hz2 rfl (by show 0 < 1; decide) rfl rfl ⟨by simp, by simp, by simp⟩ (fun g => rfl) (fun g => rfl) (fun g => rfl) (fun g => rfl) (fun g v => rfl) (by show ((l.take l.length).flatMap cS).length = (l.length) * 1; rw [flat_len cS_len, List.length_take, Nat.min_eq_left (by omega)]) (fun W hb => news_take (HSr.out.inn hb) (l.length)) (oneS _) (by show l.length ≤ 1048576; omega) (by show (0 + l.length) * 16 ≤ 140737488355328; omega) ⟨⟨0, .data⟩, by simp, rfl, rfl⟩, ?_⟩
          refine ⟨tas.quiet (by decide) (by simp) (.string x) (by rintro s _ ⟨⟩; exact dk.sets_on _ (by simp) _ rfl) (fun s W h => by simp [execOp, go_sem, Act.eval, dk.sets_get, ws, List.lookup]), ?_⟩
          refine ⟨tas.st2 (x := J0) (d := 39) (idx := 6) J0_up (by simp) rfl (by simp) (fun g => rfl) (fun g => rfl) (fun g e => rfl) (fun s W => by simp [execOp, go_sem, Act.eval, dk.sets_get, ws, List.lookup]), ?_⟩
          refine ⟨tas.st3 (x := J0) (d := 40) (s1 := 37) (s2 := 39) (idx := 7) J0_up Tryz.underlying30 hi hz0 hz1 hz2 rfl (by show 0 < 1; decide) rfl rfl ⟨by simp, by simp, by simp⟩ (fun g => rfl) (fun g => rfl) (fun g => rfl) (fun g => rfl) (fun g v => rfl) rfl (by intro u hu; simp at hu; subst hu; rfl) (by show l.length ≤ 1048576; omega) (by show (l.length + 1) * 16 ≤ 140737488355328; omega) ⟨⟨4, .data⟩, by simp, rfl, rfl⟩ ⟨⟨6, .data⟩, by simp, rfl, rfl⟩, ?_⟩
          refine ⟨tas.quiet (by decide) (by simp) (.slice (some ⟨g, 0, none⟩) l.length c) (by rintro s _ ⟨⟩; exact dk.sets_on _ (by simp) _ rfl) (fun s W h => by simp [execOp, go_sem, Act.eval, dk.sets_get, ws, List.lookup]), ?_⟩
          refine ⟨tas.quiet (by decide) (by simp) (.int .i64 (l.length : Nat)) (by rintro s _ ⟨⟩; exact dk.sets_on _ (by simp) _ rfl) (fun s W h => by simp [execOp, go_sem, Act.eval, dk.sets_get, ws, List.lookup]), ?_⟩
          refine ⟨tas.quiet (by decide) (by simp) (.slice (some ⟨g, 0, none⟩) (0) (0)) (by rintro s _ ⟨⟩; exact dk.sets_on _ (by simp) _ rfl) (fun s W h => by simp [execOp, go_sem, Act.eval, dk.sets_get, ws, List.lookup, r4]), ?_⟩
          refine ⟨tas.st4 (x := J0) (d := 44) (s1 := 40) (s2 := 43) (idx := 11) (c := 0) (a := ⟨g, 0, none⟩) J0_up Tryz.underlying30 hi hz0 hz1 hz2 rfl (by show 0 < 1; decide) rfl rfl ⟨by simp, by simp, by simp⟩ (fun g => rfl) (fun g => rfl) (fun g => rfl) (fun g => rfl) (fun g v => rfl) (by show ((l.drop l.length).flatMap cS).length = (0) * 1; rw [flat_len cS_len, HRL.out]) (fun W hb => by rw [List.drop_length]; intro j u hu; simp at hu) (oneS _) (by show l.length ≤ 1048576 ∧ 0 ≤ 1048576; omega) (by show (l.length + 1 + (0)) * 16 ≤ 140737488355328; omega) ⟨⟨7, .data⟩, by simp, rfl, rfl⟩, ?_⟩
          exact ⟨tas.st5 (x := J0) (d := 4) (s1 := 44) (idx := 12) J0_up rfl rfl ⟨by simp, by simp⟩ (fun g => rfl) (fun g => rfl) (fun g => rfl) (fun g v => rfl) ⟨⟨11, .data⟩, by simp, rfl, rfl⟩, trivial⟩
        case fin =>
          intro s L X3 hL hC
          obtain ⟨hbl, hv4, hown⟩ := tas.done hC J0_up (N := 13) (by decide) hL
          replace hbl : Below wr.heap.size wr X3 := hbl
          replace hown : X3.ownsRow wr.heap.size 9 1 s.v3 (l.length + 1 + (0)) ((l.take l.length).flatMap cS ++ [.string x] ++ (l.drop l.length).flatMap cS) := hown
          have hlen : l.length + 1 + (0) = (putT l x).length := by rw [HPT.out, List.length_append, List.length_cons, List.length_take, HRL.out]; omega
          have hfl : (l.take l.length).flatMap cS ++ [.string x] ++ (l.drop l.length).flatMap cS = (putT l x).flatMap cS := by rw [HPT.out]; simp [cS]
          rw [hlen, hfl] at hown
          obtain ⟨g5, c5, hv3⟩ : ∃ g5 c5, s.v3 = .slice (some ⟨g5, 0, none⟩) (putT l x).length c5 := by
            obtain ⟨_, ⟨_, h0⟩ | ⟨g6, cap, cur, e, _⟩⟩ := hown
            · omega
            · exact ⟨g6, cap, e⟩
          rw [hv3] at hown hv4
          obtain ⟨hrw, hle⟩ := row_of hown
          have HRW : Hid (Row cS 1 X3 X3.heap.size (some ⟨g5, 0, none⟩) (putT l x)) := hrw
          have HLE : Hid ((putT l x).length ≤ c5) := hle
          have HBL : Hid (Below wr.heap.size wr X3) := hbl
          have HV4 : Hid (s.v4 = .slice (some ⟨g5, 0, none⟩) (putT l x).length c5) := hv4
          clear hC hL hbl hown hlen hfl hv3 hv4 hrw hle
          go_wp2
          refine bodyPost_ret (v := .slice (some ⟨g5, 0, none⟩) (putT l x).length c5) (by simp [results, Tryz.results35, go_sem, dk.sets_get, ws, List.lookup, HV4.out]) rfl ?_
          exact ⟨g5, c5, rfl, HLE.out, HRW.out, hB.out.trans (HBL.out.mono hB.out.size)⟩
      · have r4 : ¬ c = l.length := hck
        have HRL : Hid ((l.drop l.length).length = 0) := by show (l.drop l.length).length = 0; simp
        go_wp2
        refine dk.region_gsets (ws g l.length c (l.length) (l.length) (0) (c - l.length) x) [33, 34, 35, 36, 37, 38, 39, 40, 41, 42, 43, 44, 4] (tas.C ⟨wr, 9, 1, (l.take l.length).flatMap cS, [.string x], (l.drop l.length).flatMap cS, l.length, 0⟩ J0) ⟨0, .slice none 0 0, 0, .slice none 0 0, .slice none 0 0, .slice none 0 0⟩ (by kernel_rfl) (by kernel_rfl) (fun _ => rfl) (by kernel_rfl) (tas.start _ _ _) ?each ?fin
        case each =>
          refine ⟨tas.st0 (x := J0) (d := 33) (idx := 0) J0_up (by simp) rfl (by simp) (fun g => rfl) (fun g => rfl) (fun g e => rfl) (fun s W => by simp [execOp, go_sem]), ?_⟩
          refine ⟨tas.quiet (by decide) (by simp) (.slice (some ⟨g, 0, none⟩) l.length c) (by rintro s _ ⟨⟩; exact dk.sets_on _ (by simp) _ rfl) (fun s W h => by simp [execOp, go_sem, Act.eval, dk.sets_get, ws, List.lookup]), ?_⟩
          refine ⟨tas.quiet (by decide) (by simp) (.int .i64 (l.length : Nat)) (by rintro s _ ⟨⟩; exact dk.sets_on _ (by simp) _ rfl) (fun s W h => by simp [execOp, go_sem, Act.eval, dk.sets_get, ws, List.lookup]), ?_⟩
          refine ⟨tas.quiet (by decide) (by simp) (.slice (some ⟨g, 0, none⟩) (l.length) c) (by rintro s _ ⟨⟩; exact dk.sets_on _ (by simp) _ rfl) (fun s W h => by simp [execOp, go_sem, Act.eval, dk.sets_get, ws, List.lookup, r9]), ?_⟩
          refine ⟨tas.st1 (x := J0) (d := 37) (s1 := 33) (s2 := 36) (idx := 4) (c := c) (a := ⟨g, 0, none⟩) J0_up Tryz.underlying30 hi hz0 hz1 hz2 rfl (by show 0 < 1; decide) rfl rfl ⟨by simp, by simp, by simp⟩ (fun g => rfl) (fun g => rfl) (fun g => rfl) (fun g => rfl) (fun g v => rfl) (by show ((l.take l.length).flatMap cS).length = (l.length) * 1; rw [flat_len cS_len, List.length_take, Nat.min_eq_left (by omega)]) (fun W hb => news_take (HSr.out.inn hb) (l.length)) (oneS _) (by show l.length ≤ 1048576; omega) (by show (0 + l.length) * 16 ≤ 140737488355328; omega) ⟨⟨0, .data⟩, by simp, rfl, rfl⟩, ?_⟩
          refine ⟨tas.quiet (by decide) (by simp) (.string x) (by rintro s _ ⟨⟩; exact dk.sets_on _ (by simp) _ rfl) (fun s W h => by simp [execOp, go_sem, Act.eval, dk.sets_get, ws, List.lookup]), ?_⟩
          refine ⟨tas.st2 (x := J0) (d := 39) (idx := 6) J0_up (by simp) rfl (by simp) (fun g => rfl) (fun g => rfl) (fun g e => rfl) (fun s W => by simp [execOp, go_sem, Act.eval, dk.sets_get, ws, List.lookup]), ?_⟩
          refine ⟨tas.st3 (x := J0) (d := 40) (s1 := 37) (s2 := 39) (idx := 7) J0_up Tryz.underlying30 hi hz0 hz1 hz2 rfl (by show 0 < 1; decide) rfl rfl ⟨by simp, by simp, by simp⟩ (fun g => rfl) (fun g => rfl) (fun g => rfl) (fun g => rfl) (fun g v => rfl) rfl (by intro u hu; simp at hu; subst hu; rfl) (by show l.length ≤ 1048576; omega) (by show (l.length + 1) * 16 ≤ 140737488355328; omega) ⟨⟨4, .data⟩, by simp, rfl, rfl⟩ ⟨⟨6, .data⟩, by simp, rfl, rfl⟩, ?_⟩
          refine ⟨tas.quiet (by decide) (by simp) (.slice (some ⟨g, 0, none⟩) l.length c) (by rintro s _ ⟨⟩; exact dk.sets_on _ (by simp) _ rfl) (fun s W h => by simp [execOp, go_sem, Act.eval, dk.sets_get, ws, List.lookup]), ?_⟩
          refine ⟨tas.quiet (by decide) (by simp) (.int .i64 (l.length : Nat)) (by rintro s _ ⟨⟩; exact dk.sets_on _ (by simp) _ rfl) (fun s W h => by simp [execOp, go_sem, Act.eval, dk.sets_get, ws, List.lookup]), ?_⟩
          refine ⟨tas.quiet (by decide) (by simp) (.slice (some ⟨g, l.length, none⟩) (0) (c - l.length)) (by rintro s _ ⟨⟩; exact dk.sets_on _ (by simp) _ rfl) (fun s W h => by simp [execOp, go_sem, Act.eval, dk.sets_get, ws, List.lookup, r4]), ?_⟩
          refine ⟨tas.st4 (x := J0) (d := 44) (s1 := 40) (s2 := 43) (idx := 11) (c := c - l.length) (a := ⟨g, l.length, none⟩) J0_up Tryz.underlying30 hi hz0 hz1 hz2 rfl (by show 0 < 1; decide) rfl rfl ⟨by simp, by simp, by simp⟩ (fun g => rfl) (fun g => rfl) (fun g => rfl) (fun g => rfl) (fun g v => rfl) (by show ((l.drop l.length).flatMap cS).length = (0) * 1; rw [flat_len cS_len, HRL.out]) (fun W hb => by rw [List.drop_length]; intro j u hu; simp at hu) (oneS _) (by show l.length ≤ 1048576 ∧ 0 ≤ 1048576; omega) (by show (l.length + 1 + (0)) * 16 ≤ 140737488355328; omega) ⟨⟨7, .data⟩, by simp, rfl, rfl⟩, ?_⟩
          exact ⟨tas.st5 (x := J0) (d := 4) (s1 := 44) (idx := 12) J0_up rfl rfl ⟨by simp, by simp⟩ (fun g => rfl) (fun g => rfl) (fun g => rfl) (fun g v => rfl) ⟨⟨11, .data⟩, by simp, rfl, rfl⟩, trivial⟩
        case fin =>
          intro s L X3 hL hC
          obtain ⟨hbl, hv4, hown⟩ := tas.done hC J0_up (N := 13) (by decide) hL
          replace hbl : Below wr.heap.size wr X3 := hbl
          replace hown : X3.ownsRow wr.heap.size 9 1 s.v3 (l.length + 1 + (0)) ((l.take l.length).flatMap cS ++ [.string x] ++ (l.drop l.length).flatMap cS) := hown
          have hlen : l.length + 1 + (0) = (putT l x).length := by rw [HPT.out, List.length_append, List.length_cons, List.length_take, HRL.out]; omega
          have hfl : (l.take l.length).flatMap cS ++ [.string x] ++ (l.drop l.length).flatMap cS = (putT l x).flatMap cS := by rw [HPT.out]; simp [cS]
          rw [hlen, hfl] at hown
          obtain ⟨g5, c5, hv3⟩ : ∃ g5 c5, s.v3 = .slice (some ⟨g5, 0, none⟩) (putT l x).length c5 := by
            obtain ⟨_, ⟨_, h0⟩ | ⟨g6, cap, cur, e, _⟩⟩ := hown
            · omega
            · exact ⟨g6, cap, e⟩
          rw [hv3] at hown hv4
          obtain ⟨hrw, hle⟩ := row_of hown
          have HRW : Hid (Row cS 1 X3 X3.heap.size (some ⟨g5, 0, none⟩) (putT l x)) := hrw
          have HLE : Hid ((putT l x).length ≤ c5) := hle
          have HBL : Hid (Below wr.heap.size wr X3) := hbl
          have HV4 : Hid (s.v4 = .slice (some ⟨g5, 0, none⟩) (putT l x).length c5) := hv4
          clear hC hL hbl hown hlen hfl hv3 hv4 hrw hle
          go_wp2
          refine bodyPost_ret (v := .slice (some ⟨g5, 0, none⟩) (putT l x).length c5) (by simp [results, Tryz.results35, go_sem, dk.sets_get, ws, List.lookup, HV4.out]) rfl ?_
          exact ⟨g5, c5, rfl, HLE.out, HRW.out, hB.out.trans (HBL.out.mono hB.out.size)⟩
end Go.Proofs.YtnooibeohdfcmaaGreatDoor.ptt

/- Growing rows of bindings and of texts. -/
namespace Go.Proofs.YtnooibeohdfcmaaGreatDoor.rtk
open Go.ChangeShapes Go.WideShapes Go.ChangeAt Go.RowKit Go.Proofs.YtnooibeohdfcmaaGreatDoor.fl Go.Proofs.YtnooibeohdfcmaaGreatDoor.rr Go.Proofs.YtnooibeohdfcmaaGreatDoor.ptt
set_option linter.unusedVariables false

def cB (b : Bi) : List Value := [.string b.x, .string b.k, .string b.q]
theorem cB_len (b : Bi) : (cB b).length = 3 := rfl
theorem infoB : ∃ i0, Tryz.prog.info? 45 = some i0 ∧ i0.zero = some (.agg #[.string ByteArray.empty, .string ByteArray.empty, .string ByteArray.empty]) ∧ i0.size = 3 ∧ i0.bytes = 48 := by
  have h : (Tryz.prog.info? 45).map (fun i => (i.zero, i.size, i.bytes)) = some (some (.agg #[.string ByteArray.empty, .string ByteArray.empty, .string ByteArray.empty]), 3, 48) := by kernel_rfl
  cases hh : Tryz.prog.info? 45 with
  | none => rw [hh] at h; cases h
  | some i => rw [hh] at h; simp at h; exact ⟨i, rfl, h.1, h.2.1, h.2.2⟩
theorem add0 (g j : Nat) : (⟨g, 0, none⟩ : Addr).add j = ⟨g, j, none⟩ := by unfold Addr.add; split <;> simp_all
theorem below_grown {W w' : World} {B : Nat} {r : Option Nat} (h : W.grownBy w' r) (hB : B ≤ W.heap.size) (hr : ∀ b, r = some b → B ≤ b) : Below B W w' := ⟨h.os, h.tape, h.output, h.size, fun k hk => h.block k (by omega) (fun e => by have := hr k e.symm; omega)⟩
/-- bindings in a row of its own above B, or none -/
def AllB (W : World) (B : Nat) (v : Value) (l : List Bi) : Prop := (l = [] ∧ ∃ ao, v = .slice ao 0 0) ∨ ∃ g cap, v = .slice (some ⟨g, 0, none⟩) l.length cap ∧ W.ownsRow B 45 3 (.slice (some ⟨g, 0, none⟩) l.length cap) l.length (l.flatMap cB)
theorem AllB.form {W : World} {B : Nat} {v : Value} {l : List Bi} (h : AllB W B v l) : ∃ ao cap, v = .slice ao l.length cap := by
  rcases h with ⟨rfl, ao, rfl⟩ | ⟨g, cap, rfl, _⟩
  · exact ⟨ao, 0, rfl⟩
  · exact ⟨_, cap, rfl⟩
theorem AllB.row {W : World} {B : Nat} {ao : Option Addr} {cap : Nat} {l : List Bi} (h : AllB W B (.slice ao l.length cap) l) : Row cB 3 W W.heap.size ao l := by
  rcases h with ⟨rfl, _⟩ | ⟨g, cap', e, ho⟩
  · exact .inl rfl
  · cases e
    obtain ⟨a', c', e', hr⟩ := own_row cB_len ho
    cases e'
    exact hr
theorem AllB.on {W W' : World} {B : Nat} {v : Value} {l : List Bi} (h : AllB W B v l) (hb : Below W.heap.size W W') : AllB W' B v l := by
  rcases h with h | ⟨g, cap, rfl, ho⟩
  · exact .inl h
  · exact .inr ⟨g, cap, rfl, ho.kept (row := none) ⟨hb.os, hb.tape, hb.output, hb.size, fun k hk _ => hb.block k hk⟩ (by simp [Value.ownBlock])⟩
theorem own_B {W : World} {B : Nat} {v : Value} {l : List Bi} (hl : l ≠ []) (h : W.ownsRow B 45 3 v l.length (l.flatMap cB)) : AllB W B v l := by
  have hs := h
  obtain ⟨_, ⟨_, h0⟩ | ⟨g, cap, cur, rfl, _⟩⟩ := hs
  · exact absurd (List.eq_nil_of_length_eq_zero h0) hl
  · exact .inr ⟨g, cap, rfl, h⟩
/-- one more -/
theorem app_B {W : World} {B a : Nat} {v : Value} {l : List Bi} (m : Bi) (h : AllB W B v l) (hB : B ≤ W.heap.size) (hl : l.length ≤ 1048576) (hc : W.heap[a]? = some (.cells (cB m).toArray 45 (0, 0))) (ty : TypeId) :
    ∃ v' w', (Builtin.append_ #[87, 87] ty #[v, .slice (some ⟨a, 0, none⟩) 1 1]).run Tryz.prog W = .ok v' w' ∧ AllB w' B v' (l ++ [m]) ∧ Below B W w' := by
  obtain ⟨i0, hi, hz0, hz1, hz2⟩ := infoB
  have hnews : ∀ j u, (cB m)[j]? = some u → W.cell? ((⟨a, 0, none⟩ : Addr).add j) = some u := fun j u hu => by
    rw [add0]
    exact bcell hc (by simpa using hu)
  have h1 : ∀ u ∈ cB m, u.oneCell' = true := fun u hu => by simp [cB] at hu; rcases hu with rfl | rfl | rfl <;> rfl
  have hfl : (l ++ [m]).flatMap cB = l.flatMap cB ++ cB m := by rw [List.flatMap_append]; simp
  have hln : (l ++ [m]).length = l.length + 1 := by simp
  rcases h with ⟨rfl, ao, rfl⟩ | ⟨g, cap, rfl, ho⟩
  · cases ao with
    | none =>
      obtain ⟨v', w', hr, ho, hg, _⟩ := run_append_own_at (P := Tryz.prog) W B 87 ty 45 i0 (.agg #[.string ByteArray.empty, .string ByteArray.empty, .string ByteArray.empty]) 3 48 Tryz.underlying87 hi hz0 hz1 hz2 rfl (by decide) (.slice none 0 0) 0 [] (World.ownsRow_nil W _ _ _) ⟨a, 0, none⟩ 1 1 (cB m) rfl hnews h1 (by unfold maxLen; omega) (by omega) hB
      exact ⟨v', w', hr, own_B (by simp) (by rw [hfl, hln]; simpa using ho), below_grown hg hB (fun b e => by simp [Value.ownBlock] at e)⟩
    | some b =>
      obtain ⟨v', w', hr, ho, hg⟩ := run_append_arg_grows (P := Tryz.prog) W 87 ty 45 i0 (.agg #[.string ByteArray.empty, .string ByteArray.empty, .string ByteArray.empty]) 3 48 Tryz.underlying87 hi hz0 hz1 hz2 rfl (by decide) b 0 0 [] rfl (fun j u hu => by simp at hu) ⟨a, 0, none⟩ 1 1 (cB m) rfl hnews (by omega) (by unfold maxLen; omega) (by omega)
      refine ⟨v', w', hr, own_B (by simp) ?_, below_grown hg hB (fun b e => by cases e)⟩
      rw [hfl, hln]
      obtain ⟨k1, k2 | ⟨g, cap, cur, k3, k4, k5⟩⟩ := ho
      · simp at k2
      · exact ⟨by simpa using k1, .inr ⟨g, cap, cur, by simpa using k3, by omega, by simpa using k5⟩⟩
  · obtain ⟨v', w', hr, ho', hg, _⟩ := run_append_own_at (P := Tryz.prog) W B 87 ty 45 i0 (.agg #[.string ByteArray.empty, .string ByteArray.empty, .string ByteArray.empty]) 3 48 Tryz.underlying87 hi hz0 hz1 hz2 rfl (by decide) _ l.length _ ho ⟨a, 0, none⟩ 1 1 (cB m) rfl hnews h1 (by unfold maxLen; omega) (by omega) hB
    exact ⟨v', w', hr, own_B (by simp) (by rw [hfl, hln]; exact ho'), below_grown hg hB (fun b e => by have := Option.some.inj e; subst this; exact (ho.lt g rfl).1)⟩
/-- texts in a row of its own above B, or none -/
def AllS (W : World) (B : Nat) (v : Value) (l : List ByteArray) : Prop := (l = [] ∧ ∃ ao, v = .slice ao 0 0) ∨ ∃ g cap, v = .slice (some ⟨g, 0, none⟩) l.length cap ∧ W.ownsRow B 9 1 (.slice (some ⟨g, 0, none⟩) l.length cap) l.length (l.flatMap cS)
theorem AllS.form {W : World} {B : Nat} {v : Value} {l : List ByteArray} (h : AllS W B v l) : ∃ ao cap, v = .slice ao l.length cap := by
  rcases h with ⟨rfl, ao, rfl⟩ | ⟨g, cap, rfl, _⟩
  · exact ⟨ao, 0, rfl⟩
  · exact ⟨_, cap, rfl⟩
theorem AllS.row {W : World} {B : Nat} {ao : Option Addr} {cap : Nat} {l : List ByteArray} (h : AllS W B (.slice ao l.length cap) l) : Row cS 1 W W.heap.size ao l := by
  rcases h with ⟨rfl, _⟩ | ⟨g, cap', e, ho⟩
  · exact .inl rfl
  · cases e
    obtain ⟨a', c', e', hr⟩ := own_row cS_len ho
    cases e'
    exact hr
theorem AllS.on {W W' : World} {B : Nat} {v : Value} {l : List ByteArray} (h : AllS W B v l) (hb : Below W.heap.size W W') : AllS W' B v l := by
  rcases h with h | ⟨g, cap, rfl, ho⟩
  · exact .inl h
  · exact .inr ⟨g, cap, rfl, ho.kept (row := none) ⟨hb.os, hb.tape, hb.output, hb.size, fun k hk _ => hb.block k hk⟩ (by simp [Value.ownBlock])⟩
theorem own_S {W : World} {B : Nat} {v : Value} {l : List ByteArray} (hl : l ≠ []) (h : W.ownsRow B 9 1 v l.length (l.flatMap cS)) : AllS W B v l := by
  have hs := h
  obtain ⟨_, ⟨_, h0⟩ | ⟨g, cap, cur, rfl, _⟩⟩ := hs
  · exact absurd (List.eq_nil_of_length_eq_zero h0) hl
  · exact .inr ⟨g, cap, rfl, h⟩
/-- one more -/
theorem app_S {W : World} {B a : Nat} {v : Value} {l : List ByteArray} (m : ByteArray) (h : AllS W B v l) (hB : B ≤ W.heap.size) (hl : l.length ≤ 1048576) (hc : W.heap[a]? = some (.cells (cS m).toArray 9 (0, 0))) (ty : TypeId) :
    ∃ v' w', (Builtin.append_ #[30, 30] ty #[v, .slice (some ⟨a, 0, none⟩) 1 1]).run Tryz.prog W = .ok v' w' ∧ AllS w' B v' (l ++ [m]) ∧ Below B W w' := by
  obtain ⟨i0, hi, hz0, hz1, hz2⟩ := infoS
  have hnews : ∀ j u, (cS m)[j]? = some u → W.cell? ((⟨a, 0, none⟩ : Addr).add j) = some u := fun j u hu => by
    rw [add0]
    exact bcell hc (by simpa using hu)
  have h1 : ∀ u ∈ cS m, u.oneCell' = true := fun u hu => by simp [cS] at hu; subst hu; rfl
  have hfl : (l ++ [m]).flatMap cS = l.flatMap cS ++ cS m := by rw [List.flatMap_append]; simp
  have hln : (l ++ [m]).length = l.length + 1 := by simp
  rcases h with ⟨rfl, ao, rfl⟩ | ⟨g, cap, rfl, ho⟩
  · cases ao with
    | none =>
      obtain ⟨v', w', hr, ho, hg, _⟩ := run_append_own_at (P := Tryz.prog) W B 30 ty 9 i0 (.string ByteArray.empty) 1 16 Tryz.underlying30 hi hz0 hz1 hz2 rfl (by decide) (.slice none 0 0) 0 [] (World.ownsRow_nil W _ _ _) ⟨a, 0, none⟩ 1 1 (cS m) rfl hnews h1 (by unfold maxLen; omega) (by omega) hB
      exact ⟨v', w', hr, own_S (by simp) (by rw [hfl, hln]; simpa using ho), below_grown hg hB (fun b e => by simp [Value.ownBlock] at e)⟩
    | some b =>
      obtain ⟨v', w', hr, ho, hg⟩ := run_append_arg_grows (P := Tryz.prog) W 30 ty 9 i0 (.string ByteArray.empty) 1 16 Tryz.underlying30 hi hz0 hz1 hz2 rfl (by decide) b 0 0 [] rfl (fun j u hu => by simp at hu) ⟨a, 0, none⟩ 1 1 (cS m) rfl hnews (by omega) (by unfold maxLen; omega) (by omega)
      refine ⟨v', w', hr, own_S (by simp) ?_, below_grown hg hB (fun b e => by cases e)⟩
      rw [hfl, hln]
      obtain ⟨k1, k2 | ⟨g, cap, cur, k3, k4, k5⟩⟩ := ho
      · simp at k2
      · exact ⟨by simpa using k1, .inr ⟨g, cap, cur, by simpa using k3, by omega, by simpa using k5⟩⟩
  · obtain ⟨v', w', hr, ho', hg, _⟩ := run_append_own_at (P := Tryz.prog) W B 30 ty 9 i0 (.string ByteArray.empty) 1 16 Tryz.underlying30 hi hz0 hz1 hz2 rfl (by decide) _ l.length _ ho ⟨a, 0, none⟩ 1 1 (cS m) rfl hnews h1 (by unfold maxLen; omega) (by omega) hB
    exact ⟨v', w', hr, own_S (by simp) (by rw [hfl, hln]; exact ho'), below_grown hg hB (fun b e => by have := Option.some.inj e; subst this; exact (ho.lt g rfl).1)⟩
end Go.Proofs.YtnooibeohdfcmaaGreatDoor.rtk

/- The text that the laws mark a list with: laws.markText. -/
namespace Go.Proofs.YtnooibeohdfcmaaGreatDoor.sm
open Go.ChangeShapes Go.WideShapes Go.ChangeAt Go.RowKit

end Go.Proofs.YtnooibeohdfcmaaGreatDoor.sm
