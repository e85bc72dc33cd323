/- The specification's l05Back: messages with one more in its place. -/
import Derived.Test.YtdondjnihonacaaQBackPure
import Derived.Test.YtdondjnihonacaaThreeAppS
import Derived.Test.YtdondjnihonacaaQTakeSpec
import Derived.Deep.QuietTactic
import Derived.BigQuiet
namespace Go.Proofs.Ytdondjnihonacaa.qbs
open Go.ChangeShapes Go.WideShapes Go.ChangeAt Go.RowKit Go.Proofs.Ytdondjnihonacaa.fl Go.Proofs.Ytdondjnihonacaa.qbk
set_option linter.unusedVariables false

theorem box5 {W : World} {b : Nat} {x0 x1 x2 x3 x4 : Value} {U : TypeId} (h : W.heap[b]? = some (.cells #[x0, x1, x2, x3, x4] U (0, 0))) : W.cell? ⟨b, 0, none⟩ = some x0 ∧ W.cell? ⟨b, 1, none⟩ = some x1 ∧ W.cell? ⟨b, 2, none⟩ = some x2 ∧ W.cell? ⟨b, 3, none⟩ = some x3 ∧ W.cell? ⟨b, 4, none⟩ = some x4 := ⟨bcell h rfl, bcell h rfl, bcell h rfl, bcell h rfl, bcell h rfl⟩
theorem take_drop_flat (l : List flM.Ms) (k : Nat) : l.flatMap flM.c = (l.take k).flatMap flM.c ++ (l.drop k).flatMap flM.c := by rw [← List.flatMap_append, List.take_append_drop]
theorem news_take {w : World} {B g : Nat} {l : List flM.Ms} (h : Row flM.c 5 w B (some ⟨g, 0, none⟩) l) (k : Nat) : ∀ (j : Nat) (u : Value), ((l.take k).flatMap flM.c)[j]? = some u → w.cell? ((⟨g, 0, none⟩ : Addr).add j) = some u := fun j u hu => by
  refine qsp.newsR flM.c_len h j u ?_
  rw [take_drop_flat l k, List.getElem?_append_left (List.getElem?_eq_some_iff.1 hu).1]
  exact hu
theorem news_drop {w : World} {B g : Nat} {l : List flM.Ms} (h : Row flM.c 5 w B (some ⟨g, 0, none⟩) l) (k : Nat) (hk : k ≤ l.length) : ∀ (j : Nat) (u : Value), ((l.drop k).flatMap flM.c)[j]? = some u → w.cell? ((⟨g, k * 5, none⟩ : Addr).add j) = some u := fun j u hu => by
  have hlen : ((l.take k).flatMap flM.c).length = k * 5 := by rw [flat_len flM.c_len, List.length_take, Nat.min_eq_left hk]
  have hh := qsp.newsR flM.c_len h (k * 5 + j) u (by rw [take_drop_flat l k, List.getElem?_append_right (by omega), hlen, show k * 5 + j - k * 5 = j by omega]; exact hu)
  rw [qsp.add_at] at hh ⊢
  rwa [Nat.zero_add] at hh
theorem row_cell {w : World} {B g k : Nat} {l : List flM.Ms} {e : flM.Ms} (h : Row flM.c 5 w B (some ⟨g, 0, none⟩) l) (he : l[k]? = some e) : w.cell? ⟨g, k * 5, none⟩ = some (.int .i64 e.q) := by
  rcases h with h0 | ⟨b', off', hh, hlt, hc⟩
  · rw [h0] at he; simp at he
  · cases hh
    have := hc k _ he 0 _ rfl
    simpa using this
theorem back_at {l : List flM.Ms} {m : flM.Ms} {k : Nat} (h : at_ l m.q = k) : back l m = l.take k ++ [m] ++ l.drop k := by subst h; rfl
def ws (g n c k o m' cc : Nat) (m : flM.Ms) (s : tas.G) : List (Nat × Value) := [(22, .slice (some ⟨s.e0, 0, none⟩) 0 0), (23, .slice (some ⟨g, 0, none⟩) n c), (24, .int .i64 k), (25, .slice (some ⟨g, 0, none⟩) k c), (26, s.v1), (27, .agg #[.int .i64 m.q, .string m.x, .string m.k, .string m.b, .bool m.a]), (28, .slice (some ⟨s.h, 0, none⟩) 1 1), (29, s.v2), (30, .slice (some ⟨g, 0, none⟩) n c), (31, .int .i64 k), (32, .slice (some ⟨g, o, none⟩) m' cc), (33, s.v3), (4, s.v4)]
def J0 : tas.J := ⟨0, 4, 6, 7, 11, 12⟩
theorem J0_up : J0.up := ⟨by decide, by decide, by decide, by decide, by decide⟩


set_option maxRecDepth 100000 in
set_option maxHeartbeats 4000000 in
theorem spec_back (l : List flM.Ms) (g c : Nat) (m : flM.Ms) (w : World) (hl : l.length ≤ 1048576) (hlc : l.length ≤ c) (hS : Row flM.c 5 w w.heap.size (some ⟨g, 0, none⟩) l) :
    Calls Try.prog 47 #[.slice (some ⟨g, 0, none⟩) l.length c, .agg #[.int .i64 m.q, .string m.x, .string m.k, .string m.b, .bool m.a]] w fun e w' => ∃ g2 c2, e = .returned (.slice (some ⟨g2, 0, none⟩) (back l m).length c2) ∧ w'.ownsRow w.heap.size 38 5 (.slice (some ⟨g2, 0, none⟩) (back l m).length c2) (back l m).length ((back l m).flatMap flM.c) ∧ Below w.heap.size w w' := by
  obtain ⟨i0, hi, hz0, hz1, hz2⟩ := qsp.infoY
  have HS : Hid (Row flM.c 5 w w.heap.size (some ⟨g, 0, none⟩) l) := hS
  have hal : Below w.heap.size w (w.alloc (.cells #[.int .i64 m.q, .string m.x, .string m.k, .string m.b, .bool m.a] 38)) := (Below.refl _ _).alloc (Nat.le_refl _) _
  have hA := bnew w #[.int .i64 m.q, .string m.x, .string m.k, .string m.b, .bool m.a] 38
  obtain ⟨V, hV⟩ : ∃ V, w.alloc (.cells #[.int .i64 m.q, .string m.x, .string m.k, .string m.b, .bool m.a] 38) = V := ⟨_, rfl⟩
  rw [hV] at hal hA
  have HA : Hid (V.heap[w.heap.size]? = some (.cells #[.int .i64 m.q, .string m.x, .string m.k, .string m.b, .bool m.a] 38 (0, 0))) := hA
  have hVs : w.heap.size < V.heap.size := (Array.getElem?_eq_some_iff.1 hA).1
  clear hS hA
  go_enter Try.func47, Try.ntmps47
  go_wp2
  clear hV
  go_loopw [5] (fun v wr => ∃ k : Nat, k ≤ l.length ∧ v = .int .i64 k ∧ Hid (∀ (i : Nat) a, i < k → l[i]? = some a → a.q < m.q) ∧ Hid (Below V.heap.size V wr)) (fun v _ => l.length - (intOf v).toNat)
  case atStart => exact ⟨0, Nat.zero_le _, rfl, fun i a h => by omega, Below.refl _ _⟩
  case round =>
    obtain ⟨k, hk, rfl, hn, hBV⟩ := hrel
    have hB : Hid (Below w.heap.size w wr) := hal.trans (hBV.out.mono hal.size)
    have HSr : Hid (Row flM.c 5 wr wr.heap.size (some ⟨g, 0, none⟩) l) := HS.out.inn hB.out
    have HBX : Hid (wr.heap[w.heap.size]? = some (.cells #[.int .i64 m.q, .string m.x, .string m.k, .string m.b, .bool m.a] 38 (0, 0))) := bstay HA.out hBV.out hVs
    have b0 : wr.cell? ⟨w.heap.size, 0, none⟩ = some (.int .i64 m.q) := bcell HBX.out rfl
    have r9 : k ≤ c := by omega
    by_cases hkl : k < l.length
    · have f0 : decide ((k : Int) < (l.length : Int)) = true := by simp; omega
      have HG : Hid (l[k]? = some l[k]) := List.getElem?_eq_getElem hkl
      obtain ⟨mk, he⟩ : ∃ e, l[k] = e := ⟨_, rfl⟩
      rw [he] at HG
      have a0 : wr.cell? ⟨g, k * 5, none⟩ = some (.int .i64 mk.q) := row_cell HSr.out HG.out
      have i2 : (k : Int) < (l.length : Int) := by omega
      clear he
      by_cases hq : mk.q < m.q
      · have hq1 : decide (mk.q < m.q) = true := by simpa using hq
        have hn2 : Hid (∀ (i : Nat) a, i < k + 1 → l[i]? = some a → a.q < m.q) := fun i a hi ha => by
          by_cases ei : i = k
          · subst ei; rw [HG.out] at ha; cases ha; exact hq
          · exact hn.out i a (by omega) ha
        go_wp2
        go_quiet (fail)
        have hBV2 : Hid (Below V.heap.size V (wr.drewN nq)) := qts.bdrewN hBV.out _
        go_wp2
        go_roundw
        case rel => exact ⟨k + 1, by omega, by go_num, hn2, hBV2⟩
        case measure => simp [intOf]; omega
      · have hq1 : decide (mk.q < m.q) = false := by simpa using hq
        have HPT : Hid (back l m = l.take k ++ [m] ++ l.drop k) := back_at (at_of hn.out (fun e he => by rw [HG.out] at he; cases he; exact hq) hk)
        have r4 : ¬ c = k := by omega
        have r10 : k ≤ l.length := by omega
        have HRL : Hid ((l.drop k).length = l.length - k) := by show (l.drop k).length = l.length - k; simp
        go_wp2
        go_quiet (fail)
        obtain ⟨X, hX⟩ : ∃ X, wr.drewN nq = X := ⟨_, rfl⟩
        have hWX : Below wr.heap.size wr X := by rw [← hX]; exact qts.bdrewN (Below.refl _ _) _
        rw [hX]
        have hBX : Hid (Below w.heap.size w X) := hB.out.trans (hWX.mono hB.out.size)
        have HSX : Hid (Row flM.c 5 X X.heap.size (some ⟨g, 0, none⟩) l) := HSr.out.inn hWX
        have HBY : Hid (X.heap[w.heap.size]? = some (.cells #[.int .i64 m.q, .string m.x, .string m.k, .string m.b, .bool m.a] 38 (0, 0))) := bstay HBX.out hWX (Array.getElem?_eq_some_iff.1 HBX.out).1
        clear hX
        go_wp2
        refine dk.region_gsets (ws g l.length c (k) (k * 5) (l.length - k) (c - k) m) [22, 23, 24, 25, 26, 27, 28, 29, 30, 31, 32, 33, 4] (tas.C ⟨X, 38, 5, (l.take k).flatMap flM.c, [.int .i64 m.q, .string m.x, .string m.k, .string m.b, .bool m.a], (l.drop k).flatMap flM.c, k, l.length - k⟩ J0) ⟨0, .slice none 0 0, 0, .slice none 0 0, .slice none 0 0, .slice none 0 0⟩ (by kernel_rfl) (by kernel_rfl) (fun _ => rfl) (by kernel_rfl) (tas.start _ _ _) ?each ?fin
        case each =>
          refine ⟨tas.st0 (x := J0) (d := 22) (idx := 0) J0_up (by simp) rfl (by simp) (fun g => rfl) (fun g => rfl) (fun g e => rfl) (fun s W => by simp [execOp, go_sem]), ?_⟩
          refine ⟨tas.quiet (by decide) (by simp) (.slice (some ⟨g, 0, none⟩) l.length c) (by rintro s _ ⟨⟩; exact dk.sets_on _ (by simp) _ rfl) (fun s W h => by simp [execOp, go_sem, Act.eval, dk.sets_get, ws, List.lookup]), ?_⟩
          refine ⟨tas.quiet (by decide) (by simp) (.int .i64 (k : Nat)) (by rintro s _ ⟨⟩; exact dk.sets_on _ (by simp) _ rfl) (fun s W h => by simp [execOp, go_sem, Act.eval, dk.sets_get, ws, List.lookup]), ?_⟩
          refine ⟨tas.quiet (by decide) (by simp) (.slice (some ⟨g, 0, none⟩) (k) c) (by rintro s _ ⟨⟩; exact dk.sets_on _ (by simp) _ rfl) (fun s W h => by simp [execOp, go_sem, Act.eval, dk.sets_get, ws, List.lookup, r9]), ?_⟩
          refine ⟨tas.st1 (x := J0) (d := 26) (s1 := 22) (s2 := 25) (idx := 4) (c := c) (a := ⟨g, 0, none⟩) J0_up Try.underlying27 hi hz0 hz1 hz2 rfl (by show 0 < 5; decide) rfl rfl ⟨by simp, by simp, by simp⟩ (fun g => rfl) (fun g => rfl) (fun g => rfl) (fun g => rfl) (fun g v => rfl) (by show ((l.take k).flatMap flM.c).length = (k) * 5; rw [flat_len flM.c_len, List.length_take, Nat.min_eq_left (by omega)]) (fun W hb => news_take (HSX.out.inn hb) (k)) (qsp.oneY _) (by show k ≤ 1048576; omega) (by show (0 + k) * 64 ≤ 140737488355328; omega) ⟨⟨0, .data⟩, by simp, rfl, rfl⟩, ?_⟩
          refine ⟨tas.quiet (by decide) (by simp) (.agg #[.int .i64 m.q, .string m.x, .string m.k, .string m.b, .bool m.a]) (by rintro s _ ⟨⟩; exact dk.sets_on _ (by simp) _ rfl) (fun s W h => by obtain ⟨d0, d1, d2, d3, d4⟩ := box5 (h _ _ HBY.out); simp [execOp, go_sem, Act.eval, dk.sets_get, ws, List.lookup, d0, d1, d2, d3, d4]), ?_⟩
          refine ⟨tas.st2 (x := J0) (d := 28) (idx := 6) J0_up (by simp) rfl (by simp) (fun g => rfl) (fun g => rfl) (fun g e => rfl) (fun s W => by simp [execOp, go_sem, Act.eval, dk.sets_get, ws, List.lookup]), ?_⟩
          refine ⟨tas.st3 (x := J0) (d := 29) (s1 := 26) (s2 := 28) (idx := 7) J0_up Try.underlying27 hi hz0 hz1 hz2 rfl (by show 0 < 5; decide) rfl rfl ⟨by simp, by simp, by simp⟩ (fun g => rfl) (fun g => rfl) (fun g => rfl) (fun g => rfl) (fun g v => rfl) rfl (by intro u hu; simp at hu; rcases hu with rfl | rfl | rfl | rfl | rfl <;> rfl) (by show k ≤ 1048576; omega) (by show (k + 1) * 64 ≤ 140737488355328; omega) ⟨⟨4, .data⟩, by simp, rfl, rfl⟩ ⟨⟨6, .data⟩, by simp, rfl, rfl⟩, ?_⟩
          refine ⟨tas.quiet (by decide) (by simp) (.slice (some ⟨g, 0, none⟩) l.length c) (by rintro s _ ⟨⟩; exact dk.sets_on _ (by simp) _ rfl) (fun s W h => by simp [execOp, go_sem, Act.eval, dk.sets_get, ws, List.lookup]), ?_⟩
          refine ⟨tas.quiet (by decide) (by simp) (.int .i64 (k : Nat)) (by rintro s _ ⟨⟩; exact dk.sets_on _ (by simp) _ rfl) (fun s W h => by simp [execOp, go_sem, Act.eval, dk.sets_get, ws, List.lookup]), ?_⟩
          refine ⟨tas.quiet (by decide) (by simp) (.slice (some ⟨g, k * 5, none⟩) (l.length - k) (c - k)) (by rintro s _ ⟨⟩; exact dk.sets_on _ (by simp) _ rfl) (fun s W h => by simp [execOp, go_sem, Act.eval, dk.sets_get, ws, List.lookup, r4, r10]), ?_⟩
          refine ⟨tas.st4 (x := J0) (d := 33) (s1 := 29) (s2 := 32) (idx := 11) (c := c - k) (a := ⟨g, k * 5, none⟩) J0_up Try.underlying27 hi hz0 hz1 hz2 rfl (by show 0 < 5; decide) rfl rfl ⟨by simp, by simp, by simp⟩ (fun g => rfl) (fun g => rfl) (fun g => rfl) (fun g => rfl) (fun g v => rfl) (by show ((l.drop k).flatMap flM.c).length = (l.length - k) * 5; rw [flat_len flM.c_len, HRL.out]) (fun W hb => news_drop (HSX.out.inn hb) k (by omega)) (qsp.oneY _) (by show k ≤ 1048576 ∧ l.length - k ≤ 1048576; omega) (by show (k + 1 + (l.length - k)) * 64 ≤ 140737488355328; omega) ⟨⟨7, .data⟩, by simp, rfl, rfl⟩, ?_⟩
          exact ⟨tas.st5 (x := J0) (d := 4) (s1 := 33) (idx := 12) J0_up rfl rfl ⟨by simp, by simp⟩ (fun g => rfl) (fun g => rfl) (fun g => rfl) (fun g v => rfl) ⟨⟨11, .data⟩, by simp, rfl, rfl⟩, trivial⟩
        case fin =>
          intro s L X3 hL hC
          obtain ⟨hbl, hv4, hown⟩ := tas.done hC J0_up (N := 13) (by decide) hL
          replace hbl : Below X.heap.size X X3 := hbl
          replace hown : X3.ownsRow X.heap.size 38 5 s.v3 (k + 1 + (l.length - k)) ((l.take k).flatMap flM.c ++ [.int .i64 m.q, .string m.x, .string m.k, .string m.b, .bool m.a] ++ (l.drop k).flatMap flM.c) := hown
          have hlen : k + 1 + (l.length - k) = (back l m).length := by have := back_len l m; omega
          have hfl : (l.take k).flatMap flM.c ++ [.int .i64 m.q, .string m.x, .string m.k, .string m.b, .bool m.a] ++ (l.drop k).flatMap flM.c = (back l m).flatMap flM.c := by rw [HPT.out]; simp [flM.c]
          rw [hlen, hfl] at hown
          obtain ⟨g5, c5, hv3⟩ : ∃ g5 c5, s.v3 = .slice (some ⟨g5, 0, none⟩) (back l m).length c5 := by
            obtain ⟨_, ⟨_, h0⟩ | ⟨g6, cap, cur, e, _⟩⟩ := hown
            · omega
            · exact ⟨g6, cap, e⟩
          rw [hv3] at hown hv4
          have HOW : Hid (X3.ownsRow w.heap.size 38 5 (.slice (some ⟨g5, 0, none⟩) (back l m).length c5) (back l m).length ((back l m).flatMap flM.c)) := qsp.own_low hown hBX.out.size
          have HBL : Hid (Below X.heap.size X X3) := hbl
          have HV4 : Hid (s.v4 = .slice (some ⟨g5, 0, none⟩) (back l m).length c5) := hv4
          clear hC hL hbl hown hlen hfl hv3 hv4
          go_wp2
          refine bodyPost_ret (v := .slice (some ⟨g5, 0, none⟩) (back l m).length c5) (by simp [results, Try.results47, go_sem, dk.sets_get, ws, List.lookup, HV4.out]) rfl ?_
          exact ⟨g5, c5, rfl, HOW.out, hBX.out.trans (HBL.out.mono hBX.out.size)⟩
    · obtain rfl : k = l.length := by omega
      have HPT : Hid (back l m = l.take l.length ++ [m] ++ l.drop l.length) := back_at (at_of hn.out (fun e he => by simp at he) hk)
      have f0 : decide ((l.length : Int) < (l.length : Int)) = false := by simp
      by_cases hck : c = l.length
      · have r4 := hck
        have HRL : Hid ((l.drop l.length).length = 0) := by show (l.drop l.length).length = 0; simp
        go_wp2
        go_quiet (fail)
        obtain ⟨X, hX⟩ : ∃ X, wr.drewN nq = X := ⟨_, rfl⟩
        have hWX : Below wr.heap.size wr X := by rw [← hX]; exact qts.bdrewN (Below.refl _ _) _
        rw [hX]
        have hBX : Hid (Below w.heap.size w X) := hB.out.trans (hWX.mono hB.out.size)
        have HSX : Hid (Row flM.c 5 X X.heap.size (some ⟨g, 0, none⟩) l) := HSr.out.inn hWX
        have HBY : Hid (X.heap[w.heap.size]? = some (.cells #[.int .i64 m.q, .string m.x, .string m.k, .string m.b, .bool m.a] 38 (0, 0))) := bstay HBX.out hWX (Array.getElem?_eq_some_iff.1 HBX.out).1
        clear hX
        go_wp2
        refine dk.region_gsets (ws g l.length c (l.length) (0) (0) (0) m) [22, 23, 24, 25, 26, 27, 28, 29, 30, 31, 32, 33, 4] (tas.C ⟨X, 38, 5, (l.take l.length).flatMap flM.c, [.int .i64 m.q, .string m.x, .string m.k, .string m.b, .bool m.a], (l.drop l.length).flatMap flM.c, l.length, 0⟩ J0) ⟨0, .slice none 0 0, 0, .slice none 0 0, .slice none 0 0, .slice none 0 0⟩ (by kernel_rfl) (by kernel_rfl) (fun _ => rfl) (by kernel_rfl) (tas.start _ _ _) ?each ?fin
        case each =>
          refine ⟨tas.st0 (x := J0) (d := 22) (idx := 0) J0_up (by simp) rfl (by simp) (fun g => rfl) (fun g => rfl) (fun g e => rfl) (fun s W => by simp [execOp, go_sem]), ?_⟩
          refine ⟨tas.quiet (by decide) (by simp) (.slice (some ⟨g, 0, none⟩) l.length c) (by rintro s _ ⟨⟩; exact dk.sets_on _ (by simp) _ rfl) (fun s W h => by simp [execOp, go_sem, Act.eval, dk.sets_get, ws, List.lookup]), ?_⟩
          refine ⟨tas.quiet (by decide) (by simp) (.int .i64 (l.length : Nat)) (by rintro s _ ⟨⟩; exact dk.sets_on _ (by simp) _ rfl) (fun s W h => by simp [execOp, go_sem, Act.eval, dk.sets_get, ws, List.lookup]), ?_⟩
          refine ⟨tas.quiet (by decide) (by simp) (.slice (some ⟨g, 0, none⟩) (l.length) c) (by rintro s _ ⟨⟩; exact dk.sets_on _ (by simp) _ rfl) (fun s W h => by simp [execOp, go_sem, Act.eval, dk.sets_get, ws, List.lookup, r9]), ?_⟩
          refine ⟨tas.st1 (x := J0) (d := 26) (s1 := 22) (s2 := 25) (idx := 4) (c := c) (a := ⟨g, 0, none⟩) J0_up Try.underlying27 hi hz0 hz1 hz2 rfl (by show 0 < 5; decide) rfl rfl ⟨by simp, by simp, by simp⟩ (fun g => rfl) (fun g => rfl) (fun g => rfl) (fun g => rfl) (fun g v => rfl) (by show ((l.take l.length).flatMap flM.c).length = (l.length) * 5; rw [flat_len flM.c_len, List.length_take, Nat.min_eq_left (by omega)]) (fun W hb => news_take (HSX.out.inn hb) (l.length)) (qsp.oneY _) (by show l.length ≤ 1048576; omega) (by show (0 + l.length) * 64 ≤ 140737488355328; omega) ⟨⟨0, .data⟩, by simp, rfl, rfl⟩, ?_⟩
          refine ⟨tas.quiet (by decide) (by simp) (.agg #[.int .i64 m.q, .string m.x, .string m.k, .string m.b, .bool m.a]) (by rintro s _ ⟨⟩; exact dk.sets_on _ (by simp) _ rfl) (fun s W h => by obtain ⟨d0, d1, d2, d3, d4⟩ := box5 (h _ _ HBY.out); simp [execOp, go_sem, Act.eval, dk.sets_get, ws, List.lookup, d0, d1, d2, d3, d4]), ?_⟩
          refine ⟨tas.st2 (x := J0) (d := 28) (idx := 6) J0_up (by simp) rfl (by simp) (fun g => rfl) (fun g => rfl) (fun g e => rfl) (fun s W => by simp [execOp, go_sem, Act.eval, dk.sets_get, ws, List.lookup]), ?_⟩
          refine ⟨tas.st3 (x := J0) (d := 29) (s1 := 26) (s2 := 28) (idx := 7) J0_up Try.underlying27 hi hz0 hz1 hz2 rfl (by show 0 < 5; decide) rfl rfl ⟨by simp, by simp, by simp⟩ (fun g => rfl) (fun g => rfl) (fun g => rfl) (fun g => rfl) (fun g v => rfl) rfl (by intro u hu; simp at hu; rcases hu with rfl | rfl | rfl | rfl | rfl <;> rfl) (by show l.length ≤ 1048576; omega) (by show (l.length + 1) * 64 ≤ 140737488355328; omega) ⟨⟨4, .data⟩, by simp, rfl, rfl⟩ ⟨⟨6, .data⟩, by simp, rfl, rfl⟩, ?_⟩
          refine ⟨tas.quiet (by decide) (by simp) (.slice (some ⟨g, 0, none⟩) l.length c) (by rintro s _ ⟨⟩; exact dk.sets_on _ (by simp) _ rfl) (fun s W h => by simp [execOp, go_sem, Act.eval, dk.sets_get, ws, List.lookup]), ?_⟩
          refine ⟨tas.quiet (by decide) (by simp) (.int .i64 (l.length : Nat)) (by rintro s _ ⟨⟩; exact dk.sets_on _ (by simp) _ rfl) (fun s W h => by simp [execOp, go_sem, Act.eval, dk.sets_get, ws, List.lookup]), ?_⟩
          refine ⟨tas.quiet (by decide) (by simp) (.slice (some ⟨g, 0, none⟩) (0) (0)) (by rintro s _ ⟨⟩; exact dk.sets_on _ (by simp) _ rfl) (fun s W h => by simp [execOp, go_sem, Act.eval, dk.sets_get, ws, List.lookup, r4]), ?_⟩
          refine ⟨tas.st4 (x := J0) (d := 33) (s1 := 29) (s2 := 32) (idx := 11) (c := 0) (a := ⟨g, 0, none⟩) J0_up Try.underlying27 hi hz0 hz1 hz2 rfl (by show 0 < 5; decide) rfl rfl ⟨by simp, by simp, by simp⟩ (fun g => rfl) (fun g => rfl) (fun g => rfl) (fun g => rfl) (fun g v => rfl) (by show ((l.drop l.length).flatMap flM.c).length = (0) * 5; rw [flat_len flM.c_len, HRL.out]) (fun W hb => by rw [List.drop_length]; intro j u hu; simp at hu) (qsp.oneY _) (by show l.length ≤ 1048576 ∧ 0 ≤ 1048576; omega) (by show (l.length + 1 + (0)) * 64 ≤ 140737488355328; omega) ⟨⟨7, .data⟩, by simp, rfl, rfl⟩, ?_⟩
          exact ⟨tas.st5 (x := J0) (d := 4) (s1 := 33) (idx := 12) J0_up rfl rfl ⟨by simp, by simp⟩ (fun g => rfl) (fun g => rfl) (fun g => rfl) (fun g v => rfl) ⟨⟨11, .data⟩, by simp, rfl, rfl⟩, trivial⟩
        case fin =>
          intro s L X3 hL hC
          obtain ⟨hbl, hv4, hown⟩ := tas.done hC J0_up (N := 13) (by decide) hL
          replace hbl : Below X.heap.size X X3 := hbl
          replace hown : X3.ownsRow X.heap.size 38 5 s.v3 (l.length + 1 + (0)) ((l.take l.length).flatMap flM.c ++ [.int .i64 m.q, .string m.x, .string m.k, .string m.b, .bool m.a] ++ (l.drop l.length).flatMap flM.c) := hown
          have hlen : l.length + 1 + (0) = (back l m).length := by have := back_len l m; omega
          have hfl : (l.take l.length).flatMap flM.c ++ [.int .i64 m.q, .string m.x, .string m.k, .string m.b, .bool m.a] ++ (l.drop l.length).flatMap flM.c = (back l m).flatMap flM.c := by rw [HPT.out]; simp [flM.c]
          rw [hlen, hfl] at hown
          obtain ⟨g5, c5, hv3⟩ : ∃ g5 c5, s.v3 = .slice (some ⟨g5, 0, none⟩) (back l m).length c5 := by
            obtain ⟨_, ⟨_, h0⟩ | ⟨g6, cap, cur, e, _⟩⟩ := hown
            · omega
            · exact ⟨g6, cap, e⟩
          rw [hv3] at hown hv4
          have HOW : Hid (X3.ownsRow w.heap.size 38 5 (.slice (some ⟨g5, 0, none⟩) (back l m).length c5) (back l m).length ((back l m).flatMap flM.c)) := qsp.own_low hown hBX.out.size
          have HBL : Hid (Below X.heap.size X X3) := hbl
          have HV4 : Hid (s.v4 = .slice (some ⟨g5, 0, none⟩) (back l m).length c5) := hv4
          clear hC hL hbl hown hlen hfl hv3 hv4
          go_wp2
          refine bodyPost_ret (v := .slice (some ⟨g5, 0, none⟩) (back l m).length c5) (by simp [results, Try.results47, go_sem, dk.sets_get, ws, List.lookup, HV4.out]) rfl ?_
          exact ⟨g5, c5, rfl, HOW.out, hBX.out.trans (HBL.out.mono hBX.out.size)⟩
      · have r4 : ¬ c = l.length := hck
        have HRL : Hid ((l.drop l.length).length = 0) := by show (l.drop l.length).length = 0; simp
        go_wp2
        go_quiet (fail)
        obtain ⟨X, hX⟩ : ∃ X, wr.drewN nq = X := ⟨_, rfl⟩
        have hWX : Below wr.heap.size wr X := by rw [← hX]; exact qts.bdrewN (Below.refl _ _) _
        rw [hX]
        have hBX : Hid (Below w.heap.size w X) := hB.out.trans (hWX.mono hB.out.size)
        have HSX : Hid (Row flM.c 5 X X.heap.size (some ⟨g, 0, none⟩) l) := HSr.out.inn hWX
        have HBY : Hid (X.heap[w.heap.size]? = some (.cells #[.int .i64 m.q, .string m.x, .string m.k, .string m.b, .bool m.a] 38 (0, 0))) := bstay HBX.out hWX (Array.getElem?_eq_some_iff.1 HBX.out).1
        clear hX
        go_wp2
        refine dk.region_gsets (ws g l.length c (l.length) (l.length * 5) (0) (c - l.length) m) [22, 23, 24, 25, 26, 27, 28, 29, 30, 31, 32, 33, 4] (tas.C ⟨X, 38, 5, (l.take l.length).flatMap flM.c, [.int .i64 m.q, .string m.x, .string m.k, .string m.b, .bool m.a], (l.drop l.length).flatMap flM.c, l.length, 0⟩ J0) ⟨0, .slice none 0 0, 0, .slice none 0 0, .slice none 0 0, .slice none 0 0⟩ (by kernel_rfl) (by kernel_rfl) (fun _ => rfl) (by kernel_rfl) (tas.start _ _ _) ?each ?fin
        case each =>
          refine ⟨tas.st0 (x := J0) (d := 22) (idx := 0) J0_up (by simp) rfl (by simp) (fun g => rfl) (fun g => rfl) (fun g e => rfl) (fun s W => by simp [execOp, go_sem]), ?_⟩
          refine ⟨tas.quiet (by decide) (by simp) (.slice (some ⟨g, 0, none⟩) l.length c) (by rintro s _ ⟨⟩; exact dk.sets_on _ (by simp) _ rfl) (fun s W h => by simp [execOp, go_sem, Act.eval, dk.sets_get, ws, List.lookup]), ?_⟩
          refine ⟨tas.quiet (by decide) (by simp) (.int .i64 (l.length : Nat)) (by rintro s _ ⟨⟩; exact dk.sets_on _ (by simp) _ rfl) (fun s W h => by simp [execOp, go_sem, Act.eval, dk.sets_get, ws, List.lookup]), ?_⟩
          refine ⟨tas.quiet (by decide) (by simp) (.slice (some ⟨g, 0, none⟩) (l.length) c) (by rintro s _ ⟨⟩; exact dk.sets_on _ (by simp) _ rfl) (fun s W h => by simp [execOp, go_sem, Act.eval, dk.sets_get, ws, List.lookup, r9]), ?_⟩
          refine ⟨tas.st1 (x := J0) (d := 26) (s1 := 22) (s2 := 25) (idx := 4) (c := c) (a := ⟨g, 0, none⟩) J0_up Try.underlying27 hi hz0 hz1 hz2 rfl (by show 0 < 5; decide) rfl rfl ⟨by simp, by simp, by simp⟩ (fun g => rfl) (fun g => rfl) (fun g => rfl) (fun g => rfl) (fun g v => rfl) (by show ((l.take l.length).flatMap flM.c).length = (l.length) * 5; rw [flat_len flM.c_len, List.length_take, Nat.min_eq_left (by omega)]) (fun W hb => news_take (HSX.out.inn hb) (l.length)) (qsp.oneY _) (by show l.length ≤ 1048576; omega) (by show (0 + l.length) * 64 ≤ 140737488355328; omega) ⟨⟨0, .data⟩, by simp, rfl, rfl⟩, ?_⟩
          refine ⟨tas.quiet (by decide) (by simp) (.agg #[.int .i64 m.q, .string m.x, .string m.k, .string m.b, .bool m.a]) (by rintro s _ ⟨⟩; exact dk.sets_on _ (by simp) _ rfl) (fun s W h => by obtain ⟨d0, d1, d2, d3, d4⟩ := box5 (h _ _ HBY.out); simp [execOp, go_sem, Act.eval, dk.sets_get, ws, List.lookup, d0, d1, d2, d3, d4]), ?_⟩
          refine ⟨tas.st2 (x := J0) (d := 28) (idx := 6) J0_up (by simp) rfl (by simp) (fun g => rfl) (fun g => rfl) (fun g e => rfl) (fun s W => by simp [execOp, go_sem, Act.eval, dk.sets_get, ws, List.lookup]), ?_⟩
          refine ⟨tas.st3 (x := J0) (d := 29) (s1 := 26) (s2 := 28) (idx := 7) J0_up Try.underlying27 hi hz0 hz1 hz2 rfl (by show 0 < 5; decide) rfl rfl ⟨by simp, by simp, by simp⟩ (fun g => rfl) (fun g => rfl) (fun g => rfl) (fun g => rfl) (fun g v => rfl) rfl (by intro u hu; simp at hu; rcases hu with rfl | rfl | rfl | rfl | rfl <;> rfl) (by show l.length ≤ 1048576; omega) (by show (l.length + 1) * 64 ≤ 140737488355328; omega) ⟨⟨4, .data⟩, by simp, rfl, rfl⟩ ⟨⟨6, .data⟩, by simp, rfl, rfl⟩, ?_⟩
          refine ⟨tas.quiet (by decide) (by simp) (.slice (some ⟨g, 0, none⟩) l.length c) (by rintro s _ ⟨⟩; exact dk.sets_on _ (by simp) _ rfl) (fun s W h => by simp [execOp, go_sem, Act.eval, dk.sets_get, ws, List.lookup]), ?_⟩
          refine ⟨tas.quiet (by decide) (by simp) (.int .i64 (l.length : Nat)) (by rintro s _ ⟨⟩; exact dk.sets_on _ (by simp) _ rfl) (fun s W h => by simp [execOp, go_sem, Act.eval, dk.sets_get, ws, List.lookup]), ?_⟩
          refine ⟨tas.quiet (by decide) (by simp) (.slice (some ⟨g, l.length * 5, none⟩) (0) (c - l.length)) (by rintro s _ ⟨⟩; exact dk.sets_on _ (by simp) _ rfl) (fun s W h => by simp [execOp, go_sem, Act.eval, dk.sets_get, ws, List.lookup, r4]), ?_⟩
          refine ⟨tas.st4 (x := J0) (d := 33) (s1 := 29) (s2 := 32) (idx := 11) (c := c - l.length) (a := ⟨g, l.length * 5, none⟩) J0_up Try.underlying27 hi hz0 hz1 hz2 rfl (by show 0 < 5; decide) rfl rfl ⟨by simp, by simp, by simp⟩ (fun g => rfl) (fun g => rfl) (fun g => rfl) (fun g => rfl) (fun g v => rfl) (by show ((l.drop l.length).flatMap flM.c).length = (0) * 5; rw [flat_len flM.c_len, HRL.out]) (fun W hb => by rw [List.drop_length]; intro j u hu; simp at hu) (qsp.oneY _) (by show l.length ≤ 1048576 ∧ 0 ≤ 1048576; omega) (by show (l.length + 1 + (0)) * 64 ≤ 140737488355328; omega) ⟨⟨7, .data⟩, by simp, rfl, rfl⟩, ?_⟩
          exact ⟨tas.st5 (x := J0) (d := 4) (s1 := 33) (idx := 12) J0_up rfl rfl ⟨by simp, by simp⟩ (fun g => rfl) (fun g => rfl) (fun g => rfl) (fun g v => rfl) ⟨⟨11, .data⟩, by simp, rfl, rfl⟩, trivial⟩
        case fin =>
          intro s L X3 hL hC
          obtain ⟨hbl, hv4, hown⟩ := tas.done hC J0_up (N := 13) (by decide) hL
          replace hbl : Below X.heap.size X X3 := hbl
          replace hown : X3.ownsRow X.heap.size 38 5 s.v3 (l.length + 1 + (0)) ((l.take l.length).flatMap flM.c ++ [.int .i64 m.q, .string m.x, .string m.k, .string m.b, .bool m.a] ++ (l.drop l.length).flatMap flM.c) := hown
          have hlen : l.length + 1 + (0) = (back l m).length := by have := back_len l m; omega
          have hfl : (l.take l.length).flatMap flM.c ++ [.int .i64 m.q, .string m.x, .string m.k, .string m.b, .bool m.a] ++ (l.drop l.length).flatMap flM.c = (back l m).flatMap flM.c := by rw [HPT.out]; simp [flM.c]
          rw [hlen, hfl] at hown
          obtain ⟨g5, c5, hv3⟩ : ∃ g5 c5, s.v3 = .slice (some ⟨g5, 0, none⟩) (back l m).length c5 := by
            obtain ⟨_, ⟨_, h0⟩ | ⟨g6, cap, cur, e, _⟩⟩ := hown
            · omega
            · exact ⟨g6, cap, e⟩
          rw [hv3] at hown hv4
          have HOW : Hid (X3.ownsRow w.heap.size 38 5 (.slice (some ⟨g5, 0, none⟩) (back l m).length c5) (back l m).length ((back l m).flatMap flM.c)) := qsp.own_low hown hBX.out.size
          have HBL : Hid (Below X.heap.size X X3) := hbl
          have HV4 : Hid (s.v4 = .slice (some ⟨g5, 0, none⟩) (back l m).length c5) := hv4
          clear hC hL hbl hown hlen hfl hv3 hv4
          go_wp2
          refine bodyPost_ret (v := .slice (some ⟨g5, 0, none⟩) (back l m).length c5) (by simp [results, Try.results47, go_sem, dk.sets_get, ws, List.lookup, HV4.out]) rfl ?_
          exact ⟨g5, c5, rfl, HOW.out, hBX.out.trans (HBL.out.mono hBX.out.size)⟩
end Go.Proofs.Ytdondjnihonacaa.qbs
