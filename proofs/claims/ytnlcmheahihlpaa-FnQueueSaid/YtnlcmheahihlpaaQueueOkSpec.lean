/- The specification's QueueOk. -/
import Derived.Test.YtnlcmheahihlpaaQueuePure
namespace Go.Proofs.Ytnlcmheahihlpaa.qks
open Go.ChangeShapes Go.WideShapes Go.ChangeAt Go.RowKit Go.Proofs.Ytnlcmheahihlpaa.fl Go.Proofs.Ytnlcmheahihlpaa.qk
set_option linter.unusedVariables false

theorem msg' (m : flM.Ms) (nx : Int) {w : World} (N : qi.Cls w) (hnx : 1 ≤ nx ∧ nx ≤ 1000000000) (hm : m.x.size ≤ 1048576 ∧ m.k.size ≤ 1048576 ∧ m.b.size ≤ 1048576) :
    Calls Try.prog 41 #[.agg #[.int .i64 m.q, .string m.x, .string m.k, .string m.b, .bool m.a], .int .i64 nx] N.x fun e w' => e = .returned (.bool (mOk m nx)) ∧ qi.T w w' :=
  (spec_msg m nx N.x hnx hm).mono fun e w' ⟨h1, h2⟩ => ⟨h1, N.h.next h2⟩
def GoodR (rs : List flM.Ms) (nx : Int) (k : Nat) : Prop := (∀ (i : Nat) (m : flM.Ms), i < k → rs[i]? = some m → mOk m nx = true) ∧ ∀ (i : Nat) (a b : flM.Ms), i + 1 < k → rs[i]? = some a → rs[i + 1]? = some b → a.q < b.q
theorem good_zero (rs : List flM.Ms) (nx : Int) : GoodR rs nx 0 := ⟨fun i m h => by omega, fun i a b h => by omega⟩
theorem good_next {rs : List flM.Ms} {nx : Int} {k : Nat} {e : flM.Ms} (h : GoodR rs nx k) (he : rs[k]? = some e) (h1 : mOk e nx = true) (h2 : ∀ p, k ≠ 0 → rs[k - 1]? = some p → p.q < e.q) : GoodR rs nx (k + 1) := by
  refine ⟨fun i f hi hf => ?_, fun i a b hi ha hb => ?_⟩
  · by_cases ei : i = k
    · subst ei; rw [he] at hf; cases hf; exact h1
    · exact h.1 i f (by omega) hf
  · by_cases ei : i + 1 = k
    · subst ei; rw [he] at hb; cases hb; exact h2 a (by omega) (by simpa using ha)
    · exact h.2 i a b (by omega) ha hb
theorem in' (x a b : Int) {w : World} (N : qi.Cls w) : Calls Try.prog 40 #[.int .i64 x, .int .i64 a, .int .i64 b] N.x fun e w' => e = .returned (.bool (decide (a ≤ x ∧ x ≤ b))) ∧ qi.T w w' :=
  (ky.within x a b N.x).mono fun e w' ⟨h1, h2⟩ => ⟨h1, by rw [← h2]; exact N.h⟩
theorem bef' (a b : flH.Hd) {w : World} (N : qi.Cls w) : Calls Try.prog 42 #[.agg #[.int .i64 a.t, .int .i64 a.o, .int .i64 a.m.q, .string a.m.x, .string a.m.k, .string a.m.b, .bool a.m.a], .agg #[.int .i64 b.t, .int .i64 b.o, .int .i64 b.m.q, .string b.m.x, .string b.m.k, .string b.m.b, .bool b.m.a]] N.x fun e w' => e = .returned (.bool (hB a b)) ∧ qi.T w w' :=
  (spec_before a b N.x).mono fun e w' ⟨h1, h2⟩ => ⟨h1, N.h.next h2⟩
structure GoodH (rs : List flM.Ms) (hs : List flH.Hd) (nx : Int) (k : Nat) : Prop where
  hm : ∀ (i : Nat) (h : flH.Hd), i < k → hs[i]? = some h → mOk h.m nx = true ∧ hOk h = true
  hu : ∀ (i : Nat) (a b : flH.Hd), i + 1 < k → hs[i]? = some a → hs[i + 1]? = some b → hLt a b
  d1 : ∀ (i j : Nat) (m : flM.Ms) (h : flH.Hd), i < k → rs[j]? = some m → hs[i]? = some h → m.q ≠ h.m.q
  d2 : ∀ (i j : Nat) (a b : flH.Hd), j < i → i < k → hs[j]? = some a → hs[i]? = some b → a.m.q ≠ b.m.q
theorem goodH_zero (rs : List flM.Ms) (hs : List flH.Hd) (nx : Int) : GoodH rs hs nx 0 := ⟨fun i h h0 => by omega, fun i a b h0 => by omega, fun i j m h h0 => by omega, fun i j a b _ h0 => by omega⟩
theorem goodH_next {rs : List flM.Ms} {hs : List flH.Hd} {nx : Int} {k : Nat} {e : flH.Hd} (h : GoodH rs hs nx k) (he : hs[k]? = some e) (h1 : mOk e.m nx = true) (h2 : hOk e = true) (h3 : ∀ p, k ≠ 0 → hs[k - 1]? = some p → hLt p e) (h4 : ∀ (i : Nat) (m : flM.Ms), rs[i]? = some m → m.q ≠ e.m.q) (h5 : ∀ (i : Nat) (a : flH.Hd), i < k → hs[i]? = some a → a.m.q ≠ e.m.q) : GoodH rs hs nx (k + 1) := by
  refine ⟨fun i f hi hf => ?_, fun i a b hi ha hb => ?_, fun i j m f hi hm hf => ?_, fun i j a b hji hi ha hb => ?_⟩
  · by_cases ei : i = k
    · subst ei; rw [he] at hf; cases hf; exact ⟨h1, h2⟩
    · exact h.hm i f (by omega) hf
  · by_cases ei : i + 1 = k
    · subst ei; rw [he] at hb; cases hb; exact h3 a (by omega) (by simpa using ha)
    · exact h.hu i a b (by omega) ha hb
  · by_cases ei : i = k
    · subst ei; rw [he] at hf; cases hf; exact h4 j m hm
    · exact h.d1 i j m f (by omega) hm hf
  · by_cases ei : i = k
    · subst ei; rw [he] at hb; cases hb; exact h5 j a hji ha
    · exact h.d2 i j a b hji (by omega) ha hb
theorem all_good {n : ByteArray} {nx : Int} {rs : List flM.Ms} {hs : List flH.Hd} (h1 : nm.good n = true) (h2 : 1 ≤ nx ∧ nx ≤ 1000000000) (h3 : rs.length + hs.length ≤ 500) (hr : GoodR rs nx rs.length) (hh : GoodH rs hs nx hs.length) : OkQ n nx rs hs :=
  ⟨h1, h2, h3, fun i m hm => hr.1 i m (List.getElem?_eq_some_iff.1 hm).1 hm, fun i a b ha hb => hr.2 i a b (List.getElem?_eq_some_iff.1 hb).1 ha hb, fun i h hh' => hh.hm i h (List.getElem?_eq_some_iff.1 hh').1 hh', fun i a b ha hb => hh.hu i a b (List.getElem?_eq_some_iff.1 hb).1 ha hb, fun i k m h hm hh' => hh.d1 i k m h (List.getElem?_eq_some_iff.1 hh').1 hm hh', fun i k a b hk ha hb => hh.d2 i k a b hk (List.getElem?_eq_some_iff.1 hb).1 ha hb⟩
def Ans (n : ByteArray) (nx : Int) (rs : List flM.Ms) (hs : List flH.Hd) (r : Ending) : Prop := ∃ b : Bool, r = .returned (.bool b) ∧ (b = true ↔ OkQ n nx rs hs)
theorem ans_no {n : ByteArray} {nx : Int} {rs : List flM.Ms} {hs : List flH.Hd} (h : ¬ OkQ n nx rs hs) : Ans n nx rs hs (.returned (.bool false)) := ⟨false, rfl, by simp [h]⟩
theorem ans_yes {n : ByteArray} {nx : Int} {rs : List flM.Ms} {hs : List flH.Hd} (h : OkQ n nx rs hs) : Ans n nx rs hs (.returned (.bool true)) := ⟨true, rfl, by simp [h]⟩

set_option maxRecDepth 100000 in
set_option maxHeartbeats 12000000 in
theorem spec_ok (n : ByteArray) (nx : Int) (rs : List flM.Ms) (hs : List flH.Hd) (ra ha : Option Addr) (rc hc : Nat) (w : World) (hn : n.size ≤ 1048576) (hrl : rs.length ≤ 1048576) (hhl : hs.length ≤ 1048576) (hro : ∀ e ∈ rs, e.x.size ≤ 1048576 ∧ e.k.size ≤ 1048576 ∧ e.b.size ≤ 1048576) (hho : ∀ e ∈ hs, e.m.x.size ≤ 1048576 ∧ e.m.k.size ≤ 1048576 ∧ e.m.b.size ≤ 1048576) (hR : Row flM.c 5 w w.heap.size ra rs) (hH : Row flH.c 7 w w.heap.size ha hs) :
    Calls Try.prog 12 #[.agg #[.string n, .int .i64 nx, .slice ra rs.length rc, .slice ha hs.length hc]] w fun r w' => Ans n nx rs hs r ∧ Below w.heap.size w w' := by
  have hb : Below w.heap.size w (w.alloc (.cells #[.string n, .int .i64 nx, .slice ra rs.length rc, .slice ha hs.length hc] 27)) := (Below.refl _ _).alloc (Nat.le_refl _) _
  have hA := bnew w #[.string n, .int .i64 nx, .slice ra rs.length rc, .slice ha hs.length hc] 27
  obtain ⟨W, hW⟩ : ∃ W, w.alloc (.cells #[.string n, .int .i64 nx, .slice ra rs.length rc, .slice ha hs.length hc] 27) = W := ⟨_, rfl⟩
  have hsW : W.heap.size = w.heap.size + 1 := by rw [← hW]; simp
  rw [hW] at hb hA
  have HR : Hid (Row flM.c 5 W W.heap.size ra rs) := hR.inn hb
  have HH : Hid (Row flH.c 7 W W.heap.size ha hs) := hH.inn hb
  have HA : Hid (W.heap[w.heap.size]? = some (.cells #[.string n, .int .i64 nx, .slice ra rs.length rc, .slice ha hs.length hc] 27 (0, 0))) := hA
  have BX : Hid (∀ w', Below W.heap.size W w' → w'.cell? ⟨w.heap.size, 0, none⟩ = some (.string n) ∧ w'.cell? ⟨w.heap.size, 1, none⟩ = some (.int .i64 nx) ∧ w'.cell? ⟨w.heap.size, 2, none⟩ = some (.slice ra rs.length rc) ∧ w'.cell? ⟨w.heap.size, 3, none⟩ = some (.slice ha hs.length hc)) := fun w' h => by
    have h1 := bstay HA.out h (by omega)
    exact ⟨bcell h1 rfl, bcell h1 rfl, bcell h1 rfl, bcell h1 rfl⟩
  obtain ⟨c0, c1, c2, c3⟩ := BX.out W (Below.refl _ _)
  have HRO : Hid (∀ e ∈ rs, e.x.size ≤ 1048576 ∧ e.k.size ≤ 1048576 ∧ e.b.size ≤ 1048576) := hro
  have HHO : Hid (∀ e ∈ hs, e.m.x.size ≤ 1048576 ∧ e.m.k.size ≤ 1048576 ∧ e.m.b.size ≤ 1048576) := hho
  have hnm := fun W => nm.spec_name n W hn
  have hin := fun W => ky.within nx 1 1000000000 W
  clear hR hH hA hro hho
  generalize hb2 : nm.good n = b2 at hnm
  generalize hb1 : decide (1 ≤ nx ∧ nx ≤ 1000000000) = b1 at hin
  have HB2 : Hid (nm.good n = b2) := hb2
  have HB1 : Hid (decide (1 ≤ nx ∧ nx ≤ 1000000000) = b1) := hb1
  clear hb1 hb2
  go_enter Try.func12, Try.ntmps12
  by_cases hg : b2 = true ∧ b1 = true ∧ rs.length + hs.length ≤ 500
  case neg =>
    have hbad : Hid (¬ OkQ n nx rs hs) := fun h => hg ⟨HB2.out.symm.trans h.nmo, HB1.out.symm.trans (decide_eq_true h.nxo), h.ln⟩
    cases b2
    · clear hg
      go_wp2_with (first | (go_at_call 40; refine (hin _).mono ?_; rintro e w1 ⟨rfl, hw1⟩; subst hw1) | (go_at_call 39; refine (hnm _).mono ?_; rintro e w2 ⟨rfl, hw2⟩; subst hw2))
      go_ret
      exact ⟨ans_no hbad.out, hb⟩
    · cases b1
      · clear hg
        go_wp2_with (first | (go_at_call 40; refine (hin _).mono ?_; rintro e w1 ⟨rfl, hw1⟩; subst hw1) | (go_at_call 39; refine (hnm _).mono ?_; rintro e w2 ⟨rfl, hw2⟩; subst hw2))
        go_ret
        exact ⟨ans_no hbad.out, hb⟩
      · have hgt : (500 : Int) < (rs.length : Int) + (hs.length : Int) := by simp at hg; omega
        have hwr : IntKind.i64.wrap ((rs.length : Int) + (hs.length : Int)) = (rs.length : Int) + (hs.length : Int) := by rw [IntKind.wrap_i64]; omega
        clear hg
        go_wp2_with (first | (go_at_call 40; refine (hin _).mono ?_; rintro e w1 ⟨rfl, hw1⟩; subst hw1) | (go_at_call 39; refine (hnm _).mono ?_; rintro e w2 ⟨rfl, hw2⟩; subst hw2))
        go_ret
        exact ⟨ans_no hbad.out, hb⟩
  case pos =>
    obtain ⟨rfl, rfl, hlen⟩ := hg
    have hnx : 1 ≤ nx ∧ nx ≤ 1000000000 := of_decide_eq_true HB1.out
    have hgt : ¬ (500 : Int) < (rs.length : Int) + (hs.length : Int) := by omega
    have hwr : IntKind.i64.wrap ((rs.length : Int) + (hs.length : Int)) = (rs.length : Int) + (hs.length : Int) := by rw [IntKind.wrap_i64]; omega
    go_wp2_with (first | (go_at_call 40; refine (hin _).mono ?_; rintro e w1 ⟨rfl, hw1⟩; subst hw1) | (go_at_call 39; refine (hnm _).mono ?_; rintro e w2 ⟨rfl, hw2⟩; subst hw2))
    clear hnm hin c0 c1 c2 c3 hW hgt hwr
    go_loopw [3] (fun v wr => ∃ k : Nat, k ≤ rs.length ∧ v = .int .i64 k ∧ Hid (GoodR rs nx k) ∧ Hid (Below W.heap.size W wr)) (fun v _ => rs.length - (intOf v).toNat)
    case atStart => exact ⟨0, Nat.zero_le _, rfl, good_zero _ _, Below.refl _ _⟩
    case round =>
      obtain ⟨k, hk, rfl, hgood, hbel⟩ := hrel
      obtain ⟨c0, c1, c2, c3⟩ := BX.out wr hbel.out
      have hbsz := hbel.out.size
      by_cases hkl : k < rs.length
      · have HG : Hid (rs[k]? = some rs[k]) := List.getElem?_eq_getElem hkl
        have hsm := HRO.out rs[k] (List.getElem_mem hkl)
        obtain ⟨⟨q, x, ky, bd, ag⟩, he⟩ : ∃ e, rs[k] = e := ⟨_, rfl⟩
        rw [he] at HG hsm
        have hRw := HR.out.inn hbel.out
        rcases hRw with h0 | ⟨b, off, hra, hlt, hc⟩
        · rw [h0] at hkl; simp at hkl
        subst hra
        have HC : Hid (∀ (i : Nat) (e : flM.Ms), rs[i]? = some e → ∀ (j : Nat) (v : Value), (flM.c e)[j]? = some v → wr.cell? ⟨b, off + i * 5 + j, none⟩ = some v) := hc
        have hxl : w.heap.size < wr.heap.size := by omega
        have z1 := fun N : qi.Cls wr => (Below.cell N.h (p := ⟨w.heap.size, 1, none⟩) hxl).trans c1
        have z2 := fun N : qi.Cls wr => (Below.cell N.h (p := ⟨w.heap.size, 2, none⟩) hxl).trans c2
        have m0 := fun N : qi.Cls wr => (Below.cell N.h (p := ⟨b, off + k * 5, none⟩) hlt).trans (HC.out k _ HG.out 0 _ rfl)
        have m1 := fun N : qi.Cls wr => (Below.cell N.h (p := ⟨b, off + k * 5 + 1, none⟩) hlt).trans (HC.out k _ HG.out 1 _ rfl)
        have m2 := fun N : qi.Cls wr => (Below.cell N.h (p := ⟨b, off + k * 5 + 2, none⟩) hlt).trans (HC.out k _ HG.out 2 _ rfl)
        have m3 := fun N : qi.Cls wr => (Below.cell N.h (p := ⟨b, off + k * 5 + 3, none⟩) hlt).trans (HC.out k _ HG.out 3 _ rfl)
        have m4 := fun N : qi.Cls wr => (Below.cell N.h (p := ⟨b, off + k * 5 + 4, none⟩) hlt).trans (HC.out k _ HG.out 4 _ rfl)
        have kms := fun N : qi.Cls wr => msg' ⟨q, x, ky, bd, ag⟩ nx N hnx hsm
        have i3 : (k : Int) < (rs.length : Int) := by omega
        clear he hc
        cases hmo : mOk ⟨q, x, ky, bd, ag⟩ nx with
        | false =>
          simp only [hmo] at kms
          have hbad : Hid (¬ OkQ n nx rs hs) := fun h => by have := h.rm k _ HG.out; rw [hmo] at this; cases this
          clear hmo
          go_wp2
          refine qi.region_in wr (qi.T.refl wr) (by kernel_rfl) (by kernel_rfl) ?_
          repeat (go_big_quiet_step (first | (go_at_call 41; refine (kms _).mono ?_; rintro e wx ⟨rfl, hTx⟩; exact ⟨rfl, ⟨wx, hTx⟩, rfl⟩)))
          refine wpQuiet_nil ?_
          rintro _ ⟨N, rfl⟩
          have hN := N.h
          generalize N.x = wN at hN ⊢
          clear N kms z1 z2 m0 m1 m2 m3 m4
          have hbN : Below W.heap.size W wN := hbel.out.trans (Below.mono hN hbsz)
          go_wp2
          go_ret
          exact ⟨ans_no hbad.out, hb.trans (hbN.mono hb.size)⟩
        | true =>
          simp only [hmo] at kms
          have HMO : Hid (mOk ⟨q, x, ky, bd, ag⟩ nx = true) := hmo
          clear hmo
          by_cases hk0 : k = 0
          · have hnext : Hid (GoodR rs nx (k + 1)) := good_next hgood.out HG.out HMO.out (fun p h => absurd hk0 h)
            have hk0d : decide ((0 : Int) < (k : Int)) = false := by simp; omega
            have hk0e : decide (0 < k) = false := by simp; omega
            clear hk0
            go_wp2
            refine qi.region_in wr (qi.T.refl wr) (by kernel_rfl) (by kernel_rfl) ?_
            repeat (go_big_quiet_step (first | (go_at_call 41; refine (kms _).mono ?_; rintro e wx ⟨rfl, hTx⟩; exact ⟨rfl, ⟨wx, hTx⟩, rfl⟩)))
            refine wpQuiet_nil ?_
            rintro _ ⟨N, rfl⟩
            have hN := N.h
            generalize N.x = wN at hN ⊢
            clear N kms z1 z2 m0 m1 m2 m3 m4
            have hbN : Below W.heap.size W wN := hbel.out.trans (Below.mono hN hbsz)
            go_wp2
            go_roundw
            case rel => exact ⟨k + 1, by omega, by go_num, hnext, hbN⟩
            case measure => simp [intOf]; omega
          · obtain ⟨m, rfl⟩ : ∃ m, k = m + 1 := ⟨k - 1, by omega⟩
            have HG1 : Hid (rs[m]? = some rs[m]) := List.getElem?_eq_getElem (by omega)
            obtain ⟨⟨q', x', ky', bd', ag'⟩, hpe⟩ : ∃ e, rs[m] = e := ⟨_, rfl⟩
            rw [hpe] at HG1
            have P0 := fun N : qi.Cls wr => (Below.cell N.h (p := ⟨b, off + m * 5, none⟩) hlt).trans (HC.out m _ HG1.out 0 _ rfl)
            have i1 : IntKind.i64.wrap (m : Int) = (m : Int) := by rw [IntKind.wrap_i64]; omega
            have i2 : (m : Int) < (rs.length : Int) := by omega
            clear hpe
            by_cases hq : q ≤ q'
            · have hqd : decide (q ≤ q') = true := decide_eq_true hq
              have hbad : Hid (¬ OkQ n nx rs hs) := fun h => by have := h.ru m _ _ HG1.out HG.out; simp only at this; omega
              go_wp2
              refine qi.region_in wr (qi.T.refl wr) (by kernel_rfl) (by kernel_rfl) ?_
              repeat (go_big_quiet_step (first | (go_at_call 41; refine (kms _).mono ?_; rintro e wx ⟨rfl, hTx⟩; exact ⟨rfl, ⟨wx, hTx⟩, rfl⟩)))
              refine wpQuiet_nil ?_
              rintro _ ⟨N, rfl⟩
              have hN := N.h
              generalize N.x = wN at hN ⊢
              clear N kms z1 z2 m0 m1 m2 m3 m4 P0
              have hbN : Below W.heap.size W wN := hbel.out.trans (Below.mono hN hbsz)
              go_wp2
              go_ret
              exact ⟨ans_no hbad.out, hb.trans (hbN.mono hb.size)⟩
            · have hqd : decide (q ≤ q') = false := decide_eq_false hq
              have hnext : Hid (GoodR rs nx (m + 1 + 1)) := good_next hgood.out HG.out HMO.out (fun p _ hp => by
                have hp : rs[m]? = some p := by simpa using hp
                rw [HG1.out] at hp
                cases hp
                show q' < q
                omega)
              go_wp2
              refine qi.region_in wr (qi.T.refl wr) (by kernel_rfl) (by kernel_rfl) ?_
              repeat (go_big_quiet_step (first | (go_at_call 41; refine (kms _).mono ?_; rintro e wx ⟨rfl, hTx⟩; exact ⟨rfl, ⟨wx, hTx⟩, rfl⟩)))
              refine wpQuiet_nil ?_
              rintro _ ⟨N, rfl⟩
              have hN := N.h
              generalize N.x = wN at hN ⊢
              clear N kms z1 z2 m0 m1 m2 m3 m4 P0
              have hbN : Below W.heap.size W wN := hbel.out.trans (Below.mono hN hbsz)
              go_wp2
              go_roundw
              case rel => exact ⟨m + 1 + 1, by omega, by go_num, hnext, hbN⟩
              case measure => simp [intOf]; omega
      · obtain rfl : k = rs.length := by omega
        have HGR : Hid (GoodR rs nx rs.length) := hgood
        clear hkl hk hgood
        go_wp2
        go_loopw [4] (fun v wr => ∃ k : Nat, k ≤ hs.length ∧ v = .int .i64 k ∧ Hid (GoodH rs hs nx k) ∧ Hid (Below W.heap.size W wr)) (fun v _ => hs.length - (intOf v).toNat)
        case atStart => exact ⟨0, Nat.zero_le _, rfl, goodH_zero _ _ _, hbel⟩
        case round =>
          clear hbsz c0 c1 c2 c3 hbel
          obtain ⟨k, hk, rfl, hgood, hbel⟩ := hrel
          obtain ⟨c0, c1, c2, c3⟩ := BX.out wr hbel.out
          have hbsz := hbel.out.size
          by_cases hkl : k < hs.length
          · have HG : Hid (hs[k]? = some hs[k]) := List.getElem?_eq_getElem hkl
            have hsm := HHO.out hs[k] (List.getElem_mem hkl)
            obtain ⟨⟨ht, hw, ⟨hq, hx, hk, hbd, hag⟩⟩, he⟩ : ∃ e, hs[k] = e := ⟨_, rfl⟩
            rw [he] at HG hsm
            rcases HH.out with h0 | ⟨b, off, hha, hltW, hc7⟩
            · rw [h0] at hkl; simp at hkl
            have hha' := hha.symm
            subst hha'
            have HC : Hid (∀ (i : Nat) (e : flH.Hd), hs[i]? = some e → ∀ (j : Nat) (v : Value), (flH.c e)[j]? = some v → W.cell? ⟨b, off + i * 7 + j, none⟩ = some v) := hc7
            have hlt : b < wr.heap.size := Nat.lt_of_lt_of_le hltW hbsz
            have e0 : wr.cell? ⟨b, off + k * 7, none⟩ = some (.int .i64 ht) := (hbel.out.cell (p := ⟨b, off + k * 7, none⟩) hltW).trans (HC.out k _ HG.out 0 _ rfl)
            have e1 : wr.cell? ⟨b, off + k * 7 + 1, none⟩ = some (.int .i64 hw) := (hbel.out.cell (p := ⟨b, off + k * 7 + 1, none⟩) hltW).trans (HC.out k _ HG.out 1 _ rfl)
            have e2 : wr.cell? ⟨b, off + k * 7 + 2, none⟩ = some (.int .i64 hq) := (hbel.out.cell (p := ⟨b, off + k * 7 + 2, none⟩) hltW).trans (HC.out k _ HG.out 2 _ rfl)
            have e3 : wr.cell? ⟨b, off + k * 7 + 3, none⟩ = some (.string hx) := (hbel.out.cell (p := ⟨b, off + k * 7 + 3, none⟩) hltW).trans (HC.out k _ HG.out 3 _ rfl)
            have e4 : wr.cell? ⟨b, off + k * 7 + 4, none⟩ = some (.string hk) := (hbel.out.cell (p := ⟨b, off + k * 7 + 4, none⟩) hltW).trans (HC.out k _ HG.out 4 _ rfl)
            have e5 : wr.cell? ⟨b, off + k * 7 + 5, none⟩ = some (.string hbd) := (hbel.out.cell (p := ⟨b, off + k * 7 + 5, none⟩) hltW).trans (HC.out k _ HG.out 5 _ rfl)
            have e6 : wr.cell? ⟨b, off + k * 7 + 6, none⟩ = some (.bool hag) := (hbel.out.cell (p := ⟨b, off + k * 7 + 6, none⟩) hltW).trans (HC.out k _ HG.out 6 _ rfl)
            have hbX : Below W.heap.size W (wr.alloc (.cells #[.int .i64 ht, .int .i64 hw, .int .i64 hq, .string hx, .string hk, .string hbd, .bool hag] 55)) := hbel.out.alloc hbsz _
            have hx1 := bnew wr #[.int .i64 ht, .int .i64 hw, .int .i64 hq, .string hx, .string hk, .string hbd, .bool hag] 55
            obtain ⟨X1, hX1⟩ : ∃ X1, wr.alloc (.cells #[.int .i64 ht, .int .i64 hw, .int .i64 hq, .string hx, .string hk, .string hbd, .bool hag] 55) = X1 := ⟨_, rfl⟩
            rw [hX1] at hbX hx1
            have hxl := (Array.getElem?_eq_some_iff.1 hx1).1
            have HX1 : Hid (X1.heap[wr.heap.size]? = some (.cells #[.int .i64 ht, .int .i64 hw, .int .i64 hq, .string hx, .string hk, .string hbd, .bool hag] 55 (0, 0))) := hx1
            have x0 := fun N : qi.Cls X1 => (Below.cell N.h (p := ⟨wr.heap.size, 0, none⟩) hxl).trans (bcell HX1.out (show _ = some (.int .i64 ht) from rfl))
            have x1 := fun N : qi.Cls X1 => (Below.cell N.h (p := ⟨wr.heap.size, 1, none⟩) hxl).trans (bcell HX1.out (show _ = some (.int .i64 hw) from rfl))
            have x2 := fun N : qi.Cls X1 => (Below.cell N.h (p := ⟨wr.heap.size, 2, none⟩) hxl).trans (bcell HX1.out (show _ = some (.int .i64 hq) from rfl))
            have x3 := fun N : qi.Cls X1 => (Below.cell N.h (p := ⟨wr.heap.size, 3, none⟩) hxl).trans (bcell HX1.out (show _ = some (.string hx) from rfl))
            have x4 := fun N : qi.Cls X1 => (Below.cell N.h (p := ⟨wr.heap.size, 4, none⟩) hxl).trans (bcell HX1.out (show _ = some (.string hk) from rfl))
            have x5 := fun N : qi.Cls X1 => (Below.cell N.h (p := ⟨wr.heap.size, 5, none⟩) hxl).trans (bcell HX1.out (show _ = some (.string hbd) from rfl))
            have x6 := fun N : qi.Cls X1 => (Below.cell N.h (p := ⟨wr.heap.size, 6, none⟩) hxl).trans (bcell HX1.out (show _ = some (.bool hag) from rfl))
            obtain ⟨_, w1', _, w3'⟩ := BX.out X1 hbX
            have hwX : w.heap.size < X1.heap.size := by have := hbX.size; omega
            have z1 := fun N : qi.Cls X1 => (Below.cell N.h (p := ⟨w.heap.size, 1, none⟩) hwX).trans w1'
            have z3 := fun N : qi.Cls X1 => (Below.cell N.h (p := ⟨w.heap.size, 3, none⟩) hwX).trans w3'
            have kms := fun N : qi.Cls X1 => msg' ⟨hq, hx, hk, hbd, hag⟩ nx N hnx hsm
            have kin1 := fun N : qi.Cls X1 => in' hw 0 1000 N
            have kin2 := fun N : qi.Cls X1 => in' ht 1 1000000000 N
            have i3 : (k : Int) < (hs.length : Int) := by omega
            clear he hx1 hc7 w1' w3'
            go_wp2
            clear hX1 e0 e1 e2 e3 e4 e5 e6 c0 c1 c2 c3
            have HMOb : Hid (mOk ⟨hq, hx, hk, hbd, hag⟩ nx = false → ¬ OkQ n nx rs hs) := fun e h => by have := (h.hm k _ HG.out).1; simp only at this; rw [e] at this; cases this
            have HOWb : Hid (decide (0 ≤ hw ∧ hw ≤ 1000) = false → ¬ OkQ n nx rs hs) := fun e h => by have := (h.hm k _ HG.out).2; unfold hOk at this; simp only at this; rw [e] at this; cases this
            have HTAb : Hid (decide (1 ≤ ht ∧ ht ≤ 1000000000) = false → ¬ OkQ n nx rs hs) := fun e h => by have := (h.hm k _ HG.out).2; unfold hOk at this; simp only at this; rw [e, Bool.and_false] at this; cases this
            cases hmo : mOk ⟨hq, hx, hk, hbd, hag⟩ nx with
            | false =>
              simp only [hmo] at kms
              have hbad : Hid (¬ OkQ n nx rs hs) := HMOb.out hmo
              clear hmo
              refine qi.region_in X1 (qi.T.refl X1) (by kernel_rfl) (by kernel_rfl) ?_
              repeat (go_big_quiet_step (first | (go_at_call 41; refine (kms _).mono ?_; rintro e wx ⟨rfl, hTx⟩; exact ⟨rfl, ⟨wx, hTx⟩, rfl⟩) | (go_at_call 40; with_reducible refine (kin1 _).mono ?_; rintro e wx ⟨rfl, hTx⟩; exact ⟨rfl, ⟨wx, hTx⟩, rfl⟩) | (go_at_call 40; with_reducible refine (kin2 _).mono ?_; rintro e wx ⟨rfl, hTx⟩; exact ⟨rfl, ⟨wx, hTx⟩, rfl⟩)))
              refine wpQuiet_nil ?_
              rintro _ ⟨N, rfl⟩
              have hN := N.h
              generalize N.x = wN at hN ⊢
              clear N kin1 kin2 kms z1 z3 x0 x1 x2 x3 x4 x5 x6
              have hbN : Below W.heap.size W wN := hbX.trans (Below.mono hN hbX.size)
              go_wp2
              go_ret
              exact ⟨ans_no hbad.out, hb.trans (hbN.mono hb.size)⟩
            | true =>
              simp only [hmo] at kms
              have HMO : Hid (mOk ⟨hq, hx, hk, hbd, hag⟩ nx = true) := hmo
              clear hmo
              cases how : decide (0 ≤ hw ∧ hw ≤ 1000) with
              | false =>
                have hbad : Hid (¬ OkQ n nx rs hs) := HOWb.out how
                simp only [how] at kin1
                clear how
                refine qi.region_in X1 (qi.T.refl X1) (by kernel_rfl) (by kernel_rfl) ?_
                repeat (go_big_quiet_step (first | (go_at_call 41; refine (kms _).mono ?_; rintro e wx ⟨rfl, hTx⟩; exact ⟨rfl, ⟨wx, hTx⟩, rfl⟩) | (go_at_call 40; with_reducible refine (kin1 _).mono ?_; rintro e wx ⟨rfl, hTx⟩; exact ⟨rfl, ⟨wx, hTx⟩, rfl⟩) | (go_at_call 40; with_reducible refine (kin2 _).mono ?_; rintro e wx ⟨rfl, hTx⟩; exact ⟨rfl, ⟨wx, hTx⟩, rfl⟩)))
                refine wpQuiet_nil ?_
                rintro _ ⟨N, rfl⟩
                have hN := N.h
                generalize N.x = wN at hN ⊢
                clear N kin1 kin2 kms z1 z3 x0 x1 x2 x3 x4 x5 x6
                have hbN : Below W.heap.size W wN := hbX.trans (Below.mono hN hbX.size)
                go_wp2
                go_ret
                exact ⟨ans_no hbad.out, hb.trans (hbN.mono hb.size)⟩
              | true =>
                simp only [how] at kin1
                cases hta : decide (1 ≤ ht ∧ ht ≤ 1000000000) with
                | false =>
                  have hbad : Hid (¬ OkQ n nx rs hs) := HTAb.out hta
                  simp only [hta] at kin2
                  clear hta how
                  refine qi.region_in X1 (qi.T.refl X1) (by kernel_rfl) (by kernel_rfl) ?_
                  repeat (go_big_quiet_step (first | (go_at_call 41; refine (kms _).mono ?_; rintro e wx ⟨rfl, hTx⟩; exact ⟨rfl, ⟨wx, hTx⟩, rfl⟩) | (go_at_call 40; with_reducible refine (kin1 _).mono ?_; rintro e wx ⟨rfl, hTx⟩; exact ⟨rfl, ⟨wx, hTx⟩, rfl⟩) | (go_at_call 40; with_reducible refine (kin2 _).mono ?_; rintro e wx ⟨rfl, hTx⟩; exact ⟨rfl, ⟨wx, hTx⟩, rfl⟩)))
                  refine wpQuiet_nil ?_
                  rintro _ ⟨N, rfl⟩
                  have hN := N.h
                  generalize N.x = wN at hN ⊢
                  clear N kin1 kin2 kms z1 z3 x0 x1 x2 x3 x4 x5 x6
                  have hbN : Below W.heap.size W wN := hbX.trans (Below.mono hN hbX.size)
                  go_wp2
                  go_ret
                  exact ⟨ans_no hbad.out, hb.trans (hbN.mono hb.size)⟩
                | true =>
                  have HHK : Hid (hOk ⟨ht, hw, ⟨hq, hx, hk, hbd, hag⟩⟩ = true) := by show hOk ⟨ht, hw, ⟨hq, hx, hk, hbd, hag⟩⟩ = true; unfold hOk; simp only; rw [how, hta]; rfl
                  simp only [hta] at kin2
                  clear HMOb HOWb HTAb hta how
                  by_cases hk0 : k = 0
                  · have HUP : Hid (∀ p, k ≠ 0 → hs[k - 1]? = some p → hLt p ⟨ht, hw, ⟨hq, hx, hk, hbd, hag⟩⟩) := fun p h => absurd hk0 h
                    have hk0e : decide (0 < k) = false := by simp; omega
                    have hk0d : decide ((0 : Int) < (k : Int)) = false := by simp; omega
                    clear hk0
                    refine qi.region_in X1 (qi.T.refl X1) (by kernel_rfl) (by kernel_rfl) ?_
                    repeat (go_big_quiet_step (first | (go_at_call 41; refine (kms _).mono ?_; rintro e wx ⟨rfl, hTx⟩; exact ⟨rfl, ⟨wx, hTx⟩, rfl⟩) | (go_at_call 40; with_reducible refine (kin1 _).mono ?_; rintro e wx ⟨rfl, hTx⟩; exact ⟨rfl, ⟨wx, hTx⟩, rfl⟩) | (go_at_call 40; with_reducible refine (kin2 _).mono ?_; rintro e wx ⟨rfl, hTx⟩; exact ⟨rfl, ⟨wx, hTx⟩, rfl⟩)))
                    refine wpQuiet_nil ?_
                    rintro _ ⟨N, rfl⟩
                    have hN := N.h
                    generalize N.x = wN at hN ⊢
                    clear N kin1 kin2 kms z1 z3 x0 x1 x2 x3 x4 x5 x6
                    have HN : Hid (Below X1.heap.size X1 wN) := hN
                    clear hN
                    go_wp2
                    obtain ⟨nb, hnb⟩ : ∃ nb, wr.heap.size = nb := ⟨_, rfl⟩
                    rw [hnb] at HX1 hxl ⊢
                    clear hnb hbsz hbel hlt
                    go_loopw [6] (fun v wr => ∃ j : Nat, j ≤ rs.length ∧ v = .int .i64 j ∧ Hid (∀ (i : Nat) (m : flM.Ms), i < j → rs[i]? = some m → m.q ≠ hq) ∧ Hid (Below X1.heap.size X1 wr)) (fun v _ => rs.length - (intOf v).toNat)
                    case atStart => exact ⟨0, Nat.zero_le _, rfl, fun i m h => by omega, HN⟩
                    case round =>
                      obtain ⟨j, hj, rfl, hdis, hbel2⟩ := hrel
                      have hB2 : Below W.heap.size W wr := hbX.trans (hbel2.out.mono hbX.size)
                      obtain ⟨c0, c1, c2, c3⟩ := BX.out wr hB2
                      have y2 : wr.cell? ⟨nb, 2, none⟩ = some (.int .i64 hq) := bcell (bstay HX1.out hbel2.out hxl) rfl
                      by_cases hjl : j < rs.length
                      · have HGJ : Hid (rs[j]? = some rs[j]) := List.getElem?_eq_getElem hjl
                        obtain ⟨⟨q, x, ky, bd, ag⟩, he⟩ : ∃ e, rs[j] = e := ⟨_, rfl⟩
                        rw [he] at HGJ
                        have hRw := HR.out.inn hB2
                        rcases hRw with h0 | ⟨b', off', hra, hlt', hc'⟩
                        · rw [h0] at hjl; simp at hjl
                        have hra' := hra.symm
                        subst hra'
                        have m0 : wr.cell? ⟨b', off' + j * 5, none⟩ = some (.int .i64 q) := hc' j _ HGJ.out 0 _ rfl
                        have i3 : (j : Int) < (rs.length : Int) := by omega
                        clear he hc'
                        by_cases hqq : q = hq
                        · have hqd : (q == hq) = true := by simp [hqq]
                          have hbad : Hid (¬ OkQ n nx rs hs) := fun h => h.d1 k j _ _ HGJ.out HG.out hqq
                          clear hqq
                          go_wp2
                          go_quiet (fail)
                          go_wp2
                          go_ret
                          exact ⟨ans_no hbad.out, bdrewN (hb.trans (hB2.mono hb.size)) _⟩
                        · have hqd : (q == hq) = false := by simp [hqq]
                          have hdis2 : Hid (∀ (i : Nat) (m : flM.Ms), i < j + 1 → rs[i]? = some m → m.q ≠ hq) := fun i m hi hm => by
                            by_cases ei : i = j
                            · subst ei; rw [HGJ.out] at hm; cases hm; exact hqq
                            · exact hdis.out i m (by omega) hm
                          clear hqq
                          go_wp2
                          go_quiet (fail)
                          go_wp2
                          go_roundw
                          case rel => exact ⟨j + 1, by omega, by go_num, hdis2, bdrewN hbel2.out _⟩
                          case measure => simp [intOf]; omega
                      · have hjn : decide ((j : Int) < (rs.length : Int)) = false := by simp; omega
                        have hjm : decide (j < rs.length) = false := by simp; omega
                        have HD1 : Hid (∀ (i : Nat) (m : flM.Ms), rs[i]? = some m → m.q ≠ hq) := fun i m hm => hdis.out i m (by have := (List.getElem?_eq_some_iff.1 hm).1; omega) hm
                        clear hjl hdis
                        go_wp2
                        go_loopw [7] (fun v wr => ∃ j : Nat, j ≤ k ∧ v = .int .i64 j ∧ Hid (∀ (i : Nat) (a : flH.Hd), i < j → hs[i]? = some a → a.m.q ≠ hq) ∧ Hid (Below X1.heap.size X1 wr)) (fun v _ => k - (intOf v).toNat)
                        case atStart => exact ⟨0, Nat.zero_le _, rfl, fun i m h => by omega, hbel2⟩
                        case round =>
                          obtain ⟨j, hj, rfl, hdis, hbel3⟩ := hrel
                          have hB3 : Below W.heap.size W wr := hbX.trans (hbel3.out.mono hbX.size)
                          obtain ⟨c0, c1, c2, c3⟩ := BX.out wr hB3
                          have y2 : wr.cell? ⟨nb, 2, none⟩ = some (.int .i64 hq) := bcell (bstay HX1.out hbel3.out hxl) rfl
                          by_cases hjl : j < k
                          · have HGJ : Hid (hs[j]? = some hs[j]) := List.getElem?_eq_getElem (by omega)
                            obtain ⟨⟨pt, pw, ⟨pq, px, pk, pbd, pag⟩⟩, he⟩ : ∃ e, hs[j] = e := ⟨_, rfl⟩
                            rw [he] at HGJ
                            have m0 : wr.cell? ⟨b, off + j * 7 + 2, none⟩ = some (.int .i64 pq) := (hB3.cell (p := ⟨b, off + j * 7 + 2, none⟩) hltW).trans (HC.out j _ HGJ.out 2 _ rfl)
                            have i3 : (j : Int) < (hs.length : Int) := by omega
                            have i4 : (j : Int) < (k : Int) := by omega
                            clear he
                            by_cases hqq : pq = hq
                            · have hqd : (pq == hq) = true := by simp [hqq]
                              have hbad : Hid (¬ OkQ n nx rs hs) := fun h => h.d2 k j _ _ hjl HGJ.out HG.out hqq
                              clear hqq
                              go_wp2
                              go_quiet (fail)
                              go_wp2
                              go_ret
                              exact ⟨ans_no hbad.out, bdrewN (hb.trans (hB3.mono hb.size)) _⟩
                            · have hqd : (pq == hq) = false := by simp [hqq]
                              have hdis2 : Hid (∀ (i : Nat) (a : flH.Hd), i < j + 1 → hs[i]? = some a → a.m.q ≠ hq) := fun i m hi hm => by
                                by_cases ei : i = j
                                · subst ei; rw [HGJ.out] at hm; cases hm; exact hqq
                                · exact hdis.out i m (by omega) hm
                              clear hqq
                              go_wp2
                              go_quiet (fail)
                              go_wp2
                              go_roundw
                              case rel => exact ⟨j + 1, by omega, by go_num, hdis2, bdrewN hbel3.out _⟩
                              case measure => simp [intOf]; omega
                          · have hjn : decide ((j : Int) < (k : Int)) = false := by simp; omega
                            have hjm : decide (j < k) = false := by simp; omega
                            have hnext : Hid (GoodH rs hs nx (k + 1)) := goodH_next hgood.out HG.out HMO.out HHK.out HUP.out HD1.out (fun i a hi ha => hdis.out i a (by omega) ha)
                            clear hjl hdis
                            go_wp2
                            go_roundw
                            case rel => exact ⟨k + 1, by omega, by go_num, hnext, hB3⟩
                            case measure => simp [intOf]; omega
                  · obtain ⟨m, hkm⟩ : ∃ m, k = m + 1 := ⟨k - 1, by omega⟩
                    have HG1 : Hid (hs[m]? = some hs[m]) := List.getElem?_eq_getElem (by omega)
                    obtain ⟨⟨pt, pw, ⟨pq, px, pk, pbd, pag⟩⟩, hpe⟩ : ∃ e, hs[m] = e := ⟨_, rfl⟩
                    rw [hpe] at HG1
                    have hltX : b < X1.heap.size := Nat.lt_of_lt_of_le hltW hbX.size
                    have P := fun (N : qi.Cls X1) (j : Nat) (v : Value) (hv : (flH.c ⟨pt, pw, ⟨pq, px, pk, pbd, pag⟩⟩)[j]? = some v) => (Below.cell N.h (p := ⟨b, off + m * 7 + j, none⟩) hltX).trans ((hbX.cell (p := ⟨b, off + m * 7 + j, none⟩) hltW).trans (HC.out m _ HG1.out j v hv))
                    have P0 : ∀ N : qi.Cls X1, N.x.cell? ⟨b, off + m * 7, none⟩ = some (.int .i64 pt) := fun N => P N 0 _ rfl
                    have P1 : ∀ N : qi.Cls X1, N.x.cell? ⟨b, off + m * 7 + 1, none⟩ = some (.int .i64 pw) := fun N => P N 1 _ rfl
                    have P2 : ∀ N : qi.Cls X1, N.x.cell? ⟨b, off + m * 7 + 2, none⟩ = some (.int .i64 pq) := fun N => P N 2 _ rfl
                    have P3 : ∀ N : qi.Cls X1, N.x.cell? ⟨b, off + m * 7 + 3, none⟩ = some (.string px) := fun N => P N 3 _ rfl
                    have P4 : ∀ N : qi.Cls X1, N.x.cell? ⟨b, off + m * 7 + 4, none⟩ = some (.string pk) := fun N => P N 4 _ rfl
                    have P5 : ∀ N : qi.Cls X1, N.x.cell? ⟨b, off + m * 7 + 5, none⟩ = some (.string pbd) := fun N => P N 5 _ rfl
                    have P6 : ∀ N : qi.Cls X1, N.x.cell? ⟨b, off + m * 7 + 6, none⟩ = some (.bool pag) := fun N => P N 6 _ rfl
                    have kbf := fun N : qi.Cls X1 => bef' ⟨pt, pw, ⟨pq, px, pk, pbd, pag⟩⟩ ⟨ht, hw, ⟨hq, hx, hk, hbd, hag⟩⟩ N
                    have i1 : IntKind.i64.wrap ((k : Int) - 1) = (m : Int) := by rw [IntKind.wrap_i64]; omega
                    have i2 : (m : Int) < (hs.length : Int) := by omega
                    have hk0e : decide (0 < k) = true := by simp; omega
                    have hk0d : decide ((0 : Int) < (k : Int)) = true := by simp; omega
                    have HKM : Hid (k = m + 1) := hkm
                    clear hpe P hkm hk0
                    cases hbf : hB ⟨pt, pw, ⟨pq, px, pk, pbd, pag⟩⟩ ⟨ht, hw, ⟨hq, hx, hk, hbd, hag⟩⟩ with
                    | false =>
                      simp only [hbf] at kbf
                      have hbad : Hid (¬ OkQ n nx rs hs) := fun h => by
                        have := hB_true.2 (h.hu m _ _ HG1.out (by rw [← HKM.out]; exact HG.out))
                        rw [hbf] at this
                        cases this
                      clear hbf
                      refine qi.region_in X1 (qi.T.refl X1) (by kernel_rfl) (by kernel_rfl) ?_
                      repeat (go_big_quiet_step (first | (go_at_call 41; refine (kms _).mono ?_; rintro e wx ⟨rfl, hTx⟩; exact ⟨rfl, ⟨wx, hTx⟩, rfl⟩) | (go_at_call 40; with_reducible refine (kin1 _).mono ?_; rintro e wx ⟨rfl, hTx⟩; exact ⟨rfl, ⟨wx, hTx⟩, rfl⟩) | (go_at_call 40; with_reducible refine (kin2 _).mono ?_; rintro e wx ⟨rfl, hTx⟩; exact ⟨rfl, ⟨wx, hTx⟩, rfl⟩) | (go_at_call 42; refine (kbf _).mono ?_; rintro e wx ⟨rfl, hTx⟩; exact ⟨rfl, ⟨wx, hTx⟩, rfl⟩)))
                      refine wpQuiet_nil ?_
                      rintro _ ⟨N, rfl⟩
                      have hN := N.h
                      generalize N.x = wN at hN ⊢
                      clear N kin1 kin2 kbf P0 P1 P2 P3 P4 P5 P6 kms z1 z3 x0 x1 x2 x3 x4 x5 x6
                      have hbN : Below W.heap.size W wN := hbX.trans (Below.mono hN hbX.size)
                      go_wp2
                      go_ret
                      exact ⟨ans_no hbad.out, hb.trans (hbN.mono hb.size)⟩
                    | true =>
                      simp only [hbf] at kbf
                      have HUP : Hid (∀ p, k ≠ 0 → hs[k - 1]? = some p → hLt p ⟨ht, hw, ⟨hq, hx, hk, hbd, hag⟩⟩) := fun p _ hp => by
                        rw [HKM.out, Nat.add_sub_cancel, HG1.out] at hp
                        cases hp
                        exact hB_true.1 hbf
                      clear hbf
                      refine qi.region_in X1 (qi.T.refl X1) (by kernel_rfl) (by kernel_rfl) ?_
                      repeat (go_big_quiet_step (first | (go_at_call 41; refine (kms _).mono ?_; rintro e wx ⟨rfl, hTx⟩; exact ⟨rfl, ⟨wx, hTx⟩, rfl⟩) | (go_at_call 40; with_reducible refine (kin1 _).mono ?_; rintro e wx ⟨rfl, hTx⟩; exact ⟨rfl, ⟨wx, hTx⟩, rfl⟩) | (go_at_call 40; with_reducible refine (kin2 _).mono ?_; rintro e wx ⟨rfl, hTx⟩; exact ⟨rfl, ⟨wx, hTx⟩, rfl⟩) | (go_at_call 42; refine (kbf _).mono ?_; rintro e wx ⟨rfl, hTx⟩; exact ⟨rfl, ⟨wx, hTx⟩, rfl⟩)))
                      refine wpQuiet_nil ?_
                      rintro _ ⟨N, rfl⟩
                      have hN := N.h
                      generalize N.x = wN at hN ⊢
                      clear N kin1 kin2 kbf P0 P1 P2 P3 P4 P5 P6 kms z1 z3 x0 x1 x2 x3 x4 x5 x6
                      have HN : Hid (Below X1.heap.size X1 wN) := hN
                      clear hN
                      go_wp2
                      obtain ⟨nb, hnb⟩ : ∃ nb, wr.heap.size = nb := ⟨_, rfl⟩
                      rw [hnb] at HX1 hxl ⊢
                      clear hnb hbsz hbel hlt
                      go_loopw [6] (fun v wr => ∃ j : Nat, j ≤ rs.length ∧ v = .int .i64 j ∧ Hid (∀ (i : Nat) (m : flM.Ms), i < j → rs[i]? = some m → m.q ≠ hq) ∧ Hid (Below X1.heap.size X1 wr)) (fun v _ => rs.length - (intOf v).toNat)
                      case atStart => exact ⟨0, Nat.zero_le _, rfl, fun i m h => by omega, HN⟩
                      case round =>
                        obtain ⟨j, hj, rfl, hdis, hbel2⟩ := hrel
                        have hB2 : Below W.heap.size W wr := hbX.trans (hbel2.out.mono hbX.size)
                        obtain ⟨c0, c1, c2, c3⟩ := BX.out wr hB2
                        have y2 : wr.cell? ⟨nb, 2, none⟩ = some (.int .i64 hq) := bcell (bstay HX1.out hbel2.out hxl) rfl
                        by_cases hjl : j < rs.length
                        · have HGJ : Hid (rs[j]? = some rs[j]) := List.getElem?_eq_getElem hjl
                          obtain ⟨⟨q, x, ky, bd, ag⟩, he⟩ : ∃ e, rs[j] = e := ⟨_, rfl⟩
                          rw [he] at HGJ
                          have hRw := HR.out.inn hB2
                          rcases hRw with h0 | ⟨b', off', hra, hlt', hc'⟩
                          · rw [h0] at hjl; simp at hjl
                          have hra' := hra.symm
                          subst hra'
                          have m0 : wr.cell? ⟨b', off' + j * 5, none⟩ = some (.int .i64 q) := hc' j _ HGJ.out 0 _ rfl
                          have i3 : (j : Int) < (rs.length : Int) := by omega
                          clear he hc'
                          by_cases hqq : q = hq
                          · have hqd : (q == hq) = true := by simp [hqq]
                            have hbad : Hid (¬ OkQ n nx rs hs) := fun h => h.d1 k j _ _ HGJ.out HG.out hqq
                            clear hqq
                            go_wp2
                            go_quiet (fail)
                            go_wp2
                            go_ret
                            exact ⟨ans_no hbad.out, bdrewN (hb.trans (hB2.mono hb.size)) _⟩
                          · have hqd : (q == hq) = false := by simp [hqq]
                            have hdis2 : Hid (∀ (i : Nat) (m : flM.Ms), i < j + 1 → rs[i]? = some m → m.q ≠ hq) := fun i m hi hm => by
                              by_cases ei : i = j
                              · subst ei; rw [HGJ.out] at hm; cases hm; exact hqq
                              · exact hdis.out i m (by omega) hm
                            clear hqq
                            go_wp2
                            go_quiet (fail)
                            go_wp2
                            go_roundw
                            case rel => exact ⟨j + 1, by omega, by go_num, hdis2, bdrewN hbel2.out _⟩
                            case measure => simp [intOf]; omega
                        · have hjn : decide ((j : Int) < (rs.length : Int)) = false := by simp; omega
                          have hjm : decide (j < rs.length) = false := by simp; omega
                          have HD1 : Hid (∀ (i : Nat) (m : flM.Ms), rs[i]? = some m → m.q ≠ hq) := fun i m hm => hdis.out i m (by have := (List.getElem?_eq_some_iff.1 hm).1; omega) hm
                          clear hjl hdis
                          go_wp2
                          go_loopw [7] (fun v wr => ∃ j : Nat, j ≤ k ∧ v = .int .i64 j ∧ Hid (∀ (i : Nat) (a : flH.Hd), i < j → hs[i]? = some a → a.m.q ≠ hq) ∧ Hid (Below X1.heap.size X1 wr)) (fun v _ => k - (intOf v).toNat)
                          case atStart => exact ⟨0, Nat.zero_le _, rfl, fun i m h => by omega, hbel2⟩
                          case round =>
                            obtain ⟨j, hj, rfl, hdis, hbel3⟩ := hrel
                            have hB3 : Below W.heap.size W wr := hbX.trans (hbel3.out.mono hbX.size)
                            obtain ⟨c0, c1, c2, c3⟩ := BX.out wr hB3
                            have y2 : wr.cell? ⟨nb, 2, none⟩ = some (.int .i64 hq) := bcell (bstay HX1.out hbel3.out hxl) rfl
                            by_cases hjl : j < k
                            · have HGJ : Hid (hs[j]? = some hs[j]) := List.getElem?_eq_getElem (by omega)
                              obtain ⟨⟨pt, pw, ⟨pq, px, pk, pbd, pag⟩⟩, he⟩ : ∃ e, hs[j] = e := ⟨_, rfl⟩
                              rw [he] at HGJ
                              have m0 : wr.cell? ⟨b, off + j * 7 + 2, none⟩ = some (.int .i64 pq) := (hB3.cell (p := ⟨b, off + j * 7 + 2, none⟩) hltW).trans (HC.out j _ HGJ.out 2 _ rfl)
                              have i3 : (j : Int) < (hs.length : Int) := by omega
                              have i4 : (j : Int) < (k : Int) := by omega
                              clear he
                              by_cases hqq : pq = hq
                              · have hqd : (pq == hq) = true := by simp [hqq]
                                have hbad : Hid (¬ OkQ n nx rs hs) := fun h => h.d2 k j _ _ hjl HGJ.out HG.out hqq
                                clear hqq
                                go_wp2
                                go_quiet (fail)
                                go_wp2
                                go_ret
                                exact ⟨ans_no hbad.out, bdrewN (hb.trans (hB3.mono hb.size)) _⟩
                              · have hqd : (pq == hq) = false := by simp [hqq]
                                have hdis2 : Hid (∀ (i : Nat) (a : flH.Hd), i < j + 1 → hs[i]? = some a → a.m.q ≠ hq) := fun i m hi hm => by
                                  by_cases ei : i = j
                                  · subst ei; rw [HGJ.out] at hm; cases hm; exact hqq
                                  · exact hdis.out i m (by omega) hm
                                clear hqq
                                go_wp2
                                go_quiet (fail)
                                go_wp2
                                go_roundw
                                case rel => exact ⟨j + 1, by omega, by go_num, hdis2, bdrewN hbel3.out _⟩
                                case measure => simp [intOf]; omega
                            · have hjn : decide ((j : Int) < (k : Int)) = false := by simp; omega
                              have hjm : decide (j < k) = false := by simp; omega
                              have hnext : Hid (GoodH rs hs nx (k + 1)) := goodH_next hgood.out HG.out HMO.out HHK.out HUP.out HD1.out (fun i a hi ha => hdis.out i a (by omega) ha)
                              clear hjl hdis
                              go_wp2
                              go_roundw
                              case rel => exact ⟨k + 1, by omega, by go_num, hnext, hB3⟩
                              case measure => simp [intOf]; omega
          · obtain rfl : k = hs.length := by omega
            clear hkl hk
            go_wp2
            go_ret
            exact ⟨ans_yes (all_good HB2.out hnx hlen HGR.out hgood.out), hb.trans (hbel.out.mono hb.size)⟩
end Go.Proofs.Ytnlcmheahihlpaa.qks
