/- The program's StreamRead: the entries from an offset on, at most so many, in a row of their own; new memory alone. -/
import Derived.Test.YtlfhfcgcfggjcaaStreamReadSpec
import Derived.Test.YtlfhfcgcfggjcaaAppendOpt
namespace Go.Proofs.Ytlfhfcgcfggjcaa.sri
open Go.ChangeShapes Go.WideShapes Go.ChangeAt Go.RowKit Go.Proofs.Ytlfhfcgcfggjcaa.fl Go.Proofs.Ytlfhfcgcfggjcaa.fo Go.Proofs.Ytlfhfcgcfggjcaa.rr Go.Proofs.Ytlfhfcgcfggjcaa.st Go.Proofs.Ytlfhfcgcfggjcaa.ce Go.Proofs.Ytlfhfcgcfggjcaa.srd
set_option linter.unusedVariables false

set_option maxRecDepth 100000 in
set_option maxHeartbeats 4000000 in
theorem impl_read (sn : ByteArray) (lo nx : Int) (es : List flY.En) (ms : List Ex) (g h cg ch : Nat) (off most : Int) (w : World) (F : Fit sn es ms) (og : Nat) (hY : RYo w g og es) (hE : RE w h ms) (ga ha : Option Addr) (hga : Hid (ga = some ⟨g, og, none⟩ ∨ ga = none ∧ es.length = 0 ∧ cg = 0)) (hha : Hid (0 < ms.length → ha = some ⟨h, 0, none⟩)) (hcg : es.length ≤ cg) :
    Calls Try.prog 17 #[.agg #[.string sn, .int .i64 lo, .int .i64 nx, .slice ga es.length cg, .slice ha ms.length ch], .int .i64 off, .int .i64 most] w fun e w' => ∃ a cap, e = .returned (.slice a (read sn lo nx es ms off most).length cap) ∧ Mine flY.c 3 42 w' w.heap.size a (read sn lo nx es ms off most) ∧ Below w.heap.size w w' := by
  have hb : Below w.heap.size w (w.alloc (.cells #[.string sn, .int .i64 lo, .int .i64 nx, .slice ga es.length cg, .slice ha ms.length ch] 27)) := (Below.refl _ _).alloc (Nat.le_refl _) _
  have hA := bnew w #[.string sn, .int .i64 lo, .int .i64 nx, .slice ga es.length cg, .slice ha ms.length ch] 27
  have hlt : w.heap.size < (w.alloc (.cells #[.string sn, .int .i64 lo, .int .i64 nx, .slice ga es.length cg, .slice ha ms.length ch] 27)).heap.size := by simp
  have hY2 : RYo (w.alloc (.cells #[.string sn, .int .i64 lo, .int .i64 nx, .slice ga es.length cg, .slice ha ms.length ch] 27)) g og es := hY.below hb
  have hE2 : RE (w.alloc (.cells #[.string sn, .int .i64 lo, .int .i64 nx, .slice ga es.length cg, .slice ha ms.length ch] 27)) h ms := hE.below hb
  obtain ⟨W, hW⟩ : ∃ W, w.alloc (.cells #[.string sn, .int .i64 lo, .int .i64 nx, .slice ga es.length cg, .slice ha ms.length ch] 27) = W := ⟨_, rfl⟩
  rw [hW] at hb hA hY2 hE2 hlt
  have BOX : Hid (∀ wr, Below W.heap.size W wr → wr.cell? ⟨w.heap.size, 0, none⟩ = some (.string sn) ∧ wr.cell? ⟨w.heap.size, 1, none⟩ = some (.int .i64 lo) ∧ wr.cell? ⟨w.heap.size, 2, none⟩ = some (.int .i64 nx) ∧ wr.cell? ⟨w.heap.size, 3, none⟩ = some (.slice ga es.length cg) ∧ wr.cell? ⟨w.heap.size, 4, none⟩ = some (.slice ha ms.length ch)) := fun wr hr => by
    have h1 := bstay hA hr hlt
    exact ⟨bcell h1 rfl, bcell h1 rfl, bcell h1 rfl, bcell h1 rfl, bcell h1 rfl⟩
  have hok := sti.impl_okO sn lo nx es ms g h cg ch W F og hY2 hE2 ga ha (fun h0 => by rcases hga.out with h | ⟨_, h, _⟩; exact h; omega) hha
  obtain ⟨c0, c1, c2, c3, c4⟩ := BOX.out W (Below.refl _ _)
  have HY : Hid (RYo W g og es) := hY2
  have HRD : Hid (read sn lo nx es ms off most = if okB sn lo nx es ms = true then (es.drop (skip lo off)).take most.toNat else []) := rfl
  obtain ⟨A, hAns⟩ : ∃ A, read sn lo nx es ms off most = A := ⟨_, rfl⟩
  rw [hAns] at HRD
  simp only [hAns]
  have hel := F.el
  have HEB : Hid (∀ e ∈ es, e.b.size ≤ 1048576) := F.eb
  clear hY hE hY2 hE2 hA F hAns
  cases hob : okB sn lo nx es ms with
  | false =>
    rw [hob] at hok HRD
    obtain rfl : A = [] := HRD.out
    clear HRD
    go_enter Try.func17, Try.ntmps17
    go_wp2_with (go_at_call 15; refine hok.mono ?_; rintro e w1 ⟨rfl, hb1⟩)
    go_ret
    exact ⟨none, 0, rfl, .inl rfl, hb.trans (hb1.mono hb.size)⟩
  | true =>
    rw [hob] at hok HRD
    have HA : Hid (A = (es.drop (skip lo off)).take most.toNat) := HRD.out
    have HOK : Hid (OkT sn lo nx es ms) := okB_true.1 hob
    clear HRD hob
    by_cases hm : most < 1
    · have f1 : decide (most < 1) = true := decide_eq_true hm
      obtain rfl : A = [] := by rw [HA.out, show most.toNat = 0 by omega]; simp
      clear HA
      go_enter Try.func17, Try.ntmps17
      go_wp2_with (go_at_call 15; refine hok.mono ?_; rintro e w1 ⟨rfl, hb1⟩)
      go_ret
      exact ⟨none, 0, rfl, .inl rfl, hb.trans (hb1.mono hb.size)⟩
    have f1 : decide (most < 1) = false := decide_eq_false hm
    by_cases hn : nx ≤ off
    · have f2 : decide (nx ≤ off) = true := decide_eq_true hn
      obtain rfl : A = [] := by
        have h1 := HOK.out.len
        have h2 := HOK.out.lo0
        rw [HA.out, List.drop_eq_nil_of_le (by unfold skip; omega)]
        simp
      clear HA
      go_enter Try.func17, Try.ntmps17
      go_wp2_with (go_at_call 15; refine hok.mono ?_; rintro e w1 ⟨rfl, hb1⟩; obtain ⟨d0, d1, d2, d3, d4⟩ := BOX.out w1 hb1)
      go_ret
      exact ⟨none, 0, rfl, .inl rfl, hb.trans (hb1.mono hb.size)⟩
    have f2 : decide (nx ≤ off) = false := decide_eq_false hn
    obtain ⟨d, hd⟩ : ∃ d, skip lo off = d := ⟨_, rfl⟩
    have hlen := HOK.out.len
    have hlo := HOK.out.lo0
    have hnx := HOK.out.nx0
    have hel4 := HOK.out.el
    by_cases hz : es.length = 0
    · obtain rfl : es = [] := List.eq_nil_of_length_eq_zero hz
      obtain rfl : A = [] := by rw [HA.out]; simp
      have hlo2 : lo = nx := by simp at hlen; omega
      have hmx : max off lo = lo := Int.max_eq_right (by omega)
      have hmn : min most 0 = 0 := Int.min_eq_right (by omega)
      have i2 : IntKind.i64.wrap (lo - lo) = 0 := by rw [IntKind.wrap_i64]; omega
      have i4 : IntKind.i64.wrap 0 = 0 := by rw [IntKind.wrap_i64]; omega
      rcases hga.out with rfl | ⟨rfl, _, rfl⟩
      all_goals
        simp only [List.length_nil] at hok hW c3
        clear hlo2
        go_enter Try.func17, Try.ntmps17
        go_wp2_with (first | (go_at_call 15; refine hok.mono ?_; rintro e w1 ⟨rfl, hb1⟩; obtain ⟨d0, d1, d2, d3, d4⟩ := BOX.out w1 hb1; simp only [List.length_nil] at d3) | (go_at_call 33; fail))
        clear hW c0 c1 c2 c3 c4
        first
          | refine (copy_entries [] g og cg w1 (by simp) (fun e he => by cases he) (HY.out.below hb1) (some ⟨g, og, none⟩) (fun _ => rfl)).mono ?_
          | refine (copy_entries [] g og 0 w1 (by simp) (fun e he => by cases he) (HY.out.below hb1) none (fun h => by simp at h)).mono ?_
        rintro e w2 ⟨rfl, _, hb2⟩
        go_wp2
        go_ret
        exact ⟨some ⟨w1.heap.size, 0, none⟩, 0, rfl, .inl rfl, hb.trans ((hb1.trans (hb2.mono hb1.size)).mono hb.size)⟩
    obtain rfl : ga = some ⟨g, og, none⟩ := by
      rcases hga.out with h | ⟨_, h, _⟩
      · exact h
      · omega
    have hdl : d < es.length := by
      rw [← hd]
      unfold skip
      rcases Int.le_total off lo with hh | hh
      · rw [Int.max_eq_right hh]; omega
      · rw [Int.max_eq_left hh]; omega
    have hmx2 : max off lo = lo + (d : Int) := by
      rw [← hd]
      unfold skip
      rcases Int.le_total off lo with hh | hh
      · rw [Int.max_eq_right hh]; omega
      · rw [Int.max_eq_left hh]; omega
    have hmx : max off lo - lo = (d : Int) := by rw [hmx2]; omega
    rw [hd] at HA
    obtain ⟨n, hn2⟩ : ∃ n : Nat, min most ((es.length : Int) - (d : Int)) = (n : Int) := ⟨(min most ((es.length : Int) - (d : Int))).toNat, by omega⟩
    have hn3 : min most ((es.length - d : Nat) : Int) = (n : Int) := by omega
    have hn4 : n ≤ es.length - d := by omega
    have hAl : A = (es.drop d).take n := by
      rw [HA.out]
      by_cases hq : most ≤ (es.length : Int) - (d : Int)
      · rw [show most.toNat = n by omega]
      · rw [show n = es.length - d by omega, List.take_of_length_le (by rw [List.length_drop]; omega), List.take_of_length_le (by rw [List.length_drop]; omega)]
    have hAn : A.length = n := by rw [hAl, List.length_take, List.length_drop]; omega
    have HAL : Hid (A = (es.drop d).take n) := hAl
    have HAN : Hid (A.length = n) := hAn
    have i1 : IntKind.i64.wrap (d : Int) = (d : Int) := by rw [IntKind.wrap_i64]; omega
    have i2 : IntKind.i64.wrap (lo + (d : Int) - lo) = (d : Int) := by rw [IntKind.wrap_i64]; omega
    have i3 : ((es.length : Int) - (d : Int)).toNat = es.length - d := by omega
    have i5 : ((cg : Int) - (d : Int)).toNat = cg - d := by omega
    clear hd hAl hAn HA hlen hlo hnx
    go_enter Try.func17, Try.ntmps17
    go_wp2_with (first | (go_at_call 15; refine hok.mono ?_; rintro e w1 ⟨rfl, hb1⟩; obtain ⟨d0, d1, d2, d3, d4⟩ := BOX.out w1 hb1) | (go_at_call 33; fail))
    clear hW c0 c1 c2 c3 c4
    have hce := copy_entries A g (og + d * 3) (cg - d) w1 (by rw [HAN.out]; omega) (fun e he => HEB.out e (by rw [HAL.out] at he; exact List.mem_of_mem_drop (List.mem_of_mem_take he))) (by rw [HAL.out]; exact RYo.cut (HY.out.below hb1) d n) (some ⟨g, og + d * 3, none⟩) (fun _ => rfl)
    rw [HAN.out] at hce
    have hce2 : Calls Try.prog 33 #[.slice (some ⟨g, og + d * 3, none⟩) n (cg - d)] w1 fun e w' => e = .returned (.slice (some ⟨w1.heap.size, 0, none⟩) n n) ∧ Own flY.c 3 42 w' w1.heap.size A n ∧ Below w1.heap.size w1 w' := hce
    clear hce
    refine hce2.mono ?_
    rintro e w2 ⟨rfl, hown, hb2⟩
    have HM : Hid (Mine flY.c 3 42 w2 w.heap.size (some ⟨w1.heap.size, 0, none⟩) A) := .inr ⟨_, _, rfl, by have := hb1.size; omega, by have h := of_own hown; rw [← HAN.out] at h; exact h⟩
    clear hce2 hown
    go_wp2
    go_ret
    refine ⟨some ⟨w1.heap.size, 0, none⟩, n, ?_, HM.out, hb.trans ((hb1.trans (hb2.mono hb1.size)).mono hb.size)⟩
    rw [HAN.out]
    rfl
end Go.Proofs.Ytlfhfcgcfggjcaa.sri
