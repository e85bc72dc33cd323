/- The law of Fail, walked. -/
import Derived.Test.YtiphjegaodaooaaFailWalks
namespace Go.Proofs.Ytiphjegaodaooaa.fal
open Go.ChangeShapes Go.WideShapes Go.ChangeAt Go.RowKit Go.Proofs.Ytiphjegaodaooaa.ls Go.Proofs.Ytiphjegaodaooaa.me Go.Proofs.Ytiphjegaodaooaa.mr Go.Proofs.Ytiphjegaodaooaa.fai
set_option linter.unusedVariables false

theorem eq_reply (ts : List ByteArray) (ta ta' : Option Addr) (tc tc' : Nat) (w : World) (hl : ts.length ≤ 2000000) (hS : Sl Value.string w w.heap.size ta ts) (hS' : Sl Value.string w w.heap.size ta' ts) :
    Calls Try.prog 7 #[.agg #[.int .i64 10, .int .i64 50, .slice ta ts.length tc, .slice none 0 0, .bool false, .string ⟨#[]⟩], .agg #[.int .i64 10, .int .i64 50, .slice ta' ts.length tc', .slice none 0 0, .bool false, .string ⟨#[]⟩]] w fun e w' => e = .returned (.bool true) ∧ Below w.heap.size w w' := by
  have hb : Below w.heap.size w ((w.alloc (.cells #[.int .i64 10, .int .i64 50, .slice ta ts.length tc, .slice none 0 0, .bool false, .string ⟨#[]⟩] 27)).alloc (.cells #[.int .i64 10, .int .i64 50, .slice ta' ts.length tc', .slice none 0 0, .bool false, .string ⟨#[]⟩] 27)) := ((Below.refl _ _).alloc (Nat.le_refl _) _).alloc (by simp) _
  have e1 := eq_method 10 50 ts [] ta none ta' none tc 0 tc' 0 _ hl (by simp) (inn hS hb) Sl.nil (inn hS' hb) Sl.nil
  clear hS hS'
  go_enter Try.func7, Try.ntmps7
  go_wp2_with (go_at_call 17; refine e1.mono ?_; rintro e w1 ⟨rfl, hb1⟩; obtain ⟨hc1, hf1⟩ := bcell hb1; have hbw := hb.trans (hb1.mono (by simp; omega)))
  go_ret
  exact ⟨rfl, hbw⟩
theorem mark_reply (ts : List ByteArray) (g tc : Nat) (w : World) (hl : ts.length ≤ 2000000) (hT : sm.Has w g tc ts) :
    Calls Try.prog 8 #[.agg #[.int .i64 10, .int .i64 50, .slice (some ⟨g, 0, none⟩) ts.length tc, .slice none 0 0, .bool false, .string ⟨#[]⟩], .int .i64 1] w fun e w' => e = .returned (.int .i64 (1 + ts.length : Nat)) ∧ sm.Has w' g tc (marksT 1 ts.length) ∧ w.grownBy w' (some g) := by
  have hb : Below w.heap.size w (w.alloc (.cells #[.int .i64 10, .int .i64 50, .slice (some ⟨g, 0, none⟩) ts.length tc, .slice none 0 0, .bool false, .string ⟨#[]⟩] 27)) := (Below.refl _ _).alloc (Nat.le_refl _) _
  have hlt := hT.lt
  have e1 := mark_method 10 50 ts [] (some ⟨g, 0, none⟩) none tc 0 _ hl (by simp) ((show RowT w (.slice (some ⟨g, 0, none⟩) ts.length tc) ts from .inr ⟨g, tc, rfl, hT⟩).below hb) (.inl ⟨rfl, rfl⟩) (fun g _ h => by simp [Value.ownBlock] at h)
  clear hT
  go_enter Try.func8, Try.ntmps8
  go_wp2_with (go_at_call 18; fail)
  refine e1.mono ?_
  rintro e w1 ⟨rfl, hT1, _, htn⟩
  have HT : Hid (sm.Has w1 g tc (marksT 1 ts.length)) := by
    have hm : (marksT 1 ts.length).length = ts.length := by simp [marksT]
    rcases hT1 with ⟨h, _⟩ | ⟨g', c', h, hh⟩
    · cases h
    · simp only [Value.slice.injEq, Option.some.injEq, Addr.mk.injEq] at h
      obtain ⟨⟨rfl, _⟩, _, rfl⟩ := h
      exact hh
  have HG : Hid (w.grownBy w1 (some g)) := ⟨htn.os.trans hb.os, htn.tape.trans hb.tape, htn.output.trans hb.output, Nat.le_trans hb.size htn.size, fun k hk hne => (htn.block k (Nat.lt_of_lt_of_le hk hb.size) (fun e => hne (by simpa [Value.ownBlock] using e.symm)) (by simp [Value.ownBlock])).trans (hb.block k hk)⟩
  clear hT1 htn e1
  go_wp2
  go_ret
  exact ⟨by simp, HT.out, HG.out⟩
theorem held_reply (n : Nat) (g tc : Nat) (w : World) (hl : n ≤ 2000000) (hT : sm.Has w g tc (marksT 1 n)) :
    Calls Try.prog 9 #[.agg #[.int .i64 10, .int .i64 50, .slice (some ⟨g, 0, none⟩) n tc, .slice none 0 0, .bool false, .string ⟨#[]⟩], .int .i64 1] w fun e w' => e = .returned (.int .i64 (1 + n : Nat)) ∧ Below w.heap.size w w' := by
  have hb : Below w.heap.size w (w.alloc (.cells #[.int .i64 10, .int .i64 50, .slice (some ⟨g, 0, none⟩) n tc, .slice none 0 0, .bool false, .string ⟨#[]⟩] 27)) := (Below.refl _ _).alloc (Nat.le_refl _) _
  have hm : (marksT 1 n).length = n := by simp [marksT]
  have e1 := held_method 10 50 n 0 (some ⟨g, 0, none⟩) none tc 0 _ hl (by simp) ((show RowT w (.slice (some ⟨g, 0, none⟩) n tc) (marksT 1 n) from .inr ⟨g, tc, by rw [hm], hT⟩).below hb) (.inl ⟨rfl, rfl⟩)
  clear hT hm
  go_enter Try.func9, Try.ntmps9
  go_wp2_with (go_at_call 19; refine e1.mono ?_; rintro e w1 ⟨rfl, hb1⟩)
  go_ret
  exact ⟨by simp, hb.trans (hb1.mono hb.size)⟩

set_option maxRecDepth 100000 in
set_option maxHeartbeats 4000000 in
theorem walk (a b : ByteArray) (w : World) (ha0 : a.size ≤ maxLen) (hb0 : b.size ≤ maxLen) : Calls Try.prog 3 #[.string a, .string b] w fun e w' => e = .returned (.bool true) ∧ Below w.heap.size w w' := by
  by_cases h1 : (1048576 : Int) < a.size
  · go_enter Try.func3, Try.ntmps3
    go_wp2
    go_ret
    exact ⟨rfl, Below.refl _ _⟩
  by_cases h2 : (1048576 : Int) < b.size
  · go_enter Try.func3, Try.ntmps3
    go_wp2
    go_ret
    exact ⟨rfl, Below.refl _ _⟩
  have hsp := spec_fail a b w (by omega) (by omega)
  have him := fun W => impl_fail a b W (by omega) (by omega)
  have hl2 := both_len a b
  obtain ⟨ts, hts⟩ : ∃ ts, both a b = ts := ⟨_, rfl⟩
  unfold An at hsp him
  rw [hts] at hl2
  simp only [hts] at hsp him
  have HIM : Hid (∀ W : World, Calls Try.prog 6 #[.string a, .string b] W fun e w' => ∃ g, e = .returned (.agg #[.int .i64 10, .int .i64 50, .slice (some ⟨g, 0, none⟩) 2 2, .slice none 0 0, .bool false, .string ⟨#[]⟩]) ∧ W.heap.size ≤ g ∧ sm.Has w' g 2 ts ∧ Below W.heap.size W w') := him
  have hll : ts.length ≤ 2000000 := by omega
  clear hts ha0 hb0 him
  go_enter Try.func3, Try.ntmps3
  go_wp2_with (go_at_call 5; fail)
  refine hsp.mono ?_
  rintro e w1 ⟨g1, rfl, hg1, hh1, hb1⟩
  have him0 := HIM.out (w1.alloc (.cells #[.int .i64 10, .int .i64 50, .slice (some ⟨g1, 0, none⟩) 2 2, .slice none 0 0, .bool false, .string ⟨#[]⟩] 27))
  clear hsp
  go_wp2_with (go_at_call 6; fail)
  have hal1 : Below w1.heap.size w1 (w1.alloc (.cells #[.int .i64 10, .int .i64 50, .slice (some ⟨g1, 0, none⟩) 2 2, .slice none 0 0, .bool false, .string ⟨#[]⟩] 27)) := (Below.refl _ _).alloc (Nat.le_refl _) _
  have hx1 := fl.bnew w1 #[.int .i64 10, .int .i64 50, .slice (some ⟨g1, 0, none⟩) 2 2, .slice none 0 0, .bool false, .string ⟨#[]⟩] 27
  obtain ⟨W1, hW1⟩ : ∃ W1, w1.alloc (.cells #[.int .i64 10, .int .i64 50, .slice (some ⟨g1, 0, none⟩) 2 2, .slice none 0 0, .bool false, .string ⟨#[]⟩] 27) = W1 := ⟨_, rfl⟩
  have hlt1 : w1.heap.size < W1.heap.size := by rw [← hW1]; simp
  rw [hW1] at hal1 hx1
  have HX1 : Hid (W1.heap[w1.heap.size]? = some (.cells #[.int .i64 10, .int .i64 50, .slice (some ⟨g1, 0, none⟩) 2 2, .slice none 0 0, .bool false, .string ⟨#[]⟩] 27 (0, 0))) := hx1
  rw [hW1] at him0
  rw [hW1]
  have HH1 : Hid (sm.Has W1 g1 2 ts) := hh1.below hal1 hh1.lt
  have hbW1 : Below w.heap.size w W1 := hb1.trans (hal1.mono hb1.size)
  clear hx1 hh1
  clear hW1
  refine him0.mono ?_
  rintro e w2 ⟨g2, rfl, hg2, hh2, hb2⟩
  have hB2e : Below W1.heap.size W1 (w2.alloc (.cells #[.int .i64 10, .int .i64 50, .slice (some ⟨g2, 0, none⟩) 2 2, .slice none 0 0, .bool false, .string ⟨#[]⟩] 27)) := hb2.trans (((Below.refl _ _).alloc (Nat.le_refl _) _).mono hb2.size)
  have x0 : (w2.alloc (.cells #[.int .i64 10, .int .i64 50, .slice (some ⟨g2, 0, none⟩) 2 2, .slice none 0 0, .bool false, .string ⟨#[]⟩] 27)).cell? ⟨w1.heap.size, 0, none⟩ = some (.int .i64 10) := fl.bcell (fl.bstay HX1.out hB2e hlt1) rfl
  have x1 : (w2.alloc (.cells #[.int .i64 10, .int .i64 50, .slice (some ⟨g2, 0, none⟩) 2 2, .slice none 0 0, .bool false, .string ⟨#[]⟩] 27)).cell? ⟨w1.heap.size, 1, none⟩ = some (.int .i64 50) := fl.bcell (fl.bstay HX1.out hB2e hlt1) rfl
  have x2 : (w2.alloc (.cells #[.int .i64 10, .int .i64 50, .slice (some ⟨g2, 0, none⟩) 2 2, .slice none 0 0, .bool false, .string ⟨#[]⟩] 27)).cell? ⟨w1.heap.size, 2, none⟩ = some (.slice (some ⟨g1, 0, none⟩) 2 2) := fl.bcell (fl.bstay HX1.out hB2e hlt1) rfl
  have x3 : (w2.alloc (.cells #[.int .i64 10, .int .i64 50, .slice (some ⟨g2, 0, none⟩) 2 2, .slice none 0 0, .bool false, .string ⟨#[]⟩] 27)).cell? ⟨w1.heap.size, 3, none⟩ = some (.slice none 0 0) := fl.bcell (fl.bstay HX1.out hB2e hlt1) rfl
  have x4 : (w2.alloc (.cells #[.int .i64 10, .int .i64 50, .slice (some ⟨g2, 0, none⟩) 2 2, .slice none 0 0, .bool false, .string ⟨#[]⟩] 27)).cell? ⟨w1.heap.size, 4, none⟩ = some (.bool false) := fl.bcell (fl.bstay HX1.out hB2e hlt1) rfl
  have x5 : (w2.alloc (.cells #[.int .i64 10, .int .i64 50, .slice (some ⟨g2, 0, none⟩) 2 2, .slice none 0 0, .bool false, .string ⟨#[]⟩] 27)).cell? ⟨w1.heap.size, 5, none⟩ = some (.string ⟨#[]⟩) := fl.bcell (fl.bstay HX1.out hB2e hlt1) rfl
  go_wp2_with (go_at_call 7; fail)
  clear x0 x1 x2 x3 x4 x5 hB2e
  have hal2 : Below w2.heap.size w2 (w2.alloc (.cells #[.int .i64 10, .int .i64 50, .slice (some ⟨g2, 0, none⟩) 2 2, .slice none 0 0, .bool false, .string ⟨#[]⟩] 27)) := (Below.refl _ _).alloc (Nat.le_refl _) _
  have hx2 := fl.bnew w2 #[.int .i64 10, .int .i64 50, .slice (some ⟨g2, 0, none⟩) 2 2, .slice none 0 0, .bool false, .string ⟨#[]⟩] 27
  obtain ⟨W2, hW2⟩ : ∃ W2, w2.alloc (.cells #[.int .i64 10, .int .i64 50, .slice (some ⟨g2, 0, none⟩) 2 2, .slice none 0 0, .bool false, .string ⟨#[]⟩] 27) = W2 := ⟨_, rfl⟩
  have hlt2 : w2.heap.size < W2.heap.size := by rw [← hW2]; simp
  rw [hW2] at hal2 hx2
  have HX2 : Hid (W2.heap[w2.heap.size]? = some (.cells #[.int .i64 10, .int .i64 50, .slice (some ⟨g2, 0, none⟩) 2 2, .slice none 0 0, .bool false, .string ⟨#[]⟩] 27 (0, 0))) := hx2
  rw [hW2]
  have HH2 : Hid (sm.Has W2 g2 2 ts) := hh2.below hal2 hh2.lt
  have hg2l : g2 < w2.heap.size := hh2.lt
  have hB2 : Below W1.heap.size W1 W2 := hb2.trans (hal2.mono hb2.size)
  have heq := eq_reply ts (some ⟨g2, 0, none⟩) (some ⟨g1, 0, none⟩) 2 2 W2 hll (Sl.of_has HH2.out HH2.out.lt) (Sl.of_has (HH1.out.below hB2 HH1.out.lt) (HH1.out.below hB2 HH1.out.lt).lt)
  rw [hl2] at heq
  clear him0 hx2 hh2
  clear hW2
  refine heq.mono ?_
  rintro e w3 ⟨rfl, hb3⟩
  clear heq
  have y0 : w3.cell? ⟨w2.heap.size, 0, none⟩ = some (.int .i64 10) := fl.bcell (fl.bstay HX2.out hb3 hlt2) rfl
  have y1 : w3.cell? ⟨w2.heap.size, 1, none⟩ = some (.int .i64 50) := fl.bcell (fl.bstay HX2.out hb3 hlt2) rfl
  have y2 : w3.cell? ⟨w2.heap.size, 2, none⟩ = some (.slice (some ⟨g2, 0, none⟩) 2 2) := fl.bcell (fl.bstay HX2.out hb3 hlt2) rfl
  have y3 : w3.cell? ⟨w2.heap.size, 3, none⟩ = some (.slice none 0 0) := fl.bcell (fl.bstay HX2.out hb3 hlt2) rfl
  have y4 : w3.cell? ⟨w2.heap.size, 4, none⟩ = some (.bool false) := fl.bcell (fl.bstay HX2.out hb3 hlt2) rfl
  have y5 : w3.cell? ⟨w2.heap.size, 5, none⟩ = some (.string ⟨#[]⟩) := fl.bcell (fl.bstay HX2.out hb3 hlt2) rfl
  have hmk := mark_reply ts g2 2 w3 hll (HH2.out.below hb3 HH2.out.lt)
  rw [hl2] at hmk
  go_wp2_with (go_at_call 8; fail)
  refine hmk.mono ?_
  rintro e w4 ⟨rfl, hh4, hg4⟩
  clear y0 y1 y2 y3 y4 y5 hmk
  have hs3 := hb3.size
  have hs4 := hg4.size
  have hs2 := hB2.size
  have hY4 : w4.heap[w2.heap.size]? = some (.cells #[.int .i64 10, .int .i64 50, .slice (some ⟨g2, 0, none⟩) 2 2, .slice none 0 0, .bool false, .string ⟨#[]⟩] 27 (0, 0)) := (hg4.block w2.heap.size (by omega) (by simp; omega)).trans (fl.bstay HX2.out hb3 hlt2)
  have HY4 : Hid (w4.heap[w2.heap.size]? = some (.cells #[.int .i64 10, .int .i64 50, .slice (some ⟨g2, 0, none⟩) 2 2, .slice none 0 0, .bool false, .string ⟨#[]⟩] 27 (0, 0))) := hY4
  have hB4 : Below W1.heap.size W1 w4 := by
    refine ⟨hg4.os.trans (hb3.os.trans hB2.os), hg4.tape.trans (hb3.tape.trans hB2.tape), hg4.output.trans (hb3.output.trans hB2.output), by omega, fun k hk => ?_⟩
    rw [hg4.block k (by omega) (by simp; omega), hb3.block k (by omega), hB2.block k hk]
  have y0 : w4.cell? ⟨w2.heap.size, 0, none⟩ = some (.int .i64 10) := fl.bcell (hY4) rfl
  have y1 : w4.cell? ⟨w2.heap.size, 1, none⟩ = some (.int .i64 50) := fl.bcell (hY4) rfl
  have y2 : w4.cell? ⟨w2.heap.size, 2, none⟩ = some (.slice (some ⟨g2, 0, none⟩) 2 2) := fl.bcell (hY4) rfl
  have y3 : w4.cell? ⟨w2.heap.size, 3, none⟩ = some (.slice none 0 0) := fl.bcell (hY4) rfl
  have y4 : w4.cell? ⟨w2.heap.size, 4, none⟩ = some (.bool false) := fl.bcell (hY4) rfl
  have y5 : w4.cell? ⟨w2.heap.size, 5, none⟩ = some (.string ⟨#[]⟩) := fl.bcell (hY4) rfl
  have hhd := held_reply 2 g2 2 w4 (by omega) hh4
  have HH4 : Hid (sm.Has w4 g2 2 (marksT 1 2)) := hh4
  clear hY4 hh4
  go_wp2_with (go_at_call 9; fail)
  refine hhd.mono ?_
  rintro e w5 ⟨rfl, hb5⟩
  clear y0 y1 y2 y3 y4 y5 hhd
  have him := HIM.out w5
  have hB5 : Below W1.heap.size W1 w5 := hB4.trans (hb5.mono hB4.size)
  go_wp2_with (go_at_call 6; fail)
  refine him.mono ?_
  rintro e w6 ⟨g6, rfl, hg6, hh6, hb6⟩
  have hB6e : Below W1.heap.size W1 (w6.alloc (.cells #[.int .i64 10, .int .i64 50, .slice (some ⟨g6, 0, none⟩) 2 2, .slice none 0 0, .bool false, .string ⟨#[]⟩] 27)) := (hB5.trans (hb6.mono hB5.size)).trans (((Below.refl _ _).alloc (Nat.le_refl _) _).mono (Nat.le_trans hB5.size hb6.size))
  have x0 : (w6.alloc (.cells #[.int .i64 10, .int .i64 50, .slice (some ⟨g6, 0, none⟩) 2 2, .slice none 0 0, .bool false, .string ⟨#[]⟩] 27)).cell? ⟨w1.heap.size, 0, none⟩ = some (.int .i64 10) := fl.bcell (fl.bstay HX1.out hB6e hlt1) rfl
  have x1 : (w6.alloc (.cells #[.int .i64 10, .int .i64 50, .slice (some ⟨g6, 0, none⟩) 2 2, .slice none 0 0, .bool false, .string ⟨#[]⟩] 27)).cell? ⟨w1.heap.size, 1, none⟩ = some (.int .i64 50) := fl.bcell (fl.bstay HX1.out hB6e hlt1) rfl
  have x2 : (w6.alloc (.cells #[.int .i64 10, .int .i64 50, .slice (some ⟨g6, 0, none⟩) 2 2, .slice none 0 0, .bool false, .string ⟨#[]⟩] 27)).cell? ⟨w1.heap.size, 2, none⟩ = some (.slice (some ⟨g1, 0, none⟩) 2 2) := fl.bcell (fl.bstay HX1.out hB6e hlt1) rfl
  have x3 : (w6.alloc (.cells #[.int .i64 10, .int .i64 50, .slice (some ⟨g6, 0, none⟩) 2 2, .slice none 0 0, .bool false, .string ⟨#[]⟩] 27)).cell? ⟨w1.heap.size, 3, none⟩ = some (.slice none 0 0) := fl.bcell (fl.bstay HX1.out hB6e hlt1) rfl
  have x4 : (w6.alloc (.cells #[.int .i64 10, .int .i64 50, .slice (some ⟨g6, 0, none⟩) 2 2, .slice none 0 0, .bool false, .string ⟨#[]⟩] 27)).cell? ⟨w1.heap.size, 4, none⟩ = some (.bool false) := fl.bcell (fl.bstay HX1.out hB6e hlt1) rfl
  have x5 : (w6.alloc (.cells #[.int .i64 10, .int .i64 50, .slice (some ⟨g6, 0, none⟩) 2 2, .slice none 0 0, .bool false, .string ⟨#[]⟩] 27)).cell? ⟨w1.heap.size, 5, none⟩ = some (.string ⟨#[]⟩) := fl.bcell (fl.bstay HX1.out hB6e hlt1) rfl
  go_wp2_with (go_at_call 7; fail)
  clear x0 x1 x2 x3 x4 x5 hB6e
  have hal6 : Below w6.heap.size w6 (w6.alloc (.cells #[.int .i64 10, .int .i64 50, .slice (some ⟨g6, 0, none⟩) 2 2, .slice none 0 0, .bool false, .string ⟨#[]⟩] 27)) := (Below.refl _ _).alloc (Nat.le_refl _) _
  have hx6 := fl.bnew w6 #[.int .i64 10, .int .i64 50, .slice (some ⟨g6, 0, none⟩) 2 2, .slice none 0 0, .bool false, .string ⟨#[]⟩] 27
  obtain ⟨W6, hW6⟩ : ∃ W6, w6.alloc (.cells #[.int .i64 10, .int .i64 50, .slice (some ⟨g6, 0, none⟩) 2 2, .slice none 0 0, .bool false, .string ⟨#[]⟩] 27) = W6 := ⟨_, rfl⟩
  have hlt6 : w6.heap.size < W6.heap.size := by rw [← hW6]; simp
  rw [hW6] at hal6 hx6
  have HX6 : Hid (W6.heap[w6.heap.size]? = some (.cells #[.int .i64 10, .int .i64 50, .slice (some ⟨g6, 0, none⟩) 2 2, .slice none 0 0, .bool false, .string ⟨#[]⟩] 27 (0, 0))) := hx6
  rw [hW6]
  have hB6 : Below w4.heap.size w4 W6 := (hb5.trans (hb6.mono hb5.size)).trans (hal6.mono (Nat.le_trans hb5.size hb6.size))
  have hB16 : Below W1.heap.size W1 W6 := hB4.trans (hB6.mono hB4.size)
  have hh6' := hh6.below hal6 hh6.lt
  have hh16 := HH1.out.below hB16 HH1.out.lt
  have heq := eq_reply ts (some ⟨g6, 0, none⟩) (some ⟨g1, 0, none⟩) 2 2 W6 hll (Sl.of_has hh6' hh6'.lt) (Sl.of_has hh16 hh16.lt)
  rw [hl2] at heq
  clear him hx6 hh6 hh6' hh16
  clear hW6
  refine heq.mono ?_
  rintro e w7 ⟨rfl, hb7⟩
  clear heq
  have hB7 : Below w4.heap.size w4 w7 := hB6.trans (hb7.mono hB6.size)
  have y0 : w7.cell? ⟨w2.heap.size, 0, none⟩ = some (.int .i64 10) := fl.bcell (fl.bstay HY4.out hB7 (by omega)) rfl
  have y1 : w7.cell? ⟨w2.heap.size, 1, none⟩ = some (.int .i64 50) := fl.bcell (fl.bstay HY4.out hB7 (by omega)) rfl
  have y2 : w7.cell? ⟨w2.heap.size, 2, none⟩ = some (.slice (some ⟨g2, 0, none⟩) 2 2) := fl.bcell (fl.bstay HY4.out hB7 (by omega)) rfl
  have y3 : w7.cell? ⟨w2.heap.size, 3, none⟩ = some (.slice none 0 0) := fl.bcell (fl.bstay HY4.out hB7 (by omega)) rfl
  have y4 : w7.cell? ⟨w2.heap.size, 4, none⟩ = some (.bool false) := fl.bcell (fl.bstay HY4.out hB7 (by omega)) rfl
  have y5 : w7.cell? ⟨w2.heap.size, 5, none⟩ = some (.string ⟨#[]⟩) := fl.bcell (fl.bstay HY4.out hB7 (by omega)) rfl
  have hhd := held_reply 2 g2 2 w7 (by omega) (HH4.out.below hB7 HH4.out.lt)
  go_wp2_with (go_at_call 9; fail)
  refine hhd.mono ?_
  rintro e w8 ⟨rfl, hb8⟩
  have hfin : Below w.heap.size w w8 := hbW1.trans ((hB4.trans ((hB7.trans (hb8.mono hB7.size)).mono hB4.size)).mono hbW1.size)
  clear y0 y1 y2 y3 y4 y5 hhd
  go_wp2
  go_ret
  exact ⟨rfl, hfin⟩
end Go.Proofs.Ytiphjegaodaooaa.fal
