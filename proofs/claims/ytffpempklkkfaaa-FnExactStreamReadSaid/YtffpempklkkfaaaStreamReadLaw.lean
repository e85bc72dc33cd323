/- The law of StreamRead, walked: at every stream the program answers as the specification, writes into nothing of it, and its answer owns its memory. -/
import Derived.Test.YtffpempklkkfaaaStreamLib
import Derived.Test.YtffpempklkkfaaaStreamMarks
import Derived.Test.YtffpempklkkfaaaStreamReadImpl
namespace Go.Proofs.Ytffpempklkkfaaa.lwStreamRead
open Go.ChangeShapes Go.WideShapes Go.ChangeAt Go.RowKit Go.Proofs.Ytffpempklkkfaaa.fl Go.Proofs.Ytffpempklkkfaaa.fo Go.Proofs.Ytffpempklkkfaaa.sl
set_option linter.unusedVariables false

theorem mark_none (a : Option Addr) (cap k0 : Nat) (w : World) (hk : k0 ≤ 1000000000000) : Calls Try.prog 32 #[.slice a 0 cap, .int .i64 k0] w fun e w' => e = .returned (.int .i64 k0) ∧ w' = w := by
  go_enter Try.func32, Try.ntmps32
  go_wp2
  refine wp_loop_rounds 1 ?_
  rw [rounds_succ]
  go_wp2
  go_ret
  exact ⟨rfl, rfl⟩
theorem held_none (a : Option Addr) (cap k0 : Nat) (w : World) (hk : k0 ≤ 1000000000000) : Calls Try.prog 33 #[.slice a 0 cap, .int .i64 k0] w fun e w' => e = .returned (.int .i64 k0) ∧ w' = w := by
  go_enter Try.func33, Try.ntmps33
  go_wp2
  refine wp_loop_rounds 1 ?_
  rw [rounds_succ]
  go_wp2
  go_ret
  exact ⟨rfl, rfl⟩
theorem mark_mine (l : List flY.En) (a : Option Addr) (cap B : Nat) (w : World) (hl : l.length ≤ 1048577) (hM : Mine flY.c 3 42 w B a l) :
    Calls Try.prog 32 #[.slice a l.length cap, .int .i64 1] w fun e w' => e = .returned (.int .i64 (1 + 3 * l.length : Nat)) ∧ Mine flY.c 3 42 w' B a (mrY.mks 1 l.length) ∧ Tn w w' (blk a l) := by
  rcases hM with rfl | ⟨g, off, rfl, hB, ho⟩
  · exact (mark_none a cap 1 w (by omega)).mono fun e w' ⟨h1, h2⟩ => ⟨h1, .inl rfl, h2 ▸ Tn.refl _ _⟩
  · by_cases e : l = []
    · subst e
      exact (mark_none _ cap 1 w (by omega)).mono fun e w' ⟨h1, h2⟩ => ⟨h1, .inl rfl, h2 ▸ Tn.refl _ _⟩
    · exact (mrY.mark_all l.length g off cap 1 w (by omega) (by omega) (ho.any (mrY.mks_len _ _))).mono fun e' w' ⟨h1, h2, h3⟩ => ⟨h1, .inr ⟨g, off, rfl, hB, by rw [mrY.mks_len]; exact h3⟩, h2.wide (fun k hk => ⟨e, g, off, rfl, hk⟩)⟩
theorem held_mine (n : Nat) (a : Option Addr) (cap B : Nat) (w : World) (hl : n ≤ 1048577) (hM : Mine flY.c 3 42 w B a (mrY.mks 1 n)) :
    Calls Try.prog 33 #[.slice a n cap, .int .i64 1] w fun e w' => e = .returned (.int .i64 (1 + 3 * n : Nat)) ∧ Below w.heap.size w w' := by
  rcases hM with h0 | ⟨g, off, rfl, hB, ho⟩
  · have hn : n = 0 := by have := congrArg List.length h0; rw [mrY.mks_len] at this; exact this
    subst hn
    exact (held_none a cap 1 w (by omega)).mono fun e w' ⟨h1, h2⟩ => ⟨h1, h2 ▸ Below.refl _ _⟩
  · rw [mrY.mks_len] at ho
    exact mrY.held_all n g off cap 1 w (by omega) (by omega) ho
theorem blk_mks {a : Option Addr} {l : List flY.En} {k : Nat} (h : blk a (mrY.mks 1 l.length) k) : blk a l k := by
  obtain ⟨h1, h2⟩ := h
  exact ⟨fun e => h1 (by subst e; rfl), h2⟩
theorem five {w : World} {b : Nat} {x0 x1 x2 x3 x4 : Value} {U : TypeId} (h : w.heap[b]? = some (.cells #[x0, x1, x2, x3, x4] U (0, 0))) : w.cell? ⟨b, 0, none⟩ = some x0 ∧ w.cell? ⟨b, 1, none⟩ = some x1 ∧ w.cell? ⟨b, 2, none⟩ = some x2 ∧ w.cell? ⟨b, 3, none⟩ = some x3 ∧ w.cell? ⟨b, 4, none⟩ = some x4 := ⟨bcell h rfl, bcell h rfl, bcell h rfl, bcell h rfl, bcell h rfl⟩
/-- what stands when the specification has answered: the argument, and the answer's list -/
structure Base (W : World) (n0 : Nat) (nm : ByteArray) (lo nx : Int) (rs : List flY.En) (hs : List rr.Ex) (ra ha : Option Addr) (rc hc : Nat) (l : List flY.En) (sa : Option Addr) : Prop where
  bx : W.heap[n0]? = some (.cells #[.string nm, .int .i64 lo, .int .i64 nx, .slice ra rs.length rc, .slice ha hs.length hc] 46 (0, 0))
  ae : Row flY.c 3 W W.heap.size ra rs
  ab : Row flK.c 2 W W.heap.size ha hs
  se : Row flY.c 3 W W.heap.size sa l
theorem step7 {w6 w7 : World} {nm : ByteArray} {lo nx : Int} {rs : List flY.En} {hs : List rr.Ex} {g4 h4 n : Nat} (hb : Below w6.drew.heap.size w6.drew w7) (hn : n < w6.heap.size) (hY : w6.heap[n]? = some (.cells #[.string nm, .int .i64 lo, .int .i64 nx, .slice (some ⟨g4, 0, none⟩) rs.length rs.length, .slice (some ⟨h4, 0, none⟩) hs.length hs.length] 27 (0, 0))) (hE : Own flY.c 3 42 w6 g4 rs rs.length) (hB : Own flK.c 2 72 w6 h4 hs hs.length) :
    Below w6.heap.size w6 w7 ∧ Row flY.c 3 w7 w7.heap.size (some ⟨g4, 0, none⟩) rs ∧ Row flK.c 2 w7 w7.heap.size (some ⟨h4, 0, none⟩) hs ∧ w7.cell? ⟨n, 0, none⟩ = some (.string nm) ∧ w7.cell? ⟨n, 1, none⟩ = some (.int .i64 lo) ∧ w7.cell? ⟨n, 2, none⟩ = some (.int .i64 nx) ∧ w7.cell? ⟨n, 3, none⟩ = some (.slice (some ⟨g4, 0, none⟩) rs.length rs.length) ∧ w7.cell? ⟨n, 4, none⟩ = some (.slice (some ⟨h4, 0, none⟩) hs.length hs.length) := by
  have hb' : Below w6.heap.size w6 w7 := (Below.drew (Below.refl _ w6)).trans hb
  obtain ⟨c0, c1, c2, c3, c4⟩ := five (bstay hY hb' hn)
  exact ⟨hb', (hE.below hb' hE.lt).row, (hB.below hb' hB.lt).row, c0, c1, c2, c3, c4⟩

set_option maxRecDepth 100000 in
set_option maxHeartbeats 8000000 in
theorem walk (nm : ByteArray) (lo nx : Int) (rs : List flY.En) (hs : List rr.Ex) (ra ha : Option Addr) (rc hc : Nat) (off most : Int) (w : World) (hnm : nm.size ≤ maxLen) (hrl : rs.length ≤ maxLen) (hhl : hs.length ≤ maxLen) (hro : ∀ e ∈ rs, flY.ok e) (hho : ∀ e ∈ hs, flK.ok e) (hR : Row flY.c 3 w w.heap.size ra rs) (hH : Row flK.c 2 w w.heap.size ha hs) :
    Calls Try.prog 7 #[.agg #[.string nm, .int .i64 lo, .int .i64 nx, .slice ra rs.length rc, .slice ha hs.length hc], .int .i64 off, .int .i64 most] w fun e w' => e = .returned (.bool true) ∧ Below w.heap.size w w' := by
  have hb : Below w.heap.size w (w.alloc (.cells #[.string nm, .int .i64 lo, .int .i64 nx, .slice ra rs.length rc, .slice ha hs.length hc] 46)) := (Below.refl _ _).alloc (Nat.le_refl _) _
  have hA := bnew w #[.string nm, .int .i64 lo, .int .i64 nx, .slice ra rs.length rc, .slice ha hs.length hc] 46
  obtain ⟨W, hW⟩ : ∃ W, w.alloc (.cells #[.string nm, .int .i64 lo, .int .i64 nx, .slice ra rs.length rc, .slice ha hs.length hc] 46) = W := ⟨_, rfl⟩
  rw [hW] at hb hA
  have HSE : Hid (Row flY.c 3 W W.heap.size ra rs) := hR.inn hb
  have HSB : Hid (Row flK.c 2 W W.heap.size ha hs) := hH.inn hb
  have hsz := sz_stream nm lo nx rs hs ra ha rc hc W hnm hrl hhl hro hho HSE.out HSB.out
  have HA : Hid (W.heap[w.heap.size]? = some (.cells #[.string nm, .int .i64 lo, .int .i64 nx, .slice ra rs.length rc, .slice ha hs.length hc] 46 (0, 0))) := hA
  have hlt := (Array.getElem?_eq_some_iff.1 hA).1
  obtain ⟨c0, c1, c2, c3, c4⟩ := five hA
  clear hR hH hA hro hho
  go_enter Try.func7, Try.ntmps7
  go_wp2_with (go_at_call 25; fail)
  clear hW
  refine hsz.mono ?_
  rintro e w1 ⟨r, rfl, hr, hb1⟩
  by_cases hneg : r < 0
  · go_wp2
    go_ret
    exact ⟨rfl, hb.trans (hb1.mono hb.size)⟩
  have hF : Hid (st.Fit nm rs hs) := st.fit (hr (by omega))
  have z1 : rs.length ≤ 1048576 := hF.out.el
  have z2 : hs.length ≤ 1048576 := hF.out.ml
  obtain ⟨d0, d1, d2, d3, d4⟩ := five (bstay HA.out hb1 hlt)
  have ht2 := to_stream nm lo nx rs hs ra ha rc hc w1 z1 z2 (HSE.out.inn hb1) (HSB.out.inn hb1)
  have hr0 : (0 : Int) ≤ r := by omega
  have HLL : Hid ((srd.read nm lo nx rs hs off most).length ≤ rs.length) := srd.read_le nm lo nx rs hs off most
  obtain ⟨l, hl⟩ : ∃ l, srd.read nm lo nx rs hs off most = l := ⟨_, rfl⟩
  have HL : Hid (srd.read nm lo nx rs hs off most = l) := hl
  rw [hl] at HLL
  have hll : l.length ≤ 1048576 := Nat.le_trans HLL.out z1
  have hlm : l.length ≤ maxLen := by unfold maxLen; omega
  clear hsz hr c0 c1 c2 c3 c4 hl HLL
  go_wp2_with (go_at_call 26; fail)
  refine ht2.mono ?_
  rintro e w2 ⟨g2, h2, rfl, _, _, _, re2, rb2, hb2⟩
  have hsp := srd.spec_read nm lo nx rs hs g2 h2 rs.length hs.length off most w2 hF.out (st.ry_own re2) (st.re_own rb2)
  rw [HL.out] at hsp
  have hB2 : Below W.heap.size W w2 := hb1.trans (hb2.mono hb1.size)
  clear ht2 d0 d1 d2 d3 d4 re2 rb2
  go_wp2_with (go_at_call 30; fail)
  refine hsp.mono ?_
  rintro e W3 ⟨sa, ce, rfl, hse, hb3⟩
  have hBW : Below W.heap.size W W3 := hB2.trans (hb3.mono hB2.size)
  have HBS : Hid (Base W3 w.heap.size nm lo nx rs hs ra ha rc hc l sa) := ⟨bstay HA.out hBW hlt, HSE.out.inn hBW, HSB.out.inn hBW, hse⟩
  have hlt3 : w.heap.size < W3.heap.size := Nat.lt_of_lt_of_le hlt hBW.size
  have hbw3 : Below w.heap.size w W3 := hb.trans (hBW.mono hb.size)
  obtain ⟨d0, d1, d2, d3, d4⟩ := five HBS.out.bx
  have ht4 := to_stream nm lo nx rs hs ra ha rc hc W3 z1 z2 HBS.out.ae HBS.out.ab
  clear hsp hse hb1 hb2 hb3 hB2 hBW HSE HSB HA
  go_wp2_with (go_at_call 26; fail)
  refine ht4.mono ?_
  rintro e w4 ⟨g4, h4, rfl, hg4, hh4, hgh4, re4, rb4, hb4⟩
  have hal4 : Below w4.heap.size w4 (w4.alloc (.cells #[.string nm, .int .i64 lo, .int .i64 nx, .slice (some ⟨g4, 0, none⟩) rs.length rs.length, .slice (some ⟨h4, 0, none⟩) hs.length hs.length] 27)) := (Below.refl _ _).alloc (Nat.le_refl _) _
  have hx7 := bnew w4 #[.string nm, .int .i64 lo, .int .i64 nx, .slice (some ⟨g4, 0, none⟩) rs.length rs.length, .slice (some ⟨h4, 0, none⟩) hs.length hs.length] 27
  have re4' := re4.below hal4 re4.lt
  have rb4' := rb4.below hal4 rb4.lt
  have hg4l := re4.lt
  have hh4l := rb4.lt
  obtain ⟨W4, hW4⟩ : ∃ W4, w4.alloc (.cells #[.string nm, .int .i64 lo, .int .i64 nx, .slice (some ⟨g4, 0, none⟩) rs.length rs.length, .slice (some ⟨h4, 0, none⟩) hs.length hs.length] 27) = W4 := ⟨_, rfl⟩
  have hW4s : w4.heap.size < W4.heap.size := by rw [← hW4]; simp
  rw [hW4] at hal4 hx7 re4' rb4'
  have hB4 : Below W3.heap.size W3 W4 := hb4.trans (hal4.mono hb4.size)
  have him := sri.impl_read nm lo nx rs hs g4 h4 off most W4 hF.out (st.ry_own re4') (st.re_own rb4')
  rw [HL.out] at him
  obtain ⟨x0, x1, x2, x3, x4⟩ := five hx7
  have HX7 : Hid (W4.heap[w4.heap.size]? = some (.cells #[.string nm, .int .i64 lo, .int .i64 nx, .slice (some ⟨g4, 0, none⟩) rs.length rs.length, .slice (some ⟨h4, 0, none⟩) hs.length hs.length] 27 (0, 0))) := hx7
  have HFE4 : Hid (Own flY.c 3 42 W4 g4 rs rs.length) := re4'
  have HFB4 : Hid (Own flK.c 2 72 W4 h4 hs hs.length) := rb4'
  clear ht4 d0 d1 d2 d3 d4 re4 rb4 re4' rb4' hx7 hal4
  go_wp2_with (go_at_call 24; fail)
  clear hW4
  refine him.mono ?_
  rintro e W5 ⟨ga, gc, rfl, hm5, hB45⟩
  have hs45 := hB45.size
  have hs34 := hB4.size
  have hB5 : Below W3.heap.size W3 W5 := hB4.trans (hB45.mono hs34)
  have heq5 := flY.eq_all l ga sa gc ce W5 hlm hm5.row (HBS.out.se.inn hB5)
  have HM5 : Hid (Mine flY.c 3 42 W5 W4.heap.size ga l) := hm5
  clear him hm5 x0 x1 x2 x3 x4
  go_wp2_with (go_at_call 31; fail)
  refine heq5.mono ?_
  rintro e w6 ⟨rfl, hb6⟩
  have hs6 := hb6.size
  have hB6 : Below W3.heap.size W3 w6 := hB5.trans (hb6.mono hB5.size)
  have hB46 : Below W4.heap.size W4 w6 := hB45.trans (hb6.mono hs45)
  obtain ⟨d0, d1, d2, d3, d4⟩ := five (bstay HBS.out.bx hB6 hlt3)
  have x7 := bstay HX7.out hB46 hW4s
  obtain ⟨y0, y1, y2, y3, y4⟩ := five x7
  have HY6 : Hid (w6.heap[w4.heap.size]? = some (.cells #[.string nm, .int .i64 lo, .int .i64 nx, .slice (some ⟨g4, 0, none⟩) rs.length rs.length, .slice (some ⟨h4, 0, none⟩) hs.length hs.length] 27 (0, 0))) := x7
  have HFE46 : Hid (Own flY.c 3 42 w6 g4 rs rs.length) := HFE4.out.below hB46 HFE4.out.lt
  have HFB46 : Hid (Own flK.c 2 72 w6 h4 hs hs.length) := HFB4.out.below hB46 HFB4.out.lt
  have hn7 : w4.heap.size < w6.heap.size := by omega
  have ht7 := to_stream nm lo nx rs hs ra ha rc hc w6.drew z1 z2 (HBS.out.ae.inn hB6.drew) (HBS.out.ab.inn hB6.drew)
  clear heq5 x7
  go_wp2
  go_region_with (first | (go_at_call 26; refine ht7.mono ?_; rintro e w7 ⟨g7, h7, rfl, _, _, _, re7, rb7, hb7⟩; obtain ⟨hb7', e7, f7, q70, q71, q72, q73, q74⟩ := step7 hb7 hn7 HY6.out HFE46.out HFB46.out; have heq := eq_stream nm lo nx rs hs (some ⟨g4, 0, none⟩) (some ⟨g7, 0, none⟩) (some ⟨h4, 0, none⟩) (some ⟨h7, 0, none⟩) rs.length rs.length hs.length hs.length w7 hrl hhl e7 re7.row f7 rb7.row; clear e7 f7 re7 rb7) | (go_at_call 27; refine heq.mono ?_; rintro e w8 ⟨rfl, hb8⟩))
  all_goals
    have hb68 : Below w6.heap.size w6 w8 := hb7'.trans (hb8.mono hb7'.size)
    have hB8 : Below W3.heap.size W3 w8 := hB6.trans (hb68.mono hB6.size)
    have hB58 : Below W5.heap.size W5 w8 := hb6.trans (hb68.mono hs6)
    have hs8 := hB58.size
    obtain ⟨y0, y1, y2, y3, y4⟩ := five (bstay HY6.out hb68 hn7)
    have hmk := sms.mark_stream nm lo nx rs hs g4 0 h4 0 rs.length hs.length w8 (by omega) (by omega) hgh4 (of_own (HFE46.out.below hb68 HFE46.out.lt)) (of_own (HFB46.out.below hb68 HFB46.out.lt))
    have HM8 : Hid (Mine flY.c 3 42 w8 W4.heap.size ga l) := HM5.out.below hB58
    have hgE : W3.heap.size ≤ g4 ∧ W3.heap.size ≤ h4 := ⟨by omega, by omega⟩
    have hgW : g4 < W4.heap.size ∧ h4 < W4.heap.size := ⟨HFE4.out.lt, HFB4.out.lt⟩
    clear hb7' hb7 hb8 ht7 heq q70 q71 q72 q73 q74 d0 d1 d2 d3 d4 hb68 hb6 HY6 HFE46 HFB46 hB6 hB46 hB5 hB45 hb4 hB4
    go_wp2_with (go_at_call 28; fail)
    refine hmk.mono ?_
    rintro e w9 ⟨rfl, _, _, htn⟩
    have hs9 := htn.size
    obtain ⟨kk, hkk⟩ : ∃ kk : Nat, 1 + 3 * rs.length + 2 * hs.length = kk := ⟨_, rfl⟩
    rw [hkk]
    have hk0 : decide ((kk : Int) < 0) = false := by simp
    have hB9 : Below W3.heap.size W3 w9 := hB8.trans (htn.below hB8.size (fun k hk => by rcases hk with rfl | rfl <;> omega))
    have hm9 : Mine flY.c 3 42 w9 W4.heap.size ga l := HM8.out.kept htn (fun k hk h2 => by have := (HM8.out.blk_le hk).1; rcases h2 with rfl | rfl <;> omega)
    have heq9 := flY.eq_all l ga sa gc ce w9 hlm hm9.row (HBS.out.se.inn hB9)
    have HM9 : Hid (Mine flY.c 3 42 w9 W4.heap.size ga l) := hm9
    clear hkk hmk y0 y1 y2 y3 y4 hm9 htn HM8 hB8 hB58
    go_wp2_with (go_at_call 31; fail)
    refine heq9.mono ?_
    rintro e w10 ⟨rfl, hb10⟩
    have hB10 : Below W3.heap.size W3 w10 := hB9.trans (hb10.mono hB9.size)
    have hs10 := hb10.size
    have hmk := mark_mine l ga gc W4.heap.size w10 (by omega) (HM9.out.below hb10)
    have HM10 : Hid (Mine flY.c 3 42 w10 W4.heap.size ga l) := HM9.out.below hb10
    clear heq9 hb10 HM9 hB9
    go_wp2_with (go_at_call 32; fail)
    refine hmk.mono ?_
    rintro e w11 ⟨rfl, hm11, htn⟩
    have hs11 := htn.size
    have hB11 : Below W3.heap.size W3 w11 := hB10.trans (htn.below hB10.size (fun k hk => by have := (HM10.out.blk_le hk).1; omega))
    have hhd := held_mine l.length ga gc W4.heap.size w11 (by omega) hm11
    have HM11 : Hid (Mine flY.c 3 42 w11 W4.heap.size ga (mrY.mks 1 l.length)) := hm11
    obtain ⟨mm, hmm⟩ : ∃ mm : Nat, 1 + 3 * l.length = mm := ⟨_, rfl⟩
    rw [hmm] at hhd ⊢
    have HMM : Hid (1 + 3 * l.length = mm) := hmm
    have hm0 : decide ((mm : Int) < 0) = false := by simp
    clear hmk hm11 htn hmm HM10 hB10
    go_wp2_with (go_at_call 33; fail)
    refine hhd.mono ?_
    rintro e w12 ⟨rfl, hb12⟩
    have hs12 := hb12.size
    have hB12 : Below W3.heap.size W3 w12 := hB11.trans (hb12.mono hB11.size)
    obtain ⟨d0, d1, d2, d3, d4⟩ := five (bstay HBS.out.bx hB12 hlt3)
    have ht13 := to_stream nm lo nx rs hs ra ha rc hc w12 z1 z2 (HBS.out.ae.inn hB12) (HBS.out.ab.inn hB12)
    clear hhd
    go_wp2_with (go_at_call 26; fail)
    refine ht13.mono ?_
    rintro e w13 ⟨g13, h13, rfl, _, _, _, re13, rb13, hb13⟩
    have him := sri.impl_read nm lo nx rs hs g13 h13 off most w13 hF.out (st.ry_own re13) (st.re_own rb13)
    rw [HL.out] at him
    have hB13 : Below w11.heap.size w11 w13 := hb12.trans (hb13.mono hs12)
    clear ht13 d0 d1 d2 d3 d4 re13 rb13 hb13 hb12 hB12
    go_wp2_with (go_at_call 24; fail)
    refine him.mono ?_
    rintro e w14 ⟨gx, cx, rfl, hm14, hb14⟩
    have hB14 : Below w11.heap.size w11 w14 := hB13.trans (hb14.mono hB13.size)
    have hB314 : Below W3.heap.size W3 w14 := hB11.trans (hB14.mono hB11.size)
    have heq14 := flY.eq_all l gx sa cx ce w14 hlm hm14.row (HBS.out.se.inn hB314)
    clear him hm14 hb14 hB13
    go_wp2_with (go_at_call 31; fail)
    refine heq14.mono ?_
    rintro e w15 ⟨rfl, hb15⟩
    have hB15 : Below w11.heap.size w11 w15 := hB14.trans (hb15.mono hB14.size)
    have hhd := held_mine l.length ga gc W4.heap.size w15 (by omega) (HM11.out.below hB15)
    rw [HMM.out] at hhd
    clear heq14
    go_wp2_with (go_at_call 33; fail)
    refine hhd.mono ?_
    rintro e w16 ⟨rfl, hb16⟩
    have hB16 : Below w11.heap.size w11 w16 := hB15.trans (hb16.mono hB15.size)
    have hfin : Below w.heap.size w w16 := hbw3.trans ((hB11.trans (hB16.mono hB11.size)).mono hbw3.size)
    clear hhd
    go_wp2
    go_ret
    exact ⟨rfl, hfin⟩
end Go.Proofs.Ytffpempklkkfaaa.lwStreamRead
