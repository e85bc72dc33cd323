/- The law of StoreAll, walked: at every store the program answers as the specification, writes into nothing of it, and its answer owns its memory. -/
import Derived.Test.YtfoajjkcocppeaaStoMarks
import Derived.Test.YtfoajjkcocppeaaStoAll
namespace Go.Proofs.Ytfoajjkcocppeaa.lwStoreAll
open Go.ChangeShapes Go.WideShapes Go.ChangeAt Go.RowKit Go.Proofs.Ytfoajjkcocppeaa.fl Go.Proofs.Ytfoajjkcocppeaa.fo Go.Proofs.Ytfoajjkcocppeaa.rn Go.Proofs.Ytfoajjkcocppeaa.tb Go.Proofs.Ytfoajjkcocppeaa.tan Go.Proofs.Ytfoajjkcocppeaa.mrR Go.Proofs.Ytfoajjkcocppeaa.mrT
set_option linter.unusedVariables false

theorem mark_none (a : Option Addr) (cap k0 : Nat) (w : World) (hk : k0 ≤ 1000000000000) : Calls Try.prog 21 #[.slice a 0 cap, .int .i64 k0] w fun e w' => e = .returned (.int .i64 k0) ∧ w' = w := by
  go_enter Try.func21, Try.ntmps21
  go_wp2
  refine wp_loop_rounds 1 ?_
  rw [rounds_succ]
  go_wp2
  go_ret
  exact ⟨rfl, rfl⟩
theorem held_none (a : Option Addr) (cap k0 : Nat) (w : World) (hk : k0 ≤ 1000000000000) : Calls Try.prog 22 #[.slice a 0 cap, .int .i64 k0] w fun e w' => e = .returned (.int .i64 k0) ∧ w' = w := by
  go_enter Try.func22, Try.ntmps22
  go_wp2
  refine wp_loop_rounds 1 ?_
  rw [rounds_succ]
  go_wp2
  go_ret
  exact ⟨rfl, rfl⟩
theorem mark_mine (l : List flP.Pr) (a : Option Addr) (cap B : Nat) (w : World) (hl : l.length ≤ 1048577) (hM : Mine flP.c 3 63 w B a l) :
    Calls Try.prog 21 #[.slice a l.length cap, .int .i64 1] w fun e w' => e = .returned (.int .i64 (1 + 3 * l.length : Nat)) ∧ Mine flP.c 3 63 w' B a (mrP.mks 1 l.length) ∧ Tn w w' (blk a l) := by
  rcases hM with rfl | ⟨g, off, rfl, hB, ho⟩
  · exact (mark_none a cap 1 w (by omega)).mono fun e w' ⟨h1, h2⟩ => ⟨h1, .inl rfl, h2 ▸ Tn.refl _ _⟩
  · by_cases e : l = []
    · subst e
      exact (mark_none _ cap 1 w (by omega)).mono fun e w' ⟨h1, h2⟩ => ⟨h1, .inl rfl, h2 ▸ Tn.refl _ _⟩
    · exact (mrP.mark_all l.length g off cap 1 w (by omega) (by omega) (ho.any (mrP.mks_len _ _))).mono fun e' w' ⟨h1, h2, h3⟩ => ⟨h1, .inr ⟨g, off, rfl, hB, by rw [mrP.mks_len]; exact h3⟩, h2.wide (fun k hk => ⟨e, g, off, rfl, hk⟩)⟩
theorem held_mine (n : Nat) (a : Option Addr) (cap B : Nat) (w : World) (hl : n ≤ 1048577) (hM : Mine flP.c 3 63 w B a (mrP.mks 1 n)) :
    Calls Try.prog 22 #[.slice a n cap, .int .i64 1] w fun e w' => e = .returned (.int .i64 (1 + 3 * n : Nat)) ∧ Below w.heap.size w w' := by
  rcases hM with h0 | ⟨g, off, rfl, hB, ho⟩
  · have hn : n = 0 := by have := congrArg List.length h0; rw [mrP.mks_len] at this; exact this
    subst hn
    exact (held_none a cap 1 w (by omega)).mono fun e w' ⟨h1, h2⟩ => ⟨h1, h2 ▸ Below.refl _ _⟩
  · rw [mrP.mks_len] at ho
    exact mrP.held_all n g off cap 1 w (by omega) (by omega) ho
theorem blk_mks {a : Option Addr} {l : List flP.Pr} {k : Nat} (h : blk a (mrP.mks 1 l.length) k) : blk a l k := by
  obtain ⟨h1, h2⟩ := h
  exact ⟨fun e => h1 (by subst e; rfl), h2⟩
/-- a row of its own, and where it lies -/
theorem mine_of {α : Type} {c : α → List Value} {n B : Nat} {U : TypeId} {l : List α} {w : World} {v : Value} (hn : ∀ e, (c e).length = n) (ho : w.ownsRow B U n v l.length (l.flatMap c)) : ∃ a cap, v = .slice a l.length cap ∧ Mine c n U w B a l := by
  obtain ⟨_, ⟨h1, h0⟩ | ⟨g, cap, cur, h1, h2, h3, h4, h5, h6, h7⟩⟩ := ho
  · have e : l = [] := List.eq_nil_of_length_eq_zero h0
    subst e
    exact ⟨none, 0, h1, .inl rfl⟩
  · refine ⟨_, cap, h1, .inr ⟨g, 0, rfl, h2, cur, h3, by rw [h6, Nat.zero_add]; exact Nat.mul_le_mul_right n h4, fun i e hi he j v hv => ?_⟩⟩
    have hf := fl.flat_at hn l i e he j v hv
    rw [← h7] at hf
    have hlt := (List.getElem?_eq_some_iff.1 hf).1
    rw [List.length_take] at hlt
    rw [List.getElem?_take_of_lt (by omega)] at hf
    rw [Nat.zero_add]
    simpa using hf
theorem two {w : World} {b : Nat} {x0 x1 x2 x3 : Value} {U : TypeId} (h : w.heap[b]? = some (.cells #[x0, x1, x2, x3] U (0, 0))) : w.cell? ⟨b, 0, none⟩ = some x0 ∧ w.cell? ⟨b, 1, none⟩ = some x1 ∧ w.cell? ⟨b, 2, none⟩ = some x2 ∧ w.cell? ⟨b, 3, none⟩ = some x3 := ⟨bcell h rfl, bcell h rfl, bcell h rfl, bcell h rfl⟩
/-- what stands when the specification has answered: the argument, and the answer's list -/
structure Base (W : World) (n0 : Nat) (ys : List flP.Pr) (rs : List Rn) (ya ra : Option Addr) (yc rc : Nat) (lg : ByteArray) (sf : Int) (l : List flP.Pr) (sa : Option Addr) : Prop where
  bx : W.heap[n0]? = some (.cells #[.slice ya ys.length yc, .slice ra rs.length rc, .string lg, .int .i64 sf] 27 (0, 0))
  ae : Row flP.c 3 W W.heap.size ya ys
  ab : VR W W.heap.size ra rs
  se : Row flP.c 3 W W.heap.size sa l

set_option maxRecDepth 100000 in
set_option maxHeartbeats 8000000 in
theorem walk (ys : List flP.Pr) (rs : List Rn) (ya ra : Option Addr) (yc rc : Nat) (lg : ByteArray) (sf : Int) (w : World) (hyl : ys.length ≤ maxLen) (hrl : rs.length ≤ maxLen) (hyo : ∀ e ∈ ys, flP.ok e) (hro : ∀ e ∈ rs, okR e) (hlg : lg.size ≤ maxLen) (hY : Row flP.c 3 w w.heap.size ya ys) (hR : VR w w.heap.size ra rs) :
    Calls Try.prog 6 #[.agg #[.slice ya ys.length yc, .slice ra rs.length rc, .string lg, .int .i64 sf]] w fun e w' => e = .returned (.bool true) ∧ Below w.heap.size w w' := by
  have hb : Below w.heap.size w (w.alloc (.cells #[.slice ya ys.length yc, .slice ra rs.length rc, .string lg, .int .i64 sf] 27)) := (Below.refl _ _).alloc (Nat.le_refl _) _
  have hA := bnew w #[.slice ya ys.length yc, .slice ra rs.length rc, .string lg, .int .i64 sf] 27
  obtain ⟨W, hW⟩ : ∃ W, w.alloc (.cells #[.slice ya ys.length yc, .slice ra rs.length rc, .string lg, .int .i64 sf] 27) = W := ⟨_, rfl⟩
  rw [hW] at hb hA
  have HSE : Hid (Row flP.c 3 W W.heap.size ya ys) := hY.inn hb
  have HSB : Hid (VR W W.heap.size ra rs) := hR.inn hb
  have hsz := sto.sz_store ys rs ya ra yc rc lg sf W hyl hrl hyo hro hlg HSE.out HSB.out
  have HA : Hid (W.heap[w.heap.size]? = some (.cells #[.slice ya ys.length yc, .slice ra rs.length rc, .string lg, .int .i64 sf] 27 (0, 0))) := hA
  have hlt := (Array.getElem?_eq_some_iff.1 hA).1
  obtain ⟨c0, c1, c2, c3⟩ := two hA
  clear hY hR hA hyo hro
  go_enter Try.func6, Try.ntmps6
  go_wp2_with (go_at_call 7; fail)
  clear hW
  refine hsz.mono ?_
  rintro e w1 ⟨r, rfl, hr, hb1⟩
  by_cases hneg : r < 0
  · go_wp2
    go_ret
    exact ⟨rfl, hb.trans (hb1.mono hb.size)⟩
  have htot := (hr (by omega)).1
  have hF : Hid (Fit ys rs) := fit htot
  have hbw := bulk_wt rs
  rw [bulk_map] at hbw
  have z1 : ys.length ≤ 1048576 := hF.out.yl
  have z2 : rs.length ≤ 1048576 := hF.out.rl
  have z3 : ys.length + tot (rs.map (·.l)) ≤ 1048576 := by omega
  obtain ⟨d0, d1, d2, d3⟩ := two (bstay HA.out hb1 hlt)
  have ht2 := sto.to_store ys rs ya ra yc rc lg sf w1 hF.out (HSE.out.inn hb1) (HSB.out.inn hb1)
  have hr0 : (0 : Int) ≤ r := by omega
  obtain ⟨l, hl⟩ : ∃ l, sci.scan ys (rs.map (·.l)) ⟨#[]⟩ ⟨#[]⟩ = l := ⟨_, rfl⟩
  have HL : Hid (sci.scan ys (rs.map (·.l)) ⟨#[]⟩ ⟨#[]⟩ = l) := hl
  have HT3 : Hid (tot (rs.map (·.l)) ≤ 1048576) := by have := z3; exact (by omega : tot (rs.map (·.l)) ≤ 1048576)
  have HWO : Hid (Below w.heap.size w W) := hb
  clear hsz hr c0 c1 c2 c3 hl htot hbw z3
  go_wp2_with (go_at_call 9; fail)
  refine ht2.mono ?_
  rintro e w2 ⟨g2, h2, k2, rfl, m2, _, _, re2, rb2, hb2⟩
  have l2 : k2.length = rs.length := by have := congrArg List.length m2; simpa using this
  have hsp := sal.spec_all ys k2 ⟨g2, 0, none⟩ (some ⟨h2, 0, none⟩) ys.length rs.length lg sf w2 (hF.out.of m2) re2.row (OR.vr (by rw [l2]; exact rb2))
  simp only [m2, l2, HL.out] at hsp
  have hB2 : Below W.heap.size W w2 := hb1.trans (hb2.mono hb1.size)
  clear ht2 d0 d1 d2 d3 re2 rb2 m2 l2
  go_wp2_with (go_at_call 18; fail)
  refine hsp.mono ?_
  rintro e W3 ⟨v3, rfl, hse0, hb3⟩
  obtain ⟨sa, ce, rfl, hse⟩ := mine_of flP.c_len hse0
  clear hse0
  have hBW : Below W.heap.size W W3 := hB2.trans (hb3.mono hB2.size)
  have HBS : Hid (Base W3 w.heap.size ys rs ya ra yc rc lg sf l sa) := ⟨bstay HA.out hBW hlt, HSE.out.inn hBW, HSB.out.inn hBW, hse.row⟩
  have hlt3 : w.heap.size < W3.heap.size := Nat.lt_of_lt_of_le hlt hBW.size
  have hbw3 : Below w.heap.size w W3 := HWO.out.trans (hBW.mono HWO.out.size)
  have BON : Hid (∀ w', Below W3.heap.size W3 w' → Base w' w.heap.size ys rs ya ra yc rc lg sf l sa) := fun w' h => ⟨bstay HBS.out.bx h hlt3, HBS.out.ae.inn h, HBS.out.ab.inn h, HBS.out.se.inn h⟩
  obtain ⟨d0, d1, d2, d3⟩ := two HBS.out.bx
  have ht4 := sto.to_store ys rs ya ra yc rc lg sf W3 hF.out HBS.out.ae HBS.out.ab
  clear hsp hse hb1 hb2 hb3 hB2 hBW HSE HSB HA
  go_wp2_with (go_at_call 9; fail)
  refine ht4.mono ?_
  rintro e w4 ⟨g4, h4, k4, rfl, m4, hg4, hgh4, re4, rb4, hb4⟩
  have l4 : k4.length = rs.length := by have := congrArg List.length m4; simpa using this
  have hcp4 : ∀ r ∈ k4, r.l.length ≤ r.c := fun r hr => by
    obtain ⟨i, hi⟩ := List.getElem?_of_mem hr
    obtain ⟨_, _, hc, _⟩ := rb4.own i r hi
    omega
  have ta4 : TA w4 W3.heap.size (some ⟨g4, 0, none⟩) (some ⟨h4, 0, none⟩) ys k4 := of_own_runs re4 (by rw [l4]; exact rb4) hg4 (by omega) (by omega) (fun i r hr e => by
    obtain ⟨h', e', _, hB', _⟩ := rb4.own i r hr
    rw [e] at e'
    have := congrArg Addr.block (Option.some.inj e')
    simp only at this
    omega)
  have hal4 : Below w4.heap.size w4 (w4.alloc (.cells #[.slice (some ⟨g4, 0, none⟩) ys.length ys.length, .slice (some ⟨h4, 0, none⟩) rs.length rs.length, .string lg, .int .i64 sf] 34)) := (Below.refl _ _).alloc (Nat.le_refl _) _
  have hx7 := bnew w4 #[.slice (some ⟨g4, 0, none⟩) ys.length ys.length, .slice (some ⟨h4, 0, none⟩) rs.length rs.length, .string lg, .int .i64 sf] 34
  have ta4' := ta4.on hal4
  obtain ⟨W4, hW4⟩ : ∃ W4, w4.alloc (.cells #[.slice (some ⟨g4, 0, none⟩) ys.length ys.length, .slice (some ⟨h4, 0, none⟩) rs.length rs.length, .string lg, .int .i64 sf] 34) = W4 := ⟨_, rfl⟩
  have hW4s : w4.heap.size < W4.heap.size := by rw [← hW4]; simp
  rw [hW4] at hal4 hx7 ta4'
  have hB4 : Below W3.heap.size W3 W4 := hb4.trans (hal4.mono hb4.size)
  have him := sal.impl_all ys k4 (some ⟨g4, 0, none⟩) ⟨h4, 0, none⟩ ys.length rs.length lg sf W4 (hF.out.of m4) (Nat.le_refl _) hcp4 ta4'.rows.1 ta4'.rows.2
  simp only [m4, l4, HL.out] at him
  obtain ⟨x0, x1, x2, x3⟩ := two hx7
  have HX7 : Hid (W4.heap[w4.heap.size]? = some (.cells #[.slice (some ⟨g4, 0, none⟩) ys.length ys.length, .slice (some ⟨h4, 0, none⟩) rs.length rs.length, .string lg, .int .i64 sf] 34 (0, 0))) := hx7
  have HT4 : Hid (TA W4 W3.heap.size (some ⟨g4, 0, none⟩) (some ⟨h4, 0, none⟩) ys k4) := ta4'
  have HM4 : Hid (k4.map (·.l) = rs.map (·.l)) := m4
  clear ht4 d0 d1 d2 d3 re4 rb4 ta4 ta4' hx7 hal4 m4 l4 hcp4
  go_wp2_with (go_at_call 19; fail)
  clear hW4
  refine him.mono ?_
  rintro e W5 ⟨v5, rfl, hll, hm50, hB45⟩
  obtain ⟨ga, gc, rfl, hm5⟩ := mine_of flP.c_len hm50
  clear hm50
  have hlm : l.length ≤ maxLen := by unfold maxLen; omega
  have hs45 := hB45.size
  have hs34 := hB4.size
  have hB5 : Below W3.heap.size W3 W5 := hB4.trans (hB45.mono hs34)
  have heq5 := flP.eq_all l ga sa gc ce W5 hlm hm5.row (HBS.out.se.inn hB5)
  have HM5 : Hid (Mine flP.c 3 63 W5 W4.heap.size ga l) := hm5
  clear him hm5 x0 x1 x2 x3
  go_wp2_with (go_at_call 20; fail)
  refine heq5.mono ?_
  rintro e w6 ⟨rfl, hb6⟩
  have hs6 := hb6.size
  have hB6 : Below W3.heap.size W3 w6 := hB5.trans (hb6.mono hB5.size)
  have hB46 : Below W4.heap.size W4 w6 := hB45.trans (hb6.mono hs45)
  obtain ⟨d0, d1, d2, d3⟩ := two (BON.out w6 hB6).bx
  have x7 := bstay HX7.out hB46 hW4s
  obtain ⟨y0, y1, y2, y3⟩ := two x7
  have HY6 : Hid (w6.heap[w4.heap.size]? = some (.cells #[.slice (some ⟨g4, 0, none⟩) ys.length ys.length, .slice (some ⟨h4, 0, none⟩) rs.length rs.length, .string lg, .int .i64 sf] 34 (0, 0))) := x7
  have HT46 : Hid (TA w6 W3.heap.size (some ⟨g4, 0, none⟩) (some ⟨h4, 0, none⟩) ys k4) := HT4.out.on hB46
  have hn7 : w4.heap.size < w6.heap.size := by omega
  have ht7 := sto.to_store ys rs ya ra yc rc lg sf w6.drew hF.out ((BON.out w6 hB6).ae.inn (Below.refl _ w6).drew) ((BON.out w6 hB6).ab.inn (Below.refl _ w6).drew)
  clear heq5 x7
  go_wp2
  go_region_with (first | (go_at_call 9; refine ht7.mono ?_; rintro e w7 ⟨g7, h7, k7, rfl, m7, _, _, re7, rb7, hb7⟩; obtain ⟨hb7', q70, q71, q72, q73, heq⟩ := sto.step6 hF.out HM4.out m7 hb7 hn7 HY6.out HT46.out.rows.1 HT46.out.rows.2 re7 rb7; clear re7 rb7 m7) | (go_at_call 11; refine heq.mono ?_; rintro e w8 ⟨rfl, hb8⟩))
  all_goals
    have hb68 : Below w6.heap.size w6 w8 := hb7'.trans (hb8.mono hb7'.size)
    have hB8 : Below W3.heap.size W3 w8 := hB6.trans (hb68.mono hB6.size)
    have hB58 : Below W5.heap.size W5 w8 := hb6.trans (hb68.mono hs6)
    have hs8 := hB58.size
    obtain ⟨y0, y1, y2, y3⟩ := two (bstay HY6.out hb68 hn7)
    have hmk := stm.mark_ans (lg := lg) (sf := sf) (R := rs.map (·.l)) (c5 := ys.length) (d5 := rs.length) (by omega) (by rw [List.length_map]; omega) (by have := HT3.out; omega) HM4.out (HT46.out.on hb68)
    rw [List.length_map] at hmk
    have HM8 : Hid (Mine flP.c 3 63 w8 W4.heap.size ga l) := HM5.out.below hB58
    have HBD : Hid (∀ k, own (some ⟨g4, 0, none⟩) ys k4 k → W3.heap.size ≤ k ∧ k < W4.heap.size) := fun k hk => HT4.out.bound hk
    clear hb7' hb7 hb8 ht7 heq q70 q71 q72 q73 d0 d1 d2 d3 hb68 hb6 HY6 HT46 hB6 hB46 hB5 hB45 hb4 hB4
    go_wp2_with (go_at_call 12; fail)
    refine hmk.mono ?_
    rintro e w9 ⟨rfl, htn, _⟩
    have hs9 := htn.size
    obtain ⟨kk, hkk⟩ : ∃ kk : Nat, 1 + 3 * ys.length + 3 * tot (rs.map (·.l)) = kk := ⟨_, rfl⟩
    rw [hkk]
    have hk0 : decide ((kk : Int) < 0) = false := by simp
    have hB9 : Below W3.heap.size W3 w9 := hB8.trans (htn.below hB8.size (fun k hk => (HBD.out k hk).1))
    have hm9 : Mine flP.c 3 63 w9 W4.heap.size ga l := HM8.out.kept htn (fun k hk h2 => by have := (HM8.out.blk_le hk).1; have := (HBD.out k h2).2; omega)
    have heq9 := flP.eq_all l ga sa gc ce w9 hlm hm9.row (BON.out w9 hB9).se
    have HM9 : Hid (Mine flP.c 3 63 w9 W4.heap.size ga l) := hm9
    clear hkk hmk y0 y1 y2 y3 hm9 htn HM8 hB8 hB58
    go_wp2_with (go_at_call 20; fail)
    refine heq9.mono ?_
    rintro e w10 ⟨rfl, hb10⟩
    have hB10 : Below W3.heap.size W3 w10 := hB9.trans (hb10.mono hB9.size)
    have hs10 := hb10.size
    have hmk := mark_mine l ga gc W4.heap.size w10 (by omega) (HM9.out.below hb10)
    have HM10 : Hid (Mine flP.c 3 63 w10 W4.heap.size ga l) := HM9.out.below hb10
    clear heq9 hb10 HM9 hB9
    go_wp2_with (go_at_call 21; fail)
    refine hmk.mono ?_
    rintro e w11 ⟨rfl, hm11, htn⟩
    have hs11 := htn.size
    have hB11 : Below W3.heap.size W3 w11 := hB10.trans (htn.below hB10.size (fun k hk => by have := (HM10.out.blk_le hk).1; omega))
    have hhd := held_mine l.length ga gc W4.heap.size w11 (by omega) hm11
    have HM11 : Hid (Mine flP.c 3 63 w11 W4.heap.size ga (mrP.mks 1 l.length)) := hm11
    obtain ⟨mm, hmm⟩ : ∃ mm : Nat, 1 + 3 * l.length = mm := ⟨_, rfl⟩
    rw [hmm] at hhd ⊢
    have HMM : Hid (1 + 3 * l.length = mm) := hmm
    have hm0 : decide ((mm : Int) < 0) = false := by simp
    clear hmk hm11 htn hmm HM10 hB10
    go_wp2_with (go_at_call 22; fail)
    refine hhd.mono ?_
    rintro e w12 ⟨rfl, hb12⟩
    have hs12 := hb12.size
    have hB12 : Below W3.heap.size W3 w12 := hB11.trans (hb12.mono hB11.size)
    obtain ⟨d0, d1, d2, d3⟩ := two (BON.out w12 hB12).bx
    have ht13 := sto.to_store ys rs ya ra yc rc lg sf w12 hF.out (BON.out w12 hB12).ae (BON.out w12 hB12).ab
    clear hhd
    go_wp2_with (go_at_call 9; fail)
    refine ht13.mono ?_
    rintro e w13 ⟨g13, h13, k13, rfl, m13, _, _, re13, rb13, hb13⟩
    have l13 : k13.length = rs.length := by have := congrArg List.length m13; simpa using this
    have hcp13 : ∀ r ∈ k13, r.l.length ≤ r.c := fun r hr => by
      obtain ⟨i, hi⟩ := List.getElem?_of_mem hr
      obtain ⟨_, _, hc, _⟩ := rb13.own i r hi
      omega
    have him := sal.impl_all ys k13 (some ⟨g13, 0, none⟩) ⟨h13, 0, none⟩ ys.length rs.length lg sf w13 (hF.out.of m13) (Nat.le_refl _) hcp13 re13.row (OR.vr (by rw [l13]; exact rb13))
    simp only [m13, l13, HL.out] at him
    have hB13 : Below w11.heap.size w11 w13 := hb12.trans (hb13.mono hs12)
    clear ht13 d0 d1 d2 d3 re13 rb13 hb13 hb12 hB12 m13 l13 hcp13
    go_wp2_with (go_at_call 19; fail)
    refine him.mono ?_
    rintro e w14 ⟨v14, rfl, _, hm140, hb14⟩
    obtain ⟨gx, cx, rfl, hm14⟩ := mine_of flP.c_len hm140
    clear hm140
    have hB14 : Below w11.heap.size w11 w14 := hB13.trans (hb14.mono hB13.size)
    have hB314 : Below W3.heap.size W3 w14 := hB11.trans (hB14.mono hB11.size)
    have heq14 := flP.eq_all l gx sa cx ce w14 hlm hm14.row (BON.out w14 hB314).se
    clear him hm14 hb14 hB13
    go_wp2_with (go_at_call 20; fail)
    refine heq14.mono ?_
    rintro e w15 ⟨rfl, hb15⟩
    have hB15 : Below w11.heap.size w11 w15 := hB14.trans (hb15.mono hB14.size)
    have hhd := held_mine l.length ga gc W4.heap.size w15 (by omega) (HM11.out.below hB15)
    rw [HMM.out] at hhd
    clear heq14
    go_wp2_with (go_at_call 22; fail)
    refine hhd.mono ?_
    rintro e w16 ⟨rfl, hb16⟩
    have hB16 : Below w11.heap.size w11 w16 := hB15.trans (hb16.mono hB15.size)
    have hfin : Below w.heap.size w w16 := hbw3.trans ((hB11.trans (hB16.mono hB11.size)).mono hbw3.size)
    clear hhd
    go_wp2
    go_ret
    exact ⟨rfl, hfin⟩
end Go.Proofs.Ytfoajjkcocppeaa.lwStoreAll
