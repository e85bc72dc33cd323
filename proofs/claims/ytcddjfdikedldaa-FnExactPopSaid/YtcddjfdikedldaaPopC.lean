/- The law FnExactPop holds: at every queue, every owner and tag that the law admits, of any memory, the program Pop answers as the specification (which is Pop of the document, chapter 5), writes into nothing of them, and its answer owns its memory, behind another call too; no condition of my own. -/
import Derived.Test.YtcddjfdikedldaaQueueLib
import Derived.Test.YtcddjfdikedldaaQueueMarks
import Derived.Test.YtcddjfdikedldaaPopA
import Derived.Test.YtcddjfdikedldaaPopB
import Derived.Test.YtcddjfdikedldaaQueueArg
import Derived.WalkKit
import Derived.ProofKit
import Derived.OpenShut
import Derived.ShutString
import Derived.Below
import Derived.OpenVars

/- The law of Pop, walked: at every queue the program answers as the specification, writes into nothing of it, and its answer owns its memory. -/
namespace Go.Proofs.Ytcddjfdikedldaa.lwPop
open Go.ChangeShapes Go.WideShapes Go.ChangeAt Go.RowKit Go.Proofs.Ytcddjfdikedldaa.fl Go.Proofs.Ytcddjfdikedldaa.fo Go.Proofs.Ytcddjfdikedldaa.ql
set_option linter.unusedVariables false

theorem box5 {W : World} {b : Nat} {x0 x1 x2 x3 x4 : Value} {U : TypeId} (h : W.heap[b]? = some (.cells #[x0, x1, x2, x3, x4] U (0, 0))) : W.cell? ⟨b, 0, none⟩ = some x0 ∧ W.cell? ⟨b, 1, none⟩ = some x1 ∧ W.cell? ⟨b, 2, none⟩ = some x2 ∧ W.cell? ⟨b, 3, none⟩ = some x3 ∧ W.cell? ⟨b, 4, none⟩ = some x4 := ⟨bcell h rfl, bcell h rfl, bcell h rfl, bcell h rfl, bcell h rfl⟩
theorem five {w : World} {b : Nat} {x0 x1 x2 x3 : Value} {U : TypeId} (h : w.heap[b]? = some (.cells #[x0, x1, x2, x3] U (0, 0))) : w.cell? ⟨b, 0, none⟩ = some x0 ∧ w.cell? ⟨b, 1, none⟩ = some x1 ∧ w.cell? ⟨b, 2, none⟩ = some x2 ∧ w.cell? ⟨b, 3, none⟩ = some x3 := ⟨bcell h rfl, bcell h rfl, bcell h rfl, bcell h rfl⟩
/-- what stands when the specification has answered: the argument, and the answer with its lists -/
structure Base (xm : Array Value) (W : World) (n0 n6 : Nat) (nm : ByteArray) (nx AN : Int) (rs : List flM.Ms) (hs : List flH.Hd) (ra ha : Option Addr) (rc hc : Nat) (l : List flM.Ms) (lm : List flH.Hd) (sa sb : Option Addr) (ce cb : Nat) : Prop where
  bx : W.heap[n0]? = some (.cells #[.string nm, .int .i64 nx, .slice ra rs.length rc, .slice ha hs.length hc] 25 (0, 0))
  out : W.heap[n6]? = some (.cells #[.string nm, .int .i64 AN, .slice sa l.length ce, .slice sb lm.length cb] 30 (0, 0))
  om : W.heap[n6 + 1]? = some (.cells xm 38 (0, 0))
  ae : Row flM.c 5 W W.heap.size ra rs
  ab : Row flH.c 7 W W.heap.size ha hs
  se : Row flM.c 5 W W.heap.size sa l
  sm : Row flH.c 7 W W.heap.size sb lm
theorem fit_of {nm : ByteArray} {rs : List flM.Ms} {hs : List flH.Hd} (h : nm.size + rs.length + bulk flM.wt rs + hs.length + bulk flH.wt hs ≤ 1048576) : qsp.Fit nm rs hs := by
  refine ⟨by omega, by omega, by omega, fun e he => ?_, fun e he => ?_⟩
  · have := bulk_le flM.wt he
    simp only [flM.wt] at this
    omega
  · have := bulk_le flH.wt he
    simp only [flH.wt] at this
    omega
theorem step7 {w6 w7 : World} {nm : ByteArray} {nx : Int} {rs : List flM.Ms} {hs : List flH.Hd} {g4 h4 n : Nat} (hb : Below w6.drew.heap.size w6.drew w7) (hn : n < w6.heap.size) (hY : w6.heap[n]? = some (.cells #[.string nm, .int .i64 nx, .slice (some ⟨g4, 0, none⟩) rs.length rs.length, .slice (some ⟨h4, 0, none⟩) hs.length hs.length] 30 (0, 0))) (hE : Own flM.c 5 38 w6 g4 rs rs.length) (hB : Own flH.c 7 66 w6 h4 hs hs.length) :
    Below w6.heap.size w6 w7 ∧ Row flM.c 5 w7 w7.heap.size (some ⟨g4, 0, none⟩) rs ∧ Row flH.c 7 w7 w7.heap.size (some ⟨h4, 0, none⟩) hs ∧ w7.cell? ⟨n, 0, none⟩ = some (.string nm) ∧ w7.cell? ⟨n, 1, none⟩ = some (.int .i64 nx) ∧ w7.cell? ⟨n, 2, none⟩ = some (.slice (some ⟨g4, 0, none⟩) rs.length rs.length) ∧ w7.cell? ⟨n, 3, none⟩ = some (.slice (some ⟨h4, 0, none⟩) hs.length hs.length) := by
  have hb' : Below w6.heap.size w6 w7 := (Below.drew (Below.refl _ w6)).trans hb
  obtain ⟨c0, c1, c2, c3⟩ := five (bstay hY hb' hn)
  exact ⟨hb', (hE.below hb' hE.lt).row, (hB.below hb' hB.lt).row, c0, c1, c2, c3⟩

set_option maxRecDepth 100000 in
set_option maxHeartbeats 8000000 in
theorem walk (nm : ByteArray) (nx : Int) (rs : List flM.Ms) (hs : List flH.Hd) (ra ha : Option Addr) (rc hc : Nat) (xo xt : Int) (w : World) (hnm : nm.size ≤ maxLen) (hrl : rs.length ≤ maxLen) (hhl : hs.length ≤ maxLen) (hro : ∀ e ∈ rs, flM.ok e) (hho : ∀ e ∈ hs, flH.ok e) (hR : Row flM.c 5 w w.heap.size ra rs) (hH : Row flH.c 7 w w.heap.size ha hs) :
    Calls Try.prog 4 #[.agg #[.string nm, .int .i64 nx, .slice ra rs.length rc, .slice ha hs.length hc], .int .i64 xo, .int .i64 xt] w fun e w' => e = .returned (.bool true) ∧ Below w.heap.size w w' := by
  have hb : Below w.heap.size w (w.alloc (.cells #[.string nm, .int .i64 nx, .slice ra rs.length rc, .slice ha hs.length hc] 25)) := (Below.refl _ _).alloc (Nat.le_refl _) _
  have hA := bnew w #[.string nm, .int .i64 nx, .slice ra rs.length rc, .slice ha hs.length hc] 25
  obtain ⟨W, hW⟩ : ∃ W, w.alloc (.cells #[.string nm, .int .i64 nx, .slice ra rs.length rc, .slice ha hs.length hc] 25) = W := ⟨_, rfl⟩
  rw [hW] at hb hA
  have HSE : Hid (Row flM.c 5 W W.heap.size ra rs) := hR.inn hb
  have HSB : Hid (Row flH.c 7 W W.heap.size ha hs) := hH.inn hb
  have hsz := sz_queue nm nx rs hs ra ha rc hc W hnm hrl hhl hro hho HSE.out HSB.out
  have HA : Hid (W.heap[w.heap.size]? = some (.cells #[.string nm, .int .i64 nx, .slice ra rs.length rc, .slice ha hs.length hc] 25 (0, 0))) := hA
  have hlt := (Array.getElem?_eq_some_iff.1 hA).1
  obtain ⟨c0, c1, c2, c3⟩ := five hA
  clear hR hH hA hro hho
  go_enter Try.func4, Try.ntmps4
  go_wp2_with (go_at_call 7; fail)
  clear hW
  refine hsz.mono ?_
  rintro e w1 ⟨r, rfl, hr, hb1⟩
  by_cases hneg : r < 0
  · go_wp2
    go_ret
    exact ⟨rfl, hb.trans (hb1.mono hb.size)⟩
  have hF : Hid (qsp.Fit nm rs hs) := fit_of (hr (by omega))
  have z1 : rs.length ≤ 1048576 := hF.out.el
  have z2 : hs.length ≤ 1048576 := hF.out.ml
  obtain ⟨d0, d1, d2, d3⟩ := five (bstay HA.out hb1 hlt)
  have ht2 := to_queue nm nx rs hs ra ha rc hc w1 z1 z2 (HSE.out.inn hb1) (HSB.out.inn hb1)
  have hr0 : (0 : Int) ≤ r := by omega
  obtain ⟨l, hl0⟩ : ∃ y, qpp.ansR nm nx rs hs xo xt = y := ⟨_, rfl⟩
  have HL : Hid (∀ _ : Unit, qpp.ansR nm nx rs hs xo xt = l) := fun _ => hl0
  obtain ⟨lm, hlm0⟩ : ∃ y, qpp.ansH nm nx rs hs xo xt = y := ⟨_, rfl⟩
  have HLM : Hid (∀ _ : Unit, qpp.ansH nm nx rs hs xo xt = lm) := fun _ => hlm0
  obtain ⟨⟨mq, mx, mk, mb, ma⟩, hme0⟩ : ∃ y, qpp.ansM nm nx rs hs xo xt = y := ⟨_, rfl⟩
  have HME : Hid (∀ _ : Unit, qpp.ansM nm nx rs hs xo xt = ⟨mq, mx, mk, mb, ma⟩) := fun _ => hme0
  obtain ⟨ok, hok0⟩ : ∃ y, qpp.good nm nx rs hs xo xt = y := ⟨_, rfl⟩
  have HOK : Hid (∀ _ : Unit, qpp.good nm nx rs hs xo xt = ok) := fun _ => hok0
  have hlen1 := qpp.ansR_le nm nx rs hs xo xt
  rw [HL.out ()] at hlen1
  have hll : l.length ≤ 1048577 := by omega
  have hlm : l.length ≤ maxLen := by unfold maxLen; omega
  have hlen2 := qpp.ansH_le nm nx rs hs xo xt
  rw [HLM.out ()] at hlen2
  have hll2 : lm.length ≤ 1048577 := by omega
  have hlm2 : lm.length ≤ maxLen := by unfold maxLen; omega
  clear hsz hr c0 c1 c2 c3 hl0 hlm0 hok0 hme0
  go_wp2_with (go_at_call 9; fail)
  refine ht2.mono ?_
  rintro e w2 ⟨g2, h2, rfl, _, _, _, re2, rb2, hb2⟩
  have hsp := qos.spec_pop nm nx rs hs g2 h2 rs.length hs.length xo xt w2 hF.out rfl rfl re2.row rb2.row
  simp only [HL.out (), HLM.out (), HOK.out (), HME.out ()] at hsp
  have hB2 : Below W.heap.size W w2 := hb1.trans (hb2.mono hb1.size)
  clear ht2 d0 d1 d2 d3 re2 rb2
  go_wp2_with (go_at_call 14; fail)
  refine hsp.mono ?_
  rintro e w3 ⟨sa, ce, sb, cb, rfl, hse, hsm, hb3⟩
  have hB3 : Below W.heap.size W w3 := hB2.trans (hb3.mono hB2.size)
  have hal3 : Below w3.heap.size w3 ((w3.alloc (.cells #[.string nm, .int .i64 nx, .slice sa l.length ce, .slice sb lm.length cb] 30)).alloc (.cells #[.int .i64 mq, .string mx, .string mk, .string mb, .bool ma] 38)) := ((Below.refl _ _).alloc (Nat.le_refl _) _).alloc (by simp) _
  have hBW : Below W.heap.size W ((w3.alloc (.cells #[.string nm, .int .i64 nx, .slice sa l.length ce, .slice sb lm.length cb] 30)).alloc (.cells #[.int .i64 mq, .string mx, .string mk, .string mb, .bool ma] 38)) := hB3.trans (hal3.mono hB3.size)
  have hBase : Base #[.int .i64 mq, .string mx, .string mk, .string mb, .bool ma] ((w3.alloc (.cells #[.string nm, .int .i64 nx, .slice sa l.length ce, .slice sb lm.length cb] 30)).alloc (.cells #[.int .i64 mq, .string mx, .string mk, .string mb, .bool ma] 38)) w.heap.size w3.heap.size nm nx nx rs hs ra ha rc hc l lm sa sb ce cb :=
    ⟨bstay HA.out hBW hlt, bold (bnew w3 _ _) _, (by have h := bnew (w3.alloc (.cells #[.string nm, .int .i64 nx, .slice sa l.length ce, .slice sb lm.length cb] 30)) #[.int .i64 mq, .string mx, .string mk, .string mb, .bool ma] 38; rw [World.size_alloc] at h; exact h), HSE.out.inn hBW, HSB.out.inn hBW, hse.inn hal3, hsm.inn hal3⟩
  obtain ⟨W3, hW3⟩ : ∃ W3, (w3.alloc (.cells #[.string nm, .int .i64 nx, .slice sa l.length ce, .slice sb lm.length cb] 30)).alloc (.cells #[.int .i64 mq, .string mx, .string mk, .string mb, .bool ma] 38) = W3 := ⟨_, rfl⟩
  rw [hW3] at hBW hBase
  have HBS : Hid (Base #[.int .i64 mq, .string mx, .string mk, .string mb, .bool ma] W3 w.heap.size w3.heap.size nm nx nx rs hs ra ha rc hc l lm sa sb ce cb) := hBase
  have hlt3 : w.heap.size < W3.heap.size := Nat.lt_of_lt_of_le hlt hBW.size
  have hlt6m : w3.heap.size + 1 < W3.heap.size := (Array.getElem?_eq_some_iff.1 hBase.om).1
  have hlt6 : w3.heap.size < W3.heap.size := (Array.getElem?_eq_some_iff.1 hBase.out).1
  have hbw3 : Below w.heap.size w W3 := hb.trans (hBW.mono hb.size)
  obtain ⟨d0, d1, d2, d3⟩ := five HBS.out.bx
  have ht4 := to_queue nm nx rs hs ra ha rc hc W3 z1 z2 HBS.out.ae HBS.out.ab
  clear hsp hse hsm hBase hb1 hb2 hb3 hB2 hB3 hal3 hBW HSE HSB HA
  go_wp2_with (go_at_call 9; fail)
  clear hW3
  refine ht4.mono ?_
  rintro e w4 ⟨g4, h4, rfl, hg4, hh4, hgh4, re4, rb4, hb4⟩
  have hal4 : Below w4.heap.size w4 (w4.alloc (.cells #[.string nm, .int .i64 nx, .slice (some ⟨g4, 0, none⟩) rs.length rs.length, .slice (some ⟨h4, 0, none⟩) hs.length hs.length] 30)) := (Below.refl _ _).alloc (Nat.le_refl _) _
  have hx7 := bnew w4 #[.string nm, .int .i64 nx, .slice (some ⟨g4, 0, none⟩) rs.length rs.length, .slice (some ⟨h4, 0, none⟩) hs.length hs.length] 30
  have re4' := re4.below hal4 re4.lt
  have rb4' := rb4.below hal4 rb4.lt
  have hg4l := re4.lt
  have hh4l := rb4.lt
  obtain ⟨W4, hW4⟩ : ∃ W4, w4.alloc (.cells #[.string nm, .int .i64 nx, .slice (some ⟨g4, 0, none⟩) rs.length rs.length, .slice (some ⟨h4, 0, none⟩) hs.length hs.length] 30) = W4 := ⟨_, rfl⟩
  have hW4s : w4.heap.size < W4.heap.size := by rw [← hW4]; simp
  rw [hW4] at hal4 hx7 re4' rb4'
  have hB4 : Below W3.heap.size W3 W4 := hb4.trans (hal4.mono hb4.size)
  have him := qoi.impl_pop nm nx rs hs g4 h4 rs.length hs.length xo xt W4 hF.out (re4'.row) (rb4'.row)
  simp only [HL.out (), HLM.out (), HOK.out (), HME.out ()] at him
  obtain ⟨x0, x1, x2, x3⟩ := five hx7
  have HX7 : Hid (W4.heap[w4.heap.size]? = some (.cells #[.string nm, .int .i64 nx, .slice (some ⟨g4, 0, none⟩) rs.length rs.length, .slice (some ⟨h4, 0, none⟩) hs.length hs.length] 30 (0, 0))) := hx7
  have HFE4 : Hid (Own flM.c 5 38 W4 g4 rs rs.length) := re4'
  have HFB4 : Hid (Own flH.c 7 66 W4 h4 hs hs.length) := rb4'
  clear ht4 d0 d1 d2 d3 re4 rb4 re4' rb4' hx7 hal4
  go_wp2_with (go_at_call 15; fail)
  clear hW4
  refine him.mono ?_
  rintro e w5 ⟨g5, c5, h5, d5, rfl, hg5, hh5, hgh5, fe5, fb5, hb5⟩
  have hal5 : Below w5.heap.size w5 ((w5.alloc (.cells #[.string nm, .int .i64 nx, .slice (some ⟨g5, 0, none⟩) l.length c5, .slice (some ⟨h5, 0, none⟩) lm.length d5] 30)).alloc (.cells #[.int .i64 mq, .string mx, .string mk, .string mb, .bool ma] 38)) := ((Below.refl _ _).alloc (Nat.le_refl _) _).alloc (by simp) _
  have hx8 := bold (bnew w5 #[.string nm, .int .i64 nx, .slice (some ⟨g5, 0, none⟩) l.length c5, .slice (some ⟨h5, 0, none⟩) lm.length d5] 30) (.cells #[.int .i64 mq, .string mx, .string mk, .string mb, .bool ma] 38)
  have hm8 := bnew (w5.alloc (.cells #[.string nm, .int .i64 nx, .slice (some ⟨g5, 0, none⟩) l.length c5, .slice (some ⟨h5, 0, none⟩) lm.length d5] 30)) #[.int .i64 mq, .string mx, .string mk, .string mb, .bool ma] 38
  rw [World.size_alloc] at hm8
  have fe5' := fe5.below hal5 fe5.lt
  have fb5' := fb5.below hal5 fb5.lt
  have hg5l := fe5.lt
  have hh5l := fb5.lt
  obtain ⟨W5, hW5⟩ : ∃ W5, (w5.alloc (.cells #[.string nm, .int .i64 nx, .slice (some ⟨g5, 0, none⟩) l.length c5, .slice (some ⟨h5, 0, none⟩) lm.length d5] 30)).alloc (.cells #[.int .i64 mq, .string mx, .string mk, .string mb, .bool ma] 38) = W5 := ⟨_, rfl⟩
  have hW5s : w5.heap.size + 1 < W5.heap.size := by rw [← hW5]; simp
  rw [hW5] at hal5 hx8 hm8 fe5' fb5'
  have hB45 : Below W4.heap.size W4 W5 := hb5.trans (hal5.mono hb5.size)
  have hs45 := hB45.size
  have hs34 := hB4.size
  have hB5 : Below W3.heap.size W3 W5 := hB4.trans (hB45.mono hs34)
  have heq5 := eq_queue nm nx l lm (some ⟨g5, 0, none⟩) sa (some ⟨h5, 0, none⟩) sb c5 ce d5 cb W5 hlm hlm2 fe5'.row (HBS.out.se.inn hB5) fb5'.row (HBS.out.sm.inn hB5)
  obtain ⟨x0, x1, x2, x3⟩ := five hx8
  obtain ⟨o0, o1, o2, o3⟩ := five (bstay HBS.out.out hB5 hlt6)
  have HM8 : Hid (W5.heap[w5.heap.size + 1]? = some (.cells #[.int .i64 mq, .string mx, .string mk, .string mb, .bool ma] 38 (0, 0))) := hm8
  have HX8 : Hid (W5.heap[w5.heap.size]? = some (.cells #[.string nm, .int .i64 nx, .slice (some ⟨g5, 0, none⟩) l.length c5, .slice (some ⟨h5, 0, none⟩) lm.length d5] 30 (0, 0))) := hx8
  have HFE5 : Hid (OwnO flM.c 5 38 W5 g5 0 l l.length) := fe5'
  have HFB5 : Hid (OwnO flH.c 7 66 W5 h5 0 lm lm.length) := fb5'
  clear him fe5 fb5 fe5' fb5' hx8 hm8 hal5
  go_wp2_with (go_at_call 11; fail)
  clear hW5
  refine heq5.mono ?_
  rintro e w6a ⟨rfl, hb6a⟩
  clear x0 x1 x2 x3 o0 o1 o2 o3
  have hem := flM.eq_one ⟨mq, mx, mk, mb, ma⟩ w6a
  obtain ⟨a0, a1, a2, a3, a4⟩ := box5 (bstay HM8.out hb6a hW5s)
  obtain ⟨b0, b1, b2, b3, b4⟩ := box5 (bstay (bstay HBS.out.om hB5 hlt6m) hb6a (by omega))
  go_wp2_with (go_at_call 16; fail)
  refine hem.mono ?_
  rintro e w6 ⟨rfl, hb6m⟩
  have hb6 := hb6a.trans (hb6m.mono hb6a.size)
  clear hem a0 a1 a2 a3 a4 b0 b1 b2 b3 b4 hb6m
  have hs6 := hb6.size
  have hB6 : Below W3.heap.size W3 w6 := hB5.trans (hb6.mono hB5.size)
  have hB46 : Below W4.heap.size W4 w6 := hB45.trans (hb6.mono hs45)
  obtain ⟨d0, d1, d2, d3⟩ := five (bstay HBS.out.bx hB6 hlt3)
  have x7 := bstay HX7.out hB46 hW4s
  obtain ⟨y0, y1, y2, y3⟩ := five x7
  have HY6 : Hid (w6.heap[w4.heap.size]? = some (.cells #[.string nm, .int .i64 nx, .slice (some ⟨g4, 0, none⟩) rs.length rs.length, .slice (some ⟨h4, 0, none⟩) hs.length hs.length] 30 (0, 0))) := x7
  have HFE46 : Hid (Own flM.c 5 38 w6 g4 rs rs.length) := HFE4.out.below hB46 HFE4.out.lt
  have HFB46 : Hid (Own flH.c 7 66 w6 h4 hs hs.length) := HFB4.out.below hB46 HFB4.out.lt
  have hn7 : w4.heap.size < w6.heap.size := by omega
  have ht7 := to_queue nm nx rs hs ra ha rc hc w6.drew z1 z2 (HBS.out.ae.inn hB6.drew) (HBS.out.ab.inn hB6.drew)
  clear heq5 x7
  go_wp2
  go_region_with (first | (go_at_call 9; refine ht7.mono ?_; rintro e w7 ⟨g7, h7, rfl, _, _, _, re7, rb7, hb7⟩; obtain ⟨hb7', e7, f7, q70, q71, q72, q73⟩ := step7 hb7 hn7 HY6.out HFE46.out HFB46.out; have heq := eq_queue nm nx rs hs (some ⟨g4, 0, none⟩) (some ⟨g7, 0, none⟩) (some ⟨h4, 0, none⟩) (some ⟨h7, 0, none⟩) rs.length rs.length hs.length hs.length w7 hrl hhl e7 re7.row f7 rb7.row; clear e7 f7 re7 rb7) | (go_at_call 11; refine heq.mono ?_; rintro e w8 ⟨rfl, hb8⟩))
  all_goals
    have hb68 : Below w6.heap.size w6 w8 := hb7'.trans (hb8.mono hb7'.size)
    have hB8 : Below W3.heap.size W3 w8 := hB6.trans (hb68.mono hB6.size)
    have hB58 : Below W5.heap.size W5 w8 := hb6.trans (hb68.mono hs6)
    have hs8 := hB58.size
    obtain ⟨y0, y1, y2, y3⟩ := five (bstay HY6.out hb68 hn7)
    have hmk := qms.mark_queue nm nx rs hs g4 0 h4 0 rs.length hs.length w8 (by omega) (by omega) hgh4 (of_own (HFE46.out.below hb68 HFE46.out.lt)) (of_own (HFB46.out.below hb68 HFB46.out.lt))
    have HM88 : Hid (w8.heap[w5.heap.size + 1]? = some (.cells #[.int .i64 mq, .string mx, .string mk, .string mb, .bool ma] 38 (0, 0))) := bstay HM8.out hB58 hW5s
    have HX88 : Hid (w8.heap[w5.heap.size]? = some (.cells #[.string nm, .int .i64 nx, .slice (some ⟨g5, 0, none⟩) l.length c5, .slice (some ⟨h5, 0, none⟩) lm.length d5] 30 (0, 0))) := bstay HX8.out hB58 (by omega)
    have HFE58 : Hid (OwnO flM.c 5 38 w8 g5 0 l l.length) := HFE5.out.below hB58 HFE5.out.lt
    have HFB58 : Hid (OwnO flH.c 7 66 w8 h5 0 lm lm.length) := HFB5.out.below hB58 HFB5.out.lt
    have hgE : W3.heap.size ≤ g4 ∧ W3.heap.size ≤ h4 ∧ W3.heap.size ≤ g5 ∧ W3.heap.size ≤ h5 := ⟨by omega, by omega, by omega, by omega⟩
    clear hb7' hb7 hb8 ht7 heq q70 q71 q72 q73 d0 d1 d2 d3 hb68 hb6 HY6 HFE46 HFB46 hB6 hB46 hB5 hB45 hb5 hb4 hB4
    go_wp2_with (go_at_call 12; fail)
    refine hmk.mono ?_
    rintro e w9 ⟨rfl, _, _, htn⟩
    have hs9 := htn.size
    obtain ⟨kk, hkk⟩ : ∃ kk : Nat, 1 + 5 * rs.length + 7 * hs.length = kk := ⟨_, rfl⟩
    rw [hkk]
    have hk0 : decide ((kk : Int) < 0) = false := by simp
    have hB9 : Below W3.heap.size W3 w9 := hB8.trans (htn.below hB8.size (fun k hk => by rcases hk with rfl | rfl <;> omega))
    have m9 : w9.heap[w5.heap.size + 1]? = some (.cells #[.int .i64 mq, .string mx, .string mk, .string mb, .bool ma] 38 (0, 0)) := (htn.block _ (by omega) (by omega)).trans HM88.out
    have HM9 : Hid (w9.heap[w5.heap.size + 1]? = some (.cells #[.int .i64 mq, .string mx, .string mk, .string mb, .bool ma] 38 (0, 0))) := m9
    have b9 : w9.heap[w5.heap.size]? = some (.cells #[.string nm, .int .i64 nx, .slice (some ⟨g5, 0, none⟩) l.length c5, .slice (some ⟨h5, 0, none⟩) lm.length d5] 30 (0, 0)) := (htn.block _ (by omega) (by omega)).trans HX88.out
    have fe9 : OwnO flM.c 5 38 w9 g5 0 l l.length := HFE58.out.kept (htn.block g5 HFE58.out.lt (by omega))
    have fb9 : OwnO flH.c 7 66 w9 h5 0 lm lm.length := HFB58.out.kept (htn.block h5 HFB58.out.lt (by omega))
    have heq9 := eq_queue nm nx l lm (some ⟨g5, 0, none⟩) sa (some ⟨h5, 0, none⟩) sb c5 ce d5 cb w9 hlm hlm2 fe9.row (HBS.out.se.inn hB9) fb9.row (HBS.out.sm.inn hB9)
    obtain ⟨x0, x1, x2, x3⟩ := five b9
    obtain ⟨o0, o1, o2, o3⟩ := five (bstay HBS.out.out hB9 hlt6)
    have HX9 : Hid (w9.heap[w5.heap.size]? = some (.cells #[.string nm, .int .i64 nx, .slice (some ⟨g5, 0, none⟩) l.length c5, .slice (some ⟨h5, 0, none⟩) lm.length d5] 30 (0, 0))) := b9
    have HFE9 : Hid (OwnO flM.c 5 38 w9 g5 0 l l.length) := fe9
    have HFB9 : Hid (OwnO flH.c 7 66 w9 h5 0 lm lm.length) := fb9
    have hlt9 : w5.heap.size < w9.heap.size := by omega
    have hlt9m : w5.heap.size + 1 < w9.heap.size := by omega
    clear hkk hmk y0 y1 y2 y3 b9 m9 fe9 fb9 htn HM88 HX88 HFE58 HFB58 hB8 hB58
    go_wp2_with (go_at_call 11; fail)
    refine heq9.mono ?_
    rintro e w10a ⟨rfl, hb10a⟩
    have hs10a := hb10a.size
    have hs39 := hB9.size
    clear x0 x1 x2 x3 o0 o1 o2 o3
    have hem := flM.eq_one ⟨mq, mx, mk, mb, ma⟩ w10a
    obtain ⟨a0, a1, a2, a3, a4⟩ := box5 (bstay HM9.out hb10a hlt9m)
    obtain ⟨b0, b1, b2, b3, b4⟩ := box5 (bstay (bstay HBS.out.om hB9 hlt6m) hb10a (by omega))
    go_wp2_with (go_at_call 16; fail)
    refine hem.mono ?_
    rintro e w10 ⟨rfl, hb10m⟩
    have hb10 := hb10a.trans (hb10m.mono hb10a.size)
    clear hem a0 a1 a2 a3 a4 b0 b1 b2 b3 b4 hb10m
    have hB10 : Below W3.heap.size W3 w10 := hB9.trans (hb10.mono hB9.size)
    have hs10 := hb10.size
    have b10 := bstay HX9.out hb10 hlt9
    obtain ⟨p0, p1, p2, p3⟩ := five b10
    have HX10 : Hid (w10.heap[w5.heap.size]? = some (.cells #[.string nm, .int .i64 nx, .slice (some ⟨g5, 0, none⟩) l.length c5, .slice (some ⟨h5, 0, none⟩) lm.length d5] 30 (0, 0))) := b10
    have hmk := qms.mark_queue nm nx l lm g5 0 h5 0 c5 d5 w10 (by omega) (by omega) hgh5 (HFE9.out.below hb10 HFE9.out.lt) (HFB9.out.below hb10 HFB9.out.lt)
    clear heq9 b10 hb10 HX9 HFE9 HFB9 hB9
    go_wp2_with (go_at_call 12; fail)
    refine hmk.mono ?_
    rintro e w11 ⟨rfl, fe11, fb11, htn⟩
    have hs11 := htn.size
    have hB11 : Below W3.heap.size W3 w11 := hB10.trans (htn.below hB10.size (fun k hk => by rcases hk with rfl | rfl <;> omega))
    have b11 : w11.heap[w5.heap.size]? = some (.cells #[.string nm, .int .i64 nx, .slice (some ⟨g5, 0, none⟩) l.length c5, .slice (some ⟨h5, 0, none⟩) lm.length d5] 30 (0, 0)) := (htn.block _ (by omega) (by omega)).trans HX10.out
    have hhd := qms.held_queue nm nx l.length lm.length g5 0 h5 0 c5 d5 w11 (by omega) (by omega) fe11 fb11
    have HFE11 : Hid (OwnO flM.c 5 38 w11 g5 0 (mrM.mks 1 l.length) l.length) := fe11
    have HFB11 : Hid (OwnO flH.c 7 66 w11 h5 0 (mrH.mks (1 + 5 * l.length) lm.length) lm.length) := fb11
    obtain ⟨mm, hmm⟩ : ∃ mm : Nat, 1 + 5 * l.length + 7 * lm.length = mm := ⟨_, rfl⟩
    rw [hmm] at hhd ⊢
    have HMM : Hid (1 + 5 * l.length + 7 * lm.length = mm) := hmm
    have hm0 : decide ((mm : Int) < 0) = false := by simp
    obtain ⟨x0, x1, x2, x3⟩ := five b11
    have HX11 : Hid (w11.heap[w5.heap.size]? = some (.cells #[.string nm, .int .i64 nx, .slice (some ⟨g5, 0, none⟩) l.length c5, .slice (some ⟨h5, 0, none⟩) lm.length d5] 30 (0, 0))) := b11
    have hlt11 : w5.heap.size < w11.heap.size := by omega
    clear hmk p0 p1 p2 p3 b11 fe11 fb11 htn hmm HX10 hB10
    go_wp2_with (go_at_call 13; fail)
    refine hhd.mono ?_
    rintro e w12 ⟨rfl, hb12⟩
    have hs12 := hb12.size
    have hB12 : Below W3.heap.size W3 w12 := hB11.trans (hb12.mono hB11.size)
    obtain ⟨d0, d1, d2, d3⟩ := five (bstay HBS.out.bx hB12 hlt3)
    have ht13 := to_queue nm nx rs hs ra ha rc hc w12 z1 z2 (HBS.out.ae.inn hB12) (HBS.out.ab.inn hB12)
    clear hhd x0 x1 x2 x3
    go_wp2_with (go_at_call 9; fail)
    refine ht13.mono ?_
    rintro e w13 ⟨g13, h13, rfl, _, _, _, re13, rb13, hb13⟩
    have him := qoi.impl_pop nm nx rs hs g13 h13 rs.length hs.length xo xt w13 hF.out (re13.row) (rb13.row)
    simp only [HL.out (), HLM.out (), HOK.out (), HME.out ()] at him
    have hB13 : Below w11.heap.size w11 w13 := hb12.trans (hb13.mono hs12)
    clear ht13 d0 d1 d2 d3 re13 rb13 hb13 hb12 hB12
    go_wp2_with (go_at_call 15; fail)
    refine him.mono ?_
    rintro e w14 ⟨gx, cx, hx, dx, rfl, _, _, _, fe14, fb14, hb14⟩
    have hal14 : Below w14.heap.size w14 ((w14.alloc (.cells #[.string nm, .int .i64 nx, .slice (some ⟨gx, 0, none⟩) l.length cx, .slice (some ⟨hx, 0, none⟩) lm.length dx] 30)).alloc (.cells #[.int .i64 mq, .string mx, .string mk, .string mb, .bool ma] 38)) := ((Below.refl _ _).alloc (Nat.le_refl _) _).alloc (by simp) _
    have hx12 := bold (bnew w14 #[.string nm, .int .i64 nx, .slice (some ⟨gx, 0, none⟩) l.length cx, .slice (some ⟨hx, 0, none⟩) lm.length dx] 30) (.cells #[.int .i64 mq, .string mx, .string mk, .string mb, .bool ma] 38)
    have hm12 := bnew (w14.alloc (.cells #[.string nm, .int .i64 nx, .slice (some ⟨gx, 0, none⟩) l.length cx, .slice (some ⟨hx, 0, none⟩) lm.length dx] 30)) #[.int .i64 mq, .string mx, .string mk, .string mb, .bool ma] 38
    rw [World.size_alloc] at hm12
    have fe14' := fe14.below hal14 fe14.lt
    have fb14' := fb14.below hal14 fb14.lt
    obtain ⟨W14, hW14⟩ : ∃ W14, (w14.alloc (.cells #[.string nm, .int .i64 nx, .slice (some ⟨gx, 0, none⟩) l.length cx, .slice (some ⟨hx, 0, none⟩) lm.length dx] 30)).alloc (.cells #[.int .i64 mq, .string mx, .string mk, .string mb, .bool ma] 38) = W14 := ⟨_, rfl⟩
    rw [hW14] at hal14 hx12 hm12 fe14' fb14'
    have HM12 : Hid (W14.heap[w14.heap.size + 1]? = some (.cells #[.int .i64 mq, .string mx, .string mk, .string mb, .bool ma] 38 (0, 0))) := hm12
    have hm12l : w14.heap.size + 1 < W14.heap.size := (Array.getElem?_eq_some_iff.1 hm12).1
    have hB14 : Below w11.heap.size w11 W14 := (hB13.trans (hb14.mono hB13.size)).trans (hal14.mono (by have := hb14.size; have := hB13.size; omega))
    have hB314 : Below W3.heap.size W3 W14 := hB11.trans (hB14.mono hB11.size)
    have heq14 := eq_queue nm nx l lm (some ⟨gx, 0, none⟩) sa (some ⟨hx, 0, none⟩) sb cx ce dx cb W14 hlm hlm2 fe14'.row (HBS.out.se.inn hB314) fb14'.row (HBS.out.sm.inn hB314)
    obtain ⟨x0, x1, x2, x3⟩ := five hx12
    obtain ⟨o0, o1, o2, o3⟩ := five (bstay HBS.out.out hB314 hlt6)
    clear him fe14 fb14 fe14' fb14' hx12 hm12 hal14 hb14 hB13
    go_wp2_with (go_at_call 11; fail)
    clear hW14
    refine heq14.mono ?_
    rintro e w15a ⟨rfl, hb15a⟩
    have hs314 := hB314.size
    clear x0 x1 x2 x3 o0 o1 o2 o3
    have hem := flM.eq_one ⟨mq, mx, mk, mb, ma⟩ w15a
    obtain ⟨a0, a1, a2, a3, a4⟩ := box5 (bstay HM12.out hb15a hm12l)
    obtain ⟨b0, b1, b2, b3, b4⟩ := box5 (bstay (bstay HBS.out.om hB314 hlt6m) hb15a (by omega))
    go_wp2_with (go_at_call 16; fail)
    refine hem.mono ?_
    rintro e w15 ⟨rfl, hb15m⟩
    have hb15 := hb15a.trans (hb15m.mono hb15a.size)
    clear hem a0 a1 a2 a3 a4 b0 b1 b2 b3 b4 hb15m
    have hB15 : Below w11.heap.size w11 w15 := hB14.trans (hb15.mono hB14.size)
    obtain ⟨p0, p1, p2, p3⟩ := five (bstay HX11.out hB15 hlt11)
    have hhd := qms.held_queue nm nx l.length lm.length g5 0 h5 0 c5 d5 w15 (by omega) (by omega) (HFE11.out.below hB15 HFE11.out.lt) (HFB11.out.below hB15 HFB11.out.lt)
    rw [HMM.out] at hhd
    clear heq14
    go_wp2_with (go_at_call 13; fail)
    refine hhd.mono ?_
    rintro e w16 ⟨rfl, hb16⟩
    have hB16 : Below w11.heap.size w11 w16 := hB15.trans (hb16.mono hB15.size)
    have hfin : Below w.heap.size w w16 := hbw3.trans ((hB11.trans (hB16.mono hB11.size)).mono hbw3.size)
    clear hhd p0 p1 p2 p3
    go_wp2
    go_ret
    exact ⟨rfl, hfin⟩
end Go.Proofs.Ytcddjfdikedldaa.lwPop

/- The law FnExactPop holds: at every queue, every owner and tag that the law admits, of any memory, the program Pop answers as the specification (which is Pop of the document, chapter 5), writes into nothing of them, and its answer owns its memory, behind another call too; no condition of my own. -/
namespace Go.Proofs.Ytcddjfdikedldaa.fnExactPop
open Go.ChangeShapes Go.WideShapes Go.ChangeAt Go.RowKit
open Go.ChangeMaps (open_string shut_string)
set_option linter.unusedVariables false

theorem own : ownKnob Try.prog.godebug = none := by kernel_rfl
theorem laidOut : laidOutB Try.prog = true := by kernel_rfl

theorem walk (nm0 : ByteArray) (nx0 : Int) (rs0 : List flM.Ms) (hs0 : List flH.Hd) (ra0 ha0 : Option Addr) (rc0 hc0 : Nat) (hnm0 : nm0.size ≤ maxLen) (hnx0 : (Lit.int .i64 nx0).wf = true) (hrl0 : rs0.length ≤ maxLen) (hhl0 : hs0.length ≤ maxLen) (hro0 : ∀ e ∈ rs0, flM.ok e) (hho0 : ∀ e ∈ hs0, flH.ok e) (a1 : Int) (w1 : (Lit.int .i64 a1).wf = true) (a2 : Int) (w2 : (Lit.int .i64 a2).wf = true) (w : World)  (hR0 : fl.Row flM.c 5 w w.heap.size ra0 rs0) (hH0 : fl.Row flH.c 7 w w.heap.size ha0 hs0) :
    Calls Try.prog 4 #[.agg #[.string nm0, .int .i64 nx0, .slice ra0 rs0.length rc0, .slice ha0 hs0.length hc0], .int .i64 a1, .int .i64 a2] w fun e w' => e = .returned (.bool true) ∧ Below w.heap.size w w' := by
  exact lwPop.walk nm0 nx0 rs0 hs0 ra0 ha0 rc0 hc0 a1 a2 w hnm0 hrl0 hhl0 hro0 hho0 hR0 hH0

set_option maxRecDepth 100000 in
theorem lifted (os : Os) (started : os.Started) (H : Type) (enc : TypeId × Value → H) :
    ReturnsInHanded {} Try.checked os 4 .any (Rows.fnExactPopSpec.pre6 enc Try.prog Try.f4 Rows.fnExactPopRow.domain false) (Rows.fnExactPopSpec.post enc Try.prog Try.f4 false true false false) := by
  refine returnsInHanded_of_change (C := Try.checked) own started (by kernel_rfl) Try.func4
    (ChangeSpec.witness6 (enc := enc) (C := Try.checked) false ⟨#[], #[.agg #[.string ByteArray.empty, .int .i64 0, .slice none 0 0, .slice none 0 0], .int .i64 0, .int .i64 0], []⟩ 8 (by kernel_rfl) (by kernel_rfl) (by kernel_rfl) (by kernel_rfl)) ?_
  intro W base args ds gs before hval0 hW hcnd _
  have hval : ∀ (j : Nat) t v, Try.f4.params[j]? = some t → args[j]? = some v → Value.okWide Try.prog W .any base t v := hval0
  have hW' := hW
  obtain ⟨p, q, hA0, hV, hb, hfz, hnd⟩ := hW
  have hA : DataW.TrodAll enc Try.prog W 0 (fun _ => true) true Try.f4.params.toList args.toList ds p := hA0
  rw [Try.params4] at hA hval
  obtain ⟨v0, vs0, d0, ds0, p0, q0, hargs, rfl, rfl, h0, r0⟩ := trodAll_cons hA
  obtain ⟨v1, vs1, d1, ds1, p1, q1, rfl, rfl, rfl, h1, r1⟩ := trodAll_cons r0
  obtain ⟨v2, vs2, d2, ds2, p2, q2, rfl, rfl, rfl, h2, r2⟩ := trodAll_cons r1
  obtain ⟨rfl, rfl, rfl⟩ := trodAll_nil r2
  obtain rfl : args = #[v0, v1, v2] := by cases args; simp_all
  obtain ⟨rfl, rfl⟩ := trodVars_none hV
  have k0 := h0
  have lt0 : ∀ x ∈ p0, x.block < W.heap.size := by obtain ⟨m, hm⟩ := k0; exact DataW.trod_lt m _ _ _ hm
  obtain ⟨nm0, nx0, rs0, hs0, ra0, ha0, rc0, hc0, rfl, hnm0, hnx0, hrl0, hhl0, hro0, hho0, hR0, hH0⟩ := qa.open_queue (hval 0 25 v0 rfl rfl) h0
  obtain ⟨a1, rfl, rfl, rfl, w1⟩ := open_int Try.underlying3 (hval 1 3 v1 rfl rfl) h1
  obtain ⟨a2, rfl, rfl, rfl, w2⟩ := open_int Try.underlying3 (hval 2 3 v2 rfl rfl) h2
  clear hA0 hval0
  refine (walk nm0 nx0 rs0 hs0 ra0 ha0 rc0 hc0 hnm0 hnx0 hrl0 hhl0 hro0 hho0 a1 w1 a2 w2 W  hR0 hH0).mono fun e W' ⟨he, hg⟩ => ?_
  subst he
  exact ⟨_, rfl, _, _, _, [], _, [], hW', (trodAll_cons_mk (shut_bool Try.underlying4 _) trodAll_mk0), (trodAll_cons_mk (Below.trod laidOut (by kernel_rfl) (of_decide_eq_true (by kernel_rfl)) k0 hg lt0) (trodAll_cons_mk (shut_int Try.underlying3 w1) (trodAll_cons_mk (shut_int Try.underlying3 w2) trodAll_mk0))), rfl, hg.frame _, fun h => by cases h⟩

theorem over : Rows.fnExactPopRow.holds Try.pinned (OpenSpec.ofChange Rows.fnExactPopSpec) :=
  OpenClaim.holds_of_wide 4 Try.f4 rfl rfl rfl rfl rfl rfl rfl ⟨rfl, rfl, rfl, rfl, rfl⟩ rfl rfl rfl rfl rfl (by kernel_rfl) Try.func4 (by kernel_rfl)
    (of_decide_eq_true (by kernel_rfl)) (by unfold Func.isWrapper; first | (rw [if_pos (by decide +kernel)]; kernel_rfl) | (rw [if_neg (by decide +kernel)]; exact ⟨rfl, rfl⟩))
    (fun os started H enc _ => lifted os started H enc)

theorem proved : Rows.FnExactPopSaid := over
#print axioms proved
end Go.Proofs.Ytcddjfdikedldaa.fnExactPop
