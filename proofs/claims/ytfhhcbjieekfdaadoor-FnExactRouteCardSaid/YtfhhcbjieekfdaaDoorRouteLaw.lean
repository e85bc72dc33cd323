/- The law of Route, walked: at every routes, exchange and key the program answers as the specification, writes into nothing of them, and its answer owns its memory. -/
import Derived.Test.YtfhhcbjieekfdaaDoorRouteOwn0
import Derived.Test.YtfhhcbjieekfdaaDoorRouteEq
import Derived.Test.YtfhhcbjieekfdaaDoorRouteSpecR
import Derived.Test.YtfhhcbjieekfdaaDoorRouteI
import Derived.Test.YtfhhcbjieekfdaaDoorRouteSmall
import Derived.Test.YtfhhcbjieekfdaaDoorMarkRowsT
namespace Go.Proofs.YtfhhcbjieekfdaaDoor.rtl
open Go.ChangeShapes Go.WideShapes Go.ChangeAt Go.RowKit Go.Proofs.YtfhhcbjieekfdaaDoor.rr Go.Proofs.YtfhhcbjieekfdaaDoor.ra Go.Proofs.YtfhhcbjieekfdaaDoor.rt Go.Proofs.YtfhhcbjieekfdaaDoor.fl Go.Proofs.YtfhhcbjieekfdaaDoor.rm Go.Proofs.YtfhhcbjieekfdaaDoor.ro2 Go.Proofs.YtfhhcbjieekfdaaDoor.ls Go.Proofs.YtfhhcbjieekfdaaDoor.mr Go.Proofs.YtfhhcbjieekfdaaDoor.ptt Go.Proofs.YtfhhcbjieekfdaaDoor.rta
set_option linter.unusedVariables false

theorem two {w : World} {b : Nat} {x y : Value} {T : TypeId} (h : w.heap[b]? = some (.cells #[x, y] T (0, 0))) : w.cell? ⟨b, 0, none⟩ = some x ∧ w.cell? ⟨b, 1, none⟩ = some y := ⟨bcell h rfl, bcell h rfl⟩
theorem flat_map (L : List ByteArray) : L.flatMap cS = L.map Value.string := by
  induction L with
  | nil => rfl
  | cons a l ih => rw [List.flatMap_cons, List.map_cons, ih]; rfl
theorem row_sl {w : World} {B : Nat} {a : Option Addr} {l : List ByteArray} (h : Row cS 1 w B a l) : Sl Value.string w B a l := by
  rcases h with h | ⟨b, off, ha, hlt, hc⟩
  · exact .inl h
  · refine .inr ⟨b, off, ha, hlt, fun i x hx => ?_⟩
    have := hc i x hx 0 _ rfl
    simpa using this
theorem sl_in {w W : World} {a : Option Addr} {l : List ByteArray} (h : Sl Value.string w w.heap.size a l) (hb : Below w.heap.size w W) : Sl Value.string W W.heap.size a l := (h.below hb).mono hb.size
theorem ans_len (es : List Ex) (bs : List Bi) (x key : ByteArray) : (ansL es bs x key).length ≤ bs.length + 1 := by
  unfold ansL
  split
  · split
    · simp
    · split
      · simp
      · have h1 := rtp.puts_len (qs (kindOf es x) x key bs)
        have h2 := qs_len (kindOf es x) x key bs
        omega
  · simp
/-- the program's answer as the law's functions take it -/
def IL (w : World) (L : List ByteArray) (b : Bool) (e : Ending) (w' : World) : Prop := ∃ va vc, e = .returned (.tuple #[.slice va L.length vc, .bool b]) ∧ RowT w' (.slice va L.length vc) L ∧ (∀ g, (Value.slice va L.length vc).ownBlock = some g → w.heap.size ≤ g) ∧ Below w.heap.size w w'
theorem il_of {w w' : World} {L : List ByteArray} {b : Bool} {e : Ending} (h : rti.IR w L b e w') : IL w L b e w' := by
  obtain ⟨v, rfl, hb, ⟨rfl, rfl⟩ | ⟨g, cap, rfl, ho⟩⟩ := h
  · exact ⟨none, 0, rfl, .inl ⟨rfl, rfl⟩, fun g h => by simp [Value.ownBlock] at h, hb⟩
  · rw [flat_map] at ho
    exact ⟨_, cap, rfl, RowT.of_owns ho, fun g' h => (ho.lt g' h).1, hb⟩
theorem step7 {w6 w7 : World} {n g h n1 n2 c1 c2 : Nat} {es : List Ex} {bs : List Bi} (hb : Below w6.drew.heap.size w6.drew w7) (hn : n < w6.heap.size) (hY : w6.heap[n]? = some (.cells #[.slice (some ⟨g, 0, none⟩) n1 c1, .slice (some ⟨h, 0, none⟩) n2 c2] 33 (0, 0))) (hE : FE w6 g es es.length) (hB : FB w6 h bs bs.length) :
    Below w6.heap.size w6 w7 ∧ RE w7 g es ∧ RB w7 h bs ∧ w7.cell? ⟨n, 0, none⟩ = some (.slice (some ⟨g, 0, none⟩) n1 c1) ∧ w7.cell? ⟨n, 1, none⟩ = some (.slice (some ⟨h, 0, none⟩) n2 c2) := by
  have hb' : Below w6.heap.size w6 w7 := (Below.drew (Below.refl _ w6)).trans hb
  obtain ⟨c0, c1⟩ := two (bstay hY hb' hn)
  exact ⟨hb', (hE.below hb' hE.lt).all, (hB.below hb' hB.lt).all, c0, c1⟩

set_option maxRecDepth 100000 in
set_option maxHeartbeats 8000000 in
theorem walk (x key : ByteArray) (es : List Ex) (bs : List Bi) (ea ba : Option Addr) (ec bc : Nat) (m : Int) (w : World) (hx : x.size ≤ maxLen) (hkey : key.size ≤ maxLen) (hel : es.length ≤ maxLen) (hbl : bs.length ≤ maxLen) (hes : ∀ e ∈ es, e.n.size ≤ maxLen) (hbs : ∀ e ∈ bs, e.x.size ≤ maxLen ∧ e.k.size ≤ maxLen ∧ e.q.size ≤ maxLen) (hE : SE w w.heap.size ea es) (hB : SB w w.heap.size ba bs) (hm : w.cell? ⟨0, 0, none⟩ = some (.int .i64 m)) :
    Calls Tryd.prog 3 #[.agg #[.slice ea es.length ec, .slice ba bs.length bc], .string x, .string key] w fun e w' => e = .returned (.bool true) ∧ Below w.heap.size w w' := by
  have hgM : 0 < w.heap.size := block_lt_of_cell hm
  have HM : Hid (w.cell? ⟨0, 0, none⟩ = some (.int .i64 m)) := hm
  clear hm
  by_cases hbig : (1048576 : Int) < x.size
  · go_enter Tryd.func3, Tryd.ntmps3
    go_wp2
    go_ret
    exact ⟨rfl, (Below.refl _ _).alloc (Nat.le_refl _) _⟩
  by_cases hbig2 : (1048576 : Int) < key.size
  · go_enter Tryd.func3, Tryd.ntmps3
    go_wp2
    go_ret
    exact ⟨rfl, (Below.refl _ _).alloc (Nat.le_refl _) _⟩
  have hb : Below w.heap.size w (w.alloc (.cells #[.slice ea es.length ec, .slice ba bs.length bc] 25)) := (Below.refl _ _).alloc (Nat.le_refl _) _
  have hA := bnew w #[.slice ea es.length ec, .slice ba bs.length bc] 25
  obtain ⟨W, hW⟩ : ∃ W, w.alloc (.cells #[.slice ea es.length ec, .slice ba bs.length bc] 25) = W := ⟨_, rfl⟩
  rw [hW] at hb hA
  have HSE : Hid (SE W W.heap.size ea es) := rl.SE.inn hE hb
  have HSB : Hid (SB W W.heap.size ba bs) := rl.SB.inn hB hb
  have hsz := rl.sz_routes es bs ea ba ec bc W hel hbl hes hbs HSE.out HSB.out
  have HA : Hid (W.heap[w.heap.size]? = some (.cells #[.slice ea es.length ec, .slice ba bs.length bc] 25 (0, 0))) := hA
  have hlt := (Array.getElem?_eq_some_iff.1 hA).1
  obtain ⟨c0, c1⟩ := two hA
  clear hE hB hA hes hbs
  go_enter Tryd.func3, Tryd.ntmps3
  go_wp2_with (go_at_call 4; fail)
  clear hW
  refine hsz.mono ?_
  rintro e w1 ⟨r, rfl, hr, hb1⟩
  by_cases hneg : r < 0
  · go_wp2
    go_ret
    exact ⟨rfl, hb.trans (hb1.mono hb.size)⟩
  obtain ⟨z1, z2, z3, z4⟩ := rw0.small (hr (by omega))
  have HZ3 : Hid (∀ e ∈ es, e.n.size ≤ 1048576) := z3
  have HZ4 : Hid (∀ b ∈ bs, b.x.size ≤ 1048576 ∧ b.k.size ≤ 1048576 ∧ b.q.size ≤ 1048576) := z4
  obtain ⟨d0, d1⟩ := two (bstay HA.out hb1 hlt)
  have ht2 := to_routes es bs ea ba ec bc w1 z1 z2 (rl.SE.inn HSE.out hb1) (rl.SB.inn HSB.out hb1)
  have hr0 : (0 : Int) ≤ r := by omega
  clear hsz hr c0 c1 z3 z4
  go_wp2_with (go_at_call 6; fail)
  refine ht2.mono ?_
  rintro e w2 ⟨g2, h2, rfl, _, _, _, fe2, fb2, hb2⟩
  have hxs : x.size ≤ 1048576 := by omega
  have hks : key.size ≤ 1048576 := by omega
  have hsp := rsr.spec_route es bs g2 es.length h2 bs.length x key w2 z1 z2 HZ3.out HZ4.out hxs hks fe2.all fb2.all
  have him := fun (g h : Nat) (W : World) (h1 : RE W g es) (h2 : RB W h bs) (h3 : W.cell? ⟨0, 0, none⟩ = some (.int .i64 m)) => (rti.impl_route es bs g es.length h bs.length x key m W z1 z2 HZ3.out HZ4.out hxs hks h1 h2 h3).mono (fun e w' h => il_of h)
  have hll := ans_len es bs x key
  obtain ⟨L, hL⟩ : ∃ L, ansL es bs x key = L := ⟨_, rfl⟩
  obtain ⟨bb, hbb⟩ : ∃ bb, ansB es bs x key = bb := ⟨_, rfl⟩
  rw [hL] at hll hsp
  rw [hbb] at hsp
  simp only [hL, hbb] at him
  have HIM : Hid (∀ (g h : Nat) (W : World), RE W g es → RB W h bs → W.cell? ⟨0, 0, none⟩ = some (.int .i64 m) → Calls Tryd.prog 7 #[.agg #[.slice (some ⟨g, 0, none⟩) es.length es.length, .slice (some ⟨h, 0, none⟩) bs.length bs.length], .string x, .string key] W fun e w' => IL W L bb e w') := him
  have hL2 : L.length ≤ 2000000 := by omega
  have hB2 : Below W.heap.size W w2 := hb1.trans (hb2.mono hb1.size)
  clear ht2 d0 d1 hL hbb fe2 fb2 him
  go_wp2_with (go_at_call 5; fail)
  refine hsp.mono ?_
  rintro e w3 ⟨gs, cs, rfl, hrow3, hb3⟩
  have hB3 : Below W.heap.size W w3 := hB2.trans (hb3.mono hB2.size)
  have HSP : Hid (Sl Value.string w3 w3.heap.size (some ⟨gs, 0, none⟩) L) := row_sl hrow3
  have hbw3 : Below w.heap.size w w3 := hb.trans (hB3.mono hb.size)
  have HE3 : Hid (SE w3 w3.heap.size ea es) := rl.SE.inn HSE.out hB3
  have HB3 : Hid (SB w3 w3.heap.size ba bs) := rl.SB.inn HSB.out hB3
  have HA3 : Hid (w3.heap[w.heap.size]? = some (.cells #[.slice ea es.length ec, .slice ba bs.length bc] 25 (0, 0))) := bstay HA.out hB3 hlt
  have hlt3 : w.heap.size < w3.heap.size := Nat.lt_of_lt_of_le hlt hB3.size
  have hgM3 : 0 < w3.heap.size := Nat.lt_of_lt_of_le hgM hbw3.size
  have HM3 : Hid (w3.cell? ⟨0, 0, none⟩ = some (.int .i64 m)) := (hbw3.cell (p := ⟨0, 0, none⟩) hgM).trans HM.out
  obtain ⟨d0, d1⟩ := two HA3.out
  have ht4 := to_routes es bs ea ba ec bc w3 z1 z2 HE3.out HB3.out
  clear hsp hrow3 hb1 hb2 hb3 hB2 hB3 HSE HSB HA HM
  go_wp2_with (go_at_call 6; fail)
  refine ht4.mono ?_
  rintro e w4 ⟨g4, h4, rfl, hg4, hh4, hgh4, fe4, fb4, hb4⟩
  have hal4 : Below w4.heap.size w4 (w4.alloc (.cells #[.slice (some ⟨g4, 0, none⟩) es.length es.length, .slice (some ⟨h4, 0, none⟩) bs.length bs.length] 33)) := (Below.refl _ _).alloc (Nat.le_refl _) _
  have hx7 := bnew w4 #[.slice (some ⟨g4, 0, none⟩) es.length es.length, .slice (some ⟨h4, 0, none⟩) bs.length bs.length] 33
  have fe4' := fe4.below hal4 fe4.lt
  have fb4' := fb4.below hal4 fb4.lt
  have hg4l := fe4.lt
  have hh4l := fb4.lt
  obtain ⟨W4, hW4⟩ : ∃ W4, w4.alloc (.cells #[.slice (some ⟨g4, 0, none⟩) es.length es.length, .slice (some ⟨h4, 0, none⟩) bs.length bs.length] 33) = W4 := ⟨_, rfl⟩
  have hW4s : w4.heap.size < W4.heap.size := by rw [← hW4]; simp
  rw [hW4] at hal4 hx7 fe4' fb4'
  have hB4 : Below w3.heap.size w3 W4 := hb4.trans (hal4.mono hb4.size)
  have hi4 := HIM.out g4 h4 W4 fe4'.all fb4'.all ((hB4.cell (p := ⟨0, 0, none⟩) hgM3).trans HM3.out)
  obtain ⟨x0, x1⟩ := two hx7
  have HX7 : Hid (W4.heap[w4.heap.size]? = some (.cells #[.slice (some ⟨g4, 0, none⟩) es.length es.length, .slice (some ⟨h4, 0, none⟩) bs.length bs.length] 33 (0, 0))) := hx7
  have HFE4 : Hid (FE W4 g4 es es.length) := fe4'
  have HFB4 : Hid (FB W4 h4 bs bs.length) := fb4'
  clear ht4 d0 d1 fe4 fb4 fe4' fb4' hx7 hal4
  go_wp2_with (go_at_call 7; fail)
  clear hW4
  refine hi4.mono ?_
  rintro e w5 ⟨va, vc, rfl, hrt5, hown5, hb5⟩
  have hB5 : Below w3.heap.size w3 w5 := hB4.trans (hb5.mono hB4.size)
  have HRT5 : Hid (RowT w5 (.slice va L.length vc) L) := hrt5
  have heq5 := eq_strs L va (some ⟨gs, 0, none⟩) vc cs w5 hL2 hrt5.sl (sl_in HSP.out hB5)
  have HOW : Hid (∀ g, (Value.slice va L.length vc).ownBlock = some g → W4.heap.size ≤ g) := hown5
  clear hi4 x0 x1 hrt5 hown5
  go_wp2_with (go_at_call 8; fail)
  refine heq5.mono ?_
  rintro e w6 ⟨rfl, hb6⟩
  have hs6 := hb6.size
  have hs5 := hb5.size
  have hB46 : Below W4.heap.size W4 w6 := hb5.trans (hb6.mono hs5)
  have hB6 : Below w3.heap.size w3 w6 := hB4.trans (hB46.mono hB4.size)
  obtain ⟨d0, d1⟩ := two (bstay HA3.out hB6 hlt3)
  have x7 := bstay HX7.out hB46 hW4s
  obtain ⟨y0, y1⟩ := two x7
  have HY6 : Hid (w6.heap[w4.heap.size]? = some (.cells #[.slice (some ⟨g4, 0, none⟩) es.length es.length, .slice (some ⟨h4, 0, none⟩) bs.length bs.length] 33 (0, 0))) := x7
  have fe46 := HFE4.out.below hB46 HFE4.out.lt
  have fb46 := HFB4.out.below hB46 HFB4.out.lt
  have HFE46 : Hid (FE w6 g4 es es.length) := fe46
  have HFB46 : Hid (FB w6 h4 bs bs.length) := fb46
  have hn7 : w4.heap.size < w6.heap.size := by have := hB46.size; omega
  have ht7 := to_routes es bs ea ba ec bc w6.drew z1 z2 (rl.SE.inn HE3.out hB6.drew) (rl.SB.inn HB3.out hB6.drew)
  have HRT6 : Hid (RowT w6 (.slice va L.length vc) L) := HRT5.out.below hb6
  clear heq5 x7 fe46 fb46 HRT5
  go_wp2
  go_region_with (first | (go_at_call 6; refine ht7.mono ?_; rintro e w7 ⟨g7, h7, rfl, _, _, _, fe7, fb7, hb7⟩; obtain ⟨hb7', e7, f7, q70, q71⟩ := step7 hb7 hn7 HY6.out HFE46.out HFB46.out; have heq := re.eq_routes es bs (some ⟨g4, 0, none⟩) (some ⟨g7, 0, none⟩) (some ⟨h4, 0, none⟩) (some ⟨h7, 0, none⟩) es.length es.length bs.length bs.length w7 z1 z2 (re.RE.s e7) (re.RE.s fe7.all) (re.RB.s f7) (re.RB.s fb7.all); clear e7 f7 fe7 fb7) | (go_at_call 9; refine heq.mono ?_; rintro e w8 ⟨rfl, hb8⟩))
  all_goals
    have hb68 : Below w6.heap.size w6 w8 := hb7'.trans (hb8.mono hb7'.size)
    have hB8 : Below w3.heap.size w3 w8 := hB6.trans (hb68.mono hB6.size)
    have hB48 : Below W4.heap.size W4 w8 := hB46.trans (hb68.mono hB46.size)
    have hs8 := hB48.size
    obtain ⟨y0, y1⟩ := two (bstay HY6.out hb68 hn7)
    have hmk := mark_routes es bs g4 h4 es.length bs.length w8 z1 z2 hgh4 (HFE46.out.below hb68 HFE46.out.lt) (HFB46.out.below hb68 HFB46.out.lt)
    have HRT8 : Hid (RowT w8 (.slice va L.length vc) L) := HRT6.out.below hb68
    clear hb7' hb7 hb8 ht7 heq q70 q71 d0 d1 hb68 hb6 HY6 HFE46 HFB46 hB46 HRT6
    go_wp2_with (go_at_call 10; fail)
    refine hmk.mono ?_
    rintro e w9 ⟨rfl, _, _, htn⟩
    have hs9 := htn.size
    obtain ⟨kk, hkk⟩ : ∃ kk : Nat, 1 + 2 * es.length + bs.length * 3 = kk := ⟨_, rfl⟩
    rw [hkk]
    have hk0 : decide ((kk : Int) < 0) = false := by simp
    have hB9 : Below w3.heap.size w3 w9 := hB8.trans (htn.below hB8.size hg4 hh4)
    have hrt9 : RowT w9 (.slice va L.length vc) L := HRT8.out.kept fun g hg hgl => by
      have := HOW.out g hg
      exact htn.block g hgl (by omega) (by omega)
    have HRT9 : Hid (RowT w9 (.slice va L.length vc) L) := hrt9
    have heq9 := eq_strs L va (some ⟨gs, 0, none⟩) vc cs w9 hL2 hrt9.sl (sl_in HSP.out hB9)
    clear hkk hmk y0 y1 htn hrt9 HRT8
    go_wp2_with (go_at_call 8; fail)
    refine heq9.mono ?_
    rintro e w10 ⟨rfl, hb10⟩
    have hB10 : Below w3.heap.size w3 w10 := hB9.trans (hb10.mono hB9.size)
    have hs10 := hb10.size
    have hmk := row_markT L (.slice va L.length vc) 1 w10 hL2 (by omega) (HRT9.out.below hb10)
    clear heq9 HRT9
    go_wp2_with (go_at_call 11; fail)
    refine hmk.mono ?_
    rintro e w11 ⟨rfl, hg11, hrt11⟩
    have hs11 := hg11.size
    have hB11 : Below w3.heap.size w3 w11 := by
      refine hB10.trans ⟨hg11.os, hg11.tape, hg11.output, hg11.size, fun k hk => hg11.block k (by have := hB10.size; omega) (fun e => ?_)⟩
      have := HOW.out k e.symm
      have := hB4.size
      omega
    have HRT11 : Hid (RowT w11 (.slice va L.length vc) (marksT 1 L.length)) := hrt11
    have hhd := row_heldT L.length (.slice va L.length vc) 1 w11 hL2 (by omega) hrt11
    obtain ⟨mm, hmm⟩ : ∃ mm : Nat, 1 + L.length = mm := ⟨_, rfl⟩
    rw [hmm] at hhd ⊢
    have HMM : Hid (1 + L.length = mm) := hmm
    have hm0 : decide ((mm : Int) < 0) = false := by simp
    clear hmk hrt11 hg11 hmm hB10
    go_wp2_with (go_at_call 12; fail)
    refine hhd.mono ?_
    rintro e w12 ⟨rfl, hb12⟩
    have hs12 := hb12.size
    have hB12 : Below w3.heap.size w3 w12 := hB11.trans (hb12.mono hB11.size)
    obtain ⟨d0, d1⟩ := two (bstay HA3.out hB12 hlt3)
    have ht13 := to_routes es bs ea ba ec bc w12 z1 z2 (rl.SE.inn HE3.out hB12) (rl.SB.inn HB3.out hB12)
    clear hhd
    go_wp2_with (go_at_call 6; fail)
    refine ht13.mono ?_
    rintro e w13 ⟨g13, h13, rfl, _, _, _, fe13, fb13, hb13⟩
    have hB13 : Below w11.heap.size w11 w13 := hb12.trans (hb13.mono hs12)
    have hB313 : Below w3.heap.size w3 w13 := hB11.trans (hB13.mono hB11.size)
    have hi13 := HIM.out g13 h13 w13 fe13.all fb13.all ((hB313.cell (p := ⟨0, 0, none⟩) hgM3).trans HM3.out)
    clear ht13 d0 d1 fe13 fb13 hb13 hb12 hB12
    go_wp2_with (go_at_call 7; fail)
    refine hi13.mono ?_
    rintro e w14 ⟨vb, vd, rfl, hrt14, _, hb14⟩
    have hB14 : Below w11.heap.size w11 w14 := hB13.trans (hb14.mono hB13.size)
    have hB314 : Below w3.heap.size w3 w14 := hB11.trans (hB14.mono hB11.size)
    have heq14 := eq_strs L vb (some ⟨gs, 0, none⟩) vd cs w14 hL2 hrt14.sl (sl_in HSP.out hB314)
    clear hi13 hrt14 hb14 hB13
    go_wp2_with (go_at_call 8; fail)
    refine heq14.mono ?_
    rintro e w15 ⟨rfl, hb15⟩
    have hB15 : Below w11.heap.size w11 w15 := hB14.trans (hb15.mono hB14.size)
    have hhd := row_heldT L.length (.slice va L.length vc) 1 w15 hL2 (by omega) (HRT11.out.below hB15)
    rw [HMM.out] at hhd
    clear heq14
    go_wp2_with (go_at_call 12; fail)
    refine hhd.mono ?_
    rintro e w16 ⟨rfl, hb16⟩
    have hB16 : Below w11.heap.size w11 w16 := hB15.trans (hb16.mono hB15.size)
    have hfin : Below w.heap.size w w16 := hbw3.trans ((hB11.trans (hB16.mono hB11.size)).mono hbw3.size)
    clear hhd
    go_wp2
    go_ret
    exact ⟨rfl, hfin⟩
end Go.Proofs.YtfhhcbjieekfdaaDoor.rtl
