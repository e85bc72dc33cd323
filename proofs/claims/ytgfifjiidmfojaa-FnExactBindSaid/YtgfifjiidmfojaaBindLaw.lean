/- The law of Bind, walked: at every routes and other arguments the program answers as the specification, writes into nothing of them, and its answer owns its memory. -/
import Derived.Test.YtgfifjiidmfojaaRouteOwn
import Derived.Test.YtgfifjiidmfojaaRouteEq
import Derived.Test.YtgfifjiidmfojaaBindSpec
import Derived.Test.YtgfifjiidmfojaaBindImpl
import Derived.Test.YtgfifjiidmfojaaRouteSmall
namespace Go.Proofs.Ytgfifjiidmfojaa.blw
open Go.ChangeShapes Go.WideShapes Go.ChangeAt Go.RowKit Go.Proofs.Ytgfifjiidmfojaa.rr Go.Proofs.Ytgfifjiidmfojaa.ra Go.Proofs.Ytgfifjiidmfojaa.rt Go.Proofs.Ytgfifjiidmfojaa.fl Go.Proofs.Ytgfifjiidmfojaa.rm Go.Proofs.Ytgfifjiidmfojaa.ro2
set_option linter.unusedVariables false

theorem SE.carry {w w' : World} {B : Nat} {a : Option Addr} {l : List Ex} (h : SE w B a l) (hb : Below B w w') (hs : B ≤ w'.heap.size) : SE w' w'.heap.size a l := by
  rcases h with h | ⟨b, off, ha, hlt, hc⟩
  · exact .inl h
  · refine .inr ⟨b, off, ha, by omega, fun i e he => ?_⟩
    obtain ⟨h1, h2⟩ := hc i e he
    exact ⟨(hb.cell (p := ⟨b, _, none⟩) hlt).trans h1, (hb.cell (p := ⟨b, _, none⟩) hlt).trans h2⟩
theorem SB.carry {w w' : World} {B : Nat} {a : Option Addr} {l : List Bi} (h : SB w B a l) (hb : Below B w w') (hs : B ≤ w'.heap.size) : SB w' w'.heap.size a l := by
  rcases h with h | ⟨b, off, ha, hlt, hc⟩
  · exact .inl h
  · refine .inr ⟨b, off, ha, by omega, fun i e he => ?_⟩
    obtain ⟨h1, h2, h3⟩ := hc i e he
    exact ⟨(hb.cell (p := ⟨b, _, none⟩) hlt).trans h1, (hb.cell (p := ⟨b, _, none⟩) hlt).trans h2, (hb.cell (p := ⟨b, _, none⟩) hlt).trans h3⟩
theorem two {w : World} {b : Nat} {x y : Value} {T : TypeId} (h : w.heap[b]? = some (.cells #[x, y] T (0, 0))) : w.cell? ⟨b, 0, none⟩ = some x ∧ w.cell? ⟨b, 1, none⟩ = some y := ⟨bcell h rfl, bcell h rfl⟩
/-- what stands when the specification has answered: the argument, and the answer with its lists -/
structure Base (W : World) (n0 n6 : Nat) (es xs : List Ex) (bs fs : List Bi) (ea ba sa sb : Option Addr) (ec bc ce cb : Nat) : Prop where
  box : W.heap[n0]? = some (.cells #[.slice ea es.length ec, .slice ba bs.length bc] 25 (0, 0))
  out : W.heap[n6]? = some (.cells #[.slice sa xs.length ce, .slice sb fs.length cb] 30 (0, 0))
  ae : SE W W.heap.size ea es
  ab : SB W W.heap.size ba bs
  se : SE W W.heap.size sa xs
  sb : SB W W.heap.size sb fs
section
variable {W X : World} {n0 n6 : Nat} {es xs : List Ex} {bs fs : List Bi} {ea ba sa sb : Option Addr} {ec bc ce cb : Nat}
theorem Base.at (h : Base W n0 n6 es xs bs fs ea ba sa sb ec bc ce cb) (hb : Below W.heap.size W X) : (X.cell? ⟨n0, 0, none⟩ = some (.slice ea es.length ec) ∧ X.cell? ⟨n0, 1, none⟩ = some (.slice ba bs.length bc)) ∧ (X.cell? ⟨n6, 0, none⟩ = some (.slice sa xs.length ce) ∧ X.cell? ⟨n6, 1, none⟩ = some (.slice sb fs.length cb)) :=
  ⟨two (bstay h.box hb (Array.getElem?_eq_some_iff.1 h.box).1), two (bstay h.out hb (Array.getElem?_eq_some_iff.1 h.out).1)⟩
end
theorem step7 {w6 w7 : World} {n g h n1 n2 c1 c2 : Nat} {es : List Ex} {bs : List Bi} (hb : Below w6.drew.heap.size w6.drew w7) (hn : n < w6.heap.size) (hY : w6.heap[n]? = some (.cells #[.slice (some ⟨g, 0, none⟩) n1 c1, .slice (some ⟨h, 0, none⟩) n2 c2] 30 (0, 0))) (hE : FE w6 g es es.length) (hB : FB w6 h bs bs.length) :
    Below w6.heap.size w6 w7 ∧ RE w7 g es ∧ RB w7 h bs ∧ w7.cell? ⟨n, 0, none⟩ = some (.slice (some ⟨g, 0, none⟩) n1 c1) ∧ w7.cell? ⟨n, 1, none⟩ = some (.slice (some ⟨h, 0, none⟩) n2 c2) := by
  have hb' : Below w6.heap.size w6 w7 := (Below.drew (Below.refl _ w6)).trans hb
  obtain ⟨c0, c1⟩ := two (bstay hY hb' hn)
  exact ⟨hb', (hE.below hb' hE.lt).all, (hB.below hb' hB.lt).all, c0, c1⟩

set_option maxRecDepth 100000 in
set_option maxHeartbeats 8000000 in
theorem walk (bx bk bq : ByteArray) (es : List Ex) (bs : List Bi) (ea ba : Option Addr) (ec bc : Nat) (w : World) (hbx : bx.size ≤ maxLen) (hbk : bk.size ≤ maxLen) (hbq : bq.size ≤ maxLen) (hel : es.length ≤ maxLen) (hbl : bs.length ≤ maxLen) (hes : ∀ e ∈ es, e.n.size ≤ maxLen) (hbs : ∀ e ∈ bs, e.x.size ≤ maxLen ∧ e.k.size ≤ maxLen ∧ e.q.size ≤ maxLen) (hE : SE w w.heap.size ea es) (hB : SB w w.heap.size ba bs) :
    Calls Try.prog 4 #[.agg #[.slice ea es.length ec, .slice ba bs.length bc], .string bx, .string bk, .string bq] w fun e w' => e = .returned (.bool true) ∧ Below w.heap.size w w' := by
  by_cases hbigbx : (1048576 : Int) < bx.size
  · go_enter Try.func4, Try.ntmps4
    go_wp2
    go_ret
    exact ⟨rfl, (Below.refl _ _).alloc (Nat.le_refl _) _⟩
  by_cases hbigbk : (1048576 : Int) < bk.size
  · go_enter Try.func4, Try.ntmps4
    go_wp2
    go_ret
    exact ⟨rfl, (Below.refl _ _).alloc (Nat.le_refl _) _⟩
  by_cases hbigbq : (1048576 : Int) < bq.size
  · go_enter Try.func4, Try.ntmps4
    go_wp2
    go_ret
    exact ⟨rfl, (Below.refl _ _).alloc (Nat.le_refl _) _⟩
  have hb : Below w.heap.size w (w.alloc (.cells #[.slice ea es.length ec, .slice ba bs.length bc] 25)) := (Below.refl _ _).alloc (Nat.le_refl _) _
  have hA := bnew w #[.slice ea es.length ec, .slice ba bs.length bc] 25
  obtain ⟨W, hW⟩ : ∃ W, w.alloc (.cells #[.slice ea es.length ec, .slice ba bs.length bc] 25) = W := ⟨_, rfl⟩
  rw [hW] at hb hA
  have HSE : Hid (SE W W.heap.size ea es) := rl.SE.inn hE hb
  have HSB : Hid (SB W W.heap.size ba bs) := rl.SB.inn hB hb
  have hsz := rl.sz_routes es bs ea ba ec bc W hel hbl hes hbs HSE.out HSB.out
  have HA : Hid (W.heap[w.heap.size]? = some (.cells #[.slice ea es.length ec, .slice ba bs.length bc] 25 (0, 0))) := hA
  have hlt := (Array.getElem?_eq_some_iff.1 hA).1
  obtain ⟨c0, c1⟩ := two hA
  clear hE hB hA hes hbs
  go_enter Try.func4, Try.ntmps4
  go_wp2_with (go_at_call 6; fail)
  clear hW
  refine hsz.mono ?_
  rintro e w1 ⟨r, rfl, hr, hb1⟩
  by_cases hneg : r < 0
  · go_wp2
    go_ret
    exact ⟨rfl, hb.trans (hb1.mono hb.size)⟩
  obtain ⟨z1, z2, z3, z4⟩ := rw0.small (hr (by omega))
  have HZ3 : Hid (∀ e ∈ es, e.n.size ≤ 1048576) := z3
  have HZ4 : Hid (∀ b ∈ bs, b.x.size ≤ 1048576 ∧ b.k.size ≤ 1048576 ∧ b.q.size ≤ 1048576) := z4
  obtain ⟨d0, d1⟩ := two (bstay HA.out hb1 hlt)
  have ht2 := to_routes es bs ea ba ec bc w1 z1 z2 (rl.SE.inn HSE.out hb1) (rl.SB.inn HSB.out hb1)
  have hr0 : (0 : Int) ≤ r := by omega
  clear hsz hr c0 c1 z3 z4
  go_wp2_with (go_at_call 8; fail)
  refine ht2.mono ?_
  rintro e w2 ⟨g2, h2, rfl, _, _, _, fe2, fb2, hb2⟩
  have hsp := bsp.spec_bind es bs g2 h2 bx bk bq w2 z1 z2 HZ3.out HZ4.out (by omega) (by omega) (by omega) fe2.all fb2.all
  have hfl : (bp.ansB es bs ⟨bx, bk, bq⟩).length ≤ 1048576 := bp.ansB_small z2
  obtain ⟨fs, hfs⟩ : ∃ fs, bp.ansB es bs ⟨bx, bk, bq⟩ = fs := ⟨_, rfl⟩
  obtain ⟨ok, hok⟩ : ∃ ok, bp.retB es bs ⟨bx, bk, bq⟩ = ok := ⟨_, rfl⟩
  have HFS : Hid (bp.ansB es bs ⟨bx, bk, bq⟩ = fs) := hfs
  have HOK : Hid (bp.retB es bs ⟨bx, bk, bq⟩ = ok) := hok
  rw [hfs] at hfl
  simp only [hfs, hok] at hsp
  have hB2 : Below W.heap.size W w2 := hb1.trans (hb2.mono hb1.size)
  clear ht2 d0 d1 hfs hok fe2 fb2
  go_wp2_with (go_at_call 13; fail)
  refine hsp.mono ?_
  rintro e w3 ⟨sa, sb, ce, cb, rfl, hse, hsb, hb3⟩
  have hB3 : Below W.heap.size W w3 := hB2.trans (hb3.mono hB2.size)
  have hal3 : Below w3.heap.size w3 (w3.alloc (.cells #[.slice sa es.length ce, .slice sb fs.length cb] 30)) := (Below.refl _ _).alloc (Nat.le_refl _) _
  have hBW : Below W.heap.size W (w3.alloc (.cells #[.slice sa es.length ce, .slice sb fs.length cb] 30)) := hB3.trans (hal3.mono hB3.size)
  have hBase : Base (w3.alloc (.cells #[.slice sa es.length ce, .slice sb fs.length cb] 30)) w.heap.size w3.heap.size es es bs fs ea ba sa sb ec bc ce cb :=
    ⟨bstay HA.out hBW hlt, bnew w3 _ _, rl.SE.inn HSE.out hBW, rl.SB.inn HSB.out hBW, rl.SE.inn hse hal3, rl.SB.inn hsb hal3⟩
  obtain ⟨W3, hW3⟩ : ∃ W3, w3.alloc (.cells #[.slice sa es.length ce, .slice sb fs.length cb] 30) = W3 := ⟨_, rfl⟩
  rw [hW3] at hBW hBase
  have HBS : Hid (Base W3 w.heap.size w3.heap.size es es bs fs ea ba sa sb ec bc ce cb) := hBase
  have hbw3 : Below w.heap.size w W3 := hb.trans (hBW.mono hb.size)
  obtain ⟨⟨d0, d1⟩, _⟩ := HBS.out.at (Below.refl _ _)
  have ht4 := to_routes es bs ea ba ec bc W3 z1 z2 HBS.out.ae HBS.out.ab
  clear hsp hse hsb hBase hb1 hb2 hb3 hB2 hB3 hal3 HSE HSB HA
  go_wp2_with (go_at_call 8; fail)
  clear hW3
  refine ht4.mono ?_
  rintro e w4 ⟨g4, h4, rfl, hg4, hh4, hgh4, fe4, fb4, hb4⟩
  have hal4 : Below w4.heap.size w4 (w4.alloc (.cells #[.slice (some ⟨g4, 0, none⟩) es.length es.length, .slice (some ⟨h4, 0, none⟩) bs.length bs.length] 30)) := (Below.refl _ _).alloc (Nat.le_refl _) _
  have hx7 := bnew w4 #[.slice (some ⟨g4, 0, none⟩) es.length es.length, .slice (some ⟨h4, 0, none⟩) bs.length bs.length] 30
  have fe4' := fe4.below hal4 fe4.lt
  have fb4' := fb4.below hal4 fb4.lt
  have hg4l := fe4.lt
  have hh4l := fb4.lt
  obtain ⟨W4, hW4⟩ : ∃ W4, w4.alloc (.cells #[.slice (some ⟨g4, 0, none⟩) es.length es.length, .slice (some ⟨h4, 0, none⟩) bs.length bs.length] 30) = W4 := ⟨_, rfl⟩
  have hW4s : w4.heap.size < W4.heap.size := by rw [← hW4]; simp
  rw [hW4] at hal4 hx7 fe4' fb4'
  have hB4 : Below W3.heap.size W3 W4 := hb4.trans (hal4.mono hb4.size)
  have him := bim.impl_bind es bs g4 h4 bx bk bq W4 z1 z2 HZ3.out HZ4.out (by omega) (by omega) (by omega) fe4'.all fb4'.all
  simp only [HFS.out, HOK.out] at him
  obtain ⟨x0, x1⟩ := two hx7
  have HX7 : Hid (W4.heap[w4.heap.size]? = some (.cells #[.slice (some ⟨g4, 0, none⟩) es.length es.length, .slice (some ⟨h4, 0, none⟩) bs.length bs.length] 30 (0, 0))) := hx7
  have HFE4 : Hid (FE W4 g4 es es.length) := fe4'
  have HFB4 : Hid (FB W4 h4 bs bs.length) := fb4'
  clear ht4 d0 d1 fe4 fb4 fe4' fb4' hx7 hal4
  go_wp2_with (go_at_call 14; fail)
  clear hW4
  refine him.mono ?_
  rintro e w5 ⟨g5, c5, h5, d5, rfl, hg5, hh5, hgh5, fe5, fb5, hb5⟩
  have hal5 : Below w5.heap.size w5 (w5.alloc (.cells #[.slice (some ⟨g5, 0, none⟩) es.length c5, .slice (some ⟨h5, 0, none⟩) fs.length d5] 30)) := (Below.refl _ _).alloc (Nat.le_refl _) _
  have hx8 := bnew w5 #[.slice (some ⟨g5, 0, none⟩) es.length c5, .slice (some ⟨h5, 0, none⟩) fs.length d5] 30
  have fe5' := fe5.below hal5 fe5.lt
  have fb5' := fb5.below hal5 fb5.lt
  have hg5l := fe5.lt
  have hh5l := fb5.lt
  obtain ⟨W5, hW5⟩ : ∃ W5, w5.alloc (.cells #[.slice (some ⟨g5, 0, none⟩) es.length c5, .slice (some ⟨h5, 0, none⟩) fs.length d5] 30) = W5 := ⟨_, rfl⟩
  have hW5s : w5.heap.size < W5.heap.size := by rw [← hW5]; simp
  rw [hW5] at hal5 hx8 fe5' fb5'
  have hB45 : Below W4.heap.size W4 W5 := hb5.trans (hal5.mono hb5.size)
  have hs45 := hB45.size
  have hs34 := hB4.size
  have hB5 : Below W3.heap.size W3 W5 := hB4.trans (hB45.mono hs34)
  have heq5 := re.eq_routes es fs (some ⟨g5, 0, none⟩) sa (some ⟨h5, 0, none⟩) sb c5 ce d5 cb W5 z1 hfl (re.RE.s fe5'.all) (rl.SE.inn HBS.out.se hB5) (re.RB.s fb5'.all) (rl.SB.inn HBS.out.sb hB5)
  obtain ⟨x0, x1⟩ := two hx8
  obtain ⟨_, ⟨o0, o1⟩⟩ := HBS.out.at hB5
  have HX8 : Hid (W5.heap[w5.heap.size]? = some (.cells #[.slice (some ⟨g5, 0, none⟩) es.length c5, .slice (some ⟨h5, 0, none⟩) fs.length d5] 30 (0, 0))) := hx8
  have HFE5 : Hid (FE W5 g5 es es.length) := fe5'
  have HFB5 : Hid (FB W5 h5 fs fs.length) := fb5'
  clear him fe5 fb5 fe5' fb5' hx8 hal5
  go_wp2_with (go_at_call 10; fail)
  clear hW5
  refine heq5.mono ?_
  rintro e w6 ⟨rfl, hb6⟩
  have hs6 := hb6.size
  have hB6 : Below W3.heap.size W3 w6 := hB5.trans (hb6.mono hB5.size)
  have hB46 : Below W4.heap.size W4 w6 := hB45.trans (hb6.mono hs45)
  obtain ⟨⟨d0, d1⟩, _⟩ := HBS.out.at hB6
  have x7 := bstay HX7.out hB46 hW4s
  obtain ⟨y0, y1⟩ := two x7
  have HY6 : Hid (w6.heap[w4.heap.size]? = some (.cells #[.slice (some ⟨g4, 0, none⟩) es.length es.length, .slice (some ⟨h4, 0, none⟩) bs.length bs.length] 30 (0, 0))) := x7
  have fe46 := HFE4.out.below hB46 HFE4.out.lt
  have fb46 := HFB4.out.below hB46 HFB4.out.lt
  have HFE46 : Hid (FE w6 g4 es es.length) := fe46
  have HFB46 : Hid (FB w6 h4 bs bs.length) := fb46
  have hn7 : w4.heap.size < w6.heap.size := by omega
  have ht7 := to_routes es bs ea ba ec bc w6.drew z1 z2 (rl.SE.inn HBS.out.ae hB6.drew) (rl.SB.inn HBS.out.ab hB6.drew)
  clear heq5 x0 x1 o0 o1 x7 fe46 fb46
  go_wp2
  go_region_with (first | (go_at_call 8; refine ht7.mono ?_; rintro e w7 ⟨g7, h7, rfl, _, _, _, fe7, fb7, hb7⟩; obtain ⟨hb7', e7, f7, q70, q71⟩ := step7 hb7 hn7 HY6.out HFE46.out HFB46.out; have heq := re.eq_routes es bs (some ⟨g4, 0, none⟩) (some ⟨g7, 0, none⟩) (some ⟨h4, 0, none⟩) (some ⟨h7, 0, none⟩) es.length es.length bs.length bs.length w7 z1 z2 (re.RE.s e7) (re.RE.s fe7.all) (re.RB.s f7) (re.RB.s fb7.all); clear e7 f7 fe7 fb7) | (go_at_call 10; refine heq.mono ?_; rintro e w8 ⟨rfl, hb8⟩))
  all_goals
    have hb68 : Below w6.heap.size w6 w8 := hb7'.trans (hb8.mono hb7'.size)
    have hB8 : Below W3.heap.size W3 w8 := hB6.trans (hb68.mono hB6.size)
    have hB58 : Below W5.heap.size W5 w8 := hb6.trans (hb68.mono hs6)
    have hs8 := hB58.size
    obtain ⟨y0, y1⟩ := two (bstay HY6.out hb68 hn7)
    have hmk := mark_routes es bs g4 h4 es.length bs.length w8 z1 z2 hgh4 (HFE46.out.below hb68 HFE46.out.lt) (HFB46.out.below hb68 HFB46.out.lt)
    have HX88 : Hid (w8.heap[w5.heap.size]? = some (.cells #[.slice (some ⟨g5, 0, none⟩) es.length c5, .slice (some ⟨h5, 0, none⟩) fs.length d5] 30 (0, 0))) := bstay HX8.out hB58 hW5s
    have HFE58 : Hid (FE w8 g5 es es.length) := HFE5.out.below hB58 HFE5.out.lt
    have HFB58 : Hid (FB w8 h5 fs fs.length) := HFB5.out.below hB58 HFB5.out.lt
    have hgE : W3.heap.size ≤ g4 ∧ W3.heap.size ≤ h4 ∧ W3.heap.size ≤ g5 ∧ W3.heap.size ≤ h5 := ⟨by omega, by omega, by omega, by omega⟩
    clear hb7' hb7 hb8 ht7 heq q70 q71 d0 d1 hb68 hb6 HY6 HFE46 HFB46 hB6 hB46 hB5 hB45 hb5 hb4 hB4
    go_wp2_with (go_at_call 11; fail)
    refine hmk.mono ?_
    rintro e w9 ⟨rfl, _, _, htn⟩
    have hs9 := htn.size
    obtain ⟨kk, hkk⟩ : ∃ kk : Nat, 1 + 2 * es.length + bs.length * 3 = kk := ⟨_, rfl⟩
    rw [hkk]
    have hk0 : decide ((kk : Int) < 0) = false := by simp
    have hB9 : Below W3.heap.size W3 w9 := hB8.trans (htn.below hB8.size hgE.1 hgE.2.1)
    have b9 : w9.heap[w5.heap.size]? = some (.cells #[.slice (some ⟨g5, 0, none⟩) es.length c5, .slice (some ⟨h5, 0, none⟩) fs.length d5] 30 (0, 0)) := (htn.block _ (by omega) (by omega) (by omega)).trans HX88.out
    have fe9 : FE w9 g5 es es.length := cr.FE.keptE HFE58.out (htn.block g5 HFE58.out.lt (by omega) (by omega))
    have fb9 : FB w9 h5 fs fs.length := cr.FB.keptB HFB58.out (htn.block h5 HFB58.out.lt (by omega) (by omega))
    have heq9 := re.eq_routes es fs (some ⟨g5, 0, none⟩) sa (some ⟨h5, 0, none⟩) sb c5 ce d5 cb w9 z1 hfl (re.RE.s fe9.all) (rl.SE.inn HBS.out.se hB9) (re.RB.s fb9.all) (rl.SB.inn HBS.out.sb hB9)
    obtain ⟨x0, x1⟩ := two b9
    obtain ⟨_, ⟨o0, o1⟩⟩ := HBS.out.at hB9
    have HX9 : Hid (w9.heap[w5.heap.size]? = some (.cells #[.slice (some ⟨g5, 0, none⟩) es.length c5, .slice (some ⟨h5, 0, none⟩) fs.length d5] 30 (0, 0))) := b9
    have HFE9 : Hid (FE w9 g5 es es.length) := fe9
    have HFB9 : Hid (FB w9 h5 fs fs.length) := fb9
    have hlt9 : w5.heap.size < w9.heap.size := by omega
    clear hkk hmk y0 y1 b9 fe9 fb9 htn HX88 HFE58 HFB58 hB8 hB58
    go_wp2_with (go_at_call 10; fail)
    refine heq9.mono ?_
    rintro e w10 ⟨rfl, hb10⟩
    have hB10 : Below W3.heap.size W3 w10 := hB9.trans (hb10.mono hB9.size)
    have hs10 := hb10.size
    have b10 := bstay HX9.out hb10 hlt9
    obtain ⟨p0, p1⟩ := two b10
    have HX10 : Hid (w10.heap[w5.heap.size]? = some (.cells #[.slice (some ⟨g5, 0, none⟩) es.length c5, .slice (some ⟨h5, 0, none⟩) fs.length d5] 30 (0, 0))) := b10
    have hmk := mark_routes es fs g5 h5 c5 d5 w10 z1 hfl hgh5 (HFE9.out.below hb10 HFE9.out.lt) (HFB9.out.below hb10 HFB9.out.lt)
    clear heq9 x0 x1 o0 o1 b10 hb10 HX9 HFE9 HFB9 hB9
    go_wp2_with (go_at_call 11; fail)
    refine hmk.mono ?_
    rintro e w11 ⟨rfl, fe11, fb11, htn⟩
    have hs11 := htn.size
    have hB11 : Below W3.heap.size W3 w11 := hB10.trans (htn.below hB10.size hgE.2.2.1 hgE.2.2.2)
    have b11 : w11.heap[w5.heap.size]? = some (.cells #[.slice (some ⟨g5, 0, none⟩) es.length c5, .slice (some ⟨h5, 0, none⟩) fs.length d5] 30 (0, 0)) := (htn.block _ (by omega) (by omega) (by omega)).trans HX10.out
    have hhd := held_routes es.length fs.length g5 h5 c5 d5 w11 z1 hfl fe11 fb11
    have HFE11 : Hid (FE w11 g5 (mksE 1 es.length) es.length) := fe11
    have HFB11 : Hid (FB w11 h5 (mksB (1 + 2 * es.length) fs.length) fs.length) := fb11
    obtain ⟨mm, hmm⟩ : ∃ mm : Nat, 1 + 2 * es.length + fs.length * 3 = mm := ⟨_, rfl⟩
    rw [hmm] at hhd ⊢
    have HMM : Hid (1 + 2 * es.length + fs.length * 3 = mm) := hmm
    have hm0 : decide ((mm : Int) < 0) = false := by simp
    obtain ⟨x0, x1⟩ := two b11
    have HX11 : Hid (w11.heap[w5.heap.size]? = some (.cells #[.slice (some ⟨g5, 0, none⟩) es.length c5, .slice (some ⟨h5, 0, none⟩) fs.length d5] 30 (0, 0))) := b11
    have hlt11 : w5.heap.size < w11.heap.size := by omega
    clear hmk p0 p1 b11 fe11 fb11 htn hmm HX10 hB10
    go_wp2_with (go_at_call 12; fail)
    refine hhd.mono ?_
    rintro e w12 ⟨rfl, hb12⟩
    have hs12 := hb12.size
    have hB12 : Below W3.heap.size W3 w12 := hB11.trans (hb12.mono hB11.size)
    obtain ⟨⟨d0, d1⟩, _⟩ := HBS.out.at hB12
    have ht13 := to_routes es bs ea ba ec bc w12 z1 z2 (rl.SE.inn HBS.out.ae hB12) (rl.SB.inn HBS.out.ab hB12)
    clear hhd x0 x1
    go_wp2_with (go_at_call 8; fail)
    refine ht13.mono ?_
    rintro e w13 ⟨g13, h13, rfl, _, _, _, fe13, fb13, hb13⟩
    have him := bim.impl_bind es bs g13 h13 bx bk bq w13 z1 z2 HZ3.out HZ4.out (by omega) (by omega) (by omega) fe13.all fb13.all
    simp only [HFS.out, HOK.out] at him
    have hB13 : Below w11.heap.size w11 w13 := hb12.trans (hb13.mono hs12)
    clear ht13 d0 d1 fe13 fb13 hb13 hb12 hB12
    go_wp2_with (go_at_call 14; fail)
    refine him.mono ?_
    rintro e w14 ⟨gx, cx, hx, dx, rfl, _, _, _, fe14, fb14, hb14⟩
    have hal14 : Below w14.heap.size w14 (w14.alloc (.cells #[.slice (some ⟨gx, 0, none⟩) es.length cx, .slice (some ⟨hx, 0, none⟩) fs.length dx] 30)) := (Below.refl _ _).alloc (Nat.le_refl _) _
    have hx12 := bnew w14 #[.slice (some ⟨gx, 0, none⟩) es.length cx, .slice (some ⟨hx, 0, none⟩) fs.length dx] 30
    have fe14' := fe14.below hal14 fe14.lt
    have fb14' := fb14.below hal14 fb14.lt
    obtain ⟨W14, hW14⟩ : ∃ W14, w14.alloc (.cells #[.slice (some ⟨gx, 0, none⟩) es.length cx, .slice (some ⟨hx, 0, none⟩) fs.length dx] 30) = W14 := ⟨_, rfl⟩
    rw [hW14] at hal14 hx12 fe14' fb14'
    have hB14 : Below w11.heap.size w11 W14 := (hB13.trans (hb14.mono hB13.size)).trans (hal14.mono (by have := hb14.size; have := hB13.size; omega))
    have hB314 : Below W3.heap.size W3 W14 := hB11.trans (hB14.mono hB11.size)
    have heq14 := re.eq_routes es fs (some ⟨gx, 0, none⟩) sa (some ⟨hx, 0, none⟩) sb cx ce dx cb W14 z1 hfl (re.RE.s fe14'.all) (rl.SE.inn HBS.out.se hB314) (re.RB.s fb14'.all) (rl.SB.inn HBS.out.sb hB314)
    obtain ⟨x0, x1⟩ := two hx12
    obtain ⟨_, ⟨o0, o1⟩⟩ := HBS.out.at hB314
    clear him fe14 fb14 fe14' fb14' hx12 hal14 hb14 hB13
    go_wp2_with (go_at_call 10; fail)
    clear hW14
    refine heq14.mono ?_
    rintro e w15 ⟨rfl, hb15⟩
    have hB15 : Below w11.heap.size w11 w15 := hB14.trans (hb15.mono hB14.size)
    obtain ⟨p0, p1⟩ := two (bstay HX11.out hB15 hlt11)
    have hhd := held_routes es.length fs.length g5 h5 c5 d5 w15 z1 hfl (HFE11.out.below hB15 HFE11.out.lt) (HFB11.out.below hB15 HFB11.out.lt)
    rw [HMM.out] at hhd
    clear heq14 x0 x1 o0 o1
    go_wp2_with (go_at_call 12; fail)
    refine hhd.mono ?_
    rintro e w16 ⟨rfl, hb16⟩
    have hB16 : Below w11.heap.size w11 w16 := hB15.trans (hb16.mono hB15.size)
    have hfin : Below w.heap.size w w16 := hbw3.trans ((hB11.trans (hB16.mono hB11.size)).mono hbw3.size)
    clear hhd p0 p1
    go_wp2
    go_ret
    exact ⟨rfl, hfin⟩
end Go.Proofs.Ytgfifjiidmfojaa.blw
