/- The program's StreamTrim: the stream without its oldest entries, in rows of its own; new memory alone. -/
import Derived.Test.YtlfhfcgcfggjcaaStreamTrimSpec
import Derived.Test.YtlfhfcgcfggjcaaStreamPutImpl
namespace Go.Proofs.Ytlfhfcgcfggjcaa.itrm
open Go.ChangeShapes Go.WideShapes Go.ChangeAt Go.RowKit Go.Proofs.Ytlfhfcgcfggjcaa.fl Go.Proofs.Ytlfhfcgcfggjcaa.fo Go.Proofs.Ytlfhfcgcfggjcaa.rr Go.Proofs.Ytlfhfcgcfggjcaa.st Go.Proofs.Ytlfhfcgcfggjcaa.spw Go.Proofs.Ytlfhfcgcfggjcaa.strm Go.Proofs.Ytlfhfcgcfggjcaa.iput
set_option linter.unusedVariables false

/-- what stands: the box, the answer's place, the new stream and its rows -/
structure IT (w : World) (sn : ByteArray) (lo nx : Int) (es : List flY.En) (ms : List Ex) (g h : Option Addr) (cg ch : Nat) (n7 ge gm : Nat) (X : World) : Prop where
  bel : Below w.heap.size w X
  box : X.heap[w.heap.size]? = some (.cells #[.string sn, .int .i64 lo, .int .i64 nx, .slice g es.length cg, .slice h ms.length ch] 27 (0, 0))
  res : X.heap[w.heap.size + 1]? = some (.cells #[.string ⟨#[]⟩, .int .i64 0, .int .i64 0, .slice none 0 0, .slice none 0 0] 27 (0, 0))
  out : X.heap[n7]? = some (.cells #[.string sn, .int .i64 lo, .int .i64 nx, .slice (some ⟨ge, 0, none⟩) es.length es.length, .slice (some ⟨gm, 0, none⟩) ms.length ms.length] 27 (0, 0))
  oe : Own flY.c 3 42 X ge es es.length
  om : Own flK.c 2 56 X gm ms ms.length
  h7 : w.heap.size + 2 ≤ n7
  hge : w.heap.size + 2 ≤ ge
  hgm : w.heap.size + 2 ≤ gm
  hem : ge ≠ gm
  he7 : ge ≠ n7
  hm7 : gm ≠ n7
theorem IT.on {w : World} {sn : ByteArray} {lo nx : Int} {es : List flY.En} {ms : List Ex} {g h : Option Addr} {cg ch : Nat} {n7 ge gm : Nat} {X X' : World} (hs : IT w sn lo nx es ms g h cg ch n7 ge gm X) (hb : Below X.heap.size X X') : IT w sn lo nx es ms g h cg ch n7 ge gm X' :=
  ⟨hs.bel.trans (hb.mono hs.bel.size), bstay hs.box hb (Array.getElem?_eq_some_iff.1 hs.box).1, bstay hs.res hb (Array.getElem?_eq_some_iff.1 hs.res).1, bstay hs.out hb (Array.getElem?_eq_some_iff.1 hs.out).1, hs.oe.below hb hs.oe.lt, hs.om.below hb hs.om.lt, hs.h7, hs.hge, hs.hgm, hs.hem, hs.he7, hs.hm7⟩
def ws (n7 ge n : Nat) (count oldest : Int) (f d : Nat) : List (Nat × Value) := [(19, .pointer (some ⟨n7, 3, none⟩)), (20, .slice (some ⟨ge, 0, none⟩) n n), (21, .int .i64 n), (22, .int .i64 count), (23, .int .i64 ((n : Int) - count)), (24, .pointer (some ⟨n7, 3, none⟩)), (25, .slice (some ⟨ge, 0, none⟩) n n), (26, .int .i64 oldest), (27, .int .i64 f), (28, .int .i64 d), (8, .int .i64 d)]
theorem put_own {α : Type} {c : α → List Value} {n g k n7 off B : Nat} {U : TypeId} {l : List α} {w : World} {u v x0 x1 x2 x3 x4 : Value} (h : OwnO c n U w g off l k) (h7 : g ≠ n7) (hg : g ≠ B + 1) : OwnO c n U (res5 ((w.setCell ⟨n7, 3, none⟩ u).setCell ⟨n7, 1, none⟩ v) (B + 1) x0 x1 x2 x3 x4) g off l k :=
  res_own ((h.kept (Below.heap_setCell _ _ _ _ h7)).kept (Below.heap_setCell _ _ _ _ h7)) hg

set_option maxRecDepth 100000 in
set_option maxHeartbeats 4000000 in
theorem impl_trim (sn : ByteArray) (lo nx : Int) (es : List flY.En) (ms : List Ex) (g h cg ch : Nat) (count oldest : Int) (w : World) (F : Fit sn es ms) (hcb : count ≤ 9223372036854775807) (hY : RY w g es) (hE : RE w h ms) (ga ha : Option Addr) (hga : Hid (0 < es.length → ga = some ⟨g, 0, none⟩)) (hha : Hid (0 < ms.length → ha = some ⟨h, 0, none⟩)) :
    Calls Try.prog 6 #[.agg #[.string sn, .int .i64 lo, .int .i64 nx, .slice ga es.length cg, .slice ha ms.length ch], .int .i64 count, .int .i64 oldest] w fun e w' => ∃ ga oa ca gb cb, e = .returned (.agg #[.string sn, .int .i64 (strm.ansL sn lo nx es ms count oldest), .int .i64 nx, .slice (some ⟨ga, oa, none⟩) (strm.ansE sn lo nx es ms count oldest).length ca, .slice (some ⟨gb, 0, none⟩) ms.length cb]) ∧ w.heap.size ≤ ga ∧ w.heap.size ≤ gb ∧ ga ≠ gb ∧ (strm.ansE sn lo nx es ms count oldest).length ≤ ca ∧ OwnO flY.c 3 42 w' ga oa (strm.ansE sn lo nx es ms count oldest) (strm.ansE sn lo nx es ms count oldest).length ∧ OwnO flK.c 2 56 w' gb 0 ms ms.length ∧ Below w.heap.size w w' := by
  have hWb : Below w.heap.size w ((w.alloc (.cells #[.string sn, .int .i64 lo, .int .i64 nx, .slice ga es.length cg, .slice ha ms.length ch] 27)).alloc (.cells #[.string ⟨#[]⟩, .int .i64 0, .int .i64 0, .slice none 0 0, .slice none 0 0] 27)) := ((Below.refl _ _).alloc (Nat.le_refl _) _).alloc (by simp) _
  have hA0 := bold (bnew w #[.string sn, .int .i64 lo, .int .i64 nx, .slice ga es.length cg, .slice ha ms.length ch] 27) (.cells #[.string ⟨#[]⟩, .int .i64 0, .int .i64 0, .slice none 0 0, .slice none 0 0] 27)
  have hR0 := bnew (w.alloc (.cells #[.string sn, .int .i64 lo, .int .i64 nx, .slice ga es.length cg, .slice ha ms.length ch] 27)) #[.string ⟨#[]⟩, .int .i64 0, .int .i64 0, .slice none 0 0, .slice none 0 0] 27
  rw [World.size_alloc] at hR0
  have hS0 : ((w.alloc (.cells #[.string sn, .int .i64 lo, .int .i64 nx, .slice ga es.length cg, .slice ha ms.length ch] 27)).alloc (.cells #[.string ⟨#[]⟩, .int .i64 0, .int .i64 0, .slice none 0 0, .slice none 0 0] 27)).heap.size = w.heap.size + 2 := by simp
  have hc := cst.copy_stream sn lo nx es ms g h cg ch ((w.alloc (.cells #[.string sn, .int .i64 lo, .int .i64 nx, .slice ga es.length cg, .slice ha ms.length ch] 27)).alloc (.cells #[.string ⟨#[]⟩, .int .i64 0, .int .i64 0, .slice none 0 0, .slice none 0 0] 27)) F (hY.below hWb) (hE.below hWb) ga ha hga hha
  have HF : Hid (Fit sn es ms) := F
  have HY : Hid (RY w g es) := hY
  have HE : Hid (RE w h ms) := hE
  have HGO : Hid (goes sn lo nx es ms count oldest = if okB sn lo nx es ms = true ∧ 0 ≤ count then gone es count oldest else 0) := rfl
  unfold strm.ansE strm.ansL
  obtain ⟨d, hd⟩ : ∃ d, goes sn lo nx es ms count oldest = d := ⟨_, rfl⟩
  rw [hd] at HGO
  simp only [hd]
  have hel := F.el
  obtain ⟨W, hW⟩ : ∃ W, (w.alloc (.cells #[.string sn, .int .i64 lo, .int .i64 nx, .slice ga es.length cg, .slice ha ms.length ch] 27)).alloc (.cells #[.string ⟨#[]⟩, .int .i64 0, .int .i64 0, .slice none 0 0, .slice none 0 0] 27) = W := ⟨_, rfl⟩
  rw [hW] at hWb hA0 hR0 hS0 hc
  have HA0 : Hid (W.heap[w.heap.size]? = some (.cells #[.string sn, .int .i64 lo, .int .i64 nx, .slice ga es.length cg, .slice ha ms.length ch] 27 (0, 0))) := hA0
  have HR0 : Hid (W.heap[w.heap.size + 1]? = some (.cells #[.string ⟨#[]⟩, .int .i64 0, .int .i64 0, .slice none 0 0, .slice none 0 0] 27 (0, 0))) := hR0
  have x0 : W.cell? ⟨w.heap.size, 0, none⟩ = some (.string sn) := bcell hA0 rfl
  have x1 : W.cell? ⟨w.heap.size, 1, none⟩ = some (.int .i64 lo) := bcell hA0 rfl
  have x2 : W.cell? ⟨w.heap.size, 2, none⟩ = some (.int .i64 nx) := bcell hA0 rfl
  have x3 : W.cell? ⟨w.heap.size, 3, none⟩ = some (.slice ga es.length cg) := bcell hA0 rfl
  have x4 : W.cell? ⟨w.heap.size, 4, none⟩ = some (.slice ha ms.length ch) := bcell hA0 rfl
  clear hY hE F hd hA0 hR0
  go_enter Try.func6, Try.ntmps6
  go_wp2_with (go_at_call 21; fail)
  clear hW
  refine hc.mono ?_
  rintro e w1 ⟨ge, gm, rfl, hge, hgm, hne, oe1, om1, hb1⟩
  have hs1 := hb1.size
  have hit : IT w sn lo nx es ms ga ha cg ch w1.heap.size ge gm (w1.alloc (.cells #[.string sn, .int .i64 lo, .int .i64 nx, .slice (some ⟨ge, 0, none⟩) es.length es.length, .slice (some ⟨gm, 0, none⟩) ms.length ms.length] 27)) :=
    ⟨(hWb.trans (hb1.mono hWb.size)).alloc (by omega) _, bold (bstay HA0.out hb1 (by omega)) _, bold (bstay HR0.out hb1 (by omega)) _, bnew w1 _ _, oe1.kept (Below.heap_alloc w1 _ _ oe1.lt), om1.kept (Below.heap_alloc w1 _ _ om1.lt), by omega, by omega, by omega, hne, by have := oe1.lt; omega, by have := om1.lt; omega⟩
  obtain ⟨X, hX⟩ : ∃ X, w1.alloc (.cells #[.string sn, .int .i64 lo, .int .i64 nx, .slice (some ⟨ge, 0, none⟩) es.length es.length, .slice (some ⟨gm, 0, none⟩) ms.length ms.length] 27) = X := ⟨_, rfl⟩
  rw [hX] at hit
  have HIT : Hid (IT w sn lo nx es ms ga ha cg ch w1.heap.size ge gm X) := hit
  have y0 : X.cell? ⟨w.heap.size, 0, none⟩ = some (.string sn) := bcell hit.box rfl
  have y1 : X.cell? ⟨w.heap.size, 1, none⟩ = some (.int .i64 lo) := bcell hit.box rfl
  have y2 : X.cell? ⟨w.heap.size, 2, none⟩ = some (.int .i64 nx) := bcell hit.box rfl
  have y3 : X.cell? ⟨w.heap.size, 3, none⟩ = some (.slice ga es.length cg) := bcell hit.box rfl
  have y4 : X.cell? ⟨w.heap.size, 4, none⟩ = some (.slice ha ms.length ch) := bcell hit.box rfl
  have hok := sti.impl_ok sn lo nx es ms g h cg ch X HF.out (HY.out.below hit.bel) (HE.out.below hit.bel) ga ha hga hha
  clear hc oe1 om1 hb1 hWb hit x0 x1 x2 x3 x4
  by_cases hgo : okB sn lo nx es ms = true ∧ 0 ≤ count
  · obtain ⟨hob, hcn⟩ := hgo
    rw [hob] at hok
    have hd : d = gone es count oldest := by rw [HGO.out, if_pos ⟨hob, hcn⟩]
    have HOK : Hid (OkT sn lo nx es ms) := okB_true.1 hob
    have hnx := HOK.out.nx0
    have hlo := HOK.out.lo0
    have hel4 := HOK.out.el
    have hlen := HOK.out.len
    have hdl : d ≤ es.length := hd ▸ gone_le es count oldest
    have hmax : max ((es.length : Int) - count) ((ssk.first es oldest : Nat) : Int) = (d : Int) := by
      rw [hd]
      unfold gone
      have := ssk.first_le es oldest
      rcases Int.le_total ((es.length : Int) - count) ((ssk.first es oldest : Nat) : Int) with hh | hh
      · rw [Int.max_eq_right hh, Nat.max_eq_right (by omega)]
      · rw [Int.max_eq_left hh, Nat.max_eq_left (by omega)]; omega
    have f0 : decide (count < 0) = false := by simp; omega
    obtain ⟨f, hf⟩ : ∃ f, ssk.first es oldest = f := ⟨_, rfl⟩
    rw [hf] at hmax
    have HFF : Hid (ssk.first es oldest = f) := hf
    have i1 : IntKind.i64.wrap ((es.length : Int) - count) = (es.length : Int) - count := by rw [IntKind.wrap_i64]; omega
    have i2 : IntKind.i64.wrap (lo + (d : Int)) = lo + (d : Int) := by rw [IntKind.wrap_i64]; omega
    clear hd HGO hf hlen hlo hnx
    go_wp2_with (go_at_call 15; fail)
    clear hX y0 y1 y2 y3 y4
    refine hok.mono ?_
    rintro e w2 ⟨rfl, hb2⟩
    have HI2 : Hid (IT w sn lo nx es ms ga ha cg ch w1.heap.size ge gm w2) := HIT.out.on hb2
    have hff := fun (W : World) (hb : Below w2.heap.size w2 W) => ssk.first_from es ge es.length oldest W hel4 HOK.out.eu (ry_own (HI2.out.on hb).oe) _ (fun _ => rfl)
    rw [HFF.out] at hff
    have hd0 : (fun (_ : Bool) (W : World) => Below w2.heap.size w2 W) false w2.drew := (Below.refl _ _).drew
    have hel5 : es.length ≤ 9223372036854775807 := by omega
    clear hok HIT
    go_wp2
    refine dk.region_sets (ws w1.heap.size ge es.length count oldest f d) [19, 20, 21, 22, 23, 24, 25, 26, 27, 28, 8] (dk.Cl (fun (_ : Bool) (W : World) => Below w2.heap.size w2 W) 50) (by kernel_rfl) (by kernel_rfl) rfl (by kernel_rfl) hd0 ?each ?fin
    case each =>
      refine ⟨dk.q (by decide) (.pointer (some ⟨w1.heap.size, 3, none⟩)) (by rintro _ ⟨⟩; exact dk.sets_on _ (by simp) _ rfl) (fun b W h => by simp [execOp, go_sem, Act.eval, dk.sets_get, ws, List.lookup]), ?_⟩
      refine ⟨dk.q (by decide) (.slice (some ⟨ge, 0, none⟩) es.length es.length) (by rintro _ ⟨⟩; exact dk.sets_on _ (by simp) _ rfl) (fun b W h => by have c : W.cell? ⟨w1.heap.size, 3, none⟩ = some (.slice (some ⟨ge, 0, none⟩) es.length es.length) := bcell (HI2.out.on h).out rfl; simp [execOp, go_sem, Act.eval, dk.sets_get, ws, List.lookup, c]), ?_⟩
      refine ⟨dk.q (by decide) (.int .i64 es.length) (by rintro _ ⟨⟩; exact dk.sets_on _ (by simp) _ rfl) (fun b W h => by simp [go_sem, Act.eval, dk.sets_get, ws, List.lookup]), ?_⟩
      refine ⟨dk.q (by decide) (.int .i64 count) (by rintro _ ⟨⟩; exact dk.sets_on _ (by simp) _ rfl) (fun b W h => by simp [execOp, go_sem, Act.eval, dk.sets_get, ws, List.lookup]), ?_⟩
      refine ⟨dk.q (by decide) (.int .i64 ((es.length : Int) - count)) (by rintro _ ⟨⟩; exact dk.sets_on _ (by simp) _ rfl) (fun b W h => by simp [execOp, go_sem, Act.eval, dk.sets_get, ws, List.lookup, i1]), ?_⟩
      refine ⟨dk.q (by decide) (.pointer (some ⟨w1.heap.size, 3, none⟩)) (by rintro _ ⟨⟩; exact dk.sets_on _ (by simp) _ rfl) (fun b W h => by simp [execOp, go_sem, Act.eval, dk.sets_get, ws, List.lookup]), ?_⟩
      refine ⟨dk.q (by decide) (.slice (some ⟨ge, 0, none⟩) es.length es.length) (by rintro _ ⟨⟩; exact dk.sets_on _ (by simp) _ rfl) (fun b W h => by have c : W.cell? ⟨w1.heap.size, 3, none⟩ = some (.slice (some ⟨ge, 0, none⟩) es.length es.length) := bcell (HI2.out.on h).out rfl; simp [execOp, go_sem, Act.eval, dk.sets_get, ws, List.lookup, c]), ?_⟩
      refine ⟨dk.q (by decide) (.int .i64 oldest) (by rintro _ ⟨⟩; exact dk.sets_on _ (by simp) _ rfl) (fun b W h => by simp [execOp, go_sem, Act.eval, dk.sets_get, ws, List.lookup]), ?_⟩
      refine ⟨dk.call (by decide) 22 #[.slice (some ⟨ge, 0, none⟩) es.length es.length, .int .i64 oldest] (.int .i64 f) (by rintro _ ⟨⟩; exact dk.sets_on _ (by simp) _ rfl) (fun b W h => by simp [go_sem, Act.eval, dk.sets_get, ws, List.lookup]) (fun b W h => (hff W h).mono fun e w' ⟨h1, h2⟩ => ⟨h1, h2 ▸ h⟩), ?_⟩
      refine ⟨dk.q (by decide) (.int .i64 d) (by rintro _ ⟨⟩; exact dk.sets_on _ (by simp) _ rfl) (fun b W h => by simp [go_sem, Act.eval, dk.sets_get, ws, List.lookup, hmax]), ?_⟩
      exact ⟨dk.q (by decide) (.int .i64 d) (by rintro _ ⟨⟩; exact dk.sets_on _ (by simp) _ rfl) (fun b W h => by simp [execOp, go_sem, Act.eval, dk.sets_get, ws, List.lookup]), trivial⟩
    case fin =>
      intro L W3 hL hC
      have hb3 : Below w2.heap.size w2 W3 := hC
      have hi3 := HI2.out.on hb3
      have HI3 : Hid (IT w sn lo nx es ms ga ha cg ch w1.heap.size ge gm W3) := hi3
      have n0 : W3.cell? ⟨w1.heap.size, 0, none⟩ = some (.string sn) := bcell hi3.out rfl
      have n1 : W3.cell? ⟨w1.heap.size, 1, none⟩ = some (.int .i64 lo) := bcell hi3.out rfl
      have n2 : W3.cell? ⟨w1.heap.size, 2, none⟩ = some (.int .i64 nx) := bcell hi3.out rfl
      have n3 : W3.cell? ⟨w1.heap.size, 3, none⟩ = some (.slice (some ⟨ge, 0, none⟩) es.length es.length) := bcell hi3.out rfl
      have n4 : W3.cell? ⟨w1.heap.size, 4, none⟩ = some (.slice (some ⟨gm, 0, none⟩) ms.length ms.length) := bcell hi3.out rfl
      have n1f := bfree hi3.out 1
      have n3f := bfree hi3.out 3
      have z0 : W3.cell? ⟨w.heap.size + 1, 0, none⟩ = some (.string ⟨#[]⟩) := bcell hi3.res rfl
      have z1 : W3.cell? ⟨w.heap.size + 1, 1, none⟩ = some (.int .i64 0) := bcell hi3.res rfl
      have z2 : W3.cell? ⟨w.heap.size + 1, 2, none⟩ = some (.int .i64 0) := bcell hi3.res rfl
      have z3 : W3.cell? ⟨w.heap.size + 1, 3, none⟩ = some (.slice none 0 0) := bcell hi3.res rfl
      have z4 : W3.cell? ⟨w.heap.size + 1, 4, none⟩ = some (.slice none 0 0) := bcell hi3.res rfl
      have z0f := bfree hi3.res 0
      have z1f := bfree hi3.res 1
      have z2f := bfree hi3.res 2
      have z3f := bfree hi3.res 3
      have z4f := bfree hi3.res 4
      have h7 := hi3.h7
      have hge2 := hi3.hge
      have hgm2 := hi3.hgm
      have hne7 : w.heap.size + 1 ≠ w1.heap.size := by omega
      have hne7' : w1.heap.size ≠ w.heap.size + 1 := by omega
      simp only [dk.sets, ws]
      clear hC hL hd0 hff hi3 hb3
      by_cases hz : d = es.length
      · have hdr : es.drop d = [] := List.drop_eq_nil_of_le (by omega)
        have HOE : Hid (OwnO flY.c 3 42 W3 ge 0 (es.drop d) (es.drop d).length) := by
          obtain ⟨cur, k1, k2, _⟩ := HI3.out.oe
          unfold Hid
          rw [hdr]
          exact ⟨cur, k1, by simp, fun i e hi => by simp at hi⟩
        have HDR : Hid ((es.drop d).length = 0) := by unfold Hid; rw [hdr]; rfl
        clear hdr
        subst hz
        go_wp2
        refine bodyPost_ret (v := .agg #[.string sn, .int .i64 (lo + (es.length : Int)), .int .i64 nx, .slice (some ⟨ge, 0, none⟩) 0 0, .slice (some ⟨gm, 0, none⟩) ms.length ms.length]) (by simp [results, Try.results6, go_sem, z0, z1, z2, z3, z4]) rfl ⟨ge, 0, 0, gm, ms.length, by rw [HDR.out], by omega, by omega, HI3.out.hem, by rw [HDR.out]; exact Nat.le_refl _, ?_, ?_, ?_⟩
        · exact put_own HOE.out HI3.out.he7 (by omega)
        · exact put_own (of_own HI3.out.om) HI3.out.hm7 (by omega)
        · exact fin_below ((HI3.out.bel.setCell (by show w.heap.size ≤ w1.heap.size; omega) _).setCell (by show w.heap.size ≤ w1.heap.size; omega) _) (Nat.le_succ _)
      · have hdlt : d < es.length := by omega
        have hdrl : (es.drop d).length = es.length - d := List.length_drop
        have HDRL : Hid ((es.drop d).length = es.length - d) := hdrl
        have HOE : Hid (OwnO flY.c 3 42 W3 ge (d * 3) (es.drop d) (es.drop d).length) := (of_own HI3.out.oe).drop d (by omega)
        have i5 : (d : Int) ≤ (es.length : Int) := by omega
        clear hdrl
        go_wp2
        refine bodyPost_ret (v := .agg #[.string sn, .int .i64 (lo + (d : Int)), .int .i64 nx, .slice (some ⟨ge, d * 3, none⟩) (es.length - d) (es.length - d), .slice (some ⟨gm, 0, none⟩) ms.length ms.length]) (by simp [results, Try.results6, go_sem, z0, z1, z2, z3, z4]) rfl ⟨ge, d * 3, es.length - d, gm, ms.length, by rw [HDRL.out], by omega, by omega, HI3.out.hem, by rw [HDRL.out]; exact Nat.le_refl _, ?_, ?_, ?_⟩
        · exact put_own HOE.out HI3.out.he7 (by omega)
        · exact put_own (of_own HI3.out.om) HI3.out.hm7 (by omega)
        · exact fin_below ((HI3.out.bel.setCell (by show w.heap.size ≤ w1.heap.size; omega) _).setCell (by show w.heap.size ≤ w1.heap.size; omega) _) (Nat.le_succ _)
  · obtain rfl : d = 0 := by rw [HGO.out, if_neg hgo]
    cases hob : okB sn lo nx es ms with
    | false =>
      rw [hob] at hok
      go_wp2_with (go_at_call 15; fail)
      clear hX y0 y1 y2 y3 y4
      refine hok.mono ?_
      rintro e w2 ⟨rfl, hb2⟩
      have hi2 := HIT.out.on hb2
      have HI2 : Hid (IT w sn lo nx es ms ga ha cg ch w1.heap.size ge gm w2) := hi2
      have n0 : w2.cell? ⟨w1.heap.size, 0, none⟩ = some (.string sn) := bcell hi2.out rfl
      have n1 : w2.cell? ⟨w1.heap.size, 1, none⟩ = some (.int .i64 lo) := bcell hi2.out rfl
      have n2 : w2.cell? ⟨w1.heap.size, 2, none⟩ = some (.int .i64 nx) := bcell hi2.out rfl
      have n3 : w2.cell? ⟨w1.heap.size, 3, none⟩ = some (.slice (some ⟨ge, 0, none⟩) es.length es.length) := bcell hi2.out rfl
      have n4 : w2.cell? ⟨w1.heap.size, 4, none⟩ = some (.slice (some ⟨gm, 0, none⟩) ms.length ms.length) := bcell hi2.out rfl
      have z0 : w2.cell? ⟨w.heap.size + 1, 0, none⟩ = some (.string ⟨#[]⟩) := bcell hi2.res rfl
      have z1 : w2.cell? ⟨w.heap.size + 1, 1, none⟩ = some (.int .i64 0) := bcell hi2.res rfl
      have z2 : w2.cell? ⟨w.heap.size + 1, 2, none⟩ = some (.int .i64 0) := bcell hi2.res rfl
      have z3 : w2.cell? ⟨w.heap.size + 1, 3, none⟩ = some (.slice none 0 0) := bcell hi2.res rfl
      have z4 : w2.cell? ⟨w.heap.size + 1, 4, none⟩ = some (.slice none 0 0) := bcell hi2.res rfl
      have z0f := bfree hi2.res 0
      have z1f := bfree hi2.res 1
      have z2f := bfree hi2.res 2
      have z3f := bfree hi2.res 3
      have z4f := bfree hi2.res 4
      have hge2 := hi2.hge
      have hgm2 := hi2.hgm
      clear hok hi2 HIT
      go_wp2
      refine bodyPost_ret (v := .agg #[.string sn, .int .i64 lo, .int .i64 nx, .slice (some ⟨ge, 0, none⟩) es.length es.length, .slice (some ⟨gm, 0, none⟩) ms.length ms.length]) (by simp [results, Try.results6, go_sem, z0, z1, z2, z3, z4]) rfl ⟨ge, 0, es.length, gm, ms.length, by simp, by omega, by omega, HI2.out.hem, by simp, ?_, ?_, ?_⟩
      · rw [List.drop_zero]; exact res_own (of_own HI2.out.oe) (by omega)
      · exact res_own (of_own HI2.out.om) (by omega)
      · exact fin_below HI2.out.bel (Nat.le_succ _)
    | true =>
      rw [hob] at hok
      have f0 : decide (count < 0) = true := by simp; exact Int.not_le.1 (fun hh => hgo ⟨hob, hh⟩)
      go_wp2_with (go_at_call 15; fail)
      clear hX y0 y1 y2 y3 y4
      refine hok.mono ?_
      rintro e w2 ⟨rfl, hb2⟩
      have hi2 := HIT.out.on hb2
      have HI2 : Hid (IT w sn lo nx es ms ga ha cg ch w1.heap.size ge gm w2) := hi2
      have n0 : w2.cell? ⟨w1.heap.size, 0, none⟩ = some (.string sn) := bcell hi2.out rfl
      have n1 : w2.cell? ⟨w1.heap.size, 1, none⟩ = some (.int .i64 lo) := bcell hi2.out rfl
      have n2 : w2.cell? ⟨w1.heap.size, 2, none⟩ = some (.int .i64 nx) := bcell hi2.out rfl
      have n3 : w2.cell? ⟨w1.heap.size, 3, none⟩ = some (.slice (some ⟨ge, 0, none⟩) es.length es.length) := bcell hi2.out rfl
      have n4 : w2.cell? ⟨w1.heap.size, 4, none⟩ = some (.slice (some ⟨gm, 0, none⟩) ms.length ms.length) := bcell hi2.out rfl
      have z0 : w2.cell? ⟨w.heap.size + 1, 0, none⟩ = some (.string ⟨#[]⟩) := bcell hi2.res rfl
      have z1 : w2.cell? ⟨w.heap.size + 1, 1, none⟩ = some (.int .i64 0) := bcell hi2.res rfl
      have z2 : w2.cell? ⟨w.heap.size + 1, 2, none⟩ = some (.int .i64 0) := bcell hi2.res rfl
      have z3 : w2.cell? ⟨w.heap.size + 1, 3, none⟩ = some (.slice none 0 0) := bcell hi2.res rfl
      have z4 : w2.cell? ⟨w.heap.size + 1, 4, none⟩ = some (.slice none 0 0) := bcell hi2.res rfl
      have z0f := bfree hi2.res 0
      have z1f := bfree hi2.res 1
      have z2f := bfree hi2.res 2
      have z3f := bfree hi2.res 3
      have z4f := bfree hi2.res 4
      have hge2 := hi2.hge
      have hgm2 := hi2.hgm
      clear hok hi2 HIT
      go_wp2
      refine bodyPost_ret (v := .agg #[.string sn, .int .i64 lo, .int .i64 nx, .slice (some ⟨ge, 0, none⟩) es.length es.length, .slice (some ⟨gm, 0, none⟩) ms.length ms.length]) (by simp [results, Try.results6, go_sem, z0, z1, z2, z3, z4]) rfl ⟨ge, 0, es.length, gm, ms.length, by simp, by omega, by omega, HI2.out.hem, by simp, ?_, ?_, ?_⟩
      · rw [List.drop_zero]; exact res_own (of_own HI2.out.oe) (by omega)
      · exact res_own (of_own HI2.out.om) (by omega)
      · exact fin_below HI2.out.bel (Nat.le_succ _)
end Go.Proofs.Ytlfhfcgcfggjcaa.itrm
