/- FnStream, walked: what comes on the way is as it is told, at every code. -/
import Derived.Test.YtlfhfcgcfggjcaaStreamTop
import Derived.Test.YtlfhfcgcfggjcaaDrawStreams
import Derived.Test.YtlfhfcgcfggjcaaQuietIn
import Derived.Test.YtlfhfcgcfggjcaaChainDraw
namespace Go.Proofs.Ytlfhfcgcfggjcaa.swk
open Go.ChangeShapes Go.WideShapes Go.ChangeAt Go.RowKit Go.Proofs.Ytlfhfcgcfggjcaa.fl Go.Proofs.Ytlfhfcgcfggjcaa.fo Go.Proofs.Ytlfhfcgcfggjcaa.dw Go.Proofs.Ytlfhfcgcfggjcaa.rr Go.Proofs.Ytlfhfcgcfggjcaa.st Go.Proofs.Ytlfhfcgcfggjcaa.scp Go.Proofs.Ytlfhfcgcfggjcaa.spw Go.Proofs.Ytlfhfcgcfggjcaa.dsl Go.Proofs.Ytlfhfcgcfggjcaa.stt
set_option linter.unusedVariables false

theorem put_fit {lo nx t : Int} {es : List flY.En} {ms : List Ex} {b : ByteArray} (h : Sm 500 nx es ms) (hb : b.size ≤ 4000) : Fit ⟨#[115]⟩ (sput.ansE ⟨#[115]⟩ lo nx es ms t b) ms := by
  have F := h.fit (by omega) sS_small
  unfold sput.ansE
  split
  · refine ⟨F.ns, by have := h.el; simp; omega, F.ml, fun e he => ?_, F.mb⟩
    rcases List.mem_append.1 he with he | he
    · exact F.eb e he
    · rw [List.mem_singleton.1 he]; show b.size ≤ _; omega
  · exact F
structure G2 where
  a : Option Addr
  ca : Nat
  b : Option Addr
  cb : Nat
theorem one_row {W : World} {B : Nat} {a : Option Addr} {e : flY.En} (h : Row flY.c 3 W B a [e]) : ∃ b off, a = some ⟨b, off, none⟩ ∧ W.cell? ⟨b, off, none⟩ = some (.int .i64 e.o) ∧ W.cell? ⟨b, off + 1, none⟩ = some (.int .i64 e.t) ∧ W.cell? ⟨b, off + 2, none⟩ = some (.string e.b) := by
  rcases h with h | ⟨b, off, ha, _, hc⟩
  · cases h
  · exact ⟨b, off, ha, by simpa using hc 0 e rfl 0 _ rfl, by simpa using hc 0 e rfl 1 _ rfl, by simpa using hc 0 e rfl 2 _ rfl⟩
set_option maxRecDepth 100000 in
set_option maxHeartbeats 8000000 in
theorem walk (a0 : Option Addr) (len0 cap0 : Nat) (w : World) (hcode : dw.Code w w.heap.size a0 len0) :
    Calls Try.prog 3 #[.slice a0 len0 cap0] w fun e w' => e = .returned (.bool true) ∧ Below w.heap.size w w' := by
  by_cases hbig : (1048576 : Int) < len0
  · clear hcode
    go_enter Try.func3, Try.ntmps3
    go_wp2
    go_ret
    exact ⟨rfl, Below.refl _ _⟩
  have hlen : len0 ≤ 1048576 := by omega
  have h1 := dss.draw_Trim a0 len0 cap0 w hlen hcode
  have HC : Hid (dw.Code w w.heap.size a0 len0) := hcode
  clear hcode
  go_enter Try.func3, Try.ntmps3
  go_wp2_with (first | (go_at_call 4; go_in) | (go_at_call 5; fail))
  refine h1.mono ?_
  rintro e w1 ⟨⟨lo, nx, es, ms, ga, cg, ha, ch, c, o, rfl, hsm, hdr, hc0, hc1, ho⟩, hb1, hz1⟩
  have HSM : Hid (Sm 500 nx es ms) := hsm
  have HC_ : Hid (dw.Code w1 w1.heap.size a0 len0) := (HC.out.below hb1 (Nat.le_refl _)).mono (Below.size hb1)
  clear HC
  have HC := HC_
  clear HC_
  have HB : Hid (Below w.heap.size w w1) := hb1
  have HZ : Hid (0 < w1.heap.size) := Nat.lt_of_le_of_lt (Nat.zero_le _) hz1
  have HS : Hid (Dr 0 w1 es ms ga cg ha ch) := hdr.low (Nat.zero_le _)
  clear h1 hsm hdr hb1 hz1
  have hal : Below w1.heap.size w1 (w1.alloc (.cells #[.string ⟨#[115]⟩, .int .i64 lo, .int .i64 nx, .slice ga es.length cg, .slice ha ms.length ch] 27)) := (Below.refl _ _).alloc (Nat.le_refl _) _
  have HC_ : Hid (dw.Code (w1.alloc (.cells #[.string ⟨#[115]⟩, .int .i64 lo, .int .i64 nx, .slice ga es.length cg, .slice ha ms.length ch] 27)) (w1.alloc (.cells #[.string ⟨#[115]⟩, .int .i64 lo, .int .i64 nx, .slice ga es.length cg, .slice ha ms.length ch] 27)).heap.size a0 len0) := (HC.out.below hal (Nat.le_refl _)).mono (Below.size hal)
  have HB_ : Hid (Below w.heap.size w (w1.alloc (.cells #[.string ⟨#[115]⟩, .int .i64 lo, .int .i64 nx, .slice ga es.length cg, .slice ha ms.length ch] 27))) := HB.out.trans (Below.mono hal (Below.size HB.out))
  have HZ_ : Hid (0 < (w1.alloc (.cells #[.string ⟨#[115]⟩, .int .i64 lo, .int .i64 nx, .slice ga es.length cg, .slice ha ms.length ch] 27)).heap.size) := Nat.lt_of_lt_of_le HZ.out (Below.size hal)
  have HS_ : Hid (Dr 0 (w1.alloc (.cells #[.string ⟨#[115]⟩, .int .i64 lo, .int .i64 nx, .slice ga es.length cg, .slice ha ms.length ch] 27)) es ms ga cg ha ch) := HS.out.below hal
  clear HC HB HZ HS
  have HC := HC_
  have HB := HB_
  have HZ := HZ_
  have HS := HS_
  clear HC_ HB_ HZ_ HS_
  have BS : Hid ((w1.alloc (.cells #[.string ⟨#[115]⟩, .int .i64 lo, .int .i64 nx, .slice ga es.length cg, .slice ha ms.length ch] 27)).heap[w1.heap.size]? = some (.cells #[.string ⟨#[115]⟩, .int .i64 lo, .int .i64 nx, .slice ga es.length cg, .slice ha ms.length ch] 27 (0, 0))) := bnew w1 _ _
  clear hal
  have h2 := t_trim (lo := lo) HS.out HZ.out HSM.out c o hc1
  have h3' := fun (W : World) (h : Dr 0 W es ms ga cg ha ch) (hz : 0 < W.heap.size) => s_trim (lo := lo) h hz HSM.out c o
  obtain ⟨TE, hTE⟩ : ∃ x, strm.ansE ⟨#[115]⟩ lo nx es ms c o = x := ⟨_, rfl⟩
  obtain ⟨TL, hTL⟩ : ∃ x, strm.ansL ⟨#[115]⟩ lo nx es ms c o = x := ⟨_, rfl⟩
  have HTE : Hid (strm.ansE ⟨#[115]⟩ lo nx es ms c o = TE ∧ strm.ansL ⟨#[115]⟩ lo nx es ms c o = TL) := ⟨hTE, hTL⟩
  have HSMT : Hid (Sm 500 nx TE ms) := by rw [← hTE]; exact HSM.out.trim
  simp only [hTE, hTL] at h2 h3'
  clear hTE hTL
  go_wp2_with (go_at_call 6; fail)
  refine h2.mono ?_
  rintro e w2 ⟨sa1, sc1, sb1, sd1, rfl, hi2, hb2⟩
  have HC_ : Hid (dw.Code w2 w2.heap.size a0 len0) := (HC.out.below hb2 (Nat.le_refl _)).mono (Below.size hb2)
  have HB_ : Hid (Below w.heap.size w w2) := HB.out.trans (Below.mono hb2 (Below.size HB.out))
  have HZ_ : Hid (0 < w2.heap.size) := Nat.lt_of_lt_of_le HZ.out (Below.size hb2)
  have HS_ : Hid (Dr 0 w2 es ms ga cg ha ch) := HS.out.below hb2
  have BS_ : Hid (w2.heap[w1.heap.size]? = some (.cells #[.string ⟨#[115]⟩, .int .i64 lo, .int .i64 nx, .slice ga es.length cg, .slice ha ms.length ch] 27 (0, 0))) := bstay BS.out hb2 (Array.getElem?_eq_some_iff.1 BS.out).1
  clear HC HB HZ HS BS
  have HC := HC_
  have HB := HB_
  have HZ := HZ_
  have HS := HS_
  have BS := BS_
  clear HC_ HB_ HZ_ HS_ BS_
  clear h2 hb2 
  have HT : Hid (Is w2 TE ms sa1 sc1 sb1 sd1) := hi2
  clear hi2
  have hal : Below w2.heap.size w2 (w2.alloc (.cells #[.string ⟨#[115]⟩, .int .i64 TL, .int .i64 nx, .slice sa1 TE.length sc1, .slice sb1 ms.length sd1] 27)) := (Below.refl _ _).alloc (Nat.le_refl _) _
  have HC_ : Hid (dw.Code (w2.alloc (.cells #[.string ⟨#[115]⟩, .int .i64 TL, .int .i64 nx, .slice sa1 TE.length sc1, .slice sb1 ms.length sd1] 27)) (w2.alloc (.cells #[.string ⟨#[115]⟩, .int .i64 TL, .int .i64 nx, .slice sa1 TE.length sc1, .slice sb1 ms.length sd1] 27)).heap.size a0 len0) := (HC.out.below hal (Nat.le_refl _)).mono (Below.size hal)
  have HB_ : Hid (Below w.heap.size w (w2.alloc (.cells #[.string ⟨#[115]⟩, .int .i64 TL, .int .i64 nx, .slice sa1 TE.length sc1, .slice sb1 ms.length sd1] 27))) := HB.out.trans (Below.mono hal (Below.size HB.out))
  have HZ_ : Hid (0 < (w2.alloc (.cells #[.string ⟨#[115]⟩, .int .i64 TL, .int .i64 nx, .slice sa1 TE.length sc1, .slice sb1 ms.length sd1] 27)).heap.size) := Nat.lt_of_lt_of_le HZ.out (Below.size hal)
  have HS_ : Hid (Dr 0 (w2.alloc (.cells #[.string ⟨#[115]⟩, .int .i64 TL, .int .i64 nx, .slice sa1 TE.length sc1, .slice sb1 ms.length sd1] 27)) es ms ga cg ha ch) := HS.out.below hal
  have BS_ : Hid ((w2.alloc (.cells #[.string ⟨#[115]⟩, .int .i64 TL, .int .i64 nx, .slice sa1 TE.length sc1, .slice sb1 ms.length sd1] 27)).heap[w1.heap.size]? = some (.cells #[.string ⟨#[115]⟩, .int .i64 lo, .int .i64 nx, .slice ga es.length cg, .slice ha ms.length ch] 27 (0, 0))) := bstay BS.out hal (Array.getElem?_eq_some_iff.1 BS.out).1
  have HT_ : Hid (Is (w2.alloc (.cells #[.string ⟨#[115]⟩, .int .i64 TL, .int .i64 nx, .slice sa1 TE.length sc1, .slice sb1 ms.length sd1] 27)) TE ms sa1 sc1 sb1 sd1) := HT.out.below hal
  clear HC HB HZ HS BS HT
  have HC := HC_
  have HB := HB_
  have HZ := HZ_
  have HS := HS_
  have BS := BS_
  have HT := HT_
  clear HC_ HB_ HZ_ HS_ BS_ HT_
  have BT : Hid ((w2.alloc (.cells #[.string ⟨#[115]⟩, .int .i64 TL, .int .i64 nx, .slice sa1 TE.length sc1, .slice sb1 ms.length sd1] 27)).heap[w2.heap.size]? = some (.cells #[.string ⟨#[115]⟩, .int .i64 TL, .int .i64 nx, .slice sa1 TE.length sc1, .slice sb1 ms.length sd1] 27 (0, 0))) := bnew w2 _ _
  clear hal
  have x0 : (w2.alloc (.cells #[.string ⟨#[115]⟩, .int .i64 TL, .int .i64 nx, .slice sa1 TE.length sc1, .slice sb1 ms.length sd1] 27)).cell? ⟨w1.heap.size, 0, none⟩ = some (.string ⟨#[115]⟩) := bcell BS.out rfl
  have x1 : (w2.alloc (.cells #[.string ⟨#[115]⟩, .int .i64 TL, .int .i64 nx, .slice sa1 TE.length sc1, .slice sb1 ms.length sd1] 27)).cell? ⟨w1.heap.size, 1, none⟩ = some (.int .i64 lo) := bcell BS.out rfl
  have x2 : (w2.alloc (.cells #[.string ⟨#[115]⟩, .int .i64 TL, .int .i64 nx, .slice sa1 TE.length sc1, .slice sb1 ms.length sd1] 27)).cell? ⟨w1.heap.size, 2, none⟩ = some (.int .i64 nx) := bcell BS.out rfl
  have x3 : (w2.alloc (.cells #[.string ⟨#[115]⟩, .int .i64 TL, .int .i64 nx, .slice sa1 TE.length sc1, .slice sb1 ms.length sd1] 27)).cell? ⟨w1.heap.size, 3, none⟩ = some (.slice ga es.length cg) := bcell BS.out rfl
  have x4 : (w2.alloc (.cells #[.string ⟨#[115]⟩, .int .i64 TL, .int .i64 nx, .slice sa1 TE.length sc1, .slice sb1 ms.length sd1] 27)).cell? ⟨w1.heap.size, 4, none⟩ = some (.slice ha ms.length ch) := bcell BS.out rfl
  have h3 := h3' _ HS.out HZ.out
  clear h3'
  go_wp2_with (go_at_call 7; fail)
  refine h3.mono ?_
  rintro e w3 ⟨sa2, sc2, sb2, sd2, rfl, hi3, hb3⟩
  have HC_ : Hid (dw.Code w3 w3.heap.size a0 len0) := (HC.out.below hb3 (Nat.le_refl _)).mono (Below.size hb3)
  have HB_ : Hid (Below w.heap.size w w3) := HB.out.trans (Below.mono hb3 (Below.size HB.out))
  have HZ_ : Hid (0 < w3.heap.size) := Nat.lt_of_lt_of_le HZ.out (Below.size hb3)
  have HS_ : Hid (Dr 0 w3 es ms ga cg ha ch) := HS.out.below hb3
  have BS_ : Hid (w3.heap[w1.heap.size]? = some (.cells #[.string ⟨#[115]⟩, .int .i64 lo, .int .i64 nx, .slice ga es.length cg, .slice ha ms.length ch] 27 (0, 0))) := bstay BS.out hb3 (Array.getElem?_eq_some_iff.1 BS.out).1
  have HT_ : Hid (Is w3 TE ms sa1 sc1 sb1 sd1) := HT.out.below hb3
  have BT_ : Hid (w3.heap[w2.heap.size]? = some (.cells #[.string ⟨#[115]⟩, .int .i64 TL, .int .i64 nx, .slice sa1 TE.length sc1, .slice sb1 ms.length sd1] 27 (0, 0))) := bstay BT.out hb3 (Array.getElem?_eq_some_iff.1 BT.out).1
  clear HC HB HZ HS BS HT BT
  have HC := HC_
  have HB := HB_
  have HZ := HZ_
  have HS := HS_
  have BS := BS_
  have HT := HT_
  have BT := BT_
  clear HC_ HB_ HZ_ HS_ BS_ HT_ BT_
  clear h3 hb3 x0 x1 x2 x3 x4
  have HW : Hid (Is w3 TE ms sa2 sc2 sb2 sd2) := hi3
  clear hi3
  have hal : Below w3.heap.size w3 (w3.alloc (.cells #[.string ⟨#[115]⟩, .int .i64 TL, .int .i64 nx, .slice sa2 TE.length sc2, .slice sb2 ms.length sd2] 27)) := (Below.refl _ _).alloc (Nat.le_refl _) _
  have HC_ : Hid (dw.Code (w3.alloc (.cells #[.string ⟨#[115]⟩, .int .i64 TL, .int .i64 nx, .slice sa2 TE.length sc2, .slice sb2 ms.length sd2] 27)) (w3.alloc (.cells #[.string ⟨#[115]⟩, .int .i64 TL, .int .i64 nx, .slice sa2 TE.length sc2, .slice sb2 ms.length sd2] 27)).heap.size a0 len0) := (HC.out.below hal (Nat.le_refl _)).mono (Below.size hal)
  have HB_ : Hid (Below w.heap.size w (w3.alloc (.cells #[.string ⟨#[115]⟩, .int .i64 TL, .int .i64 nx, .slice sa2 TE.length sc2, .slice sb2 ms.length sd2] 27))) := HB.out.trans (Below.mono hal (Below.size HB.out))
  have HZ_ : Hid (0 < (w3.alloc (.cells #[.string ⟨#[115]⟩, .int .i64 TL, .int .i64 nx, .slice sa2 TE.length sc2, .slice sb2 ms.length sd2] 27)).heap.size) := Nat.lt_of_lt_of_le HZ.out (Below.size hal)
  have HS_ : Hid (Dr 0 (w3.alloc (.cells #[.string ⟨#[115]⟩, .int .i64 TL, .int .i64 nx, .slice sa2 TE.length sc2, .slice sb2 ms.length sd2] 27)) es ms ga cg ha ch) := HS.out.below hal
  have BS_ : Hid ((w3.alloc (.cells #[.string ⟨#[115]⟩, .int .i64 TL, .int .i64 nx, .slice sa2 TE.length sc2, .slice sb2 ms.length sd2] 27)).heap[w1.heap.size]? = some (.cells #[.string ⟨#[115]⟩, .int .i64 lo, .int .i64 nx, .slice ga es.length cg, .slice ha ms.length ch] 27 (0, 0))) := bstay BS.out hal (Array.getElem?_eq_some_iff.1 BS.out).1
  have HT_ : Hid (Is (w3.alloc (.cells #[.string ⟨#[115]⟩, .int .i64 TL, .int .i64 nx, .slice sa2 TE.length sc2, .slice sb2 ms.length sd2] 27)) TE ms sa1 sc1 sb1 sd1) := HT.out.below hal
  have BT_ : Hid ((w3.alloc (.cells #[.string ⟨#[115]⟩, .int .i64 TL, .int .i64 nx, .slice sa2 TE.length sc2, .slice sb2 ms.length sd2] 27)).heap[w2.heap.size]? = some (.cells #[.string ⟨#[115]⟩, .int .i64 TL, .int .i64 nx, .slice sa1 TE.length sc1, .slice sb1 ms.length sd1] 27 (0, 0))) := bstay BT.out hal (Array.getElem?_eq_some_iff.1 BT.out).1
  have HW_ : Hid (Is (w3.alloc (.cells #[.string ⟨#[115]⟩, .int .i64 TL, .int .i64 nx, .slice sa2 TE.length sc2, .slice sb2 ms.length sd2] 27)) TE ms sa2 sc2 sb2 sd2) := HW.out.below hal
  clear HC HB HZ HS BS HT BT HW
  have HC := HC_
  have HB := HB_
  have HZ := HZ_
  have HS := HS_
  have BS := BS_
  have HT := HT_
  have BT := BT_
  have HW := HW_
  clear HC_ HB_ HZ_ HS_ BS_ HT_ BT_ HW_
  have BW : Hid ((w3.alloc (.cells #[.string ⟨#[115]⟩, .int .i64 TL, .int .i64 nx, .slice sa2 TE.length sc2, .slice sb2 ms.length sd2] 27)).heap[w3.heap.size]? = some (.cells #[.string ⟨#[115]⟩, .int .i64 TL, .int .i64 nx, .slice sa2 TE.length sc2, .slice sb2 ms.length sd2] 27 (0, 0))) := bnew w3 _ _
  clear hal
  have h4 := dss.draw_Put a0 len0 cap0 _ hlen HC.out
  go_wp2_with (go_at_call 8; fail)
  refine h4.mono ?_
  rintro e w4 ⟨⟨lo2, nx2, es2, ms2, ga2, cg2, ha2, ch2, tm, bd, rfl, hsm2, hdr2, hbd⟩, hb4, hz4⟩
  have HC_ : Hid (dw.Code w4 w4.heap.size a0 len0) := (HC.out.below hb4 (Nat.le_refl _)).mono (Below.size hb4)
  have HB_ : Hid (Below w.heap.size w w4) := HB.out.trans (Below.mono hb4 (Below.size HB.out))
  have HZ_ : Hid (0 < w4.heap.size) := Nat.lt_of_lt_of_le HZ.out (Below.size hb4)
  have HS_ : Hid (Dr 0 w4 es ms ga cg ha ch) := HS.out.below hb4
  have BS_ : Hid (w4.heap[w1.heap.size]? = some (.cells #[.string ⟨#[115]⟩, .int .i64 lo, .int .i64 nx, .slice ga es.length cg, .slice ha ms.length ch] 27 (0, 0))) := bstay BS.out hb4 (Array.getElem?_eq_some_iff.1 BS.out).1
  have HT_ : Hid (Is w4 TE ms sa1 sc1 sb1 sd1) := HT.out.below hb4
  have BT_ : Hid (w4.heap[w2.heap.size]? = some (.cells #[.string ⟨#[115]⟩, .int .i64 TL, .int .i64 nx, .slice sa1 TE.length sc1, .slice sb1 ms.length sd1] 27 (0, 0))) := bstay BT.out hb4 (Array.getElem?_eq_some_iff.1 BT.out).1
  have HW_ : Hid (Is w4 TE ms sa2 sc2 sb2 sd2) := HW.out.below hb4
  have BW_ : Hid (w4.heap[w3.heap.size]? = some (.cells #[.string ⟨#[115]⟩, .int .i64 TL, .int .i64 nx, .slice sa2 TE.length sc2, .slice sb2 ms.length sd2] 27 (0, 0))) := bstay BW.out hb4 (Array.getElem?_eq_some_iff.1 BW.out).1
  clear HC HB HZ HS BS HT BT HW BW
  have HC := HC_
  have HB := HB_
  have HZ := HZ_
  have HS := HS_
  have BS := BS_
  have HT := HT_
  have BT := BT_
  have HW := HW_
  have BW := BW_
  clear HC_ HB_ HZ_ HS_ BS_ HT_ BT_ HW_ BW_
  clear h4 hb4 hz4
  have HA : Hid (Dr 0 w4 es2 ms2 ga2 cg2 ha2 ch2) := hdr2.low (Nat.zero_le _)
  have HSM2 : Hid (Sm 500 nx2 es2 ms2) := hsm2
  clear hdr2 hsm2
  have hal : Below w4.heap.size w4 (w4.alloc (.cells #[.string ⟨#[115]⟩, .int .i64 lo2, .int .i64 nx2, .slice ga2 es2.length cg2, .slice ha2 ms2.length ch2] 27)) := (Below.refl _ _).alloc (Nat.le_refl _) _
  have HC_ : Hid (dw.Code (w4.alloc (.cells #[.string ⟨#[115]⟩, .int .i64 lo2, .int .i64 nx2, .slice ga2 es2.length cg2, .slice ha2 ms2.length ch2] 27)) (w4.alloc (.cells #[.string ⟨#[115]⟩, .int .i64 lo2, .int .i64 nx2, .slice ga2 es2.length cg2, .slice ha2 ms2.length ch2] 27)).heap.size a0 len0) := (HC.out.below hal (Nat.le_refl _)).mono (Below.size hal)
  have HB_ : Hid (Below w.heap.size w (w4.alloc (.cells #[.string ⟨#[115]⟩, .int .i64 lo2, .int .i64 nx2, .slice ga2 es2.length cg2, .slice ha2 ms2.length ch2] 27))) := HB.out.trans (Below.mono hal (Below.size HB.out))
  have HZ_ : Hid (0 < (w4.alloc (.cells #[.string ⟨#[115]⟩, .int .i64 lo2, .int .i64 nx2, .slice ga2 es2.length cg2, .slice ha2 ms2.length ch2] 27)).heap.size) := Nat.lt_of_lt_of_le HZ.out (Below.size hal)
  have HS_ : Hid (Dr 0 (w4.alloc (.cells #[.string ⟨#[115]⟩, .int .i64 lo2, .int .i64 nx2, .slice ga2 es2.length cg2, .slice ha2 ms2.length ch2] 27)) es ms ga cg ha ch) := HS.out.below hal
  have BS_ : Hid ((w4.alloc (.cells #[.string ⟨#[115]⟩, .int .i64 lo2, .int .i64 nx2, .slice ga2 es2.length cg2, .slice ha2 ms2.length ch2] 27)).heap[w1.heap.size]? = some (.cells #[.string ⟨#[115]⟩, .int .i64 lo, .int .i64 nx, .slice ga es.length cg, .slice ha ms.length ch] 27 (0, 0))) := bstay BS.out hal (Array.getElem?_eq_some_iff.1 BS.out).1
  have HT_ : Hid (Is (w4.alloc (.cells #[.string ⟨#[115]⟩, .int .i64 lo2, .int .i64 nx2, .slice ga2 es2.length cg2, .slice ha2 ms2.length ch2] 27)) TE ms sa1 sc1 sb1 sd1) := HT.out.below hal
  have BT_ : Hid ((w4.alloc (.cells #[.string ⟨#[115]⟩, .int .i64 lo2, .int .i64 nx2, .slice ga2 es2.length cg2, .slice ha2 ms2.length ch2] 27)).heap[w2.heap.size]? = some (.cells #[.string ⟨#[115]⟩, .int .i64 TL, .int .i64 nx, .slice sa1 TE.length sc1, .slice sb1 ms.length sd1] 27 (0, 0))) := bstay BT.out hal (Array.getElem?_eq_some_iff.1 BT.out).1
  have HW_ : Hid (Is (w4.alloc (.cells #[.string ⟨#[115]⟩, .int .i64 lo2, .int .i64 nx2, .slice ga2 es2.length cg2, .slice ha2 ms2.length ch2] 27)) TE ms sa2 sc2 sb2 sd2) := HW.out.below hal
  have BW_ : Hid ((w4.alloc (.cells #[.string ⟨#[115]⟩, .int .i64 lo2, .int .i64 nx2, .slice ga2 es2.length cg2, .slice ha2 ms2.length ch2] 27)).heap[w3.heap.size]? = some (.cells #[.string ⟨#[115]⟩, .int .i64 TL, .int .i64 nx, .slice sa2 TE.length sc2, .slice sb2 ms.length sd2] 27 (0, 0))) := bstay BW.out hal (Array.getElem?_eq_some_iff.1 BW.out).1
  have HA_ : Hid (Dr 0 (w4.alloc (.cells #[.string ⟨#[115]⟩, .int .i64 lo2, .int .i64 nx2, .slice ga2 es2.length cg2, .slice ha2 ms2.length ch2] 27)) es2 ms2 ga2 cg2 ha2 ch2) := HA.out.below hal
  clear HC HB HZ HS BS HT BT HW BW HA
  have HC := HC_
  have HB := HB_
  have HZ := HZ_
  have HS := HS_
  have BS := BS_
  have HT := HT_
  have BT := BT_
  have HW := HW_
  have BW := BW_
  have HA := HA_
  clear HC_ HB_ HZ_ HS_ BS_ HT_ BT_ HW_ BW_ HA_
  have BA : Hid ((w4.alloc (.cells #[.string ⟨#[115]⟩, .int .i64 lo2, .int .i64 nx2, .slice ga2 es2.length cg2, .slice ha2 ms2.length ch2] 27)).heap[w4.heap.size]? = some (.cells #[.string ⟨#[115]⟩, .int .i64 lo2, .int .i64 nx2, .slice ga2 es2.length cg2, .slice ha2 ms2.length ch2] 27 (0, 0))) := bnew w4 _ _
  clear hal
  have h5 := t_put (lo := lo2) HA.out HZ.out HSM2.out tm bd (by omega)
  have h6' := fun (W : World) (h : Dr 0 W es2 ms2 ga2 cg2 ha2 ch2) (hz : 0 < W.heap.size) => s_put (lo := lo2) h hz HSM2.out tm bd (by omega)
  obtain ⟨PE, hPE⟩ : ∃ x, sput.ansE ⟨#[115]⟩ lo2 nx2 es2 ms2 tm bd = x := ⟨_, rfl⟩
  obtain ⟨PN, hPN⟩ : ∃ x, sput.ansN ⟨#[115]⟩ lo2 nx2 es2 ms2 tm bd = x := ⟨_, rfl⟩
  obtain ⟨ft, hft⟩ : ∃ x, sput.fits ⟨#[115]⟩ lo2 nx2 es2 ms2 tm bd = x := ⟨_, rfl⟩
  have HPE : Hid (sput.ansE ⟨#[115]⟩ lo2 nx2 es2 ms2 tm bd = PE ∧ sput.ansN ⟨#[115]⟩ lo2 nx2 es2 ms2 tm bd = PN ∧ sput.fits ⟨#[115]⟩ lo2 nx2 es2 ms2 tm bd = ft) := ⟨hPE, hPN, hft⟩
  have HFP : Hid (Fit ⟨#[115]⟩ PE ms2) := by rw [← hPE]; exact put_fit HSM2.out (by omega)
  simp only [hPE, hPN, hft] at h5 h6'
  clear hPE hPN hft
  go_wp2_with (go_at_call 9; fail)
  refine h5.mono ?_
  rintro e w5 ⟨sa3, sc3, sb3, sd3, rfl, hi5, hb5⟩
  have HC_ : Hid (dw.Code w5 w5.heap.size a0 len0) := (HC.out.below hb5 (Nat.le_refl _)).mono (Below.size hb5)
  have HB_ : Hid (Below w.heap.size w w5) := HB.out.trans (Below.mono hb5 (Below.size HB.out))
  have HZ_ : Hid (0 < w5.heap.size) := Nat.lt_of_lt_of_le HZ.out (Below.size hb5)
  have HS_ : Hid (Dr 0 w5 es ms ga cg ha ch) := HS.out.below hb5
  have BS_ : Hid (w5.heap[w1.heap.size]? = some (.cells #[.string ⟨#[115]⟩, .int .i64 lo, .int .i64 nx, .slice ga es.length cg, .slice ha ms.length ch] 27 (0, 0))) := bstay BS.out hb5 (Array.getElem?_eq_some_iff.1 BS.out).1
  have HT_ : Hid (Is w5 TE ms sa1 sc1 sb1 sd1) := HT.out.below hb5
  have BT_ : Hid (w5.heap[w2.heap.size]? = some (.cells #[.string ⟨#[115]⟩, .int .i64 TL, .int .i64 nx, .slice sa1 TE.length sc1, .slice sb1 ms.length sd1] 27 (0, 0))) := bstay BT.out hb5 (Array.getElem?_eq_some_iff.1 BT.out).1
  have HW_ : Hid (Is w5 TE ms sa2 sc2 sb2 sd2) := HW.out.below hb5
  have BW_ : Hid (w5.heap[w3.heap.size]? = some (.cells #[.string ⟨#[115]⟩, .int .i64 TL, .int .i64 nx, .slice sa2 TE.length sc2, .slice sb2 ms.length sd2] 27 (0, 0))) := bstay BW.out hb5 (Array.getElem?_eq_some_iff.1 BW.out).1
  have HA_ : Hid (Dr 0 w5 es2 ms2 ga2 cg2 ha2 ch2) := HA.out.below hb5
  have BA_ : Hid (w5.heap[w4.heap.size]? = some (.cells #[.string ⟨#[115]⟩, .int .i64 lo2, .int .i64 nx2, .slice ga2 es2.length cg2, .slice ha2 ms2.length ch2] 27 (0, 0))) := bstay BA.out hb5 (Array.getElem?_eq_some_iff.1 BA.out).1
  clear HC HB HZ HS BS HT BT HW BW HA BA
  have HC := HC_
  have HB := HB_
  have HZ := HZ_
  have HS := HS_
  have BS := BS_
  have HT := HT_
  have BT := BT_
  have HW := HW_
  have BW := BW_
  have HA := HA_
  have BA := BA_
  clear HC_ HB_ HZ_ HS_ BS_ HT_ BT_ HW_ BW_ HA_ BA_
  clear h5 hb5 
  have HP : Hid (Is w5 PE ms2 sa3 sc3 sb3 sd3) := hi5
  clear hi5
  have hal : Below w5.heap.size w5 (w5.alloc (.cells #[.string ⟨#[115]⟩, .int .i64 lo2, .int .i64 PN, .slice sa3 PE.length sc3, .slice sb3 ms2.length sd3] 27)) := (Below.refl _ _).alloc (Nat.le_refl _) _
  have HC_ : Hid (dw.Code (w5.alloc (.cells #[.string ⟨#[115]⟩, .int .i64 lo2, .int .i64 PN, .slice sa3 PE.length sc3, .slice sb3 ms2.length sd3] 27)) (w5.alloc (.cells #[.string ⟨#[115]⟩, .int .i64 lo2, .int .i64 PN, .slice sa3 PE.length sc3, .slice sb3 ms2.length sd3] 27)).heap.size a0 len0) := (HC.out.below hal (Nat.le_refl _)).mono (Below.size hal)
  have HB_ : Hid (Below w.heap.size w (w5.alloc (.cells #[.string ⟨#[115]⟩, .int .i64 lo2, .int .i64 PN, .slice sa3 PE.length sc3, .slice sb3 ms2.length sd3] 27))) := HB.out.trans (Below.mono hal (Below.size HB.out))
  have HZ_ : Hid (0 < (w5.alloc (.cells #[.string ⟨#[115]⟩, .int .i64 lo2, .int .i64 PN, .slice sa3 PE.length sc3, .slice sb3 ms2.length sd3] 27)).heap.size) := Nat.lt_of_lt_of_le HZ.out (Below.size hal)
  have HS_ : Hid (Dr 0 (w5.alloc (.cells #[.string ⟨#[115]⟩, .int .i64 lo2, .int .i64 PN, .slice sa3 PE.length sc3, .slice sb3 ms2.length sd3] 27)) es ms ga cg ha ch) := HS.out.below hal
  have BS_ : Hid ((w5.alloc (.cells #[.string ⟨#[115]⟩, .int .i64 lo2, .int .i64 PN, .slice sa3 PE.length sc3, .slice sb3 ms2.length sd3] 27)).heap[w1.heap.size]? = some (.cells #[.string ⟨#[115]⟩, .int .i64 lo, .int .i64 nx, .slice ga es.length cg, .slice ha ms.length ch] 27 (0, 0))) := bstay BS.out hal (Array.getElem?_eq_some_iff.1 BS.out).1
  have HT_ : Hid (Is (w5.alloc (.cells #[.string ⟨#[115]⟩, .int .i64 lo2, .int .i64 PN, .slice sa3 PE.length sc3, .slice sb3 ms2.length sd3] 27)) TE ms sa1 sc1 sb1 sd1) := HT.out.below hal
  have BT_ : Hid ((w5.alloc (.cells #[.string ⟨#[115]⟩, .int .i64 lo2, .int .i64 PN, .slice sa3 PE.length sc3, .slice sb3 ms2.length sd3] 27)).heap[w2.heap.size]? = some (.cells #[.string ⟨#[115]⟩, .int .i64 TL, .int .i64 nx, .slice sa1 TE.length sc1, .slice sb1 ms.length sd1] 27 (0, 0))) := bstay BT.out hal (Array.getElem?_eq_some_iff.1 BT.out).1
  have HW_ : Hid (Is (w5.alloc (.cells #[.string ⟨#[115]⟩, .int .i64 lo2, .int .i64 PN, .slice sa3 PE.length sc3, .slice sb3 ms2.length sd3] 27)) TE ms sa2 sc2 sb2 sd2) := HW.out.below hal
  have BW_ : Hid ((w5.alloc (.cells #[.string ⟨#[115]⟩, .int .i64 lo2, .int .i64 PN, .slice sa3 PE.length sc3, .slice sb3 ms2.length sd3] 27)).heap[w3.heap.size]? = some (.cells #[.string ⟨#[115]⟩, .int .i64 TL, .int .i64 nx, .slice sa2 TE.length sc2, .slice sb2 ms.length sd2] 27 (0, 0))) := bstay BW.out hal (Array.getElem?_eq_some_iff.1 BW.out).1
  have HA_ : Hid (Dr 0 (w5.alloc (.cells #[.string ⟨#[115]⟩, .int .i64 lo2, .int .i64 PN, .slice sa3 PE.length sc3, .slice sb3 ms2.length sd3] 27)) es2 ms2 ga2 cg2 ha2 ch2) := HA.out.below hal
  have BA_ : Hid ((w5.alloc (.cells #[.string ⟨#[115]⟩, .int .i64 lo2, .int .i64 PN, .slice sa3 PE.length sc3, .slice sb3 ms2.length sd3] 27)).heap[w4.heap.size]? = some (.cells #[.string ⟨#[115]⟩, .int .i64 lo2, .int .i64 nx2, .slice ga2 es2.length cg2, .slice ha2 ms2.length ch2] 27 (0, 0))) := bstay BA.out hal (Array.getElem?_eq_some_iff.1 BA.out).1
  have HP_ : Hid (Is (w5.alloc (.cells #[.string ⟨#[115]⟩, .int .i64 lo2, .int .i64 PN, .slice sa3 PE.length sc3, .slice sb3 ms2.length sd3] 27)) PE ms2 sa3 sc3 sb3 sd3) := HP.out.below hal
  clear HC HB HZ HS BS HT BT HW BW HA BA HP
  have HC := HC_
  have HB := HB_
  have HZ := HZ_
  have HS := HS_
  have BS := BS_
  have HT := HT_
  have BT := BT_
  have HW := HW_
  have BW := BW_
  have HA := HA_
  have BA := BA_
  have HP := HP_
  clear HC_ HB_ HZ_ HS_ BS_ HT_ BT_ HW_ BW_ HA_ BA_ HP_
  have BB : Hid ((w5.alloc (.cells #[.string ⟨#[115]⟩, .int .i64 lo2, .int .i64 PN, .slice sa3 PE.length sc3, .slice sb3 ms2.length sd3] 27)).heap[w5.heap.size]? = some (.cells #[.string ⟨#[115]⟩, .int .i64 lo2, .int .i64 PN, .slice sa3 PE.length sc3, .slice sb3 ms2.length sd3] 27 (0, 0))) := bnew w5 _ _
  clear hal
  have x0 : (w5.alloc (.cells #[.string ⟨#[115]⟩, .int .i64 lo2, .int .i64 PN, .slice sa3 PE.length sc3, .slice sb3 ms2.length sd3] 27)).cell? ⟨w4.heap.size, 0, none⟩ = some (.string ⟨#[115]⟩) := bcell BA.out rfl
  have x1 : (w5.alloc (.cells #[.string ⟨#[115]⟩, .int .i64 lo2, .int .i64 PN, .slice sa3 PE.length sc3, .slice sb3 ms2.length sd3] 27)).cell? ⟨w4.heap.size, 1, none⟩ = some (.int .i64 lo2) := bcell BA.out rfl
  have x2 : (w5.alloc (.cells #[.string ⟨#[115]⟩, .int .i64 lo2, .int .i64 PN, .slice sa3 PE.length sc3, .slice sb3 ms2.length sd3] 27)).cell? ⟨w4.heap.size, 2, none⟩ = some (.int .i64 nx2) := bcell BA.out rfl
  have x3 : (w5.alloc (.cells #[.string ⟨#[115]⟩, .int .i64 lo2, .int .i64 PN, .slice sa3 PE.length sc3, .slice sb3 ms2.length sd3] 27)).cell? ⟨w4.heap.size, 3, none⟩ = some (.slice ga2 es2.length cg2) := bcell BA.out rfl
  have x4 : (w5.alloc (.cells #[.string ⟨#[115]⟩, .int .i64 lo2, .int .i64 PN, .slice sa3 PE.length sc3, .slice sb3 ms2.length sd3] 27)).cell? ⟨w4.heap.size, 4, none⟩ = some (.slice ha2 ms2.length ch2) := bcell BA.out rfl
  have h6 := h6' _ HA.out HZ.out
  clear h6'
  go_wp2_with (go_at_call 10; fail)
  refine h6.mono ?_
  rintro e w6 ⟨sa4, sc4, sb4, sd4, rfl, hi6, hb6⟩
  have HC_ : Hid (dw.Code w6 w6.heap.size a0 len0) := (HC.out.below hb6 (Nat.le_refl _)).mono (Below.size hb6)
  have HB_ : Hid (Below w.heap.size w w6) := HB.out.trans (Below.mono hb6 (Below.size HB.out))
  have HZ_ : Hid (0 < w6.heap.size) := Nat.lt_of_lt_of_le HZ.out (Below.size hb6)
  have HS_ : Hid (Dr 0 w6 es ms ga cg ha ch) := HS.out.below hb6
  have BS_ : Hid (w6.heap[w1.heap.size]? = some (.cells #[.string ⟨#[115]⟩, .int .i64 lo, .int .i64 nx, .slice ga es.length cg, .slice ha ms.length ch] 27 (0, 0))) := bstay BS.out hb6 (Array.getElem?_eq_some_iff.1 BS.out).1
  have HT_ : Hid (Is w6 TE ms sa1 sc1 sb1 sd1) := HT.out.below hb6
  have BT_ : Hid (w6.heap[w2.heap.size]? = some (.cells #[.string ⟨#[115]⟩, .int .i64 TL, .int .i64 nx, .slice sa1 TE.length sc1, .slice sb1 ms.length sd1] 27 (0, 0))) := bstay BT.out hb6 (Array.getElem?_eq_some_iff.1 BT.out).1
  have HW_ : Hid (Is w6 TE ms sa2 sc2 sb2 sd2) := HW.out.below hb6
  have BW_ : Hid (w6.heap[w3.heap.size]? = some (.cells #[.string ⟨#[115]⟩, .int .i64 TL, .int .i64 nx, .slice sa2 TE.length sc2, .slice sb2 ms.length sd2] 27 (0, 0))) := bstay BW.out hb6 (Array.getElem?_eq_some_iff.1 BW.out).1
  have HA_ : Hid (Dr 0 w6 es2 ms2 ga2 cg2 ha2 ch2) := HA.out.below hb6
  have BA_ : Hid (w6.heap[w4.heap.size]? = some (.cells #[.string ⟨#[115]⟩, .int .i64 lo2, .int .i64 nx2, .slice ga2 es2.length cg2, .slice ha2 ms2.length ch2] 27 (0, 0))) := bstay BA.out hb6 (Array.getElem?_eq_some_iff.1 BA.out).1
  have HP_ : Hid (Is w6 PE ms2 sa3 sc3 sb3 sd3) := HP.out.below hb6
  have BB_ : Hid (w6.heap[w5.heap.size]? = some (.cells #[.string ⟨#[115]⟩, .int .i64 lo2, .int .i64 PN, .slice sa3 PE.length sc3, .slice sb3 ms2.length sd3] 27 (0, 0))) := bstay BB.out hb6 (Array.getElem?_eq_some_iff.1 BB.out).1
  clear HC HB HZ HS BS HT BT HW BW HA BA HP BB
  have HC := HC_
  have HB := HB_
  have HZ := HZ_
  have HS := HS_
  have BS := BS_
  have HT := HT_
  have BT := BT_
  have HW := HW_
  have BW := BW_
  have HA := HA_
  have BA := BA_
  have HP := HP_
  have BB := BB_
  clear HC_ HB_ HZ_ HS_ BS_ HT_ BT_ HW_ BW_ HA_ BA_ HP_ BB_
  clear h6 hb6 x0 x1 x2 x3 x4
  have HQ : Hid (Is w6 PE ms2 sa4 sc4 sb4 sd4) := hi6
  clear hi6
  have hal : Below w6.heap.size w6 (w6.alloc (.cells #[.string ⟨#[115]⟩, .int .i64 lo2, .int .i64 PN, .slice sa4 PE.length sc4, .slice sb4 ms2.length sd4] 27)) := (Below.refl _ _).alloc (Nat.le_refl _) _
  have HC_ : Hid (dw.Code (w6.alloc (.cells #[.string ⟨#[115]⟩, .int .i64 lo2, .int .i64 PN, .slice sa4 PE.length sc4, .slice sb4 ms2.length sd4] 27)) (w6.alloc (.cells #[.string ⟨#[115]⟩, .int .i64 lo2, .int .i64 PN, .slice sa4 PE.length sc4, .slice sb4 ms2.length sd4] 27)).heap.size a0 len0) := (HC.out.below hal (Nat.le_refl _)).mono (Below.size hal)
  have HB_ : Hid (Below w.heap.size w (w6.alloc (.cells #[.string ⟨#[115]⟩, .int .i64 lo2, .int .i64 PN, .slice sa4 PE.length sc4, .slice sb4 ms2.length sd4] 27))) := HB.out.trans (Below.mono hal (Below.size HB.out))
  have HZ_ : Hid (0 < (w6.alloc (.cells #[.string ⟨#[115]⟩, .int .i64 lo2, .int .i64 PN, .slice sa4 PE.length sc4, .slice sb4 ms2.length sd4] 27)).heap.size) := Nat.lt_of_lt_of_le HZ.out (Below.size hal)
  have HS_ : Hid (Dr 0 (w6.alloc (.cells #[.string ⟨#[115]⟩, .int .i64 lo2, .int .i64 PN, .slice sa4 PE.length sc4, .slice sb4 ms2.length sd4] 27)) es ms ga cg ha ch) := HS.out.below hal
  have BS_ : Hid ((w6.alloc (.cells #[.string ⟨#[115]⟩, .int .i64 lo2, .int .i64 PN, .slice sa4 PE.length sc4, .slice sb4 ms2.length sd4] 27)).heap[w1.heap.size]? = some (.cells #[.string ⟨#[115]⟩, .int .i64 lo, .int .i64 nx, .slice ga es.length cg, .slice ha ms.length ch] 27 (0, 0))) := bstay BS.out hal (Array.getElem?_eq_some_iff.1 BS.out).1
  have HT_ : Hid (Is (w6.alloc (.cells #[.string ⟨#[115]⟩, .int .i64 lo2, .int .i64 PN, .slice sa4 PE.length sc4, .slice sb4 ms2.length sd4] 27)) TE ms sa1 sc1 sb1 sd1) := HT.out.below hal
  have BT_ : Hid ((w6.alloc (.cells #[.string ⟨#[115]⟩, .int .i64 lo2, .int .i64 PN, .slice sa4 PE.length sc4, .slice sb4 ms2.length sd4] 27)).heap[w2.heap.size]? = some (.cells #[.string ⟨#[115]⟩, .int .i64 TL, .int .i64 nx, .slice sa1 TE.length sc1, .slice sb1 ms.length sd1] 27 (0, 0))) := bstay BT.out hal (Array.getElem?_eq_some_iff.1 BT.out).1
  have HW_ : Hid (Is (w6.alloc (.cells #[.string ⟨#[115]⟩, .int .i64 lo2, .int .i64 PN, .slice sa4 PE.length sc4, .slice sb4 ms2.length sd4] 27)) TE ms sa2 sc2 sb2 sd2) := HW.out.below hal
  have BW_ : Hid ((w6.alloc (.cells #[.string ⟨#[115]⟩, .int .i64 lo2, .int .i64 PN, .slice sa4 PE.length sc4, .slice sb4 ms2.length sd4] 27)).heap[w3.heap.size]? = some (.cells #[.string ⟨#[115]⟩, .int .i64 TL, .int .i64 nx, .slice sa2 TE.length sc2, .slice sb2 ms.length sd2] 27 (0, 0))) := bstay BW.out hal (Array.getElem?_eq_some_iff.1 BW.out).1
  have HA_ : Hid (Dr 0 (w6.alloc (.cells #[.string ⟨#[115]⟩, .int .i64 lo2, .int .i64 PN, .slice sa4 PE.length sc4, .slice sb4 ms2.length sd4] 27)) es2 ms2 ga2 cg2 ha2 ch2) := HA.out.below hal
  have BA_ : Hid ((w6.alloc (.cells #[.string ⟨#[115]⟩, .int .i64 lo2, .int .i64 PN, .slice sa4 PE.length sc4, .slice sb4 ms2.length sd4] 27)).heap[w4.heap.size]? = some (.cells #[.string ⟨#[115]⟩, .int .i64 lo2, .int .i64 nx2, .slice ga2 es2.length cg2, .slice ha2 ms2.length ch2] 27 (0, 0))) := bstay BA.out hal (Array.getElem?_eq_some_iff.1 BA.out).1
  have HP_ : Hid (Is (w6.alloc (.cells #[.string ⟨#[115]⟩, .int .i64 lo2, .int .i64 PN, .slice sa4 PE.length sc4, .slice sb4 ms2.length sd4] 27)) PE ms2 sa3 sc3 sb3 sd3) := HP.out.below hal
  have BB_ : Hid ((w6.alloc (.cells #[.string ⟨#[115]⟩, .int .i64 lo2, .int .i64 PN, .slice sa4 PE.length sc4, .slice sb4 ms2.length sd4] 27)).heap[w5.heap.size]? = some (.cells #[.string ⟨#[115]⟩, .int .i64 lo2, .int .i64 PN, .slice sa3 PE.length sc3, .slice sb3 ms2.length sd3] 27 (0, 0))) := bstay BB.out hal (Array.getElem?_eq_some_iff.1 BB.out).1
  have HQ_ : Hid (Is (w6.alloc (.cells #[.string ⟨#[115]⟩, .int .i64 lo2, .int .i64 PN, .slice sa4 PE.length sc4, .slice sb4 ms2.length sd4] 27)) PE ms2 sa4 sc4 sb4 sd4) := HQ.out.below hal
  clear HC HB HZ HS BS HT BT HW BW HA BA HP BB HQ
  have HC := HC_
  have HB := HB_
  have HZ := HZ_
  have HS := HS_
  have BS := BS_
  have HT := HT_
  have BT := BT_
  have HW := HW_
  have BW := BW_
  have HA := HA_
  have BA := BA_
  have HP := HP_
  have BB := BB_
  have HQ := HQ_
  clear HC_ HB_ HZ_ HS_ BS_ HT_ BT_ HW_ BW_ HA_ BA_ HP_ BB_ HQ_
  have BC : Hid ((w6.alloc (.cells #[.string ⟨#[115]⟩, .int .i64 lo2, .int .i64 PN, .slice sa4 PE.length sc4, .slice sb4 ms2.length sd4] 27)).heap[w6.heap.size]? = some (.cells #[.string ⟨#[115]⟩, .int .i64 lo2, .int .i64 PN, .slice sa4 PE.length sc4, .slice sb4 ms2.length sd4] 27 (0, 0))) := bnew w6 _ _
  clear hal
  have h7 := dss.draw_Seek a0 len0 cap0 _ hlen HC.out
  go_wp2_with (go_at_call 11; fail)
  refine h7.mono ?_
  rintro e w7 ⟨⟨lo3, nx3, es3, ms3, ga3, cg3, ha3, ch3, wn, rfl, hsm3, hdr3⟩, hb7, hz7⟩
  have HC_ : Hid (dw.Code w7 w7.heap.size a0 len0) := (HC.out.below hb7 (Nat.le_refl _)).mono (Below.size hb7)
  have HB_ : Hid (Below w.heap.size w w7) := HB.out.trans (Below.mono hb7 (Below.size HB.out))
  have HZ_ : Hid (0 < w7.heap.size) := Nat.lt_of_lt_of_le HZ.out (Below.size hb7)
  have HS_ : Hid (Dr 0 w7 es ms ga cg ha ch) := HS.out.below hb7
  have BS_ : Hid (w7.heap[w1.heap.size]? = some (.cells #[.string ⟨#[115]⟩, .int .i64 lo, .int .i64 nx, .slice ga es.length cg, .slice ha ms.length ch] 27 (0, 0))) := bstay BS.out hb7 (Array.getElem?_eq_some_iff.1 BS.out).1
  have HT_ : Hid (Is w7 TE ms sa1 sc1 sb1 sd1) := HT.out.below hb7
  have BT_ : Hid (w7.heap[w2.heap.size]? = some (.cells #[.string ⟨#[115]⟩, .int .i64 TL, .int .i64 nx, .slice sa1 TE.length sc1, .slice sb1 ms.length sd1] 27 (0, 0))) := bstay BT.out hb7 (Array.getElem?_eq_some_iff.1 BT.out).1
  have HW_ : Hid (Is w7 TE ms sa2 sc2 sb2 sd2) := HW.out.below hb7
  have BW_ : Hid (w7.heap[w3.heap.size]? = some (.cells #[.string ⟨#[115]⟩, .int .i64 TL, .int .i64 nx, .slice sa2 TE.length sc2, .slice sb2 ms.length sd2] 27 (0, 0))) := bstay BW.out hb7 (Array.getElem?_eq_some_iff.1 BW.out).1
  have HA_ : Hid (Dr 0 w7 es2 ms2 ga2 cg2 ha2 ch2) := HA.out.below hb7
  have BA_ : Hid (w7.heap[w4.heap.size]? = some (.cells #[.string ⟨#[115]⟩, .int .i64 lo2, .int .i64 nx2, .slice ga2 es2.length cg2, .slice ha2 ms2.length ch2] 27 (0, 0))) := bstay BA.out hb7 (Array.getElem?_eq_some_iff.1 BA.out).1
  have HP_ : Hid (Is w7 PE ms2 sa3 sc3 sb3 sd3) := HP.out.below hb7
  have BB_ : Hid (w7.heap[w5.heap.size]? = some (.cells #[.string ⟨#[115]⟩, .int .i64 lo2, .int .i64 PN, .slice sa3 PE.length sc3, .slice sb3 ms2.length sd3] 27 (0, 0))) := bstay BB.out hb7 (Array.getElem?_eq_some_iff.1 BB.out).1
  have HQ_ : Hid (Is w7 PE ms2 sa4 sc4 sb4 sd4) := HQ.out.below hb7
  have BC_ : Hid (w7.heap[w6.heap.size]? = some (.cells #[.string ⟨#[115]⟩, .int .i64 lo2, .int .i64 PN, .slice sa4 PE.length sc4, .slice sb4 ms2.length sd4] 27 (0, 0))) := bstay BC.out hb7 (Array.getElem?_eq_some_iff.1 BC.out).1
  clear HC HB HZ HS BS HT BT HW BW HA BA HP BB HQ BC
  have HC := HC_
  have HB := HB_
  have HZ := HZ_
  have HS := HS_
  have BS := BS_
  have HT := HT_
  have BT := BT_
  have HW := HW_
  have BW := BW_
  have HA := HA_
  have BA := BA_
  have HP := HP_
  have BB := BB_
  have HQ := HQ_
  have BC := BC_
  clear HC_ HB_ HZ_ HS_ BS_ HT_ BT_ HW_ BW_ HA_ BA_ HP_ BB_ HQ_ BC_
  clear h7 hb7 hz7
  have HD : Hid (Dr 0 w7 es3 ms3 ga3 cg3 ha3 ch3) := hdr3.low (Nat.zero_le _)
  have HSM3 : Hid (Sm 500 nx3 es3 ms3) := hsm3
  clear hdr3 hsm3
  have hal : Below w7.heap.size w7 (w7.alloc (.cells #[.string ⟨#[115]⟩, .int .i64 lo3, .int .i64 nx3, .slice ga3 es3.length cg3, .slice ha3 ms3.length ch3] 27)) := (Below.refl _ _).alloc (Nat.le_refl _) _
  have HC_ : Hid (dw.Code (w7.alloc (.cells #[.string ⟨#[115]⟩, .int .i64 lo3, .int .i64 nx3, .slice ga3 es3.length cg3, .slice ha3 ms3.length ch3] 27)) (w7.alloc (.cells #[.string ⟨#[115]⟩, .int .i64 lo3, .int .i64 nx3, .slice ga3 es3.length cg3, .slice ha3 ms3.length ch3] 27)).heap.size a0 len0) := (HC.out.below hal (Nat.le_refl _)).mono (Below.size hal)
  have HB_ : Hid (Below w.heap.size w (w7.alloc (.cells #[.string ⟨#[115]⟩, .int .i64 lo3, .int .i64 nx3, .slice ga3 es3.length cg3, .slice ha3 ms3.length ch3] 27))) := HB.out.trans (Below.mono hal (Below.size HB.out))
  have HZ_ : Hid (0 < (w7.alloc (.cells #[.string ⟨#[115]⟩, .int .i64 lo3, .int .i64 nx3, .slice ga3 es3.length cg3, .slice ha3 ms3.length ch3] 27)).heap.size) := Nat.lt_of_lt_of_le HZ.out (Below.size hal)
  have HS_ : Hid (Dr 0 (w7.alloc (.cells #[.string ⟨#[115]⟩, .int .i64 lo3, .int .i64 nx3, .slice ga3 es3.length cg3, .slice ha3 ms3.length ch3] 27)) es ms ga cg ha ch) := HS.out.below hal
  have BS_ : Hid ((w7.alloc (.cells #[.string ⟨#[115]⟩, .int .i64 lo3, .int .i64 nx3, .slice ga3 es3.length cg3, .slice ha3 ms3.length ch3] 27)).heap[w1.heap.size]? = some (.cells #[.string ⟨#[115]⟩, .int .i64 lo, .int .i64 nx, .slice ga es.length cg, .slice ha ms.length ch] 27 (0, 0))) := bstay BS.out hal (Array.getElem?_eq_some_iff.1 BS.out).1
  have HT_ : Hid (Is (w7.alloc (.cells #[.string ⟨#[115]⟩, .int .i64 lo3, .int .i64 nx3, .slice ga3 es3.length cg3, .slice ha3 ms3.length ch3] 27)) TE ms sa1 sc1 sb1 sd1) := HT.out.below hal
  have BT_ : Hid ((w7.alloc (.cells #[.string ⟨#[115]⟩, .int .i64 lo3, .int .i64 nx3, .slice ga3 es3.length cg3, .slice ha3 ms3.length ch3] 27)).heap[w2.heap.size]? = some (.cells #[.string ⟨#[115]⟩, .int .i64 TL, .int .i64 nx, .slice sa1 TE.length sc1, .slice sb1 ms.length sd1] 27 (0, 0))) := bstay BT.out hal (Array.getElem?_eq_some_iff.1 BT.out).1
  have HW_ : Hid (Is (w7.alloc (.cells #[.string ⟨#[115]⟩, .int .i64 lo3, .int .i64 nx3, .slice ga3 es3.length cg3, .slice ha3 ms3.length ch3] 27)) TE ms sa2 sc2 sb2 sd2) := HW.out.below hal
  have BW_ : Hid ((w7.alloc (.cells #[.string ⟨#[115]⟩, .int .i64 lo3, .int .i64 nx3, .slice ga3 es3.length cg3, .slice ha3 ms3.length ch3] 27)).heap[w3.heap.size]? = some (.cells #[.string ⟨#[115]⟩, .int .i64 TL, .int .i64 nx, .slice sa2 TE.length sc2, .slice sb2 ms.length sd2] 27 (0, 0))) := bstay BW.out hal (Array.getElem?_eq_some_iff.1 BW.out).1
  have HA_ : Hid (Dr 0 (w7.alloc (.cells #[.string ⟨#[115]⟩, .int .i64 lo3, .int .i64 nx3, .slice ga3 es3.length cg3, .slice ha3 ms3.length ch3] 27)) es2 ms2 ga2 cg2 ha2 ch2) := HA.out.below hal
  have BA_ : Hid ((w7.alloc (.cells #[.string ⟨#[115]⟩, .int .i64 lo3, .int .i64 nx3, .slice ga3 es3.length cg3, .slice ha3 ms3.length ch3] 27)).heap[w4.heap.size]? = some (.cells #[.string ⟨#[115]⟩, .int .i64 lo2, .int .i64 nx2, .slice ga2 es2.length cg2, .slice ha2 ms2.length ch2] 27 (0, 0))) := bstay BA.out hal (Array.getElem?_eq_some_iff.1 BA.out).1
  have HP_ : Hid (Is (w7.alloc (.cells #[.string ⟨#[115]⟩, .int .i64 lo3, .int .i64 nx3, .slice ga3 es3.length cg3, .slice ha3 ms3.length ch3] 27)) PE ms2 sa3 sc3 sb3 sd3) := HP.out.below hal
  have BB_ : Hid ((w7.alloc (.cells #[.string ⟨#[115]⟩, .int .i64 lo3, .int .i64 nx3, .slice ga3 es3.length cg3, .slice ha3 ms3.length ch3] 27)).heap[w5.heap.size]? = some (.cells #[.string ⟨#[115]⟩, .int .i64 lo2, .int .i64 PN, .slice sa3 PE.length sc3, .slice sb3 ms2.length sd3] 27 (0, 0))) := bstay BB.out hal (Array.getElem?_eq_some_iff.1 BB.out).1
  have HQ_ : Hid (Is (w7.alloc (.cells #[.string ⟨#[115]⟩, .int .i64 lo3, .int .i64 nx3, .slice ga3 es3.length cg3, .slice ha3 ms3.length ch3] 27)) PE ms2 sa4 sc4 sb4 sd4) := HQ.out.below hal
  have BC_ : Hid ((w7.alloc (.cells #[.string ⟨#[115]⟩, .int .i64 lo3, .int .i64 nx3, .slice ga3 es3.length cg3, .slice ha3 ms3.length ch3] 27)).heap[w6.heap.size]? = some (.cells #[.string ⟨#[115]⟩, .int .i64 lo2, .int .i64 PN, .slice sa4 PE.length sc4, .slice sb4 ms2.length sd4] 27 (0, 0))) := bstay BC.out hal (Array.getElem?_eq_some_iff.1 BC.out).1
  have HD_ : Hid (Dr 0 (w7.alloc (.cells #[.string ⟨#[115]⟩, .int .i64 lo3, .int .i64 nx3, .slice ga3 es3.length cg3, .slice ha3 ms3.length ch3] 27)) es3 ms3 ga3 cg3 ha3 ch3) := HD.out.below hal
  clear HC HB HZ HS BS HT BT HW BW HA BA HP BB HQ BC HD
  have HC := HC_
  have HB := HB_
  have HZ := HZ_
  have HS := HS_
  have BS := BS_
  have HT := HT_
  have BT := BT_
  have HW := HW_
  have BW := BW_
  have HA := HA_
  have BA := BA_
  have HP := HP_
  have BB := BB_
  have HQ := HQ_
  have BC := BC_
  have HD := HD_
  clear HC_ HB_ HZ_ HS_ BS_ HT_ BT_ HW_ BW_ HA_ BA_ HP_ BB_ HQ_ BC_ HD_
  have BD : Hid ((w7.alloc (.cells #[.string ⟨#[115]⟩, .int .i64 lo3, .int .i64 nx3, .slice ga3 es3.length cg3, .slice ha3 ms3.length ch3] 27)).heap[w7.heap.size]? = some (.cells #[.string ⟨#[115]⟩, .int .i64 lo3, .int .i64 nx3, .slice ga3 es3.length cg3, .slice ha3 ms3.length ch3] 27 (0, 0))) := bnew w7 _ _
  clear hal
  have h8 := t_seek (lo := lo3) HD.out HZ.out HSM3.out wn
  have h11' := fun (W : World) (h : Dr 0 W es3 ms3 ga3 cg3 ha3 ch3) (hz : 0 < W.heap.size) => s_seek (lo := lo3) h hz HSM3.out wn
  obtain ⟨SK, hSK⟩ : ∃ x, ssk.seek ⟨#[115]⟩ lo3 nx3 es3 ms3 wn = x := ⟨_, rfl⟩
  have HSK : Hid (ssk.seek ⟨#[115]⟩ lo3 nx3 es3 ms3 wn = SK) := hSK
  simp only [hSK] at h8 h11'
  clear hSK
  go_wp2_with (go_at_call 12; fail)
  refine h8.mono ?_
  rintro e w8 ⟨rfl, hb8⟩
  have HC_ : Hid (dw.Code w8 w8.heap.size a0 len0) := (HC.out.below hb8 (Nat.le_refl _)).mono (Below.size hb8)
  have HB_ : Hid (Below w.heap.size w w8) := HB.out.trans (Below.mono hb8 (Below.size HB.out))
  have HZ_ : Hid (0 < w8.heap.size) := Nat.lt_of_lt_of_le HZ.out (Below.size hb8)
  have HS_ : Hid (Dr 0 w8 es ms ga cg ha ch) := HS.out.below hb8
  have BS_ : Hid (w8.heap[w1.heap.size]? = some (.cells #[.string ⟨#[115]⟩, .int .i64 lo, .int .i64 nx, .slice ga es.length cg, .slice ha ms.length ch] 27 (0, 0))) := bstay BS.out hb8 (Array.getElem?_eq_some_iff.1 BS.out).1
  have HT_ : Hid (Is w8 TE ms sa1 sc1 sb1 sd1) := HT.out.below hb8
  have BT_ : Hid (w8.heap[w2.heap.size]? = some (.cells #[.string ⟨#[115]⟩, .int .i64 TL, .int .i64 nx, .slice sa1 TE.length sc1, .slice sb1 ms.length sd1] 27 (0, 0))) := bstay BT.out hb8 (Array.getElem?_eq_some_iff.1 BT.out).1
  have HW_ : Hid (Is w8 TE ms sa2 sc2 sb2 sd2) := HW.out.below hb8
  have BW_ : Hid (w8.heap[w3.heap.size]? = some (.cells #[.string ⟨#[115]⟩, .int .i64 TL, .int .i64 nx, .slice sa2 TE.length sc2, .slice sb2 ms.length sd2] 27 (0, 0))) := bstay BW.out hb8 (Array.getElem?_eq_some_iff.1 BW.out).1
  have HA_ : Hid (Dr 0 w8 es2 ms2 ga2 cg2 ha2 ch2) := HA.out.below hb8
  have BA_ : Hid (w8.heap[w4.heap.size]? = some (.cells #[.string ⟨#[115]⟩, .int .i64 lo2, .int .i64 nx2, .slice ga2 es2.length cg2, .slice ha2 ms2.length ch2] 27 (0, 0))) := bstay BA.out hb8 (Array.getElem?_eq_some_iff.1 BA.out).1
  have HP_ : Hid (Is w8 PE ms2 sa3 sc3 sb3 sd3) := HP.out.below hb8
  have BB_ : Hid (w8.heap[w5.heap.size]? = some (.cells #[.string ⟨#[115]⟩, .int .i64 lo2, .int .i64 PN, .slice sa3 PE.length sc3, .slice sb3 ms2.length sd3] 27 (0, 0))) := bstay BB.out hb8 (Array.getElem?_eq_some_iff.1 BB.out).1
  have HQ_ : Hid (Is w8 PE ms2 sa4 sc4 sb4 sd4) := HQ.out.below hb8
  have BC_ : Hid (w8.heap[w6.heap.size]? = some (.cells #[.string ⟨#[115]⟩, .int .i64 lo2, .int .i64 PN, .slice sa4 PE.length sc4, .slice sb4 ms2.length sd4] 27 (0, 0))) := bstay BC.out hb8 (Array.getElem?_eq_some_iff.1 BC.out).1
  have HD_ : Hid (Dr 0 w8 es3 ms3 ga3 cg3 ha3 ch3) := HD.out.below hb8
  have BD_ : Hid (w8.heap[w7.heap.size]? = some (.cells #[.string ⟨#[115]⟩, .int .i64 lo3, .int .i64 nx3, .slice ga3 es3.length cg3, .slice ha3 ms3.length ch3] 27 (0, 0))) := bstay BD.out hb8 (Array.getElem?_eq_some_iff.1 BD.out).1
  clear HC HB HZ HS BS HT BT HW BW HA BA HP BB HQ BC HD BD
  have HC := HC_
  have HB := HB_
  have HZ := HZ_
  have HS := HS_
  have BS := BS_
  have HT := HT_
  have BT := BT_
  have HW := HW_
  have BW := BW_
  have HA := HA_
  have BA := BA_
  have HP := HP_
  have BB := BB_
  have HQ := HQ_
  have BC := BC_
  have HD := HD_
  have BD := BD_
  clear HC_ HB_ HZ_ HS_ BS_ HT_ BT_ HW_ BW_ HA_ BA_ HP_ BB_ HQ_ BC_ HD_ BD_
  clear h8 hb8 
  obtain ⟨ob, hob⟩ : ∃ x, okB ⟨#[115]⟩ lo nx es ms = x := ⟨_, rfl⟩
  have HOB : Hid (okB ⟨#[115]⟩ lo nx es ms = ob) := hob
  have x0 : ∀ N : qi.Cls w8, N.x.cell? ⟨w2.heap.size, 0, none⟩ = some (.string ⟨#[115]⟩) := fun N => bcell (bstay BT.out N.h (Array.getElem?_eq_some_iff.1 BT.out).1) rfl
  have x1 : ∀ N : qi.Cls w8, N.x.cell? ⟨w2.heap.size, 1, none⟩ = some (.int .i64 TL) := fun N => bcell (bstay BT.out N.h (Array.getElem?_eq_some_iff.1 BT.out).1) rfl
  have x2 : ∀ N : qi.Cls w8, N.x.cell? ⟨w2.heap.size, 2, none⟩ = some (.int .i64 nx) := fun N => bcell (bstay BT.out N.h (Array.getElem?_eq_some_iff.1 BT.out).1) rfl
  have x3 : ∀ N : qi.Cls w8, N.x.cell? ⟨w2.heap.size, 3, none⟩ = some (.slice sa1 TE.length sc1) := fun N => bcell (bstay BT.out N.h (Array.getElem?_eq_some_iff.1 BT.out).1) rfl
  have x4 : ∀ N : qi.Cls w8, N.x.cell? ⟨w2.heap.size, 4, none⟩ = some (.slice sb1 ms.length sd1) := fun N => bcell (bstay BT.out N.h (Array.getElem?_eq_some_iff.1 BT.out).1) rfl
  have y0 : ∀ N : qi.Cls w8, N.x.cell? ⟨w3.heap.size, 0, none⟩ = some (.string ⟨#[115]⟩) := fun N => bcell (bstay BW.out N.h (Array.getElem?_eq_some_iff.1 BW.out).1) rfl
  have y1 : ∀ N : qi.Cls w8, N.x.cell? ⟨w3.heap.size, 1, none⟩ = some (.int .i64 TL) := fun N => bcell (bstay BW.out N.h (Array.getElem?_eq_some_iff.1 BW.out).1) rfl
  have y2 : ∀ N : qi.Cls w8, N.x.cell? ⟨w3.heap.size, 2, none⟩ = some (.int .i64 nx) := fun N => bcell (bstay BW.out N.h (Array.getElem?_eq_some_iff.1 BW.out).1) rfl
  have y3 : ∀ N : qi.Cls w8, N.x.cell? ⟨w3.heap.size, 3, none⟩ = some (.slice sa2 TE.length sc2) := fun N => bcell (bstay BW.out N.h (Array.getElem?_eq_some_iff.1 BW.out).1) rfl
  have y4 : ∀ N : qi.Cls w8, N.x.cell? ⟨w3.heap.size, 4, none⟩ = some (.slice sb2 ms.length sd2) := fun N => bcell (bstay BW.out N.h (Array.getElem?_eq_some_iff.1 BW.out).1) rfl
  have z0 : ∀ N : qi.Cls w8, N.x.cell? ⟨w5.heap.size, 0, none⟩ = some (.string ⟨#[115]⟩) := fun N => bcell (bstay BB.out N.h (Array.getElem?_eq_some_iff.1 BB.out).1) rfl
  have z1 : ∀ N : qi.Cls w8, N.x.cell? ⟨w5.heap.size, 1, none⟩ = some (.int .i64 lo2) := fun N => bcell (bstay BB.out N.h (Array.getElem?_eq_some_iff.1 BB.out).1) rfl
  have z2 : ∀ N : qi.Cls w8, N.x.cell? ⟨w5.heap.size, 2, none⟩ = some (.int .i64 PN) := fun N => bcell (bstay BB.out N.h (Array.getElem?_eq_some_iff.1 BB.out).1) rfl
  have z3 : ∀ N : qi.Cls w8, N.x.cell? ⟨w5.heap.size, 3, none⟩ = some (.slice sa3 PE.length sc3) := fun N => bcell (bstay BB.out N.h (Array.getElem?_eq_some_iff.1 BB.out).1) rfl
  have z4 : ∀ N : qi.Cls w8, N.x.cell? ⟨w5.heap.size, 4, none⟩ = some (.slice sb3 ms2.length sd3) := fun N => bcell (bstay BB.out N.h (Array.getElem?_eq_some_iff.1 BB.out).1) rfl
  have u0 : ∀ N : qi.Cls w8, N.x.cell? ⟨w6.heap.size, 0, none⟩ = some (.string ⟨#[115]⟩) := fun N => bcell (bstay BC.out N.h (Array.getElem?_eq_some_iff.1 BC.out).1) rfl
  have u1 : ∀ N : qi.Cls w8, N.x.cell? ⟨w6.heap.size, 1, none⟩ = some (.int .i64 lo2) := fun N => bcell (bstay BC.out N.h (Array.getElem?_eq_some_iff.1 BC.out).1) rfl
  have u2 : ∀ N : qi.Cls w8, N.x.cell? ⟨w6.heap.size, 2, none⟩ = some (.int .i64 PN) := fun N => bcell (bstay BC.out N.h (Array.getElem?_eq_some_iff.1 BC.out).1) rfl
  have u3 : ∀ N : qi.Cls w8, N.x.cell? ⟨w6.heap.size, 3, none⟩ = some (.slice sa4 PE.length sc4) := fun N => bcell (bstay BC.out N.h (Array.getElem?_eq_some_iff.1 BC.out).1) rfl
  have u4 : ∀ N : qi.Cls w8, N.x.cell? ⟨w6.heap.size, 4, none⟩ = some (.slice sb4 ms2.length sd4) := fun N => bcell (bstay BC.out N.h (Array.getElem?_eq_some_iff.1 BC.out).1) rfl
  have v0 : ∀ N : qi.Cls w8, N.x.cell? ⟨w7.heap.size, 0, none⟩ = some (.string ⟨#[115]⟩) := fun N => bcell (bstay BD.out N.h (Array.getElem?_eq_some_iff.1 BD.out).1) rfl
  have v1 : ∀ N : qi.Cls w8, N.x.cell? ⟨w7.heap.size, 1, none⟩ = some (.int .i64 lo3) := fun N => bcell (bstay BD.out N.h (Array.getElem?_eq_some_iff.1 BD.out).1) rfl
  have v2 : ∀ N : qi.Cls w8, N.x.cell? ⟨w7.heap.size, 2, none⟩ = some (.int .i64 nx3) := fun N => bcell (bstay BD.out N.h (Array.getElem?_eq_some_iff.1 BD.out).1) rfl
  have v3 : ∀ N : qi.Cls w8, N.x.cell? ⟨w7.heap.size, 3, none⟩ = some (.slice ga3 es3.length cg3) := fun N => bcell (bstay BD.out N.h (Array.getElem?_eq_some_iff.1 BD.out).1) rfl
  have v4 : ∀ N : qi.Cls w8, N.x.cell? ⟨w7.heap.size, 4, none⟩ = some (.slice ha3 ms3.length ch3) := fun N => bcell (bstay BD.out N.h (Array.getElem?_eq_some_iff.1 BD.out).1) rfl
  have q0 : ∀ N : qi.Cls w8, N.x.cell? ⟨w1.heap.size, 0, none⟩ = some (.string ⟨#[115]⟩) := fun N => bcell (bstay BS.out N.h (Array.getElem?_eq_some_iff.1 BS.out).1) rfl
  have q1 : ∀ N : qi.Cls w8, N.x.cell? ⟨w1.heap.size, 1, none⟩ = some (.int .i64 lo) := fun N => bcell (bstay BS.out N.h (Array.getElem?_eq_some_iff.1 BS.out).1) rfl
  have q2 : ∀ N : qi.Cls w8, N.x.cell? ⟨w1.heap.size, 2, none⟩ = some (.int .i64 nx) := fun N => bcell (bstay BS.out N.h (Array.getElem?_eq_some_iff.1 BS.out).1) rfl
  have q3 : ∀ N : qi.Cls w8, N.x.cell? ⟨w1.heap.size, 3, none⟩ = some (.slice ga es.length cg) := fun N => bcell (bstay BS.out N.h (Array.getElem?_eq_some_iff.1 BS.out).1) rfl
  have q4 : ∀ N : qi.Cls w8, N.x.cell? ⟨w1.heap.size, 4, none⟩ = some (.slice ha ms.length ch) := fun N => bcell (bstay BS.out N.h (Array.getElem?_eq_some_iff.1 BS.out).1) rfl
  have k1 : ∀ N : qi.Cls w8, Calls Try.prog 13 #[.agg #[.string ⟨#[115]⟩, .int .i64 TL, .int .i64 nx, .slice sa1 TE.length sc1, .slice sb1 ms.length sd1], .agg #[.string ⟨#[115]⟩, .int .i64 TL, .int .i64 nx, .slice sa2 TE.length sc2, .slice sb2 ms.length sd2]] N.x fun e w' => e = .returned (.bool true) ∧ qi.T w8 w' := fun N => (same (HT.out.below N.h) (HW.out.below N.h) (HSMT.out.fit (by omega) sS_small)).mono fun e w' ⟨h1, h2⟩ => ⟨h1, Below.trans N.h (Below.mono h2 (Below.size N.h))⟩
  have k2 : ∀ N : qi.Cls w8, Calls Try.prog 13 #[.agg #[.string ⟨#[115]⟩, .int .i64 lo2, .int .i64 PN, .slice sa3 PE.length sc3, .slice sb3 ms2.length sd3], .agg #[.string ⟨#[115]⟩, .int .i64 lo2, .int .i64 PN, .slice sa4 PE.length sc4, .slice sb4 ms2.length sd4]] N.x fun e w' => e = .returned (.bool true) ∧ qi.T w8 w' := fun N => (same (HP.out.below N.h) (HQ.out.below N.h) HFP.out).mono fun e w' ⟨h1, h2⟩ => ⟨h1, Below.trans N.h (Below.mono h2 (Below.size N.h))⟩
  have k3 : ∀ N : qi.Cls w8, Calls Try.prog 14 #[.agg #[.string ⟨#[115]⟩, .int .i64 lo3, .int .i64 nx3, .slice ga3 es3.length cg3, .slice ha3 ms3.length ch3], .int .i64 wn] N.x fun e w' => e = .returned (.int .i64 SK) ∧ qi.T w8 w' := fun N => (h11' N.x (HD.out.below N.h) (Nat.lt_of_lt_of_le HZ.out (Below.size N.h))).mono fun e w' ⟨h1, h2⟩ => ⟨h1, Below.trans N.h (Below.mono h2 (Below.size N.h))⟩
  have k4' : ∀ N : qi.Cls w8, Calls Try.prog 15 #[.agg #[.string ⟨#[115]⟩, .int .i64 lo, .int .i64 nx, .slice ga es.length cg, .slice ha ms.length ch]] N.x fun e w' => e = .returned (.bool ob) ∧ Below N.x.heap.size N.x w' := fun N => by rw [← hob]; exact t_ok (lo := lo) (nx := nx) (Dr.is (HS.out.below N.h) (Nat.lt_of_lt_of_le HZ.out (Below.size N.h))) (HSM.out.more (by omega))
  have k5' : ∀ N : qi.Cls w8, Calls Try.prog 16 #[.agg #[.string ⟨#[115]⟩, .int .i64 lo, .int .i64 nx, .slice ga es.length cg, .slice ha ms.length ch]] N.x fun e w' => e = .returned (.bool ob) ∧ Below N.x.heap.size N.x w' := fun N => by rw [← hob]; exact s_ok (lo := lo) (HS.out.below N.h) (Nat.lt_of_lt_of_le HZ.out (Below.size N.h)) HSM.out
  have k4 : ∀ N : qi.Cls w8, Calls Try.prog 15 #[.agg #[.string ⟨#[115]⟩, .int .i64 lo, .int .i64 nx, .slice ga es.length cg, .slice ha ms.length ch]] N.x fun e w' => e = .returned (.bool ob) ∧ qi.T w8 w' := fun N => (k4' N).mono fun e w' ⟨h1, h2⟩ => ⟨h1, Below.trans N.h (Below.mono h2 (Below.size N.h))⟩
  have k5 : ∀ N : qi.Cls w8, Calls Try.prog 16 #[.agg #[.string ⟨#[115]⟩, .int .i64 lo, .int .i64 nx, .slice ga es.length cg, .slice ha ms.length ch]] N.x fun e w' => e = .returned (.bool ob) ∧ qi.T w8 w' := fun N => (k5' N).mono fun e w' ⟨h1, h2⟩ => ⟨h1, Below.trans N.h (Below.mono h2 (Below.size N.h))⟩
  clear k4' k5' hob h11'
  go_wp2
  refine qi.region_in w8 (qi.T.refl w8) (by kernel_rfl) (by kernel_rfl) ?_
  repeat (go_big_quiet_step (first | (go_at_call 13; with_reducible refine (k1 _).mono ?_; rintro e wx ⟨rfl, hTx⟩; exact ⟨rfl, ⟨wx, hTx⟩, rfl⟩) | (go_at_call 13; with_reducible refine (k2 _).mono ?_; rintro e wx ⟨rfl, hTx⟩; exact ⟨rfl, ⟨wx, hTx⟩, rfl⟩) | (go_at_call 14; with_reducible refine (k3 _).mono ?_; rintro e wx ⟨rfl, hTx⟩; exact ⟨rfl, ⟨wx, hTx⟩, rfl⟩) | (go_at_call 15; with_reducible refine (k4 _).mono ?_; rintro e wx ⟨rfl, hTx⟩; exact ⟨rfl, ⟨wx, hTx⟩, rfl⟩) | (go_at_call 16; with_reducible refine (k5 _).mono ?_; rintro e wx ⟨rfl, hTx⟩; exact ⟨rfl, ⟨wx, hTx⟩, rfl⟩)))
  refine wpQuiet_nil ?_
  rintro _ ⟨N, rfl⟩
  have hN := N.h
  generalize N.x = w9 at hN ⊢
  clear N k1 k2 k3 k4 k5 x0 x1 x2 x3 x4 y0 y1 y2 y3 y4 z0 z1 z2 z3 z4 u0 u1 u2 u3 u4 v0 v1 v2 v3 v4 q0 q1 q2 q3 q4
  have hbN : Below w8.heap.size w8 w9 := hN
  have HC_ : Hid (dw.Code w9 w9.heap.size a0 len0) := (HC.out.below hbN (Nat.le_refl _)).mono (Below.size hbN)
  have HB_ : Hid (Below w.heap.size w w9) := HB.out.trans (Below.mono hbN (Below.size HB.out))
  have HZ_ : Hid (0 < w9.heap.size) := Nat.lt_of_lt_of_le HZ.out (Below.size hbN)
  have HS_ : Hid (Dr 0 w9 es ms ga cg ha ch) := HS.out.below hbN
  have BS_ : Hid (w9.heap[w1.heap.size]? = some (.cells #[.string ⟨#[115]⟩, .int .i64 lo, .int .i64 nx, .slice ga es.length cg, .slice ha ms.length ch] 27 (0, 0))) := bstay BS.out hbN (Array.getElem?_eq_some_iff.1 BS.out).1
  have HT_ : Hid (Is w9 TE ms sa1 sc1 sb1 sd1) := HT.out.below hbN
  have BT_ : Hid (w9.heap[w2.heap.size]? = some (.cells #[.string ⟨#[115]⟩, .int .i64 TL, .int .i64 nx, .slice sa1 TE.length sc1, .slice sb1 ms.length sd1] 27 (0, 0))) := bstay BT.out hbN (Array.getElem?_eq_some_iff.1 BT.out).1
  have HW_ : Hid (Is w9 TE ms sa2 sc2 sb2 sd2) := HW.out.below hbN
  have BW_ : Hid (w9.heap[w3.heap.size]? = some (.cells #[.string ⟨#[115]⟩, .int .i64 TL, .int .i64 nx, .slice sa2 TE.length sc2, .slice sb2 ms.length sd2] 27 (0, 0))) := bstay BW.out hbN (Array.getElem?_eq_some_iff.1 BW.out).1
  have HA_ : Hid (Dr 0 w9 es2 ms2 ga2 cg2 ha2 ch2) := HA.out.below hbN
  have BA_ : Hid (w9.heap[w4.heap.size]? = some (.cells #[.string ⟨#[115]⟩, .int .i64 lo2, .int .i64 nx2, .slice ga2 es2.length cg2, .slice ha2 ms2.length ch2] 27 (0, 0))) := bstay BA.out hbN (Array.getElem?_eq_some_iff.1 BA.out).1
  have HP_ : Hid (Is w9 PE ms2 sa3 sc3 sb3 sd3) := HP.out.below hbN
  have BB_ : Hid (w9.heap[w5.heap.size]? = some (.cells #[.string ⟨#[115]⟩, .int .i64 lo2, .int .i64 PN, .slice sa3 PE.length sc3, .slice sb3 ms2.length sd3] 27 (0, 0))) := bstay BB.out hbN (Array.getElem?_eq_some_iff.1 BB.out).1
  have HQ_ : Hid (Is w9 PE ms2 sa4 sc4 sb4 sd4) := HQ.out.below hbN
  have BC_ : Hid (w9.heap[w6.heap.size]? = some (.cells #[.string ⟨#[115]⟩, .int .i64 lo2, .int .i64 PN, .slice sa4 PE.length sc4, .slice sb4 ms2.length sd4] 27 (0, 0))) := bstay BC.out hbN (Array.getElem?_eq_some_iff.1 BC.out).1
  have HD_ : Hid (Dr 0 w9 es3 ms3 ga3 cg3 ha3 ch3) := HD.out.below hbN
  have BD_ : Hid (w9.heap[w7.heap.size]? = some (.cells #[.string ⟨#[115]⟩, .int .i64 lo3, .int .i64 nx3, .slice ga3 es3.length cg3, .slice ha3 ms3.length ch3] 27 (0, 0))) := bstay BD.out hbN (Array.getElem?_eq_some_iff.1 BD.out).1
  clear HC HB HZ HS BS HT BT HW BW HA BA HP BB HQ BC HD BD
  have HC := HC_
  have HB := HB_
  have HZ := HZ_
  have HS := HS_
  have BS := BS_
  have HT := HT_
  have BT := BT_
  have HW := HW_
  have BW := BW_
  have HA := HA_
  have BA := BA_
  have HP := HP_
  have BB := BB_
  have HQ := HQ_
  have BC := BC_
  have HD := HD_
  have BD := BD_
  clear HC_ HB_ HZ_ HS_ BS_ HT_ BT_ HW_ BW_ HA_ BA_ HP_ BB_ HQ_ BC_ HD_ BD_
  clear hN hbN
  cases ft
  case' true =>
    have hrp := slw.read_put HPE.out.2.2
    rw [HPE.out.1, HPE.out.2.1] at hrp
    have HPN : Hid (PN = nx2 + 1) := by rw [← HPE.out.2.1]; unfold sput.ansN; exact if_pos HPE.out.2.2
    have h14 := t_read (lo := lo2) (nx := PN) HP.out HFP.out nx2 5
    rw [hrp] at h14
    clear hrp
    have x0 : w9.cell? ⟨w5.heap.size, 0, none⟩ = some (.string ⟨#[115]⟩) := bcell BB.out rfl
    have x1 : w9.cell? ⟨w5.heap.size, 1, none⟩ = some (.int .i64 lo2) := bcell BB.out rfl
    have x2 : w9.cell? ⟨w5.heap.size, 2, none⟩ = some (.int .i64 PN) := bcell BB.out rfl
    have x3 : w9.cell? ⟨w5.heap.size, 3, none⟩ = some (.slice sa3 PE.length sc3) := bcell BB.out rfl
    have x4 : w9.cell? ⟨w5.heap.size, 4, none⟩ = some (.slice sb3 ms2.length sd3) := bcell BB.out rfl
    have y0 : w9.cell? ⟨w4.heap.size, 0, none⟩ = some (.string ⟨#[115]⟩) := bcell BA.out rfl
    have y1 : w9.cell? ⟨w4.heap.size, 1, none⟩ = some (.int .i64 lo2) := bcell BA.out rfl
    have y2 : w9.cell? ⟨w4.heap.size, 2, none⟩ = some (.int .i64 nx2) := bcell BA.out rfl
    have y3 : w9.cell? ⟨w4.heap.size, 3, none⟩ = some (.slice ga2 es2.length cg2) := bcell BA.out rfl
    have y4 : w9.cell? ⟨w4.heap.size, 4, none⟩ = some (.slice ha2 ms2.length ch2) := bcell BA.out rfl
    go_wp2_with (go_at_call 17; fail)
    refine h14.mono ?_
    rintro e v0 ⟨la, lc, rfl, hlr, hb10⟩
    have HC_ : Hid (dw.Code v0 v0.heap.size a0 len0) := (HC.out.below hb10 (Nat.le_refl _)).mono (Below.size hb10)
    have HB_ : Hid (Below w.heap.size w v0) := HB.out.trans (Below.mono hb10 (Below.size HB.out))
    have HZ_ : Hid (0 < v0.heap.size) := Nat.lt_of_lt_of_le HZ.out (Below.size hb10)
    have HS_ : Hid (Dr 0 v0 es ms ga cg ha ch) := HS.out.below hb10
    have BS_ : Hid (v0.heap[w1.heap.size]? = some (.cells #[.string ⟨#[115]⟩, .int .i64 lo, .int .i64 nx, .slice ga es.length cg, .slice ha ms.length ch] 27 (0, 0))) := bstay BS.out hb10 (Array.getElem?_eq_some_iff.1 BS.out).1
    have HT_ : Hid (Is v0 TE ms sa1 sc1 sb1 sd1) := HT.out.below hb10
    have BT_ : Hid (v0.heap[w2.heap.size]? = some (.cells #[.string ⟨#[115]⟩, .int .i64 TL, .int .i64 nx, .slice sa1 TE.length sc1, .slice sb1 ms.length sd1] 27 (0, 0))) := bstay BT.out hb10 (Array.getElem?_eq_some_iff.1 BT.out).1
    have HW_ : Hid (Is v0 TE ms sa2 sc2 sb2 sd2) := HW.out.below hb10
    have BW_ : Hid (v0.heap[w3.heap.size]? = some (.cells #[.string ⟨#[115]⟩, .int .i64 TL, .int .i64 nx, .slice sa2 TE.length sc2, .slice sb2 ms.length sd2] 27 (0, 0))) := bstay BW.out hb10 (Array.getElem?_eq_some_iff.1 BW.out).1
    have HA_ : Hid (Dr 0 v0 es2 ms2 ga2 cg2 ha2 ch2) := HA.out.below hb10
    have BA_ : Hid (v0.heap[w4.heap.size]? = some (.cells #[.string ⟨#[115]⟩, .int .i64 lo2, .int .i64 nx2, .slice ga2 es2.length cg2, .slice ha2 ms2.length ch2] 27 (0, 0))) := bstay BA.out hb10 (Array.getElem?_eq_some_iff.1 BA.out).1
    have HP_ : Hid (Is v0 PE ms2 sa3 sc3 sb3 sd3) := HP.out.below hb10
    have BB_ : Hid (v0.heap[w5.heap.size]? = some (.cells #[.string ⟨#[115]⟩, .int .i64 lo2, .int .i64 PN, .slice sa3 PE.length sc3, .slice sb3 ms2.length sd3] 27 (0, 0))) := bstay BB.out hb10 (Array.getElem?_eq_some_iff.1 BB.out).1
    have HQ_ : Hid (Is v0 PE ms2 sa4 sc4 sb4 sd4) := HQ.out.below hb10
    have BC_ : Hid (v0.heap[w6.heap.size]? = some (.cells #[.string ⟨#[115]⟩, .int .i64 lo2, .int .i64 PN, .slice sa4 PE.length sc4, .slice sb4 ms2.length sd4] 27 (0, 0))) := bstay BC.out hb10 (Array.getElem?_eq_some_iff.1 BC.out).1
    have HD_ : Hid (Dr 0 v0 es3 ms3 ga3 cg3 ha3 ch3) := HD.out.below hb10
    have BD_ : Hid (v0.heap[w7.heap.size]? = some (.cells #[.string ⟨#[115]⟩, .int .i64 lo3, .int .i64 nx3, .slice ga3 es3.length cg3, .slice ha3 ms3.length ch3] 27 (0, 0))) := bstay BD.out hb10 (Array.getElem?_eq_some_iff.1 BD.out).1
    clear HC HB HZ HS BS HT BT HW BW HA BA HP BB HQ BC HD BD
    have HC := HC_
    have HB := HB_
    have HZ := HZ_
    have HS := HS_
    have BS := BS_
    have HT := HT_
    have BT := BT_
    have HW := HW_
    have BW := BW_
    have HA := HA_
    have BA := BA_
    have HP := HP_
    have BB := BB_
    have HQ := HQ_
    have BC := BC_
    have HD := HD_
    have BD := BD_
    clear HC_ HB_ HZ_ HS_ BS_ HT_ BT_ HW_ BW_ HA_ BA_ HP_ BB_ HQ_ BC_ HD_ BD_
    clear h14 hb10 x0 x1 x2 x3 x4 y0 y1 y2 y3 y4
    obtain ⟨lb, lo0, rfl, l0, l1, l2⟩ := one_row hlr
    clear hlr
    have hn2 := HSM2.out.n0
    have hn3 := HSM2.out.n1
    have x0 : v0.cell? ⟨w5.heap.size, 0, none⟩ = some (.string ⟨#[115]⟩) := bcell BB.out rfl
    have x1 : v0.cell? ⟨w5.heap.size, 1, none⟩ = some (.int .i64 lo2) := bcell BB.out rfl
    have x2 : v0.cell? ⟨w5.heap.size, 2, none⟩ = some (.int .i64 PN) := bcell BB.out rfl
    have x3 : v0.cell? ⟨w5.heap.size, 3, none⟩ = some (.slice sa3 PE.length sc3) := bcell BB.out rfl
    have x4 : v0.cell? ⟨w5.heap.size, 4, none⟩ = some (.slice sb3 ms2.length sd3) := bcell BB.out rfl
    have y0 : v0.cell? ⟨w4.heap.size, 0, none⟩ = some (.string ⟨#[115]⟩) := bcell BA.out rfl
    have y1 : v0.cell? ⟨w4.heap.size, 1, none⟩ = some (.int .i64 lo2) := bcell BA.out rfl
    have y2 : v0.cell? ⟨w4.heap.size, 2, none⟩ = some (.int .i64 nx2) := bcell BA.out rfl
    have y3 : v0.cell? ⟨w4.heap.size, 3, none⟩ = some (.slice ga2 es2.length cg2) := bcell BA.out rfl
    have y4 : v0.cell? ⟨w4.heap.size, 4, none⟩ = some (.slice ha2 ms2.length ch2) := bcell BA.out rfl
    rw [HPN.out] at x2
    have hwn : wrap64 (nx2 + 1) = nx2 + 1 := by unfold wrap64; omega
    go_wp2
    go_quiet (fail)
    obtain ⟨v1, hv⟩ : ∃ v, v0.drewN nq = v := ⟨_, rfl⟩
    have hbv : Below v0.heap.size v0 v1 := by rw [← hv]; exact st.bdrewN (Below.refl _ _) _
    rw [hv]
    clear hv
    have HC_ : Hid (dw.Code v1 v1.heap.size a0 len0) := (HC.out.below hbv (Nat.le_refl _)).mono (Below.size hbv)
    have HB_ : Hid (Below w.heap.size w v1) := HB.out.trans (Below.mono hbv (Below.size HB.out))
    have HZ_ : Hid (0 < v1.heap.size) := Nat.lt_of_lt_of_le HZ.out (Below.size hbv)
    have HS_ : Hid (Dr 0 v1 es ms ga cg ha ch) := HS.out.below hbv
    have BS_ : Hid (v1.heap[w1.heap.size]? = some (.cells #[.string ⟨#[115]⟩, .int .i64 lo, .int .i64 nx, .slice ga es.length cg, .slice ha ms.length ch] 27 (0, 0))) := bstay BS.out hbv (Array.getElem?_eq_some_iff.1 BS.out).1
    have HT_ : Hid (Is v1 TE ms sa1 sc1 sb1 sd1) := HT.out.below hbv
    have BT_ : Hid (v1.heap[w2.heap.size]? = some (.cells #[.string ⟨#[115]⟩, .int .i64 TL, .int .i64 nx, .slice sa1 TE.length sc1, .slice sb1 ms.length sd1] 27 (0, 0))) := bstay BT.out hbv (Array.getElem?_eq_some_iff.1 BT.out).1
    have HW_ : Hid (Is v1 TE ms sa2 sc2 sb2 sd2) := HW.out.below hbv
    have BW_ : Hid (v1.heap[w3.heap.size]? = some (.cells #[.string ⟨#[115]⟩, .int .i64 TL, .int .i64 nx, .slice sa2 TE.length sc2, .slice sb2 ms.length sd2] 27 (0, 0))) := bstay BW.out hbv (Array.getElem?_eq_some_iff.1 BW.out).1
    have HA_ : Hid (Dr 0 v1 es2 ms2 ga2 cg2 ha2 ch2) := HA.out.below hbv
    have BA_ : Hid (v1.heap[w4.heap.size]? = some (.cells #[.string ⟨#[115]⟩, .int .i64 lo2, .int .i64 nx2, .slice ga2 es2.length cg2, .slice ha2 ms2.length ch2] 27 (0, 0))) := bstay BA.out hbv (Array.getElem?_eq_some_iff.1 BA.out).1
    have HP_ : Hid (Is v1 PE ms2 sa3 sc3 sb3 sd3) := HP.out.below hbv
    have BB_ : Hid (v1.heap[w5.heap.size]? = some (.cells #[.string ⟨#[115]⟩, .int .i64 lo2, .int .i64 PN, .slice sa3 PE.length sc3, .slice sb3 ms2.length sd3] 27 (0, 0))) := bstay BB.out hbv (Array.getElem?_eq_some_iff.1 BB.out).1
    have HQ_ : Hid (Is v1 PE ms2 sa4 sc4 sb4 sd4) := HQ.out.below hbv
    have BC_ : Hid (v1.heap[w6.heap.size]? = some (.cells #[.string ⟨#[115]⟩, .int .i64 lo2, .int .i64 PN, .slice sa4 PE.length sc4, .slice sb4 ms2.length sd4] 27 (0, 0))) := bstay BC.out hbv (Array.getElem?_eq_some_iff.1 BC.out).1
    have HD_ : Hid (Dr 0 v1 es3 ms3 ga3 cg3 ha3 ch3) := HD.out.below hbv
    have BD_ : Hid (v1.heap[w7.heap.size]? = some (.cells #[.string ⟨#[115]⟩, .int .i64 lo3, .int .i64 nx3, .slice ga3 es3.length cg3, .slice ha3 ms3.length ch3] 27 (0, 0))) := bstay BD.out hbv (Array.getElem?_eq_some_iff.1 BD.out).1
    clear HC HB HZ HS BS HT BT HW BW HA BA HP BB HQ BC HD BD
    have HC := HC_
    have HB := HB_
    have HZ := HZ_
    have HS := HS_
    have BS := BS_
    have HT := HT_
    have BT := BT_
    have HW := HW_
    have BW := BW_
    have HA := HA_
    have BA := BA_
    have HP := HP_
    have BB := BB_
    have HQ := HQ_
    have BC := BC_
    have HD := HD_
    have BD := BD_
    clear HC_ HB_ HZ_ HS_ BS_ HT_ BT_ HW_ BW_ HA_ BA_ HP_ BB_ HQ_ BC_ HD_ BD_
    clear hbv hwn l0 l1 l2 hn2 hn3 x0 x1 x2 x3 x4 y0 y1 y2 y3 y4
    have d0 : v1.cell? ⟨w7.heap.size, 0, none⟩ = some (.string ⟨#[115]⟩) := bcell BD.out rfl
    have d1 : v1.cell? ⟨w7.heap.size, 1, none⟩ = some (.int .i64 lo3) := bcell BD.out rfl
    have d2 : v1.cell? ⟨w7.heap.size, 2, none⟩ = some (.int .i64 nx3) := bcell BD.out rfl
    have d3 : v1.cell? ⟨w7.heap.size, 3, none⟩ = some (.slice ga3 es3.length cg3) := bcell BD.out rfl
    have d4 : v1.cell? ⟨w7.heap.size, 4, none⟩ = some (.slice ha3 ms3.length ch3) := bcell BD.out rfl
    go_wp2_with (go_at_call 16; fail)
  case' false =>
    obtain ⟨v1, hv1⟩ : ∃ v, v = w9 := ⟨_, rfl⟩
    subst hv1
    have d0 : v1.cell? ⟨w7.heap.size, 0, none⟩ = some (.string ⟨#[115]⟩) := bcell BD.out rfl
    have d1 : v1.cell? ⟨w7.heap.size, 1, none⟩ = some (.int .i64 lo3) := bcell BD.out rfl
    have d2 : v1.cell? ⟨w7.heap.size, 2, none⟩ = some (.int .i64 nx3) := bcell BD.out rfl
    have d3 : v1.cell? ⟨w7.heap.size, 3, none⟩ = some (.slice ga3 es3.length cg3) := bcell BD.out rfl
    have d4 : v1.cell? ⟨w7.heap.size, 4, none⟩ = some (.slice ha3 ms3.length ch3) := bcell BD.out rfl
    go_wp2_with (go_at_call 16; fail)
  all_goals
    clear d0 d1 d2 d3 d4
    have h15 := s_ok (lo := lo3) HD.out HZ.out HSM3.out
    obtain ⟨od, hod⟩ : ∃ x, okB ⟨#[115]⟩ lo3 nx3 es3 ms3 = x := ⟨_, rfl⟩
    have HOD : Hid (okB ⟨#[115]⟩ lo3 nx3 es3 ms3 = od) := hod
    rw [hod] at h15
    clear hod
    refine h15.mono ?_
    rintro e v2 ⟨rfl, hb15⟩
    have HC_ : Hid (dw.Code v2 v2.heap.size a0 len0) := (HC.out.below hb15 (Nat.le_refl _)).mono (Below.size hb15)
    have HB_ : Hid (Below w.heap.size w v2) := HB.out.trans (Below.mono hb15 (Below.size HB.out))
    have HZ_ : Hid (0 < v2.heap.size) := Nat.lt_of_lt_of_le HZ.out (Below.size hb15)
    have HS_ : Hid (Dr 0 v2 es ms ga cg ha ch) := HS.out.below hb15
    have BS_ : Hid (v2.heap[w1.heap.size]? = some (.cells #[.string ⟨#[115]⟩, .int .i64 lo, .int .i64 nx, .slice ga es.length cg, .slice ha ms.length ch] 27 (0, 0))) := bstay BS.out hb15 (Array.getElem?_eq_some_iff.1 BS.out).1
    have HT_ : Hid (Is v2 TE ms sa1 sc1 sb1 sd1) := HT.out.below hb15
    have BT_ : Hid (v2.heap[w2.heap.size]? = some (.cells #[.string ⟨#[115]⟩, .int .i64 TL, .int .i64 nx, .slice sa1 TE.length sc1, .slice sb1 ms.length sd1] 27 (0, 0))) := bstay BT.out hb15 (Array.getElem?_eq_some_iff.1 BT.out).1
    have HW_ : Hid (Is v2 TE ms sa2 sc2 sb2 sd2) := HW.out.below hb15
    have BW_ : Hid (v2.heap[w3.heap.size]? = some (.cells #[.string ⟨#[115]⟩, .int .i64 TL, .int .i64 nx, .slice sa2 TE.length sc2, .slice sb2 ms.length sd2] 27 (0, 0))) := bstay BW.out hb15 (Array.getElem?_eq_some_iff.1 BW.out).1
    have HA_ : Hid (Dr 0 v2 es2 ms2 ga2 cg2 ha2 ch2) := HA.out.below hb15
    have BA_ : Hid (v2.heap[w4.heap.size]? = some (.cells #[.string ⟨#[115]⟩, .int .i64 lo2, .int .i64 nx2, .slice ga2 es2.length cg2, .slice ha2 ms2.length ch2] 27 (0, 0))) := bstay BA.out hb15 (Array.getElem?_eq_some_iff.1 BA.out).1
    have HP_ : Hid (Is v2 PE ms2 sa3 sc3 sb3 sd3) := HP.out.below hb15
    have BB_ : Hid (v2.heap[w5.heap.size]? = some (.cells #[.string ⟨#[115]⟩, .int .i64 lo2, .int .i64 PN, .slice sa3 PE.length sc3, .slice sb3 ms2.length sd3] 27 (0, 0))) := bstay BB.out hb15 (Array.getElem?_eq_some_iff.1 BB.out).1
    have HQ_ : Hid (Is v2 PE ms2 sa4 sc4 sb4 sd4) := HQ.out.below hb15
    have BC_ : Hid (v2.heap[w6.heap.size]? = some (.cells #[.string ⟨#[115]⟩, .int .i64 lo2, .int .i64 PN, .slice sa4 PE.length sc4, .slice sb4 ms2.length sd4] 27 (0, 0))) := bstay BC.out hb15 (Array.getElem?_eq_some_iff.1 BC.out).1
    have HD_ : Hid (Dr 0 v2 es3 ms3 ga3 cg3 ha3 ch3) := HD.out.below hb15
    have BD_ : Hid (v2.heap[w7.heap.size]? = some (.cells #[.string ⟨#[115]⟩, .int .i64 lo3, .int .i64 nx3, .slice ga3 es3.length cg3, .slice ha3 ms3.length ch3] 27 (0, 0))) := bstay BD.out hb15 (Array.getElem?_eq_some_iff.1 BD.out).1
    clear HC HB HZ HS BS HT BT HW BW HA BA HP BB HQ BC HD BD
    have HC := HC_
    have HB := HB_
    have HZ := HZ_
    have HS := HS_
    have BS := BS_
    have HT := HT_
    have BT := BT_
    have HW := HW_
    have BW := BW_
    have HA := HA_
    have BA := BA_
    have HP := HP_
    have BB := BB_
    have HQ := HQ_
    have BC := BC_
    have HD := HD_
    have BD := BD_
    clear HC_ HB_ HZ_ HS_ BS_ HT_ BT_ HW_ BW_ HA_ BA_ HP_ BB_ HQ_ BC_ HD_ BD_
    clear h15 hb15
    cases od
    case' true =>
      have HOK : Hid (OkT ⟨#[115]⟩ lo3 nx3 es3 ms3) := okB_true.1 HOD.out
      obtain ⟨g3, k3, n3, _, r3, _⟩ := HD.out.use HZ.out
      have HNA : Hid (apo.NA ga3 g3 es3.length cg3) := n3
      have HRY : Hid (RY v2 g3 es3) := r3
      clear n3 r3
      go_wp2
      go_loopw [19] (fun x wr => ∃ k : Nat, k ≤ es3.length ∧ x = .int .i64 k ∧ Hid (Below v2.heap.size v2 wr)) (fun x _ => es3.length - (intOf x).toNat)
      case' atStart => exact ⟨0, Nat.zero_le _, rfl, by first | exact Below.refl _ _ | exact (Below.refl _ _).drew⟩
      case' round =>
        obtain ⟨k, hk, rfl, hbr⟩ := hrel
        have hBDr : wr.heap[w7.heap.size]? = some (.cells #[.string ⟨#[115]⟩, .int .i64 lo3, .int .i64 nx3, .slice ga3 es3.length cg3, .slice ha3 ms3.length ch3] 27 (0, 0)) := bstay BD.out hbr.out (Array.getElem?_eq_some_iff.1 BD.out).1
        have d3 : wr.cell? ⟨w7.heap.size, 3, none⟩ = some (.slice ga3 es3.length cg3) := bcell hBDr rfl
        by_cases hkl : k < es3.length
        case' pos =>
          have g0 : es3[k]? = some es3[k] := List.getElem?_eq_getElem hkl
          have hsp := slw.seek_parts (t := wn) HOK.out g0
          rw [HSK.out] at hsp
          have hr := (HRY.out.below hbr.out).2 k _ g0
          obtain ⟨eo, heo⟩ : ∃ x, (es3[k]).o = x := ⟨_, rfl⟩
          obtain ⟨et, het⟩ : ∃ x, (es3[k]).t = x := ⟨_, rfl⟩
          rw [heo, het] at hr hsp
          obtain ⟨a0', a1', _⟩ := hr
          have hqa : ga3 = some ⟨g3, 0, none⟩ := HNA.out.at (by omega)
          have i0 : (k : Int) < (es3.length : Int) := by omega
          have hel3 := HSM3.out.el
          clear g0 heo het hBDr
          by_cases hq : SK ≤ eo
          all_goals
            first | (have hqd : decide (SK ≤ eo) = true := decide_eq_true hq; have hqe : decide (wn ≤ et) = true := decide_eq_true (hsp.1 hq)) | (have hqd : decide (SK ≤ eo) = false := decide_eq_false hq; have hqe : decide (wn ≤ et) = false := decide_eq_false (fun h => hq (hsp.2 h)))
            clear hsp hq
            go_wp2
            go_quiet (fail)
            have HBN : Hid (Below v2.heap.size v2 (wr.drewN nq)) := st.bdrewN hbr.out nq
            go_wp2
            try rw [← hqa]
            go_roundw
            case rel => exact ⟨k + 1, by omega, by go_num, HBN⟩
            case measure => simp [intOf]; omega
        case' neg =>
          obtain rfl : k = es3.length := by omega
          have i0 : ¬ (es3.length : Int) < (es3.length : Int) := by omega
          have hbw := hbr.out
          clear hbr hBDr hkl
          obtain ⟨v3, hv3⟩ : ∃ v, v = wr := ⟨_, rfl⟩
          subst hv3
          have HC_ : Hid (dw.Code v3 v3.heap.size a0 len0) := (HC.out.below hbw (Nat.le_refl _)).mono (Below.size hbw)
          have HB_ : Hid (Below w.heap.size w v3) := HB.out.trans (Below.mono hbw (Below.size HB.out))
          have HZ_ : Hid (0 < v3.heap.size) := Nat.lt_of_lt_of_le HZ.out (Below.size hbw)
          have HS_ : Hid (Dr 0 v3 es ms ga cg ha ch) := HS.out.below hbw
          have BS_ : Hid (v3.heap[w1.heap.size]? = some (.cells #[.string ⟨#[115]⟩, .int .i64 lo, .int .i64 nx, .slice ga es.length cg, .slice ha ms.length ch] 27 (0, 0))) := bstay BS.out hbw (Array.getElem?_eq_some_iff.1 BS.out).1
          have HT_ : Hid (Is v3 TE ms sa1 sc1 sb1 sd1) := HT.out.below hbw
          have BT_ : Hid (v3.heap[w2.heap.size]? = some (.cells #[.string ⟨#[115]⟩, .int .i64 TL, .int .i64 nx, .slice sa1 TE.length sc1, .slice sb1 ms.length sd1] 27 (0, 0))) := bstay BT.out hbw (Array.getElem?_eq_some_iff.1 BT.out).1
          have HW_ : Hid (Is v3 TE ms sa2 sc2 sb2 sd2) := HW.out.below hbw
          have BW_ : Hid (v3.heap[w3.heap.size]? = some (.cells #[.string ⟨#[115]⟩, .int .i64 TL, .int .i64 nx, .slice sa2 TE.length sc2, .slice sb2 ms.length sd2] 27 (0, 0))) := bstay BW.out hbw (Array.getElem?_eq_some_iff.1 BW.out).1
          have HA_ : Hid (Dr 0 v3 es2 ms2 ga2 cg2 ha2 ch2) := HA.out.below hbw
          have BA_ : Hid (v3.heap[w4.heap.size]? = some (.cells #[.string ⟨#[115]⟩, .int .i64 lo2, .int .i64 nx2, .slice ga2 es2.length cg2, .slice ha2 ms2.length ch2] 27 (0, 0))) := bstay BA.out hbw (Array.getElem?_eq_some_iff.1 BA.out).1
          have HP_ : Hid (Is v3 PE ms2 sa3 sc3 sb3 sd3) := HP.out.below hbw
          have BB_ : Hid (v3.heap[w5.heap.size]? = some (.cells #[.string ⟨#[115]⟩, .int .i64 lo2, .int .i64 PN, .slice sa3 PE.length sc3, .slice sb3 ms2.length sd3] 27 (0, 0))) := bstay BB.out hbw (Array.getElem?_eq_some_iff.1 BB.out).1
          have HQ_ : Hid (Is v3 PE ms2 sa4 sc4 sb4 sd4) := HQ.out.below hbw
          have BC_ : Hid (v3.heap[w6.heap.size]? = some (.cells #[.string ⟨#[115]⟩, .int .i64 lo2, .int .i64 PN, .slice sa4 PE.length sc4, .slice sb4 ms2.length sd4] 27 (0, 0))) := bstay BC.out hbw (Array.getElem?_eq_some_iff.1 BC.out).1
          have HD_ : Hid (Dr 0 v3 es3 ms3 ga3 cg3 ha3 ch3) := HD.out.below hbw
          have BD_ : Hid (v3.heap[w7.heap.size]? = some (.cells #[.string ⟨#[115]⟩, .int .i64 lo3, .int .i64 nx3, .slice ga3 es3.length cg3, .slice ha3 ms3.length ch3] 27 (0, 0))) := bstay BD.out hbw (Array.getElem?_eq_some_iff.1 BD.out).1
          clear HC HB HZ HS BS HT BT HW BW HA BA HP BB HQ BC HD BD
          have HC := HC_
          have HB := HB_
          have HZ := HZ_
          have HS := HS_
          have BS := BS_
          have HT := HT_
          have BT := BT_
          have HW := HW_
          have BW := BW_
          have HA := HA_
          have BA := BA_
          have HP := HP_
          have BB := BB_
          have HQ := HQ_
          have BC := BC_
          have HD := HD_
          have BD := BD_
          clear HC_ HB_ HZ_ HS_ BS_ HT_ BT_ HW_ BW_ HA_ BA_ HP_ BB_ HQ_ BC_ HD_ BD_
          clear hbw HRY HNA HOK
          have s0 : v3.cell? ⟨w1.heap.size, 0, none⟩ = some (.string ⟨#[115]⟩) := bcell BS.out rfl
          have s1 : v3.cell? ⟨w1.heap.size, 1, none⟩ = some (.int .i64 lo) := bcell BS.out rfl
          have s2 : v3.cell? ⟨w1.heap.size, 2, none⟩ = some (.int .i64 nx) := bcell BS.out rfl
          have s3 : v3.cell? ⟨w1.heap.size, 3, none⟩ = some (.slice ga es.length cg) := bcell BS.out rfl
          have s4 : v3.cell? ⟨w1.heap.size, 4, none⟩ = some (.slice ha ms.length ch) := bcell BS.out rfl
          go_wp2_with (go_at_call 16; fail)
          clear d3 i0
    case' false =>
      obtain ⟨v3, hv3⟩ : ∃ v, v = v2 := ⟨_, rfl⟩
      subst hv3
      have s0 : v3.cell? ⟨w1.heap.size, 0, none⟩ = some (.string ⟨#[115]⟩) := bcell BS.out rfl
      have s1 : v3.cell? ⟨w1.heap.size, 1, none⟩ = some (.int .i64 lo) := bcell BS.out rfl
      have s2 : v3.cell? ⟨w1.heap.size, 2, none⟩ = some (.int .i64 nx) := bcell BS.out rfl
      have s3 : v3.cell? ⟨w1.heap.size, 3, none⟩ = some (.slice ga es.length cg) := bcell BS.out rfl
      have s4 : v3.cell? ⟨w1.heap.size, 4, none⟩ = some (.slice ha ms.length ch) := bcell BS.out rfl
      go_wp2_with (go_at_call 16; fail)
    all_goals
      try clear s0 s1 s2 s3 s4
      have h16 := s_ok (lo := lo) HS.out HZ.out HSM.out
      rw [HOB.out] at h16
      refine h16.mono ?_
      rintro e v4 ⟨rfl, hb16⟩
      have HC_ : Hid (dw.Code v4 v4.heap.size a0 len0) := (HC.out.below hb16 (Nat.le_refl _)).mono (Below.size hb16)
      have HB_ : Hid (Below w.heap.size w v4) := HB.out.trans (Below.mono hb16 (Below.size HB.out))
      have HZ_ : Hid (0 < v4.heap.size) := Nat.lt_of_lt_of_le HZ.out (Below.size hb16)
      have HS_ : Hid (Dr 0 v4 es ms ga cg ha ch) := HS.out.below hb16
      have BS_ : Hid (v4.heap[w1.heap.size]? = some (.cells #[.string ⟨#[115]⟩, .int .i64 lo, .int .i64 nx, .slice ga es.length cg, .slice ha ms.length ch] 27 (0, 0))) := bstay BS.out hb16 (Array.getElem?_eq_some_iff.1 BS.out).1
      have HT_ : Hid (Is v4 TE ms sa1 sc1 sb1 sd1) := HT.out.below hb16
      have BT_ : Hid (v4.heap[w2.heap.size]? = some (.cells #[.string ⟨#[115]⟩, .int .i64 TL, .int .i64 nx, .slice sa1 TE.length sc1, .slice sb1 ms.length sd1] 27 (0, 0))) := bstay BT.out hb16 (Array.getElem?_eq_some_iff.1 BT.out).1
      have HW_ : Hid (Is v4 TE ms sa2 sc2 sb2 sd2) := HW.out.below hb16
      have BW_ : Hid (v4.heap[w3.heap.size]? = some (.cells #[.string ⟨#[115]⟩, .int .i64 TL, .int .i64 nx, .slice sa2 TE.length sc2, .slice sb2 ms.length sd2] 27 (0, 0))) := bstay BW.out hb16 (Array.getElem?_eq_some_iff.1 BW.out).1
      have HA_ : Hid (Dr 0 v4 es2 ms2 ga2 cg2 ha2 ch2) := HA.out.below hb16
      have BA_ : Hid (v4.heap[w4.heap.size]? = some (.cells #[.string ⟨#[115]⟩, .int .i64 lo2, .int .i64 nx2, .slice ga2 es2.length cg2, .slice ha2 ms2.length ch2] 27 (0, 0))) := bstay BA.out hb16 (Array.getElem?_eq_some_iff.1 BA.out).1
      have HP_ : Hid (Is v4 PE ms2 sa3 sc3 sb3 sd3) := HP.out.below hb16
      have BB_ : Hid (v4.heap[w5.heap.size]? = some (.cells #[.string ⟨#[115]⟩, .int .i64 lo2, .int .i64 PN, .slice sa3 PE.length sc3, .slice sb3 ms2.length sd3] 27 (0, 0))) := bstay BB.out hb16 (Array.getElem?_eq_some_iff.1 BB.out).1
      have HQ_ : Hid (Is v4 PE ms2 sa4 sc4 sb4 sd4) := HQ.out.below hb16
      have BC_ : Hid (v4.heap[w6.heap.size]? = some (.cells #[.string ⟨#[115]⟩, .int .i64 lo2, .int .i64 PN, .slice sa4 PE.length sc4, .slice sb4 ms2.length sd4] 27 (0, 0))) := bstay BC.out hb16 (Array.getElem?_eq_some_iff.1 BC.out).1
      have HD_ : Hid (Dr 0 v4 es3 ms3 ga3 cg3 ha3 ch3) := HD.out.below hb16
      have BD_ : Hid (v4.heap[w7.heap.size]? = some (.cells #[.string ⟨#[115]⟩, .int .i64 lo3, .int .i64 nx3, .slice ga3 es3.length cg3, .slice ha3 ms3.length ch3] 27 (0, 0))) := bstay BD.out hb16 (Array.getElem?_eq_some_iff.1 BD.out).1
      clear HC HB HZ HS BS HT BT HW BW HA BA HP BB HQ BC HD BD
      have HC := HC_
      have HB := HB_
      have HZ := HZ_
      have HS := HS_
      have BS := BS_
      have HT := HT_
      have BT := BT_
      have HW := HW_
      have BW := BW_
      have HA := HA_
      have BA := BA_
      have HP := HP_
      have BB := BB_
      have HQ := HQ_
      have BC := BC_
      have HD := HD_
      have BD := BD_
      clear HC_ HB_ HZ_ HS_ BS_ HT_ BT_ HW_ BW_ HA_ BA_ HP_ BB_ HQ_ BC_ HD_ BD_
      clear h16 hb16
      by_cases hgo : ob = true ∧ 0 ≤ c
      case' neg =>
        have htn := slw.trim_not (count := c) (oldest := o) (sn := ⟨#[115]⟩) (lo := lo) (nx := nx) (es := es) (ms := ms) (fun h => hgo ⟨HOB.out ▸ h.1, h.2⟩)
        rw [HTE.out.1, HTE.out.2] at htn
        obtain ⟨rfl, rfl⟩ := htn
        have h17 := same (lo := TL) (nx := nx) HT.out (Dr.is HS.out HZ.out) (HSM.out.fit (by omega) sS_small)
        have x0 : v4.cell? ⟨w2.heap.size, 0, none⟩ = some (.string ⟨#[115]⟩) := bcell BT.out rfl
        have x1 : v4.cell? ⟨w2.heap.size, 1, none⟩ = some (.int .i64 TL) := bcell BT.out rfl
        have x2 : v4.cell? ⟨w2.heap.size, 2, none⟩ = some (.int .i64 nx) := bcell BT.out rfl
        have x3 : v4.cell? ⟨w2.heap.size, 3, none⟩ = some (.slice sa1 TE.length sc1) := bcell BT.out rfl
        have x4 : v4.cell? ⟨w2.heap.size, 4, none⟩ = some (.slice sb1 ms.length sd1) := bcell BT.out rfl
        have y0 : v4.cell? ⟨w1.heap.size, 0, none⟩ = some (.string ⟨#[115]⟩) := bcell BS.out rfl
        have y1 : v4.cell? ⟨w1.heap.size, 1, none⟩ = some (.int .i64 TL) := bcell BS.out rfl
        have y2 : v4.cell? ⟨w1.heap.size, 2, none⟩ = some (.int .i64 nx) := bcell BS.out rfl
        have y3 : v4.cell? ⟨w1.heap.size, 3, none⟩ = some (.slice ga TE.length cg) := bcell BS.out rfl
        have y4 : v4.cell? ⟨w1.heap.size, 4, none⟩ = some (.slice ha ms.length ch) := bcell BS.out rfl
        cases ob
        case' true =>
          have hcn : c < 0 := by rcases Int.lt_or_le c 0 with h | h; exact h; exact absurd ⟨rfl, h⟩ hgo
        all_goals
          clear hgo
          go_wp2_with (go_at_call 13; fail)
          refine h17.mono ?_
          rintro e v5 ⟨rfl, hb17⟩
          have HB5 : Hid (Below w.heap.size w v5) := HB.out.trans (Below.mono hb17 (Below.size HB.out))
          clear h17 hb17 HB
          go_wp2
          go_ret
          exact ⟨rfl, HB5.out⟩
      case' pos =>
        obtain ⟨rfl, hc9⟩ := hgo
        have hcn : ¬ c < 0 := by omega
        have HOS : Hid (OkT ⟨#[115]⟩ lo nx es ms) := okB_true.1 HOB.out
        have h17 := t_read (lo := TL) (nx := nx) HT.out (HSMT.out.fit (by omega) sS_small) 0 1000
        have e17 := slw.read_left (oldest := o) HOS.out hc9
        rw [HTE.out.1, HTE.out.2] at e17
        rw [e17] at h17
        clear e17
        have e18 := slw.read_whole (oldest := o) HOS.out hc9
        rw [HTE.out.1, HTE.out.2] at e18
        have HE18 : Hid (srd.read ⟨#[115]⟩ lo nx es ms TL 1000 = TE) := e18
        clear e18
        have x0 : v4.cell? ⟨w2.heap.size, 0, none⟩ = some (.string ⟨#[115]⟩) := bcell BT.out rfl
        have x1 : v4.cell? ⟨w2.heap.size, 1, none⟩ = some (.int .i64 TL) := bcell BT.out rfl
        have x2 : v4.cell? ⟨w2.heap.size, 2, none⟩ = some (.int .i64 nx) := bcell BT.out rfl
        have x3 : v4.cell? ⟨w2.heap.size, 3, none⟩ = some (.slice sa1 TE.length sc1) := bcell BT.out rfl
        have x4 : v4.cell? ⟨w2.heap.size, 4, none⟩ = some (.slice sb1 ms.length sd1) := bcell BT.out rfl
        have y0 : v4.cell? ⟨w1.heap.size, 0, none⟩ = some (.string ⟨#[115]⟩) := bcell BS.out rfl
        have y1 : v4.cell? ⟨w1.heap.size, 1, none⟩ = some (.int .i64 lo) := bcell BS.out rfl
        have y2 : v4.cell? ⟨w1.heap.size, 2, none⟩ = some (.int .i64 nx) := bcell BS.out rfl
        have y3 : v4.cell? ⟨w1.heap.size, 3, none⟩ = some (.slice ga es.length cg) := bcell BS.out rfl
        have y4 : v4.cell? ⟨w1.heap.size, 4, none⟩ = some (.slice ha ms.length ch) := bcell BS.out rfl
        have HE17 : Hid (∀ W : World, Is W TE ms sa1 sc1 sb1 sd1 → Calls Try.prog 17 #[.agg #[.string ⟨#[115]⟩, .int .i64 TL, .int .i64 nx, .slice sa1 TE.length sc1, .slice sb1 ms.length sd1], .int .i64 0, .int .i64 1000] W fun e w' => ∃ a cap, e = .returned (.slice a TE.length cap) ∧ Row flY.c 3 w' w'.heap.size a TE ∧ Below W.heap.size W w') := fun W h => by
          have h9 := t_read (lo := TL) (nx := nx) h (HSMT.out.fit (by omega) sS_small) 0 1000
          have e9 := slw.read_left (oldest := o) HOS.out hc9
          rw [HTE.out.1, HTE.out.2] at e9
          rwa [e9] at h9
        have HE19 : Hid (∀ W : World, Is W es ms ga cg ha ch → Calls Try.prog 17 #[.agg #[.string ⟨#[115]⟩, .int .i64 lo, .int .i64 nx, .slice ga es.length cg, .slice ha ms.length ch], .int .i64 TL, .int .i64 1000] W fun e w' => ∃ a cap, e = .returned (.slice a TE.length cap) ∧ Row flY.c 3 w' w'.heap.size a TE ∧ Below W.heap.size W w') := fun W h => by
          have h9 := t_read (lo := lo) (nx := nx) h (HSM.out.fit (by omega) sS_small) TL 1000
          rwa [HE18.out] at h9
        clear h17 HE18
        clear x0 x1 x2 x3 x4 y0 y1 y2 y3 y4
        have HIS : Hid (Is v4 es ms ga cg ha ch) := Dr.is HS.out HZ.out
        go_wp2
        refine cht.region (σ := G2) (ws := (fun s : G2 => [(165, .agg #[.string ⟨#[115]⟩, .int .i64 TL, .int .i64 nx, .slice sa1 TE.length sc1, .slice sb1 ms.length sd1]), (166, .slice s.a TE.length s.ca), (167, .agg #[.string ⟨#[115]⟩, .int .i64 lo, .int .i64 nx, .slice ga es.length cg, .slice ha ms.length ch]), (168, .pointer (some ⟨w2.heap.size, 1, none⟩)), (169, .int .i64 TL), (170, .slice s.b TE.length s.cb), (20, .slice s.a TE.length s.ca), (21, .slice s.b TE.length s.cb)])) (js := [1, 5]) (S := (fun g k W => Below v4.heap.size v4 W ∧ (1 ≤ k → Row flY.c 3 W W.heap.size g.a TE) ∧ (2 ≤ k → Row flY.c 3 W W.heap.size g.b TE))) [165, 166, 167, 168, 169, 170, 20, 21] ⟨none, 0, none, 0⟩ (by kernel_rfl) (by kernel_rfl) (fun _ => rfl) (by kernel_rfl) (by decide) ⟨(Below.refl _ _).drew, fun h => (by omega), fun h => (by omega)⟩ ?_ ?_
        · refine ⟨cht.quiet 2 rfl (by decide) (.inl rfl) (by simp) (fun s => .agg #[.string ⟨#[115]⟩, .int .i64 TL, .int .i64 nx, .slice sa1 TE.length sc1, .slice sb1 ms.length sd1]) (by rintro s _ ⟨⟩; exact dk.sets_on _ (by simp) _ rfl) (fun s k' W hk' hS => by have hbt := bstay BT.out hS.1 (Array.getElem?_eq_some_iff.1 BT.out).1; have c0 : W.cell? ⟨w2.heap.size, 0, none⟩ = some (.string ⟨#[115]⟩) := bcell hbt rfl; have c1 : W.cell? ⟨w2.heap.size, 1, none⟩ = some (.int .i64 TL) := bcell hbt rfl; have c2 : W.cell? ⟨w2.heap.size, 2, none⟩ = some (.int .i64 nx) := bcell hbt rfl; have c3 : W.cell? ⟨w2.heap.size, 3, none⟩ = some (.slice sa1 TE.length sc1) := bcell hbt rfl; have c4 : W.cell? ⟨w2.heap.size, 4, none⟩ = some (.slice sb1 ms.length sd1) := bcell hbt rfl; simp [execOp, go_sem, Act.eval, dk.sets_get, List.lookup, c0, c1, c2, c3, c4]), ?_⟩
          refine ⟨chd.call 0 [1, 5, 6, 7] [166, 20] (by kernel_rfl) (by kernel_rfl) rfl (by decide) rfl (.inl rfl) (by simp) 17 (fun s => #[.agg #[.string ⟨#[115]⟩, .int .i64 TL, .int .i64 nx, .slice sa1 TE.length sc1, .slice sb1 ms.length sd1], .int .i64 0, .int .i64 1000]) (fun s W hS => by exact ⟨by simp [go_sem, Act.eval, dk.sets_get, List.lookup], (HE17.out W (HT.out.below hS.1)).mono fun e w9 hh => by obtain ⟨a9, c9, rfl, k1, k2⟩ := hh; exact ⟨{ s with a := a9, ca := c9 }, _, rfl, (by simp [chd.But]), (by rintro _ ⟨⟩; exact dk.sets_on _ (by simp) _ rfl), hS.1.trans (k2.mono hS.1.size), fun _ => k1, fun h => (by omega)⟩⟩), ?_⟩
          refine ⟨cht.quiet 2 rfl (by decide) (.inl rfl) (by simp) (fun s => .agg #[.string ⟨#[115]⟩, .int .i64 lo, .int .i64 nx, .slice ga es.length cg, .slice ha ms.length ch]) (by rintro s _ ⟨⟩; exact dk.sets_on _ (by simp) _ rfl) (fun s k' W hk' hS => by have hbs := bstay BS.out hS.1 (Array.getElem?_eq_some_iff.1 BS.out).1; have c0 : W.cell? ⟨w1.heap.size, 0, none⟩ = some (.string ⟨#[115]⟩) := bcell hbs rfl; have c1 : W.cell? ⟨w1.heap.size, 1, none⟩ = some (.int .i64 lo) := bcell hbs rfl; have c2 : W.cell? ⟨w1.heap.size, 2, none⟩ = some (.int .i64 nx) := bcell hbs rfl; have c3 : W.cell? ⟨w1.heap.size, 3, none⟩ = some (.slice ga es.length cg) := bcell hbs rfl; have c4 : W.cell? ⟨w1.heap.size, 4, none⟩ = some (.slice ha ms.length ch) := bcell hbs rfl; simp [execOp, go_sem, Act.eval, dk.sets_get, List.lookup, c0, c1, c2, c3, c4]), ?_⟩
          refine ⟨cht.quiet 2 rfl (by decide) (.inl rfl) (by simp) (fun s => .pointer (some ⟨w2.heap.size, 1, none⟩)) (by rintro s _ ⟨⟩; exact dk.sets_on _ (by simp) _ rfl) (fun s k' W hk' hS => by simp [execOp, go_sem, Act.eval, dk.sets_get, List.lookup]), ?_⟩
          refine ⟨cht.quiet 2 rfl (by decide) (.inl rfl) (by simp) (fun s => .int .i64 TL) (by rintro s _ ⟨⟩; exact dk.sets_on _ (by simp) _ rfl) (fun s k' W hk' hS => by have hbt := bstay BT.out hS.1 (Array.getElem?_eq_some_iff.1 BT.out).1; have c0 : W.cell? ⟨w2.heap.size, 0, none⟩ = some (.string ⟨#[115]⟩) := bcell hbt rfl; have c1 : W.cell? ⟨w2.heap.size, 1, none⟩ = some (.int .i64 TL) := bcell hbt rfl; have c2 : W.cell? ⟨w2.heap.size, 2, none⟩ = some (.int .i64 nx) := bcell hbt rfl; have c3 : W.cell? ⟨w2.heap.size, 3, none⟩ = some (.slice sa1 TE.length sc1) := bcell hbt rfl; have c4 : W.cell? ⟨w2.heap.size, 4, none⟩ = some (.slice sb1 ms.length sd1) := bcell hbt rfl; simp [execOp, go_sem, Act.eval, dk.sets_get, List.lookup, c1]), ?_⟩
          refine ⟨chd.call 1 [5, 6, 7] [170, 21] (by kernel_rfl) (by kernel_rfl) rfl (by decide) rfl (.inr ⟨⟨1, .chain⟩, by simp, rfl, rfl⟩) (by simp) 17 (fun s => #[.agg #[.string ⟨#[115]⟩, .int .i64 lo, .int .i64 nx, .slice ga es.length cg, .slice ha ms.length ch], .int .i64 TL, .int .i64 1000]) (fun s W hS => by exact ⟨by simp [go_sem, Act.eval, dk.sets_get, List.lookup], (HE19.out W (HIS.out.below hS.1)).mono fun e w9 hh => by obtain ⟨a9, c9, rfl, k1, k2⟩ := hh; exact ⟨{ s with b := a9, cb := c9 }, _, rfl, (by simp [chd.But]), (by rintro _ ⟨⟩; exact dk.sets_on _ (by simp) _ rfl), hS.1.trans (k2.mono hS.1.size), fun _ => (hS.2.1 (by omega)).inn k2, fun _ => k1⟩⟩), ?_⟩
          refine ⟨cht.quiet 2 rfl (by decide) (.inl rfl) (by simp) (fun s => .slice s.a TE.length s.ca) (by rintro s _ ⟨⟩; exact dk.sets_on _ (by simp) _ rfl) (fun s k' W hk' hS => by simp [execOp, go_sem, Act.eval, dk.sets_get, List.lookup]), ?_⟩
          exact ⟨cht.quiet 2 rfl (by decide) (.inl rfl) (by simp) (fun s => .slice s.b TE.length s.cb) (by rintro s _ ⟨⟩; exact dk.sets_on _ (by simp) _ rfl) (fun s k' W hk' hS => by simp [execOp, go_sem, Act.eval, dk.sets_get, List.lookup]), trivial⟩
        intro s v5 hS
        obtain ⟨hb5, hr5, hr6⟩ := hS
        have HRA : Hid (Row flY.c 3 v5 v5.heap.size s.a TE) := hr5 (by decide)
        have HRB : Hid (Row flY.c 3 v5 v5.heap.size s.b TE) := hr6 (by decide)
        obtain ⟨la, lca, lb, lcb⟩ := s
        simp only at HRA HRB
        simp only [dk.sets, Act.put, List.setIfInBounds_toArray, List.set_cons_succ, List.set_cons_zero]
        clear hr5 hr6 HIS HE17 HE19
        have HC_ : Hid (dw.Code v5 v5.heap.size a0 len0) := (HC.out.below hb5 (Nat.le_refl _)).mono (Below.size hb5)
        have HB_ : Hid (Below w.heap.size w v5) := HB.out.trans (Below.mono hb5 (Below.size HB.out))
        have HZ_ : Hid (0 < v5.heap.size) := Nat.lt_of_lt_of_le HZ.out (Below.size hb5)
        have HS_ : Hid (Dr 0 v5 es ms ga cg ha ch) := HS.out.below hb5
        have BS_ : Hid (v5.heap[w1.heap.size]? = some (.cells #[.string ⟨#[115]⟩, .int .i64 lo, .int .i64 nx, .slice ga es.length cg, .slice ha ms.length ch] 27 (0, 0))) := bstay BS.out hb5 (Array.getElem?_eq_some_iff.1 BS.out).1
        have HT_ : Hid (Is v5 TE ms sa1 sc1 sb1 sd1) := HT.out.below hb5
        have BT_ : Hid (v5.heap[w2.heap.size]? = some (.cells #[.string ⟨#[115]⟩, .int .i64 TL, .int .i64 nx, .slice sa1 TE.length sc1, .slice sb1 ms.length sd1] 27 (0, 0))) := bstay BT.out hb5 (Array.getElem?_eq_some_iff.1 BT.out).1
        have HW_ : Hid (Is v5 TE ms sa2 sc2 sb2 sd2) := HW.out.below hb5
        have BW_ : Hid (v5.heap[w3.heap.size]? = some (.cells #[.string ⟨#[115]⟩, .int .i64 TL, .int .i64 nx, .slice sa2 TE.length sc2, .slice sb2 ms.length sd2] 27 (0, 0))) := bstay BW.out hb5 (Array.getElem?_eq_some_iff.1 BW.out).1
        have HA_ : Hid (Dr 0 v5 es2 ms2 ga2 cg2 ha2 ch2) := HA.out.below hb5
        have BA_ : Hid (v5.heap[w4.heap.size]? = some (.cells #[.string ⟨#[115]⟩, .int .i64 lo2, .int .i64 nx2, .slice ga2 es2.length cg2, .slice ha2 ms2.length ch2] 27 (0, 0))) := bstay BA.out hb5 (Array.getElem?_eq_some_iff.1 BA.out).1
        have HP_ : Hid (Is v5 PE ms2 sa3 sc3 sb3 sd3) := HP.out.below hb5
        have BB_ : Hid (v5.heap[w5.heap.size]? = some (.cells #[.string ⟨#[115]⟩, .int .i64 lo2, .int .i64 PN, .slice sa3 PE.length sc3, .slice sb3 ms2.length sd3] 27 (0, 0))) := bstay BB.out hb5 (Array.getElem?_eq_some_iff.1 BB.out).1
        have HQ_ : Hid (Is v5 PE ms2 sa4 sc4 sb4 sd4) := HQ.out.below hb5
        have BC_ : Hid (v5.heap[w6.heap.size]? = some (.cells #[.string ⟨#[115]⟩, .int .i64 lo2, .int .i64 PN, .slice sa4 PE.length sc4, .slice sb4 ms2.length sd4] 27 (0, 0))) := bstay BC.out hb5 (Array.getElem?_eq_some_iff.1 BC.out).1
        have HD_ : Hid (Dr 0 v5 es3 ms3 ga3 cg3 ha3 ch3) := HD.out.below hb5
        have BD_ : Hid (v5.heap[w7.heap.size]? = some (.cells #[.string ⟨#[115]⟩, .int .i64 lo3, .int .i64 nx3, .slice ga3 es3.length cg3, .slice ha3 ms3.length ch3] 27 (0, 0))) := bstay BD.out hb5 (Array.getElem?_eq_some_iff.1 BD.out).1
        clear HC HB HZ HS BS HT BT HW BW HA BA HP BB HQ BC HD BD
        have HC := HC_
        have HB := HB_
        have HZ := HZ_
        have HS := HS_
        have BS := BS_
        have HT := HT_
        have BT := BT_
        have HW := HW_
        have BW := BW_
        have HA := HA_
        have BA := BA_
        have HP := HP_
        have BB := BB_
        have HQ := HQ_
        have BC := BC_
        have HD := HD_
        have BD := BD_
        clear HC_ HB_ HZ_ HS_ BS_ HT_ BT_ HW_ BW_ HA_ BA_ HP_ BB_ HQ_ BC_ HD_ BD_
        clear hb5
        have hfew := slw.left_few (oldest := o) HOS.out hc9
        rw [HTE.out.1] at hfew
        have hel9 := HSMT.out.el
        have h20 := t_ok (lo := TL) (nx := nx) HT.out (HSMT.out.more (by omega))
        have e20 := okB_true.2 (slw.trim_ok (oldest := o) HOS.out hc9)
        rw [HTE.out.1, HTE.out.2] at e20
        rw [e20] at h20
        clear e20
        have x0 : v5.cell? ⟨w2.heap.size, 0, none⟩ = some (.string ⟨#[115]⟩) := bcell BT.out rfl
        have x1 : v5.cell? ⟨w2.heap.size, 1, none⟩ = some (.int .i64 TL) := bcell BT.out rfl
        have x2 : v5.cell? ⟨w2.heap.size, 2, none⟩ = some (.int .i64 nx) := bcell BT.out rfl
        have x3 : v5.cell? ⟨w2.heap.size, 3, none⟩ = some (.slice sa1 TE.length sc1) := bcell BT.out rfl
        have x4 : v5.cell? ⟨w2.heap.size, 4, none⟩ = some (.slice sb1 ms.length sd1) := bcell BT.out rfl
        have y0 : v5.cell? ⟨w1.heap.size, 0, none⟩ = some (.string ⟨#[115]⟩) := bcell BS.out rfl
        have y1 : v5.cell? ⟨w1.heap.size, 1, none⟩ = some (.int .i64 lo) := bcell BS.out rfl
        have y2 : v5.cell? ⟨w1.heap.size, 2, none⟩ = some (.int .i64 nx) := bcell BS.out rfl
        have y3 : v5.cell? ⟨w1.heap.size, 3, none⟩ = some (.slice ga es.length cg) := bcell BS.out rfl
        have y4 : v5.cell? ⟨w1.heap.size, 4, none⟩ = some (.slice ha ms.length ch) := bcell BS.out rfl
        go_wp2_with (go_at_call 15; fail)
        refine h20.mono ?_
        rintro e v6 ⟨rfl, hb20⟩
        have HRA6 : Hid (Row flY.c 3 v6 v6.heap.size la TE) := HRA.out.inn hb20
        have HRB6 : Hid (Row flY.c 3 v6 v6.heap.size lb TE) := HRB.out.inn hb20
        have HC_ : Hid (dw.Code v6 v6.heap.size a0 len0) := (HC.out.below hb20 (Nat.le_refl _)).mono (Below.size hb20)
        have HB_ : Hid (Below w.heap.size w v6) := HB.out.trans (Below.mono hb20 (Below.size HB.out))
        have HZ_ : Hid (0 < v6.heap.size) := Nat.lt_of_lt_of_le HZ.out (Below.size hb20)
        have HS_ : Hid (Dr 0 v6 es ms ga cg ha ch) := HS.out.below hb20
        have BS_ : Hid (v6.heap[w1.heap.size]? = some (.cells #[.string ⟨#[115]⟩, .int .i64 lo, .int .i64 nx, .slice ga es.length cg, .slice ha ms.length ch] 27 (0, 0))) := bstay BS.out hb20 (Array.getElem?_eq_some_iff.1 BS.out).1
        have HT_ : Hid (Is v6 TE ms sa1 sc1 sb1 sd1) := HT.out.below hb20
        have BT_ : Hid (v6.heap[w2.heap.size]? = some (.cells #[.string ⟨#[115]⟩, .int .i64 TL, .int .i64 nx, .slice sa1 TE.length sc1, .slice sb1 ms.length sd1] 27 (0, 0))) := bstay BT.out hb20 (Array.getElem?_eq_some_iff.1 BT.out).1
        have HW_ : Hid (Is v6 TE ms sa2 sc2 sb2 sd2) := HW.out.below hb20
        have BW_ : Hid (v6.heap[w3.heap.size]? = some (.cells #[.string ⟨#[115]⟩, .int .i64 TL, .int .i64 nx, .slice sa2 TE.length sc2, .slice sb2 ms.length sd2] 27 (0, 0))) := bstay BW.out hb20 (Array.getElem?_eq_some_iff.1 BW.out).1
        have HA_ : Hid (Dr 0 v6 es2 ms2 ga2 cg2 ha2 ch2) := HA.out.below hb20
        have BA_ : Hid (v6.heap[w4.heap.size]? = some (.cells #[.string ⟨#[115]⟩, .int .i64 lo2, .int .i64 nx2, .slice ga2 es2.length cg2, .slice ha2 ms2.length ch2] 27 (0, 0))) := bstay BA.out hb20 (Array.getElem?_eq_some_iff.1 BA.out).1
        have HP_ : Hid (Is v6 PE ms2 sa3 sc3 sb3 sd3) := HP.out.below hb20
        have BB_ : Hid (v6.heap[w5.heap.size]? = some (.cells #[.string ⟨#[115]⟩, .int .i64 lo2, .int .i64 PN, .slice sa3 PE.length sc3, .slice sb3 ms2.length sd3] 27 (0, 0))) := bstay BB.out hb20 (Array.getElem?_eq_some_iff.1 BB.out).1
        have HQ_ : Hid (Is v6 PE ms2 sa4 sc4 sb4 sd4) := HQ.out.below hb20
        have BC_ : Hid (v6.heap[w6.heap.size]? = some (.cells #[.string ⟨#[115]⟩, .int .i64 lo2, .int .i64 PN, .slice sa4 PE.length sc4, .slice sb4 ms2.length sd4] 27 (0, 0))) := bstay BC.out hb20 (Array.getElem?_eq_some_iff.1 BC.out).1
        have HD_ : Hid (Dr 0 v6 es3 ms3 ga3 cg3 ha3 ch3) := HD.out.below hb20
        have BD_ : Hid (v6.heap[w7.heap.size]? = some (.cells #[.string ⟨#[115]⟩, .int .i64 lo3, .int .i64 nx3, .slice ga3 es3.length cg3, .slice ha3 ms3.length ch3] 27 (0, 0))) := bstay BD.out hb20 (Array.getElem?_eq_some_iff.1 BD.out).1
        clear HC HB HZ HS BS HT BT HW BW HA BA HP BB HQ BC HD BD
        have HC := HC_
        have HB := HB_
        have HZ := HZ_
        have HS := HS_
        have BS := BS_
        have HT := HT_
        have BT := BT_
        have HW := HW_
        have BW := BW_
        have HA := HA_
        have BA := BA_
        have HP := HP_
        have BB := BB_
        have HQ := HQ_
        have BC := BC_
        have HD := HD_
        have BD := BD_
        clear HC_ HB_ HZ_ HS_ BS_ HT_ BT_ HW_ BW_ HA_ BA_ HP_ BB_ HQ_ BC_ HD_ BD_
        clear h20 hb20 HRA HRB x0 x1 x2 x3 x4 y0 y1 y2 y3 y4
        have x0 : v6.cell? ⟨w2.heap.size, 0, none⟩ = some (.string ⟨#[115]⟩) := bcell BT.out rfl
        have x1 : v6.cell? ⟨w2.heap.size, 1, none⟩ = some (.int .i64 TL) := bcell BT.out rfl
        have x2 : v6.cell? ⟨w2.heap.size, 2, none⟩ = some (.int .i64 nx) := bcell BT.out rfl
        have x3 : v6.cell? ⟨w2.heap.size, 3, none⟩ = some (.slice sa1 TE.length sc1) := bcell BT.out rfl
        have x4 : v6.cell? ⟨w2.heap.size, 4, none⟩ = some (.slice sb1 ms.length sd1) := bcell BT.out rfl
        have y0 : v6.cell? ⟨w1.heap.size, 0, none⟩ = some (.string ⟨#[115]⟩) := bcell BS.out rfl
        have y1 : v6.cell? ⟨w1.heap.size, 1, none⟩ = some (.int .i64 lo) := bcell BS.out rfl
        have y2 : v6.cell? ⟨w1.heap.size, 2, none⟩ = some (.int .i64 nx) := bcell BS.out rfl
        have y3 : v6.cell? ⟨w1.heap.size, 3, none⟩ = some (.slice ga es.length cg) := bcell BS.out rfl
        have y4 : v6.cell? ⟨w1.heap.size, 4, none⟩ = some (.slice ha ms.length ch) := bcell BS.out rfl
        go_wp2
        clear x0 x1 x2 x3 x4 y0 y1 y2 y3 y4
        go_loopw [22] (fun x wr => ∃ k : Nat, k ≤ TE.length ∧ x = .int .i64 k ∧ Hid (Below v6.heap.size v6 wr)) (fun x _ => TE.length - (intOf x).toNat)
        case' atStart => exact ⟨0, Nat.zero_le _, rfl, by first | exact Below.refl _ _ | exact (Below.refl _ _).drew | exact st.bdrewN (Below.refl _ _) _⟩
        case' round =>
          obtain ⟨k, hk, rfl, hbr⟩ := hrel
          by_cases hkl : k < TE.length
          · have i2 : (k : Int) < (TE.length : Int) := by omega
            have HG : Hid (TE[k]? = some TE[k]) := List.getElem?_eq_getElem hkl
            obtain ⟨⟨pk, pv, pg⟩, he⟩ : ∃ e, TE[k] = e := ⟨_, rfl⟩
            rw [he] at HG
            have hnew := slw.left_new (count := c) (oldest := o) HOS.out hc9 (by rw [HTE.out.1]; exact HG.out)
            have hnd : decide (pv < o) = false := decide_eq_false (Int.not_lt.2 hnew)
            obtain ⟨g1, o1, rfl, hlt1, hcl1⟩ := HRA6.out.resolve_left (by rintro rfl; simp at hkl)
            obtain ⟨g2, o2, rfl, hlt2, hcl2⟩ := HRB6.out.resolve_left (by rintro rfl; simp at hkl)
            have go1 : ∀ (o : Nat) (v : Value), v6.cell? ⟨g1, o, none⟩ = some v → wr.cell? ⟨g1, o, none⟩ = some v := fun o v hv => (hbr.out.cell (p := ⟨g1, o, none⟩) hlt1).trans hv
            have go2 : ∀ (o : Nat) (v : Value), v6.cell? ⟨g2, o, none⟩ = some v → wr.cell? ⟨g2, o, none⟩ = some v := fun o v hv => (hbr.out.cell (p := ⟨g2, o, none⟩) hlt2).trans hv
            have p0 := go1 _ _ (hcl1 k _ HG.out 0 _ rfl)
            have p1 := go1 _ _ (hcl1 k _ HG.out 1 _ rfl)
            have p2 := go1 _ _ (hcl1 k _ HG.out 2 _ rfl)
            have q0 := go2 _ _ (hcl2 k _ HG.out 0 _ rfl)
            have q1 := go2 _ _ (hcl2 k _ HG.out 1 _ rfl)
            have q2 := go2 _ _ (hcl2 k _ HG.out 2 _ rfl)
            rw [Nat.add_zero] at p0 q0
            have hgd := @eeq.guard_run
            have hrn := eeq.neq_run pk pv pk pv pg pg
            rw [eeq.same_iff.2 rfl] at hrn
            clear he hcl1 hcl2 go1 go2 hnew
            go_wp2
            go_quiet (fail)
            have HBN : Hid (Below v6.heap.size v6 (wr.drewN nq)) := st.bdrewN hbr.out nq
            go_wp2
            go_roundw
            case rel => exact ⟨k + 1, by omega, by go_num, HBN⟩
            case measure => simp [intOf]; omega
          · obtain rfl : k = TE.length := by omega
            have i2 : ¬ (TE.length : Int) < (TE.length : Int) := by omega
            have HBF : Hid (Below w.heap.size w wr) := HB.out.trans (Below.mono hbr.out (Below.size HB.out))
            clear hbr
            go_wp2
            go_ret
            exact ⟨rfl, HBF.out⟩
end Go.Proofs.Ytlfhfcgcfggjcaa.swk
