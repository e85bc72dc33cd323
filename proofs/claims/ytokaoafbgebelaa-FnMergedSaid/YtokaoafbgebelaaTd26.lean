/- FnMerged: at every code a merge and a flush of a drawn table answer as the specification does, change nothing that a scan or a get reads, and make nothing greater; for every input, no condition. -/
import Derived.Test.YtokaoafbgebelaaTd25
import Derived.Test.YtokaoafbgebelaaTd16
import Derived.Test.YtokaoafbgebelaaQuietIn
import Derived.Test.YtokaoafbgebelaaTd20
import Derived.WalkKit
import Derived.ProofKit
import Derived.OpenShut
import Derived.ShutString
import Derived.Below
import Derived.OpenVars

/- FnMerged, walked: what comes on the way is as it is told, at every code. -/
namespace Go.Proofs.Ytokaoafbgebelaa.mdw
open Go.ChangeShapes Go.WideShapes Go.ChangeAt Go.RowKit Go.Proofs.Ytokaoafbgebelaa.fl Go.Proofs.Ytokaoafbgebelaa.fo Go.Proofs.Ytokaoafbgebelaa.dw Go.Proofs.Ytokaoafbgebelaa.rn Go.Proofs.Ytokaoafbgebelaa.rc Go.Proofs.Ytokaoafbgebelaa.ro Go.Proofs.Ytokaoafbgebelaa.tk Go.Proofs.Ytokaoafbgebelaa.tko Go.Proofs.Ytokaoafbgebelaa.tan Go.Proofs.Ytokaoafbgebelaa.ptp Go.Proofs.Ytokaoafbgebelaa.dlt Go.Proofs.Ytokaoafbgebelaa.tgi Go.Proofs.Ytokaoafbgebelaa.sci Go.Proofs.Ytokaoafbgebelaa.ttp Go.Proofs.Ytokaoafbgebelaa.mdt
set_option linter.unusedVariables false

structure G2 where
  a : Option Addr
  ca : Nat
  b : Option Addr
  cb : Nat
theorem scan_max {ys : List flP.Pr} {R : List (List flP.Pr)} (h : Sm 500 ys R) (fr to : ByteArray) : (scan ys R fr to).length ≤ maxLen := by
  have h1 := mdp.scan_len (ys := ys) (R := R) fr to
  have h2 := h.tt
  have h3 : (scan ys R fr to).length ≤ 500 := by omega
  unfold maxLen
  omega
set_option maxRecDepth 100000 in
set_option maxHeartbeats 12000000 in
theorem walk (a0 : Option Addr) (len0 cap0 : Nat) (w : World) (hcode : dw.Code w w.heap.size a0 len0) :
    Calls Try.prog 4 #[.slice a0 len0 cap0] w fun e w' => e = .returned (.bool true) ∧ Below w.heap.size w w' := by
  by_cases hbig : (1048576 : Int) < len0
  · clear hcode
    go_enter Try.func4, Try.ntmps4
    go_wp2
    go_ret
    exact ⟨rfl, Below.refl _ _⟩
  have hlen : len0 ≤ 1048576 := by omega
  have h1 := d_merge a0 len0 cap0 w hlen hcode
  have HC : Hid (dw.Code w w.heap.size a0 len0) := hcode
  clear hcode
  go_enter Try.func4, Try.ntmps4
  go_wp2_with (first | (go_at_call 5; go_in) | (go_at_call 18; fail))
  refine h1.mono ?_
  rintro e w1 ⟨ys, R, ya, yc, ra, rc, xi, rfl, hsm, hdr, hxi, hb1⟩
  have HSM : Hid (Sm 500 ys R) := hsm
  have HC_ : Hid (dw.Code w1 w1.heap.size a0 len0) := (HC.out.below hb1 (Nat.le_refl _)).mono (Below.size hb1)
  clear HC
  have HC := HC_
  clear HC_
  have HB : Hid (Below w.heap.size w w1) := hb1
  have HT : Hid (Dt w1 ys R ya yc ra rc) := hdr
  clear h1 hsm hdr hb1
  have hal : Below w1.heap.size w1 (w1.alloc (.cells #[.slice ya ys.length yc, .slice ra R.length rc] 27)) := (Below.refl _ _).alloc (Nat.le_refl _) _
  have HC_ : Hid (dw.Code (w1.alloc (.cells #[.slice ya ys.length yc, .slice ra R.length rc] 27)) (w1.alloc (.cells #[.slice ya ys.length yc, .slice ra R.length rc] 27)).heap.size a0 len0) := (HC.out.below hal (Nat.le_refl _)).mono (Below.size hal)
  have HB_ : Hid (Below w.heap.size w (w1.alloc (.cells #[.slice ya ys.length yc, .slice ra R.length rc] 27))) := HB.out.trans (Below.mono hal (Below.size HB.out))
  have HT_ : Hid (Dt (w1.alloc (.cells #[.slice ya ys.length yc, .slice ra R.length rc] 27)) ys R ya yc ra rc) := HT.out.below hal
  clear HC HB HT
  have HC := HC_
  have HB := HB_
  have HT := HT_
  clear HC_ HB_ HT_
  have BT : Hid ((w1.alloc (.cells #[.slice ya ys.length yc, .slice ra R.length rc] 27)).heap[w1.heap.size]? = some (.cells #[.slice ya ys.length yc, .slice ra R.length rc] 27 (0, 0))) := bnew w1 _ _
  clear hal
  have h2 := t_merge HT.out.pt HSM.out (by omega) xi ⟨by omega, by omega⟩
  have h3' := fun (W : World) (h : Dt W ys R ya yc ra rc) => s_merge h HSM.out xi ⟨by omega, by omega⟩
  have h4' := fun (W : World) (h : Dt W ys R ya yc ra rc) => t_flush h HSM.out
  have h5' := fun (W : World) (h : Dt W ys R ya yc ra rc) => s_flush h HSM.out
  have HSMM := HSM.out.merge xi
  have HSMF := HSM.out.flush
  have hMC := @mdp.merge_can ys R xi
  have hFC := @mdp.flush_can ys R
  have hMS := @mdp.merge_scan ys R xi ⟨#[]⟩ ⟨#[]⟩
  have hFS := @mdp.flush_scan ys R ⟨#[]⟩ ⟨#[]⟩
  have hMZ := @mdp.merge_size ys R xi
  have hFZ := @mdp.flush_size ys R
  obtain ⟨MR, hMR⟩ : ∃ x, mga.ansR ys R xi = x := ⟨_, rfl⟩
  obtain ⟨mb, hmb⟩ : ∃ x, mga.can ys R xi = x := ⟨_, rfl⟩
  obtain ⟨FY, hFY⟩ : ∃ x, fls.ansY ys R = x := ⟨_, rfl⟩
  obtain ⟨FR, hFR⟩ : ∃ x, fls.ansR ys R = x := ⟨_, rfl⟩
  obtain ⟨fb, hfb⟩ : ∃ x, fls.can ys R = x := ⟨_, rfl⟩
  obtain ⟨AL, hAL⟩ : ∃ x, scan ys R ⟨#[]⟩ ⟨#[]⟩ = x := ⟨_, rfl⟩
  simp only [hMR, hmb, hFY, hFR, hfb, hAL] at h2 h3' h4' h5' HSMM HSMF hMC hFC hMS hFS hMZ hFZ
  have HSMM : Hid (Sm 501 ys MR) := HSMM
  have HSMF : Hid (Sm 501 FY FR) := HSMF
  have HMC : Hid (mb = true → MR.length = R.length - 1 ∧ 2 ≤ R.length ∧ okB ys MR = true) := hMC
  have HFC : Hid (fb = true → FY.length = 0 ∧ okB FY FR = true) := hFC
  have HAL : Hid (scan ys R ⟨#[]⟩ ⟨#[]⟩ = AL ∧ scan ys MR ⟨#[]⟩ ⟨#[]⟩ = AL ∧ scan FY FR ⟨#[]⟩ ⟨#[]⟩ = AL) := ⟨hAL, hMS, hFS⟩
  have HSZ : Hid (tsz.szT ys MR ≤ tsz.szT ys R ∧ tsz.szT FY FR = tsz.szT ys R) := ⟨hMZ, hFZ⟩
  clear hMR hmb hFY hFR hfb hAL hMC hFC hMS hFS hMZ hFZ
  go_wp2_with (go_at_call 19; fail)
  refine h2.mono ?_
  rintro e w2 ⟨ma, mc, mra, mrc, rfl, hi2, hb2⟩
  have HC_ : Hid (dw.Code w2 w2.heap.size a0 len0) := (HC.out.below hb2 (Nat.le_refl _)).mono (Below.size hb2)
  have HB_ : Hid (Below w.heap.size w w2) := HB.out.trans (Below.mono hb2 (Below.size HB.out))
  have HT_ : Hid (Dt w2 ys R ya yc ra rc) := HT.out.below hb2
  have BT_ : Hid (w2.heap[w1.heap.size]? = some (.cells #[.slice ya ys.length yc, .slice ra R.length rc] 27 (0, 0))) := bstay BT.out hb2 (Array.getElem?_eq_some_iff.1 BT.out).1
  clear HC HB HT BT
  have HC := HC_
  have HB := HB_
  have HT := HT_
  have BT := BT_
  clear HC_ HB_ HT_ BT_
  clear h2 hb2 
  have HM : Hid (Pt w2 ys MR ma mc mra mrc) := hi2
  clear hi2
  have hal : Below w2.heap.size w2 (w2.alloc (.cells #[.slice ma ys.length mc, .slice mra MR.length mrc] 27)) := (Below.refl _ _).alloc (Nat.le_refl _) _
  have HC_ : Hid (dw.Code (w2.alloc (.cells #[.slice ma ys.length mc, .slice mra MR.length mrc] 27)) (w2.alloc (.cells #[.slice ma ys.length mc, .slice mra MR.length mrc] 27)).heap.size a0 len0) := (HC.out.below hal (Nat.le_refl _)).mono (Below.size hal)
  have HB_ : Hid (Below w.heap.size w (w2.alloc (.cells #[.slice ma ys.length mc, .slice mra MR.length mrc] 27))) := HB.out.trans (Below.mono hal (Below.size HB.out))
  have HT_ : Hid (Dt (w2.alloc (.cells #[.slice ma ys.length mc, .slice mra MR.length mrc] 27)) ys R ya yc ra rc) := HT.out.below hal
  have BT_ : Hid ((w2.alloc (.cells #[.slice ma ys.length mc, .slice mra MR.length mrc] 27)).heap[w1.heap.size]? = some (.cells #[.slice ya ys.length yc, .slice ra R.length rc] 27 (0, 0))) := bstay BT.out hal (Array.getElem?_eq_some_iff.1 BT.out).1
  have HM_ : Hid (Pt (w2.alloc (.cells #[.slice ma ys.length mc, .slice mra MR.length mrc] 27)) ys MR ma mc mra mrc) := HM.out.below hal
  clear HC HB HT BT HM
  have HC := HC_
  have HB := HB_
  have HT := HT_
  have BT := BT_
  have HM := HM_
  clear HC_ HB_ HT_ BT_ HM_
  have BM : Hid ((w2.alloc (.cells #[.slice ma ys.length mc, .slice mra MR.length mrc] 27)).heap[w2.heap.size]? = some (.cells #[.slice ma ys.length mc, .slice mra MR.length mrc] 27 (0, 0))) := bnew w2 _ _
  clear hal
  have x0 : (w2.alloc (.cells #[.slice ma ys.length mc, .slice mra MR.length mrc] 27)).cell? ⟨w1.heap.size, 0, none⟩ = some (.slice ya ys.length yc) := bcell BT.out rfl
  have x1 : (w2.alloc (.cells #[.slice ma ys.length mc, .slice mra MR.length mrc] 27)).cell? ⟨w1.heap.size, 1, none⟩ = some (.slice ra R.length rc) := bcell BT.out rfl
  have h3 := h3' _ HT.out
  clear h3'
  go_wp2_with (go_at_call 20; fail)
  refine h3.mono ?_
  rintro e w3 ⟨na, nc, nra, nrc, rfl, hi3, hb3⟩
  have HC_ : Hid (dw.Code w3 w3.heap.size a0 len0) := (HC.out.below hb3 (Nat.le_refl _)).mono (Below.size hb3)
  have HB_ : Hid (Below w.heap.size w w3) := HB.out.trans (Below.mono hb3 (Below.size HB.out))
  have HT_ : Hid (Dt w3 ys R ya yc ra rc) := HT.out.below hb3
  have BT_ : Hid (w3.heap[w1.heap.size]? = some (.cells #[.slice ya ys.length yc, .slice ra R.length rc] 27 (0, 0))) := bstay BT.out hb3 (Array.getElem?_eq_some_iff.1 BT.out).1
  have HM_ : Hid (Pt w3 ys MR ma mc mra mrc) := HM.out.below hb3
  have BM_ : Hid (w3.heap[w2.heap.size]? = some (.cells #[.slice ma ys.length mc, .slice mra MR.length mrc] 27 (0, 0))) := bstay BM.out hb3 (Array.getElem?_eq_some_iff.1 BM.out).1
  clear HC HB HT BT HM BM
  have HC := HC_
  have HB := HB_
  have HT := HT_
  have BT := BT_
  have HM := HM_
  have BM := BM_
  clear HC_ HB_ HT_ BT_ HM_ BM_
  clear h3 hb3 x0 x1
  have HN : Hid (Rt w3 ys MR na nra) := hi3
  clear hi3
  have hal : Below w3.heap.size w3 (w3.alloc (.cells #[.slice na ys.length nc, .slice nra MR.length nrc] 27)) := (Below.refl _ _).alloc (Nat.le_refl _) _
  have HC_ : Hid (dw.Code (w3.alloc (.cells #[.slice na ys.length nc, .slice nra MR.length nrc] 27)) (w3.alloc (.cells #[.slice na ys.length nc, .slice nra MR.length nrc] 27)).heap.size a0 len0) := (HC.out.below hal (Nat.le_refl _)).mono (Below.size hal)
  have HB_ : Hid (Below w.heap.size w (w3.alloc (.cells #[.slice na ys.length nc, .slice nra MR.length nrc] 27))) := HB.out.trans (Below.mono hal (Below.size HB.out))
  have HT_ : Hid (Dt (w3.alloc (.cells #[.slice na ys.length nc, .slice nra MR.length nrc] 27)) ys R ya yc ra rc) := HT.out.below hal
  have BT_ : Hid ((w3.alloc (.cells #[.slice na ys.length nc, .slice nra MR.length nrc] 27)).heap[w1.heap.size]? = some (.cells #[.slice ya ys.length yc, .slice ra R.length rc] 27 (0, 0))) := bstay BT.out hal (Array.getElem?_eq_some_iff.1 BT.out).1
  have HM_ : Hid (Pt (w3.alloc (.cells #[.slice na ys.length nc, .slice nra MR.length nrc] 27)) ys MR ma mc mra mrc) := HM.out.below hal
  have BM_ : Hid ((w3.alloc (.cells #[.slice na ys.length nc, .slice nra MR.length nrc] 27)).heap[w2.heap.size]? = some (.cells #[.slice ma ys.length mc, .slice mra MR.length mrc] 27 (0, 0))) := bstay BM.out hal (Array.getElem?_eq_some_iff.1 BM.out).1
  have HN_ : Hid (Rt (w3.alloc (.cells #[.slice na ys.length nc, .slice nra MR.length nrc] 27)) ys MR na nra) := HN.out.below hal
  clear HC HB HT BT HM BM HN
  have HC := HC_
  have HB := HB_
  have HT := HT_
  have BT := BT_
  have HM := HM_
  have BM := BM_
  have HN := HN_
  clear HC_ HB_ HT_ BT_ HM_ BM_ HN_
  have BN : Hid ((w3.alloc (.cells #[.slice na ys.length nc, .slice nra MR.length nrc] 27)).heap[w3.heap.size]? = some (.cells #[.slice na ys.length nc, .slice nra MR.length nrc] 27 (0, 0))) := bnew w3 _ _
  clear hal
  have x0 : (w3.alloc (.cells #[.slice na ys.length nc, .slice nra MR.length nrc] 27)).cell? ⟨w1.heap.size, 0, none⟩ = some (.slice ya ys.length yc) := bcell BT.out rfl
  have x1 : (w3.alloc (.cells #[.slice na ys.length nc, .slice nra MR.length nrc] 27)).cell? ⟨w1.heap.size, 1, none⟩ = some (.slice ra R.length rc) := bcell BT.out rfl
  have h4 := h4' _ HT.out
  clear h4'
  go_wp2_with (go_at_call 21; fail)
  refine h4.mono ?_
  rintro e w4 ⟨fa, fc, fra, frc, rfl, hi4, hb4⟩
  have HC_ : Hid (dw.Code w4 w4.heap.size a0 len0) := (HC.out.below hb4 (Nat.le_refl _)).mono (Below.size hb4)
  have HB_ : Hid (Below w.heap.size w w4) := HB.out.trans (Below.mono hb4 (Below.size HB.out))
  have HT_ : Hid (Dt w4 ys R ya yc ra rc) := HT.out.below hb4
  have BT_ : Hid (w4.heap[w1.heap.size]? = some (.cells #[.slice ya ys.length yc, .slice ra R.length rc] 27 (0, 0))) := bstay BT.out hb4 (Array.getElem?_eq_some_iff.1 BT.out).1
  have HM_ : Hid (Pt w4 ys MR ma mc mra mrc) := HM.out.below hb4
  have BM_ : Hid (w4.heap[w2.heap.size]? = some (.cells #[.slice ma ys.length mc, .slice mra MR.length mrc] 27 (0, 0))) := bstay BM.out hb4 (Array.getElem?_eq_some_iff.1 BM.out).1
  have HN_ : Hid (Rt w4 ys MR na nra) := HN.out.below hb4
  have BN_ : Hid (w4.heap[w3.heap.size]? = some (.cells #[.slice na ys.length nc, .slice nra MR.length nrc] 27 (0, 0))) := bstay BN.out hb4 (Array.getElem?_eq_some_iff.1 BN.out).1
  clear HC HB HT BT HM BM HN BN
  have HC := HC_
  have HB := HB_
  have HT := HT_
  have BT := BT_
  have HM := HM_
  have BM := BM_
  have HN := HN_
  have BN := BN_
  clear HC_ HB_ HT_ BT_ HM_ BM_ HN_ BN_
  clear h4 hb4 x0 x1
  have HF : Hid (Pt w4 FY FR fa fc fra frc) := hi4
  clear hi4
  have hal : Below w4.heap.size w4 (w4.alloc (.cells #[.slice fa FY.length fc, .slice fra FR.length frc] 27)) := (Below.refl _ _).alloc (Nat.le_refl _) _
  have HC_ : Hid (dw.Code (w4.alloc (.cells #[.slice fa FY.length fc, .slice fra FR.length frc] 27)) (w4.alloc (.cells #[.slice fa FY.length fc, .slice fra FR.length frc] 27)).heap.size a0 len0) := (HC.out.below hal (Nat.le_refl _)).mono (Below.size hal)
  have HB_ : Hid (Below w.heap.size w (w4.alloc (.cells #[.slice fa FY.length fc, .slice fra FR.length frc] 27))) := HB.out.trans (Below.mono hal (Below.size HB.out))
  have HT_ : Hid (Dt (w4.alloc (.cells #[.slice fa FY.length fc, .slice fra FR.length frc] 27)) ys R ya yc ra rc) := HT.out.below hal
  have BT_ : Hid ((w4.alloc (.cells #[.slice fa FY.length fc, .slice fra FR.length frc] 27)).heap[w1.heap.size]? = some (.cells #[.slice ya ys.length yc, .slice ra R.length rc] 27 (0, 0))) := bstay BT.out hal (Array.getElem?_eq_some_iff.1 BT.out).1
  have HM_ : Hid (Pt (w4.alloc (.cells #[.slice fa FY.length fc, .slice fra FR.length frc] 27)) ys MR ma mc mra mrc) := HM.out.below hal
  have BM_ : Hid ((w4.alloc (.cells #[.slice fa FY.length fc, .slice fra FR.length frc] 27)).heap[w2.heap.size]? = some (.cells #[.slice ma ys.length mc, .slice mra MR.length mrc] 27 (0, 0))) := bstay BM.out hal (Array.getElem?_eq_some_iff.1 BM.out).1
  have HN_ : Hid (Rt (w4.alloc (.cells #[.slice fa FY.length fc, .slice fra FR.length frc] 27)) ys MR na nra) := HN.out.below hal
  have BN_ : Hid ((w4.alloc (.cells #[.slice fa FY.length fc, .slice fra FR.length frc] 27)).heap[w3.heap.size]? = some (.cells #[.slice na ys.length nc, .slice nra MR.length nrc] 27 (0, 0))) := bstay BN.out hal (Array.getElem?_eq_some_iff.1 BN.out).1
  have HF_ : Hid (Pt (w4.alloc (.cells #[.slice fa FY.length fc, .slice fra FR.length frc] 27)) FY FR fa fc fra frc) := HF.out.below hal
  clear HC HB HT BT HM BM HN BN HF
  have HC := HC_
  have HB := HB_
  have HT := HT_
  have BT := BT_
  have HM := HM_
  have BM := BM_
  have HN := HN_
  have BN := BN_
  have HF := HF_
  clear HC_ HB_ HT_ BT_ HM_ BM_ HN_ BN_ HF_
  have BF : Hid ((w4.alloc (.cells #[.slice fa FY.length fc, .slice fra FR.length frc] 27)).heap[w4.heap.size]? = some (.cells #[.slice fa FY.length fc, .slice fra FR.length frc] 27 (0, 0))) := bnew w4 _ _
  clear hal
  have x0 : (w4.alloc (.cells #[.slice fa FY.length fc, .slice fra FR.length frc] 27)).cell? ⟨w1.heap.size, 0, none⟩ = some (.slice ya ys.length yc) := bcell BT.out rfl
  have x1 : (w4.alloc (.cells #[.slice fa FY.length fc, .slice fra FR.length frc] 27)).cell? ⟨w1.heap.size, 1, none⟩ = some (.slice ra R.length rc) := bcell BT.out rfl
  have h5 := h5' _ HT.out
  clear h5'
  go_wp2_with (go_at_call 22; fail)
  refine h5.mono ?_
  rintro e w5 ⟨ga, gc, gra, grc, rfl, hi5, hb5⟩
  have HC_ : Hid (dw.Code w5 w5.heap.size a0 len0) := (HC.out.below hb5 (Nat.le_refl _)).mono (Below.size hb5)
  have HB_ : Hid (Below w.heap.size w w5) := HB.out.trans (Below.mono hb5 (Below.size HB.out))
  have HT_ : Hid (Dt w5 ys R ya yc ra rc) := HT.out.below hb5
  have BT_ : Hid (w5.heap[w1.heap.size]? = some (.cells #[.slice ya ys.length yc, .slice ra R.length rc] 27 (0, 0))) := bstay BT.out hb5 (Array.getElem?_eq_some_iff.1 BT.out).1
  have HM_ : Hid (Pt w5 ys MR ma mc mra mrc) := HM.out.below hb5
  have BM_ : Hid (w5.heap[w2.heap.size]? = some (.cells #[.slice ma ys.length mc, .slice mra MR.length mrc] 27 (0, 0))) := bstay BM.out hb5 (Array.getElem?_eq_some_iff.1 BM.out).1
  have HN_ : Hid (Rt w5 ys MR na nra) := HN.out.below hb5
  have BN_ : Hid (w5.heap[w3.heap.size]? = some (.cells #[.slice na ys.length nc, .slice nra MR.length nrc] 27 (0, 0))) := bstay BN.out hb5 (Array.getElem?_eq_some_iff.1 BN.out).1
  have HF_ : Hid (Pt w5 FY FR fa fc fra frc) := HF.out.below hb5
  have BF_ : Hid (w5.heap[w4.heap.size]? = some (.cells #[.slice fa FY.length fc, .slice fra FR.length frc] 27 (0, 0))) := bstay BF.out hb5 (Array.getElem?_eq_some_iff.1 BF.out).1
  clear HC HB HT BT HM BM HN BN HF BF
  have HC := HC_
  have HB := HB_
  have HT := HT_
  have BT := BT_
  have HM := HM_
  have BM := BM_
  have HN := HN_
  have BN := BN_
  have HF := HF_
  have BF := BF_
  clear HC_ HB_ HT_ BT_ HM_ BM_ HN_ BN_ HF_ BF_
  clear h5 hb5 x0 x1
  have HG : Hid (Rt w5 FY FR ga gra) := hi5
  clear hi5
  have hal : Below w5.heap.size w5 (w5.alloc (.cells #[.slice ga FY.length gc, .slice gra FR.length grc] 27)) := (Below.refl _ _).alloc (Nat.le_refl _) _
  have HC_ : Hid (dw.Code (w5.alloc (.cells #[.slice ga FY.length gc, .slice gra FR.length grc] 27)) (w5.alloc (.cells #[.slice ga FY.length gc, .slice gra FR.length grc] 27)).heap.size a0 len0) := (HC.out.below hal (Nat.le_refl _)).mono (Below.size hal)
  have HB_ : Hid (Below w.heap.size w (w5.alloc (.cells #[.slice ga FY.length gc, .slice gra FR.length grc] 27))) := HB.out.trans (Below.mono hal (Below.size HB.out))
  have HT_ : Hid (Dt (w5.alloc (.cells #[.slice ga FY.length gc, .slice gra FR.length grc] 27)) ys R ya yc ra rc) := HT.out.below hal
  have BT_ : Hid ((w5.alloc (.cells #[.slice ga FY.length gc, .slice gra FR.length grc] 27)).heap[w1.heap.size]? = some (.cells #[.slice ya ys.length yc, .slice ra R.length rc] 27 (0, 0))) := bstay BT.out hal (Array.getElem?_eq_some_iff.1 BT.out).1
  have HM_ : Hid (Pt (w5.alloc (.cells #[.slice ga FY.length gc, .slice gra FR.length grc] 27)) ys MR ma mc mra mrc) := HM.out.below hal
  have BM_ : Hid ((w5.alloc (.cells #[.slice ga FY.length gc, .slice gra FR.length grc] 27)).heap[w2.heap.size]? = some (.cells #[.slice ma ys.length mc, .slice mra MR.length mrc] 27 (0, 0))) := bstay BM.out hal (Array.getElem?_eq_some_iff.1 BM.out).1
  have HN_ : Hid (Rt (w5.alloc (.cells #[.slice ga FY.length gc, .slice gra FR.length grc] 27)) ys MR na nra) := HN.out.below hal
  have BN_ : Hid ((w5.alloc (.cells #[.slice ga FY.length gc, .slice gra FR.length grc] 27)).heap[w3.heap.size]? = some (.cells #[.slice na ys.length nc, .slice nra MR.length nrc] 27 (0, 0))) := bstay BN.out hal (Array.getElem?_eq_some_iff.1 BN.out).1
  have HF_ : Hid (Pt (w5.alloc (.cells #[.slice ga FY.length gc, .slice gra FR.length grc] 27)) FY FR fa fc fra frc) := HF.out.below hal
  have BF_ : Hid ((w5.alloc (.cells #[.slice ga FY.length gc, .slice gra FR.length grc] 27)).heap[w4.heap.size]? = some (.cells #[.slice fa FY.length fc, .slice fra FR.length frc] 27 (0, 0))) := bstay BF.out hal (Array.getElem?_eq_some_iff.1 BF.out).1
  have HG_ : Hid (Rt (w5.alloc (.cells #[.slice ga FY.length gc, .slice gra FR.length grc] 27)) FY FR ga gra) := HG.out.below hal
  clear HC HB HT BT HM BM HN BN HF BF HG
  have HC := HC_
  have HB := HB_
  have HT := HT_
  have BT := BT_
  have HM := HM_
  have BM := BM_
  have HN := HN_
  have BN := BN_
  have HF := HF_
  have BF := BF_
  have HG := HG_
  clear HC_ HB_ HT_ BT_ HM_ BM_ HN_ BN_ HF_ BF_ HG_
  have BG : Hid ((w5.alloc (.cells #[.slice ga FY.length gc, .slice gra FR.length grc] 27)).heap[w5.heap.size]? = some (.cells #[.slice ga FY.length gc, .slice gra FR.length grc] 27 (0, 0))) := bnew w5 _ _
  clear hal
  have h6 := d_scan a0 len0 cap0 _ hlen HC.out
  go_wp2_with (go_at_call 23; fail)
  refine h6.mono ?_
  rintro e w6 ⟨us, UR, ua, uc, ura, urc, fr, to, rfl, hsm6, hdr6, hb6⟩
  have HC_ : Hid (dw.Code w6 w6.heap.size a0 len0) := (HC.out.below hb6 (Nat.le_refl _)).mono (Below.size hb6)
  have HB_ : Hid (Below w.heap.size w w6) := HB.out.trans (Below.mono hb6 (Below.size HB.out))
  have HT_ : Hid (Dt w6 ys R ya yc ra rc) := HT.out.below hb6
  have BT_ : Hid (w6.heap[w1.heap.size]? = some (.cells #[.slice ya ys.length yc, .slice ra R.length rc] 27 (0, 0))) := bstay BT.out hb6 (Array.getElem?_eq_some_iff.1 BT.out).1
  have HM_ : Hid (Pt w6 ys MR ma mc mra mrc) := HM.out.below hb6
  have BM_ : Hid (w6.heap[w2.heap.size]? = some (.cells #[.slice ma ys.length mc, .slice mra MR.length mrc] 27 (0, 0))) := bstay BM.out hb6 (Array.getElem?_eq_some_iff.1 BM.out).1
  have HN_ : Hid (Rt w6 ys MR na nra) := HN.out.below hb6
  have BN_ : Hid (w6.heap[w3.heap.size]? = some (.cells #[.slice na ys.length nc, .slice nra MR.length nrc] 27 (0, 0))) := bstay BN.out hb6 (Array.getElem?_eq_some_iff.1 BN.out).1
  have HF_ : Hid (Pt w6 FY FR fa fc fra frc) := HF.out.below hb6
  have BF_ : Hid (w6.heap[w4.heap.size]? = some (.cells #[.slice fa FY.length fc, .slice fra FR.length frc] 27 (0, 0))) := bstay BF.out hb6 (Array.getElem?_eq_some_iff.1 BF.out).1
  have HG_ : Hid (Rt w6 FY FR ga gra) := HG.out.below hb6
  have BG_ : Hid (w6.heap[w5.heap.size]? = some (.cells #[.slice ga FY.length gc, .slice gra FR.length grc] 27 (0, 0))) := bstay BG.out hb6 (Array.getElem?_eq_some_iff.1 BG.out).1
  clear HC HB HT BT HM BM HN BN HF BF HG BG
  have HC := HC_
  have HB := HB_
  have HT := HT_
  have BT := BT_
  have HM := HM_
  have BM := BM_
  have HN := HN_
  have BN := BN_
  have HF := HF_
  have BF := BF_
  have HG := HG_
  have BG := BG_
  clear HC_ HB_ HT_ BT_ HM_ BM_ HN_ BN_ HF_ BF_ HG_ BG_
  clear h6 hb6 
  have HU : Hid (Dt w6 us UR ua uc ura urc) := hdr6
  have HSMU : Hid (Sm 500 us UR) := hsm6
  clear hsm6 hdr6
  have hal : Below w6.heap.size w6 (w6.alloc (.cells #[.slice ua us.length uc, .slice ura UR.length urc] 27)) := (Below.refl _ _).alloc (Nat.le_refl _) _
  have HC_ : Hid (dw.Code (w6.alloc (.cells #[.slice ua us.length uc, .slice ura UR.length urc] 27)) (w6.alloc (.cells #[.slice ua us.length uc, .slice ura UR.length urc] 27)).heap.size a0 len0) := (HC.out.below hal (Nat.le_refl _)).mono (Below.size hal)
  have HB_ : Hid (Below w.heap.size w (w6.alloc (.cells #[.slice ua us.length uc, .slice ura UR.length urc] 27))) := HB.out.trans (Below.mono hal (Below.size HB.out))
  have HT_ : Hid (Dt (w6.alloc (.cells #[.slice ua us.length uc, .slice ura UR.length urc] 27)) ys R ya yc ra rc) := HT.out.below hal
  have BT_ : Hid ((w6.alloc (.cells #[.slice ua us.length uc, .slice ura UR.length urc] 27)).heap[w1.heap.size]? = some (.cells #[.slice ya ys.length yc, .slice ra R.length rc] 27 (0, 0))) := bstay BT.out hal (Array.getElem?_eq_some_iff.1 BT.out).1
  have HM_ : Hid (Pt (w6.alloc (.cells #[.slice ua us.length uc, .slice ura UR.length urc] 27)) ys MR ma mc mra mrc) := HM.out.below hal
  have BM_ : Hid ((w6.alloc (.cells #[.slice ua us.length uc, .slice ura UR.length urc] 27)).heap[w2.heap.size]? = some (.cells #[.slice ma ys.length mc, .slice mra MR.length mrc] 27 (0, 0))) := bstay BM.out hal (Array.getElem?_eq_some_iff.1 BM.out).1
  have HN_ : Hid (Rt (w6.alloc (.cells #[.slice ua us.length uc, .slice ura UR.length urc] 27)) ys MR na nra) := HN.out.below hal
  have BN_ : Hid ((w6.alloc (.cells #[.slice ua us.length uc, .slice ura UR.length urc] 27)).heap[w3.heap.size]? = some (.cells #[.slice na ys.length nc, .slice nra MR.length nrc] 27 (0, 0))) := bstay BN.out hal (Array.getElem?_eq_some_iff.1 BN.out).1
  have HF_ : Hid (Pt (w6.alloc (.cells #[.slice ua us.length uc, .slice ura UR.length urc] 27)) FY FR fa fc fra frc) := HF.out.below hal
  have BF_ : Hid ((w6.alloc (.cells #[.slice ua us.length uc, .slice ura UR.length urc] 27)).heap[w4.heap.size]? = some (.cells #[.slice fa FY.length fc, .slice fra FR.length frc] 27 (0, 0))) := bstay BF.out hal (Array.getElem?_eq_some_iff.1 BF.out).1
  have HG_ : Hid (Rt (w6.alloc (.cells #[.slice ua us.length uc, .slice ura UR.length urc] 27)) FY FR ga gra) := HG.out.below hal
  have BG_ : Hid ((w6.alloc (.cells #[.slice ua us.length uc, .slice ura UR.length urc] 27)).heap[w5.heap.size]? = some (.cells #[.slice ga FY.length gc, .slice gra FR.length grc] 27 (0, 0))) := bstay BG.out hal (Array.getElem?_eq_some_iff.1 BG.out).1
  have HU_ : Hid (Dt (w6.alloc (.cells #[.slice ua us.length uc, .slice ura UR.length urc] 27)) us UR ua uc ura urc) := HU.out.below hal
  clear HC HB HT BT HM BM HN BN HF BF HG BG HU
  have HC := HC_
  have HB := HB_
  have HT := HT_
  have BT := BT_
  have HM := HM_
  have BM := BM_
  have HN := HN_
  have BN := BN_
  have HF := HF_
  have BF := BF_
  have HG := HG_
  have BG := BG_
  have HU := HU_
  clear HC_ HB_ HT_ BT_ HM_ BM_ HN_ BN_ HF_ BF_ HG_ BG_ HU_
  have BU : Hid ((w6.alloc (.cells #[.slice ua us.length uc, .slice ura UR.length urc] 27)).heap[w6.heap.size]? = some (.cells #[.slice ua us.length uc, .slice ura UR.length urc] 27 (0, 0))) := bnew w6 _ _
  clear hal
  go_wp2
  obtain ⟨w7, hw7⟩ : ∃ x, (w6.alloc (.cells #[.slice ua us.length uc, .slice ura UR.length urc] 27)) = x := ⟨_, rfl⟩
  rw [hw7] at HC HB HT BT HM BM HN BN HF BF HG BG HU BU ⊢
  clear hw7
  obtain ⟨UL, hUL⟩ : ∃ x, scan us UR fr to = x := ⟨_, rfl⟩
  have HS1 : Hid (∀ W : World, Below w7.heap.size w7 W → Calls Try.prog 11 #[.agg #[.slice ma ys.length mc, .slice mra MR.length mrc], .agg #[.slice na ys.length nc, .slice nra MR.length nrc]] W fun e w' => e = .returned (.bool true) ∧ Below W.heap.size W w') := fun W hW => p_same (HM.out.below hW) (HN.out.below hW) HSMM.out (by omega)
  have HS2 : Hid (∀ W : World, Below w7.heap.size w7 W → Calls Try.prog 11 #[.agg #[.slice fa FY.length fc, .slice fra FR.length frc], .agg #[.slice ga FY.length gc, .slice gra FR.length grc]] W fun e w' => e = .returned (.bool true) ∧ Below W.heap.size W w') := fun W hW => p_same (HF.out.below hW) (HG.out.below hW) HSMF.out (by omega)
  have HS3 : Hid (∀ W : World, Below w7.heap.size w7 W → Calls Try.prog 16 #[.agg #[.slice ua us.length uc, .slice ura UR.length urc], .string fr, .string to] W fun e w' => ∃ a cap, e = .returned (.slice a UL.length cap) ∧ Row flP.c 3 w' w'.heap.size a UL ∧ Below W.heap.size W w') := fun W hW => by
    have h9 := p_scan (HU.out.pt.below hW) HSMU.out (by omega) fr to
    rw [hUL] at h9
    exact h9.mono fun e w' ⟨a, cap, h1, _, h2, h3⟩ => ⟨a, cap, h1, h2, h3⟩
  have HS4 : Hid (∀ W : World, Below w7.heap.size w7 W → Calls Try.prog 25 #[.agg #[.slice ua us.length uc, .slice ura UR.length urc], .string fr, .string to] W fun e w' => ∃ a cap, e = .returned (.slice a UL.length cap) ∧ Row flP.c 3 w' w'.heap.size a UL ∧ Below W.heap.size W w') := fun W hW => by
    have h9 := s_scan (HU.out.below hW) HSMU.out fr to
    rwa [hUL] at h9
  have HUF : Hid (UL.length ≤ maxLen) := by rw [← hUL]; exact scan_max HSMU.out fr to
  have HPA : Hid (∀ (W : World) (a b : Option Addr) (ca cb : Nat), Row flP.c 3 W W.heap.size a UL → Row flP.c 3 W W.heap.size b UL → Calls Try.prog 24 #[.slice a UL.length ca, .slice b UL.length cb] W fun e w' => e = .returned (.bool true) ∧ Below W.heap.size W w') := fun W a b ca cb h h' => by
    have h9 := smp.same_pairs UL UL a b ca cb W HUF.out HUF.out h h'
    rwa [smp.sameL_yes rfl] at h9
  clear hUL
  refine chg.region (σ := G2) (ws := (fun s : G2 => [(62, .bool mb), (63, .bool mb), (64, .bool false), (65, .bool false), (66, .agg #[.slice ma ys.length mc, .slice mra MR.length mrc]), (67, .agg #[.slice na ys.length nc, .slice nra MR.length nrc]), (68, .bool true), (69, .bool false), (70, .bool false), (71, .bool false), (72, .bool fb), (73, .bool fb), (74, .bool false), (75, .bool false), (76, .bool false), (77, .agg #[.slice fa FY.length fc, .slice fra FR.length frc]), (78, .agg #[.slice ga FY.length gc, .slice gra FR.length grc]), (79, .bool true), (80, .bool false), (81, .bool false), (82, .bool false), (83, .agg #[.slice ua us.length uc, .slice ura UR.length urc]), (84, .string fr), (85, .string to), (86, .slice s.a UL.length s.ca), (87, .agg #[.slice ua us.length uc, .slice ura UR.length urc]), (88, .string fr), (89, .string to), (90, .slice s.b UL.length s.cb), (91, .bool true), (92, .bool false), (93, .bool false)])) (js := [6, 9, 14, 17, 20, 24, 28, 29]) (S := (fun g k W => Below w7.heap.size w7 W ∧ (6 ≤ k → Row flP.c 3 W W.heap.size g.a UL) ∧ (7 ≤ k → Row flP.c 3 W W.heap.size g.b UL))) [(65, false), (71, false), (76, false), (82, false)] (by kernel_rfl) (fun s x hx => by simp only [List.mem_cons, List.not_mem_nil, or_false] at hx; rcases hx with rfl | rfl | rfl | rfl <;> exact dk.sets_on _ (by simp) _ rfl) [62, 63, 64, 65, 66, 67, 68, 69, 70, 71, 72, 73, 74, 75, 76, 77, 78, 79, 80, 81, 82, 83, 84, 85, 86, 87, 88, 89, 90, 91, 92, 93] ⟨none, 0, none, 0⟩ (by kernel_rfl) (by kernel_rfl) (fun _ => rfl) (by kernel_rfl) (by decide) ⟨(Below.refl _ _).drew, fun h => (by omega), fun h => (by omega)⟩ ?_ ?_
  · refine ⟨cht.quiet 8 rfl (by decide) (.inl rfl) (by simp) (fun s => .bool mb) (by rintro s _ ⟨⟩; exact dk.sets_on _ (by simp) _ rfl) (fun s k' W hk' hS => by simp [execOp, go_sem, Act.eval, dk.sets_get, List.lookup]), ?_⟩
    refine ⟨cht.quiet 8 rfl (by decide) (.inl rfl) (by simp) (fun s => .bool mb) (by rintro s _ ⟨⟩; exact dk.sets_on _ (by simp) _ rfl) (fun s k' W hk' hS => by simp [execOp, go_sem, Act.eval, dk.sets_get, List.lookup]), ?_⟩
    refine ⟨cht.quiet 8 rfl (by decide) (.inl rfl) (by simp) (fun s => .bool false) (by rintro s _ ⟨⟩; exact dk.sets_on _ (by simp) _ rfl) (fun s k' W hk' hS => by simp [execOp, go_sem, Act.eval, dk.sets_get, List.lookup]), ?_⟩
    refine ⟨cht.quiet 8 rfl (by decide) (.inl rfl) (by simp) (fun s => .bool false) (by rintro s _ ⟨⟩; exact dk.sets_on _ (by simp) _ rfl) (fun s k' W hk' hS => by simp [execOp, go_sem, Act.eval, dk.sets_get, List.lookup]), ?_⟩
    refine ⟨cht.quiet 8 rfl (by decide) (.inl rfl) (by simp) (fun s => .agg #[.slice ma ys.length mc, .slice mra MR.length mrc]) (by rintro s _ ⟨⟩; exact dk.sets_on _ (by simp) _ rfl) (fun s k' W hk' hS => by have hbBM := bstay BM.out hS.1 (Array.getElem?_eq_some_iff.1 BM.out).1; have c0 : W.cell? ⟨w2.heap.size, 0, none⟩ = some (.slice ma ys.length mc) := bcell hbBM rfl; have c1 : W.cell? ⟨w2.heap.size, 1, none⟩ = some (.slice mra MR.length mrc) := bcell hbBM rfl; simp [execOp, go_sem, Act.eval, dk.sets_get, List.lookup, c0, c1]), ?_⟩
    refine ⟨cht.quiet 8 rfl (by decide) (.inl rfl) (by simp) (fun s => .agg #[.slice na ys.length nc, .slice nra MR.length nrc]) (by rintro s _ ⟨⟩; exact dk.sets_on _ (by simp) _ rfl) (fun s k' W hk' hS => by have hbBN := bstay BN.out hS.1 (Array.getElem?_eq_some_iff.1 BN.out).1; have c0 : W.cell? ⟨w3.heap.size, 0, none⟩ = some (.slice na ys.length nc) := bcell hbBN rfl; have c1 : W.cell? ⟨w3.heap.size, 1, none⟩ = some (.slice nra MR.length nrc) := bcell hbBN rfl; simp [execOp, go_sem, Act.eval, dk.sets_get, List.lookup, c0, c1]), ?_⟩
    refine ⟨chd.call 0 [6] [68] (by kernel_rfl) (by kernel_rfl) rfl (by decide) rfl (.inl rfl) (by simp) 11 (fun s => #[.agg #[.slice ma ys.length mc, .slice mra MR.length mrc], .agg #[.slice na ys.length nc, .slice nra MR.length nrc]]) (fun s W hS => by exact ⟨by simp [go_sem, Act.eval, dk.sets_get, List.lookup], (HS1.out W hS.1).mono fun e w9 hh => by obtain ⟨rfl, k2⟩ := hh; exact ⟨s, _, rfl, (by simp [chd.But]), (by rintro _ ⟨⟩; exact dk.sets_on _ (by simp) _ rfl), hS.1.trans (k2.mono hS.1.size), fun h => (by omega), fun h => (by omega)⟩⟩), ?_⟩
    refine ⟨cht.quiet 8 rfl (by decide) (.inl rfl) (by simp) (fun s => .bool false) (by rintro s _ ⟨⟩; exact dk.sets_on _ (by simp) _ rfl) (fun s k' W hk' hS => by simp [execOp, go_sem, Act.eval, dk.sets_get, List.lookup]), ?_⟩
    refine ⟨cht.quiet 8 rfl (by decide) (.inl rfl) (by simp) (fun s => .bool false) (by rintro s _ ⟨⟩; exact dk.sets_on _ (by simp) _ rfl) (fun s k' W hk' hS => by simp [execOp, go_sem, Act.eval, dk.sets_get, List.lookup]), ?_⟩
    refine ⟨chd.eff 1 [9] [71] (by kernel_rfl) (by kernel_rfl) rfl (by decide) rfl (.inr ⟨⟨6, .chain⟩, by simp, rfl, rfl⟩) (by simp) (fun s W hS => by exact ⟨s, .bool false, W, (by simp [chd.But]), (by rintro _ ⟨⟩; exact dk.sets_on _ (by simp) _ rfl), (by simp [execOp, go_sem, Act.eval, dk.sets_get, List.lookup]), hS.1, fun h => (by omega), fun h => (by omega)⟩), ?_⟩
    refine ⟨cht.quiet 8 rfl (by decide) (.inl rfl) (by simp) (fun s => .bool fb) (by rintro s _ ⟨⟩; exact dk.sets_on _ (by simp) _ rfl) (fun s k' W hk' hS => by simp [execOp, go_sem, Act.eval, dk.sets_get, List.lookup]), ?_⟩
    refine ⟨cht.quiet 8 rfl (by decide) (.inl rfl) (by simp) (fun s => .bool fb) (by rintro s _ ⟨⟩; exact dk.sets_on _ (by simp) _ rfl) (fun s k' W hk' hS => by simp [execOp, go_sem, Act.eval, dk.sets_get, List.lookup]), ?_⟩
    refine ⟨cht.quiet 8 rfl (by decide) (.inl rfl) (by simp) (fun s => .bool false) (by rintro s _ ⟨⟩; exact dk.sets_on _ (by simp) _ rfl) (fun s k' W hk' hS => by simp [execOp, go_sem, Act.eval, dk.sets_get, List.lookup]), ?_⟩
    refine ⟨cht.quiet 8 rfl (by decide) (.inl rfl) (by simp) (fun s => .bool false) (by rintro s _ ⟨⟩; exact dk.sets_on _ (by simp) _ rfl) (fun s k' W hk' hS => by simp [execOp, go_sem, Act.eval, dk.sets_get, List.lookup]), ?_⟩
    refine ⟨chd.eff 2 [14] [76] (by kernel_rfl) (by kernel_rfl) rfl (by decide) rfl (.inr ⟨⟨9, .chain⟩, by simp, rfl, rfl⟩) (by simp) (fun s W hS => by exact ⟨s, .bool false, W, (by simp [chd.But]), (by rintro _ ⟨⟩; exact dk.sets_on _ (by simp) _ rfl), (by simp [execOp, go_sem, Act.eval, dk.sets_get, List.lookup]), hS.1, fun h => (by omega), fun h => (by omega)⟩), ?_⟩
    refine ⟨cht.quiet 8 rfl (by decide) (.inl rfl) (by simp) (fun s => .agg #[.slice fa FY.length fc, .slice fra FR.length frc]) (by rintro s _ ⟨⟩; exact dk.sets_on _ (by simp) _ rfl) (fun s k' W hk' hS => by have hbBF := bstay BF.out hS.1 (Array.getElem?_eq_some_iff.1 BF.out).1; have c0 : W.cell? ⟨w4.heap.size, 0, none⟩ = some (.slice fa FY.length fc) := bcell hbBF rfl; have c1 : W.cell? ⟨w4.heap.size, 1, none⟩ = some (.slice fra FR.length frc) := bcell hbBF rfl; simp [execOp, go_sem, Act.eval, dk.sets_get, List.lookup, c0, c1]), ?_⟩
    refine ⟨cht.quiet 8 rfl (by decide) (.inl rfl) (by simp) (fun s => .agg #[.slice ga FY.length gc, .slice gra FR.length grc]) (by rintro s _ ⟨⟩; exact dk.sets_on _ (by simp) _ rfl) (fun s k' W hk' hS => by have hbBG := bstay BG.out hS.1 (Array.getElem?_eq_some_iff.1 BG.out).1; have c0 : W.cell? ⟨w5.heap.size, 0, none⟩ = some (.slice ga FY.length gc) := bcell hbBG rfl; have c1 : W.cell? ⟨w5.heap.size, 1, none⟩ = some (.slice gra FR.length grc) := bcell hbBG rfl; simp [execOp, go_sem, Act.eval, dk.sets_get, List.lookup, c0, c1]), ?_⟩
    refine ⟨chd.call 3 [17] [79] (by kernel_rfl) (by kernel_rfl) rfl (by decide) rfl (.inr ⟨⟨14, .chain⟩, by simp, rfl, rfl⟩) (by simp) 11 (fun s => #[.agg #[.slice fa FY.length fc, .slice fra FR.length frc], .agg #[.slice ga FY.length gc, .slice gra FR.length grc]]) (fun s W hS => by exact ⟨by simp [go_sem, Act.eval, dk.sets_get, List.lookup], (HS2.out W hS.1).mono fun e w9 hh => by obtain ⟨rfl, k2⟩ := hh; exact ⟨s, _, rfl, (by simp [chd.But]), (by rintro _ ⟨⟩; exact dk.sets_on _ (by simp) _ rfl), hS.1.trans (k2.mono hS.1.size), fun h => (by omega), fun h => (by omega)⟩⟩), ?_⟩
    refine ⟨cht.quiet 8 rfl (by decide) (.inl rfl) (by simp) (fun s => .bool false) (by rintro s _ ⟨⟩; exact dk.sets_on _ (by simp) _ rfl) (fun s k' W hk' hS => by simp [execOp, go_sem, Act.eval, dk.sets_get, List.lookup]), ?_⟩
    refine ⟨cht.quiet 8 rfl (by decide) (.inl rfl) (by simp) (fun s => .bool false) (by rintro s _ ⟨⟩; exact dk.sets_on _ (by simp) _ rfl) (fun s k' W hk' hS => by simp [execOp, go_sem, Act.eval, dk.sets_get, List.lookup]), ?_⟩
    refine ⟨chd.eff 4 [20] [82] (by kernel_rfl) (by kernel_rfl) rfl (by decide) rfl (.inr ⟨⟨17, .chain⟩, by simp, rfl, rfl⟩) (by simp) (fun s W hS => by exact ⟨s, .bool false, W, (by simp [chd.But]), (by rintro _ ⟨⟩; exact dk.sets_on _ (by simp) _ rfl), (by simp [execOp, go_sem, Act.eval, dk.sets_get, List.lookup]), hS.1, fun h => (by omega), fun h => (by omega)⟩), ?_⟩
    refine ⟨cht.quiet 8 rfl (by decide) (.inl rfl) (by simp) (fun s => .agg #[.slice ua us.length uc, .slice ura UR.length urc]) (by rintro s _ ⟨⟩; exact dk.sets_on _ (by simp) _ rfl) (fun s k' W hk' hS => by have hbBU := bstay BU.out hS.1 (Array.getElem?_eq_some_iff.1 BU.out).1; have c0 : W.cell? ⟨w6.heap.size, 0, none⟩ = some (.slice ua us.length uc) := bcell hbBU rfl; have c1 : W.cell? ⟨w6.heap.size, 1, none⟩ = some (.slice ura UR.length urc) := bcell hbBU rfl; simp [execOp, go_sem, Act.eval, dk.sets_get, List.lookup, c0, c1]), ?_⟩
    refine ⟨cht.quiet 8 rfl (by decide) (.inl rfl) (by simp) (fun s => .string fr) (by rintro s _ ⟨⟩; exact dk.sets_on _ (by simp) _ rfl) (fun s k' W hk' hS => by simp [execOp, go_sem, Act.eval, dk.sets_get, List.lookup]), ?_⟩
    refine ⟨cht.quiet 8 rfl (by decide) (.inl rfl) (by simp) (fun s => .string to) (by rintro s _ ⟨⟩; exact dk.sets_on _ (by simp) _ rfl) (fun s k' W hk' hS => by simp [execOp, go_sem, Act.eval, dk.sets_get, List.lookup]), ?_⟩
    refine ⟨chd.call 5 [24] [86] (by kernel_rfl) (by kernel_rfl) rfl (by decide) rfl (.inr ⟨⟨20, .chain⟩, by simp, rfl, rfl⟩) (by simp) 16 (fun s => #[.agg #[.slice ua us.length uc, .slice ura UR.length urc], .string fr, .string to]) (fun s W hS => by exact ⟨by simp [go_sem, Act.eval, dk.sets_get, List.lookup], (HS3.out W hS.1).mono fun e w9 hh => by obtain ⟨a9, c9, rfl, k1, k2⟩ := hh; exact ⟨{ s with a := a9, ca := c9 }, _, rfl, (by simp [chd.But]), (by rintro _ ⟨⟩; exact dk.sets_on _ (by simp) _ rfl), hS.1.trans (k2.mono hS.1.size), fun _ => k1, fun h => (by omega)⟩⟩), ?_⟩
    refine ⟨cht.quiet 8 rfl (by decide) (.inl rfl) (by simp) (fun s => .agg #[.slice ua us.length uc, .slice ura UR.length urc]) (by rintro s _ ⟨⟩; exact dk.sets_on _ (by simp) _ rfl) (fun s k' W hk' hS => by have hbBU := bstay BU.out hS.1 (Array.getElem?_eq_some_iff.1 BU.out).1; have c0 : W.cell? ⟨w6.heap.size, 0, none⟩ = some (.slice ua us.length uc) := bcell hbBU rfl; have c1 : W.cell? ⟨w6.heap.size, 1, none⟩ = some (.slice ura UR.length urc) := bcell hbBU rfl; simp [execOp, go_sem, Act.eval, dk.sets_get, List.lookup, c0, c1]), ?_⟩
    refine ⟨cht.quiet 8 rfl (by decide) (.inl rfl) (by simp) (fun s => .string fr) (by rintro s _ ⟨⟩; exact dk.sets_on _ (by simp) _ rfl) (fun s k' W hk' hS => by simp [execOp, go_sem, Act.eval, dk.sets_get, List.lookup]), ?_⟩
    refine ⟨cht.quiet 8 rfl (by decide) (.inl rfl) (by simp) (fun s => .string to) (by rintro s _ ⟨⟩; exact dk.sets_on _ (by simp) _ rfl) (fun s k' W hk' hS => by simp [execOp, go_sem, Act.eval, dk.sets_get, List.lookup]), ?_⟩
    refine ⟨chd.call 6 [28] [90] (by kernel_rfl) (by kernel_rfl) rfl (by decide) rfl (.inr ⟨⟨24, .chain⟩, by simp, rfl, rfl⟩) (by simp) 25 (fun s => #[.agg #[.slice ua us.length uc, .slice ura UR.length urc], .string fr, .string to]) (fun s W hS => by exact ⟨by simp [go_sem, Act.eval, dk.sets_get, List.lookup], (HS4.out W hS.1).mono fun e w9 hh => by obtain ⟨a9, c9, rfl, k1, k2⟩ := hh; exact ⟨{ s with b := a9, cb := c9 }, _, rfl, (by simp [chd.But]), (by rintro _ ⟨⟩; exact dk.sets_on _ (by simp) _ rfl), hS.1.trans (k2.mono hS.1.size), fun _ => (hS.2.1 (by omega)).inn k2, fun _ => k1⟩⟩), ?_⟩
    refine ⟨chd.call 7 [29] [91] (by kernel_rfl) (by kernel_rfl) rfl (by decide) rfl (.inr ⟨⟨28, .chain⟩, by simp, rfl, rfl⟩) (by simp) 24 (fun s => #[.slice s.a UL.length s.ca, .slice s.b UL.length s.cb]) (fun s W hS => by exact ⟨by simp [go_sem, Act.eval, dk.sets_get, List.lookup], (HPA.out W s.a s.b s.ca s.cb (hS.2.1 (by omega)) (hS.2.2 (by omega))).mono fun e w9 hh => by obtain ⟨rfl, k2⟩ := hh; exact ⟨s, _, rfl, (by simp [chd.But]), (by rintro _ ⟨⟩; exact dk.sets_on _ (by simp) _ rfl), hS.1.trans (k2.mono hS.1.size), fun _ => (hS.2.1 (by omega)).inn k2, fun _ => (hS.2.2 (by omega)).inn k2⟩⟩), ?_⟩
    refine ⟨cht.quiet 8 rfl (by decide) (.inl rfl) (by simp) (fun s => .bool false) (by rintro s _ ⟨⟩; exact dk.sets_on _ (by simp) _ rfl) (fun s k' W hk' hS => by simp [execOp, go_sem, Act.eval, dk.sets_get, List.lookup]), ?_⟩
    exact ⟨cht.quiet 8 rfl (by decide) (.inl rfl) (by simp) (fun s => .bool false) (by rintro s _ ⟨⟩; exact dk.sets_on _ (by simp) _ rfl) (fun s k' W hk' hS => by simp [execOp, go_sem, Act.eval, dk.sets_get, List.lookup]), trivial⟩
  intro s v1 hS
  obtain ⟨hb7, hx1, hx2⟩ := hS
  clear hx1 hx2
  obtain ⟨ga1, ga2, ga3, ga4⟩ := s
  simp only [dk.sets, Act.put, List.setIfInBounds_toArray, List.set_cons_succ, List.set_cons_zero]
  clear HS1 HS2 HS3 HS4 HUF HPA
  have HC_ : Hid (dw.Code v1 v1.heap.size a0 len0) := (HC.out.below hb7 (Nat.le_refl _)).mono (Below.size hb7)
  have HB_ : Hid (Below w.heap.size w v1) := HB.out.trans (Below.mono hb7 (Below.size HB.out))
  have HT_ : Hid (Dt v1 ys R ya yc ra rc) := HT.out.below hb7
  have BT_ : Hid (v1.heap[w1.heap.size]? = some (.cells #[.slice ya ys.length yc, .slice ra R.length rc] 27 (0, 0))) := bstay BT.out hb7 (Array.getElem?_eq_some_iff.1 BT.out).1
  have HM_ : Hid (Pt v1 ys MR ma mc mra mrc) := HM.out.below hb7
  have BM_ : Hid (v1.heap[w2.heap.size]? = some (.cells #[.slice ma ys.length mc, .slice mra MR.length mrc] 27 (0, 0))) := bstay BM.out hb7 (Array.getElem?_eq_some_iff.1 BM.out).1
  have HN_ : Hid (Rt v1 ys MR na nra) := HN.out.below hb7
  have BN_ : Hid (v1.heap[w3.heap.size]? = some (.cells #[.slice na ys.length nc, .slice nra MR.length nrc] 27 (0, 0))) := bstay BN.out hb7 (Array.getElem?_eq_some_iff.1 BN.out).1
  have HF_ : Hid (Pt v1 FY FR fa fc fra frc) := HF.out.below hb7
  have BF_ : Hid (v1.heap[w4.heap.size]? = some (.cells #[.slice fa FY.length fc, .slice fra FR.length frc] 27 (0, 0))) := bstay BF.out hb7 (Array.getElem?_eq_some_iff.1 BF.out).1
  have HG_ : Hid (Rt v1 FY FR ga gra) := HG.out.below hb7
  have BG_ : Hid (v1.heap[w5.heap.size]? = some (.cells #[.slice ga FY.length gc, .slice gra FR.length grc] 27 (0, 0))) := bstay BG.out hb7 (Array.getElem?_eq_some_iff.1 BG.out).1
  have HU_ : Hid (Dt v1 us UR ua uc ura urc) := HU.out.below hb7
  have BU_ : Hid (v1.heap[w6.heap.size]? = some (.cells #[.slice ua us.length uc, .slice ura UR.length urc] 27 (0, 0))) := bstay BU.out hb7 (Array.getElem?_eq_some_iff.1 BU.out).1
  clear HC HB HT BT HM BM HN BN HF BF HG BG HU BU
  have HC := HC_
  have HB := HB_
  have HT := HT_
  have BT := BT_
  have HM := HM_
  have BM := BM_
  have HN := HN_
  have BN := BN_
  have HF := HF_
  have BF := BF_
  have HG := HG_
  have BG := BG_
  have HU := HU_
  have BU := BU_
  clear HC_ HB_ HT_ BT_ HM_ BM_ HN_ BN_ HF_ BF_ HG_ BG_ HU_ BU_
  clear hb7
  have x0 : v1.cell? ⟨w1.heap.size, 0, none⟩ = some (.slice ya ys.length yc) := bcell BT.out rfl
  have x1 : v1.cell? ⟨w1.heap.size, 1, none⟩ = some (.slice ra R.length rc) := bcell BT.out rfl
  have h8 := p_scan HT.out.pt HSM.out (by omega) ⟨#[]⟩ ⟨#[]⟩
  rw [HAL.out.1] at h8
  go_wp2_with (go_at_call 16; fail)
  refine h8.mono ?_
  rintro e v2 ⟨la, lca, rfl, hl8, hr8, hb8⟩
  have HC_ : Hid (dw.Code v2 v2.heap.size a0 len0) := (HC.out.below hb8 (Nat.le_refl _)).mono (Below.size hb8)
  have HB_ : Hid (Below w.heap.size w v2) := HB.out.trans (Below.mono hb8 (Below.size HB.out))
  have HT_ : Hid (Dt v2 ys R ya yc ra rc) := HT.out.below hb8
  have BT_ : Hid (v2.heap[w1.heap.size]? = some (.cells #[.slice ya ys.length yc, .slice ra R.length rc] 27 (0, 0))) := bstay BT.out hb8 (Array.getElem?_eq_some_iff.1 BT.out).1
  have HM_ : Hid (Pt v2 ys MR ma mc mra mrc) := HM.out.below hb8
  have BM_ : Hid (v2.heap[w2.heap.size]? = some (.cells #[.slice ma ys.length mc, .slice mra MR.length mrc] 27 (0, 0))) := bstay BM.out hb8 (Array.getElem?_eq_some_iff.1 BM.out).1
  have HN_ : Hid (Rt v2 ys MR na nra) := HN.out.below hb8
  have BN_ : Hid (v2.heap[w3.heap.size]? = some (.cells #[.slice na ys.length nc, .slice nra MR.length nrc] 27 (0, 0))) := bstay BN.out hb8 (Array.getElem?_eq_some_iff.1 BN.out).1
  have HF_ : Hid (Pt v2 FY FR fa fc fra frc) := HF.out.below hb8
  have BF_ : Hid (v2.heap[w4.heap.size]? = some (.cells #[.slice fa FY.length fc, .slice fra FR.length frc] 27 (0, 0))) := bstay BF.out hb8 (Array.getElem?_eq_some_iff.1 BF.out).1
  have HG_ : Hid (Rt v2 FY FR ga gra) := HG.out.below hb8
  have BG_ : Hid (v2.heap[w5.heap.size]? = some (.cells #[.slice ga FY.length gc, .slice gra FR.length grc] 27 (0, 0))) := bstay BG.out hb8 (Array.getElem?_eq_some_iff.1 BG.out).1
  have HU_ : Hid (Dt v2 us UR ua uc ura urc) := HU.out.below hb8
  have BU_ : Hid (v2.heap[w6.heap.size]? = some (.cells #[.slice ua us.length uc, .slice ura UR.length urc] 27 (0, 0))) := bstay BU.out hb8 (Array.getElem?_eq_some_iff.1 BU.out).1
  clear HC HB HT BT HM BM HN BN HF BF HG BG HU BU
  have HC := HC_
  have HB := HB_
  have HT := HT_
  have BT := BT_
  have HM := HM_
  have BM := BM_
  have HN := HN_
  have BN := BN_
  have HF := HF_
  have BF := BF_
  have HG := HG_
  have BG := BG_
  have HU := HU_
  have BU := BU_
  clear HC_ HB_ HT_ BT_ HM_ BM_ HN_ BN_ HF_ BF_ HG_ BG_ HU_ BU_
  clear h8 hb8 x0 x1
  have HRA : Hid (Row flP.c 3 v2 v2.heap.size la AL) := hr8
  clear hr8
  go_wp2
  obtain ⟨v3, hv3⟩ : ∃ v, v = v2 := ⟨_, rfl⟩
  have hv4 := hv3
  have HAF : Hid (AL.length ≤ maxLen) := by show AL.length ≤ maxLen; unfold maxLen; omega
  obtain ⟨st, hst⟩ : ∃ x, tsz.szT ys R = x := ⟨_, rfl⟩
  obtain ⟨sm, hsm⟩ : ∃ x, tsz.szT ys MR = x := ⟨_, rfl⟩
  have HQ : Hid (sm ≤ st ∧ tsz.szT FY FR = st) := by have := HSZ.out; rwa [hst, hsm] at this
  clear hv3 hv4 v3 hl8
  have HS1 : Hid (∀ W : World, Below v2.heap.size v2 W → Calls Try.prog 16 #[.agg #[.slice ma ys.length mc, .slice mra MR.length mrc], .string ⟨#[]⟩, .string ⟨#[]⟩] W fun e w' => ∃ a cap, e = .returned (.slice a AL.length cap) ∧ Row flP.c 3 w' w'.heap.size a AL ∧ Below W.heap.size W w') := fun W hW => by
    have h9 := p_scan (HM.out.below hW) HSMM.out (by omega) ⟨#[]⟩ ⟨#[]⟩
    rw [HAL.out.2.1] at h9
    exact h9.mono fun e w' ⟨a, cap, h1, _, h2, h3⟩ => ⟨a, cap, h1, h2, h3⟩
  have HS2 : Hid (∀ W : World, Below v2.heap.size v2 W → Calls Try.prog 16 #[.agg #[.slice fa FY.length fc, .slice fra FR.length frc], .string ⟨#[]⟩, .string ⟨#[]⟩] W fun e w' => ∃ a cap, e = .returned (.slice a AL.length cap) ∧ Row flP.c 3 w' w'.heap.size a AL ∧ Below W.heap.size W w') := fun W hW => by
    have h9 := p_scan (HF.out.below hW) HSMF.out (by omega) ⟨#[]⟩ ⟨#[]⟩
    rw [HAL.out.2.2] at h9
    exact h9.mono fun e w' ⟨a, cap, h1, _, h2, h3⟩ => ⟨a, cap, h1, h2, h3⟩
  have HPA : Hid (∀ (W : World) (a b : Option Addr) (ca cb : Nat), Row flP.c 3 W W.heap.size a AL → Row flP.c 3 W W.heap.size b AL → Calls Try.prog 24 #[.slice a AL.length ca, .slice b AL.length cb] W fun e w' => e = .returned (.bool true) ∧ Below W.heap.size W w') := fun W a b ca cb h h' => by
    have h9 := smp.same_pairs AL AL a b ca cb W HAF.out HAF.out h h'
    rwa [smp.sameL_yes rfl] at h9
  have HZ1 : Hid (∀ W : World, Below v2.heap.size v2 W → Calls Try.prog 14 #[.agg #[.slice ma ys.length mc, .slice mra MR.length mrc]] W fun e w' => e = .returned (.int .i64 sm) ∧ Below W.heap.size W w') := fun W hW => by
    have h9 := p_size (HM.out.below hW) HSMM.out (by omega)
    rwa [hsm] at h9
  have HZ2 : Hid (∀ W : World, Below v2.heap.size v2 W → Calls Try.prog 14 #[.agg #[.slice ya ys.length yc, .slice ra R.length rc]] W fun e w' => e = .returned (.int .i64 st) ∧ Below W.heap.size W w') := fun W hW => by
    have h9 := p_size (HT.out.pt.below hW) HSM.out (by omega)
    rwa [hst] at h9
  have HZ3 : Hid (∀ W : World, Below v2.heap.size v2 W → Calls Try.prog 14 #[.agg #[.slice fa FY.length fc, .slice fra FR.length frc]] W fun e w' => e = .returned (.int .i64 st) ∧ Below W.heap.size W w') := fun W hW => by
    have h9 := p_size (HF.out.below hW) HSMF.out (by omega)
    rwa [HQ.out.2] at h9
  have q1 : ¬ ((st : Int) < (sm : Int)) := by have := HQ.out.1; omega
  clear hst hsm
  refine chg.region (σ := G2) (ws := (fun s : G2 => [(96, .agg #[.slice ma ys.length mc, .slice mra MR.length mrc]), (97, .slice s.a AL.length s.ca), (98, .slice la AL.length lca), (99, .bool true), (100, .bool false), (101, .bool false), (102, .agg #[.slice fa FY.length fc, .slice fra FR.length frc]), (103, .slice s.b AL.length s.cb), (104, .slice la AL.length lca), (105, .bool true), (106, .bool false), (107, .bool false), (108, .bool false), (109, .agg #[.slice ma ys.length mc, .slice mra MR.length mrc]), (110, .int .i64 sm), (111, .agg #[.slice ya ys.length yc, .slice ra R.length rc]), (112, .int .i64 st), (113, .bool false), (114, .bool false), (115, .bool false), (116, .agg #[.slice fa FY.length fc, .slice fra FR.length frc]), (117, .int .i64 st), (118, .agg #[.slice ya ys.length yc, .slice ra R.length rc]), (119, .int .i64 st), (120, .bool false), (121, .bool false)])) (js := [1, 3, 5, 7, 9, 12, 14, 16, 19, 21, 23]) (S := (fun g k W => Below v2.heap.size v2 W ∧ (1 ≤ k → Row flP.c 3 W W.heap.size g.a AL) ∧ (4 ≤ k → Row flP.c 3 W W.heap.size g.b AL))) [(101, false), (108, false), (115, false)] (by kernel_rfl) (fun s x hx => by simp only [List.mem_cons, List.not_mem_nil, or_false] at hx; rcases hx with rfl | rfl | rfl <;> exact dk.sets_on _ (by simp) _ rfl) [96, 97, 98, 99, 100, 101, 102, 103, 104, 105, 106, 107, 108, 109, 110, 111, 112, 113, 114, 115, 116, 117, 118, 119, 120, 121] ⟨none, 0, none, 0⟩ (by kernel_rfl) (by kernel_rfl) (fun _ => rfl) (by kernel_rfl) (by decide) ⟨(Below.refl _ _).drew, fun h => (by omega), fun h => (by omega)⟩ ?_ ?_
  · refine ⟨cht.quiet 11 rfl (by decide) (.inl rfl) (by simp) (fun s => .agg #[.slice ma ys.length mc, .slice mra MR.length mrc]) (by rintro s _ ⟨⟩; exact dk.sets_on _ (by simp) _ rfl) (fun s k' W hk' hS => by have hbBM := bstay BM.out hS.1 (Array.getElem?_eq_some_iff.1 BM.out).1; have c0 : W.cell? ⟨w2.heap.size, 0, none⟩ = some (.slice ma ys.length mc) := bcell hbBM rfl; have c1 : W.cell? ⟨w2.heap.size, 1, none⟩ = some (.slice mra MR.length mrc) := bcell hbBM rfl; simp [execOp, go_sem, Act.eval, dk.sets_get, List.lookup, c0, c1]), ?_⟩
    refine ⟨chd.call 0 [1] [97] (by kernel_rfl) (by kernel_rfl) rfl (by decide) rfl (.inl rfl) (by simp) 16 (fun s => #[.agg #[.slice ma ys.length mc, .slice mra MR.length mrc], .string ⟨#[]⟩, .string ⟨#[]⟩]) (fun s W hS => by exact ⟨by simp [go_sem, Act.eval, dk.sets_get, List.lookup], (HS1.out W hS.1).mono fun e w9 hh => by obtain ⟨a9, c9, rfl, k1, k2⟩ := hh; exact ⟨{ s with a := a9, ca := c9 }, _, rfl, (by simp [chd.But]), (by rintro _ ⟨⟩; exact dk.sets_on _ (by simp) _ rfl), hS.1.trans (k2.mono hS.1.size), fun _ => k1, fun h => (by omega)⟩⟩), ?_⟩
    refine ⟨cht.quiet 11 rfl (by decide) (.inl rfl) (by simp) (fun s => .slice la AL.length lca) (by rintro s _ ⟨⟩; exact dk.sets_on _ (by simp) _ rfl) (fun s k' W hk' hS => by simp [execOp, go_sem, Act.eval, dk.sets_get, List.lookup]), ?_⟩
    refine ⟨chd.call 1 [3] [99] (by kernel_rfl) (by kernel_rfl) rfl (by decide) rfl (.inr ⟨⟨1, .chain⟩, by simp, rfl, rfl⟩) (by simp) 24 (fun s => #[.slice s.a AL.length s.ca, .slice la AL.length lca]) (fun s W hS => by exact ⟨by simp [go_sem, Act.eval, dk.sets_get, List.lookup], (HPA.out W s.a la s.ca lca (hS.2.1 (by omega)) (HRA.out.inn hS.1)).mono fun e w9 hh => by obtain ⟨rfl, k2⟩ := hh; exact ⟨s, _, rfl, (by simp [chd.But]), (by rintro _ ⟨⟩; exact dk.sets_on _ (by simp) _ rfl), hS.1.trans (k2.mono hS.1.size), fun _ => (hS.2.1 (by omega)).inn k2, fun h => (by omega)⟩⟩), ?_⟩
    refine ⟨cht.quiet 11 rfl (by decide) (.inl rfl) (by simp) (fun s => .bool false) (by rintro s _ ⟨⟩; exact dk.sets_on _ (by simp) _ rfl) (fun s k' W hk' hS => by simp [execOp, go_sem, Act.eval, dk.sets_get, List.lookup]), ?_⟩
    refine ⟨chd.eff 2 [5] [101] (by kernel_rfl) (by kernel_rfl) rfl (by decide) rfl (.inr ⟨⟨3, .chain⟩, by simp, rfl, rfl⟩) (by simp) (fun s W hS => by exact ⟨s, .bool false, W, (by simp [chd.But]), (by rintro _ ⟨⟩; exact dk.sets_on _ (by simp) _ rfl), (by simp [execOp, go_sem, Act.eval, dk.sets_get, List.lookup]), hS.1, fun _ => hS.2.1 (by omega), fun h => (by omega)⟩), ?_⟩
    refine ⟨cht.quiet 11 rfl (by decide) (.inl rfl) (by simp) (fun s => .agg #[.slice fa FY.length fc, .slice fra FR.length frc]) (by rintro s _ ⟨⟩; exact dk.sets_on _ (by simp) _ rfl) (fun s k' W hk' hS => by have hbBF := bstay BF.out hS.1 (Array.getElem?_eq_some_iff.1 BF.out).1; have c0 : W.cell? ⟨w4.heap.size, 0, none⟩ = some (.slice fa FY.length fc) := bcell hbBF rfl; have c1 : W.cell? ⟨w4.heap.size, 1, none⟩ = some (.slice fra FR.length frc) := bcell hbBF rfl; simp [execOp, go_sem, Act.eval, dk.sets_get, List.lookup, c0, c1]), ?_⟩
    refine ⟨chd.call 3 [7] [103] (by kernel_rfl) (by kernel_rfl) rfl (by decide) rfl (.inr ⟨⟨5, .chain⟩, by simp, rfl, rfl⟩) (by simp) 16 (fun s => #[.agg #[.slice fa FY.length fc, .slice fra FR.length frc], .string ⟨#[]⟩, .string ⟨#[]⟩]) (fun s W hS => by exact ⟨by simp [go_sem, Act.eval, dk.sets_get, List.lookup], (HS2.out W hS.1).mono fun e w9 hh => by obtain ⟨a9, c9, rfl, k1, k2⟩ := hh; exact ⟨{ s with b := a9, cb := c9 }, _, rfl, (by simp [chd.But]), (by rintro _ ⟨⟩; exact dk.sets_on _ (by simp) _ rfl), hS.1.trans (k2.mono hS.1.size), fun _ => (hS.2.1 (by omega)).inn k2, fun _ => k1⟩⟩), ?_⟩
    refine ⟨cht.quiet 11 rfl (by decide) (.inl rfl) (by simp) (fun s => .slice la AL.length lca) (by rintro s _ ⟨⟩; exact dk.sets_on _ (by simp) _ rfl) (fun s k' W hk' hS => by simp [execOp, go_sem, Act.eval, dk.sets_get, List.lookup]), ?_⟩
    refine ⟨chd.call 4 [9] [105] (by kernel_rfl) (by kernel_rfl) rfl (by decide) rfl (.inr ⟨⟨7, .chain⟩, by simp, rfl, rfl⟩) (by simp) 24 (fun s => #[.slice s.b AL.length s.cb, .slice la AL.length lca]) (fun s W hS => by exact ⟨by simp [go_sem, Act.eval, dk.sets_get, List.lookup], (HPA.out W s.b la s.cb lca (hS.2.2 (by omega)) (HRA.out.inn hS.1)).mono fun e w9 hh => by obtain ⟨rfl, k2⟩ := hh; exact ⟨s, _, rfl, (by simp [chd.But]), (by rintro _ ⟨⟩; exact dk.sets_on _ (by simp) _ rfl), hS.1.trans (k2.mono hS.1.size), fun _ => (hS.2.1 (by omega)).inn k2, fun _ => (hS.2.2 (by omega)).inn k2⟩⟩), ?_⟩
    refine ⟨cht.quiet 11 rfl (by decide) (.inl rfl) (by simp) (fun s => .bool false) (by rintro s _ ⟨⟩; exact dk.sets_on _ (by simp) _ rfl) (fun s k' W hk' hS => by simp [execOp, go_sem, Act.eval, dk.sets_get, List.lookup]), ?_⟩
    refine ⟨cht.quiet 11 rfl (by decide) (.inl rfl) (by simp) (fun s => .bool false) (by rintro s _ ⟨⟩; exact dk.sets_on _ (by simp) _ rfl) (fun s k' W hk' hS => by simp [execOp, go_sem, Act.eval, dk.sets_get, List.lookup]), ?_⟩
    refine ⟨chd.eff 5 [12] [108] (by kernel_rfl) (by kernel_rfl) rfl (by decide) rfl (.inr ⟨⟨9, .chain⟩, by simp, rfl, rfl⟩) (by simp) (fun s W hS => by exact ⟨s, .bool false, W, (by simp [chd.But]), (by rintro _ ⟨⟩; exact dk.sets_on _ (by simp) _ rfl), (by simp [execOp, go_sem, Act.eval, dk.sets_get, List.lookup]), hS.1, fun _ => hS.2.1 (by omega), fun _ => hS.2.2 (by omega)⟩), ?_⟩
    refine ⟨cht.quiet 11 rfl (by decide) (.inl rfl) (by simp) (fun s => .agg #[.slice ma ys.length mc, .slice mra MR.length mrc]) (by rintro s _ ⟨⟩; exact dk.sets_on _ (by simp) _ rfl) (fun s k' W hk' hS => by have hbBM := bstay BM.out hS.1 (Array.getElem?_eq_some_iff.1 BM.out).1; have c0 : W.cell? ⟨w2.heap.size, 0, none⟩ = some (.slice ma ys.length mc) := bcell hbBM rfl; have c1 : W.cell? ⟨w2.heap.size, 1, none⟩ = some (.slice mra MR.length mrc) := bcell hbBM rfl; simp [execOp, go_sem, Act.eval, dk.sets_get, List.lookup, c0, c1]), ?_⟩
    refine ⟨chd.call 6 [14] [110] (by kernel_rfl) (by kernel_rfl) rfl (by decide) rfl (.inr ⟨⟨12, .chain⟩, by simp, rfl, rfl⟩) (by simp) 14 (fun s => #[.agg #[.slice ma ys.length mc, .slice mra MR.length mrc]]) (fun s W hS => by exact ⟨by simp [go_sem, Act.eval, dk.sets_get, List.lookup], (HZ1.out W hS.1).mono fun e w9 hh => by obtain ⟨rfl, k2⟩ := hh; exact ⟨s, _, rfl, (by simp [chd.But]), (by rintro _ ⟨⟩; exact dk.sets_on _ (by simp) _ rfl), hS.1.trans (k2.mono hS.1.size), fun _ => (hS.2.1 (by omega)).inn k2, fun _ => (hS.2.2 (by omega)).inn k2⟩⟩), ?_⟩
    refine ⟨cht.quiet 11 rfl (by decide) (.inl rfl) (by simp) (fun s => .agg #[.slice ya ys.length yc, .slice ra R.length rc]) (by rintro s _ ⟨⟩; exact dk.sets_on _ (by simp) _ rfl) (fun s k' W hk' hS => by have hbBT := bstay BT.out hS.1 (Array.getElem?_eq_some_iff.1 BT.out).1; have c0 : W.cell? ⟨w1.heap.size, 0, none⟩ = some (.slice ya ys.length yc) := bcell hbBT rfl; have c1 : W.cell? ⟨w1.heap.size, 1, none⟩ = some (.slice ra R.length rc) := bcell hbBT rfl; simp [execOp, go_sem, Act.eval, dk.sets_get, List.lookup, c0, c1]), ?_⟩
    refine ⟨chd.call 7 [16] [112] (by kernel_rfl) (by kernel_rfl) rfl (by decide) rfl (.inr ⟨⟨14, .chain⟩, by simp, rfl, rfl⟩) (by simp) 14 (fun s => #[.agg #[.slice ya ys.length yc, .slice ra R.length rc]]) (fun s W hS => by exact ⟨by simp [go_sem, Act.eval, dk.sets_get, List.lookup], (HZ2.out W hS.1).mono fun e w9 hh => by obtain ⟨rfl, k2⟩ := hh; exact ⟨s, _, rfl, (by simp [chd.But]), (by rintro _ ⟨⟩; exact dk.sets_on _ (by simp) _ rfl), hS.1.trans (k2.mono hS.1.size), fun _ => (hS.2.1 (by omega)).inn k2, fun _ => (hS.2.2 (by omega)).inn k2⟩⟩), ?_⟩
    refine ⟨cht.quiet 11 rfl (by decide) (.inl rfl) (by simp) (fun s => .bool false) (by rintro s _ ⟨⟩; exact dk.sets_on _ (by simp) _ rfl) (fun s k' W hk' hS => by simp [execOp, go_sem, Act.eval, dk.sets_get, List.lookup, q1]), ?_⟩
    refine ⟨cht.quiet 11 rfl (by decide) (.inl rfl) (by simp) (fun s => .bool false) (by rintro s _ ⟨⟩; exact dk.sets_on _ (by simp) _ rfl) (fun s k' W hk' hS => by simp [execOp, go_sem, Act.eval, dk.sets_get, List.lookup]), ?_⟩
    refine ⟨chd.eff 8 [19] [115] (by kernel_rfl) (by kernel_rfl) rfl (by decide) rfl (.inr ⟨⟨16, .chain⟩, by simp, rfl, rfl⟩) (by simp) (fun s W hS => by exact ⟨s, .bool false, W, (by simp [chd.But]), (by rintro _ ⟨⟩; exact dk.sets_on _ (by simp) _ rfl), (by simp [execOp, go_sem, Act.eval, dk.sets_get, List.lookup]), hS.1, fun _ => hS.2.1 (by omega), fun _ => hS.2.2 (by omega)⟩), ?_⟩
    refine ⟨cht.quiet 11 rfl (by decide) (.inl rfl) (by simp) (fun s => .agg #[.slice fa FY.length fc, .slice fra FR.length frc]) (by rintro s _ ⟨⟩; exact dk.sets_on _ (by simp) _ rfl) (fun s k' W hk' hS => by have hbBF := bstay BF.out hS.1 (Array.getElem?_eq_some_iff.1 BF.out).1; have c0 : W.cell? ⟨w4.heap.size, 0, none⟩ = some (.slice fa FY.length fc) := bcell hbBF rfl; have c1 : W.cell? ⟨w4.heap.size, 1, none⟩ = some (.slice fra FR.length frc) := bcell hbBF rfl; simp [execOp, go_sem, Act.eval, dk.sets_get, List.lookup, c0, c1]), ?_⟩
    refine ⟨chd.call 9 [21] [117] (by kernel_rfl) (by kernel_rfl) rfl (by decide) rfl (.inr ⟨⟨19, .chain⟩, by simp, rfl, rfl⟩) (by simp) 14 (fun s => #[.agg #[.slice fa FY.length fc, .slice fra FR.length frc]]) (fun s W hS => by exact ⟨by simp [go_sem, Act.eval, dk.sets_get, List.lookup], (HZ3.out W hS.1).mono fun e w9 hh => by obtain ⟨rfl, k2⟩ := hh; exact ⟨s, _, rfl, (by simp [chd.But]), (by rintro _ ⟨⟩; exact dk.sets_on _ (by simp) _ rfl), hS.1.trans (k2.mono hS.1.size), fun _ => (hS.2.1 (by omega)).inn k2, fun _ => (hS.2.2 (by omega)).inn k2⟩⟩), ?_⟩
    refine ⟨cht.quiet 11 rfl (by decide) (.inl rfl) (by simp) (fun s => .agg #[.slice ya ys.length yc, .slice ra R.length rc]) (by rintro s _ ⟨⟩; exact dk.sets_on _ (by simp) _ rfl) (fun s k' W hk' hS => by have hbBT := bstay BT.out hS.1 (Array.getElem?_eq_some_iff.1 BT.out).1; have c0 : W.cell? ⟨w1.heap.size, 0, none⟩ = some (.slice ya ys.length yc) := bcell hbBT rfl; have c1 : W.cell? ⟨w1.heap.size, 1, none⟩ = some (.slice ra R.length rc) := bcell hbBT rfl; simp [execOp, go_sem, Act.eval, dk.sets_get, List.lookup, c0, c1]), ?_⟩
    refine ⟨chd.call 10 [23] [119] (by kernel_rfl) (by kernel_rfl) rfl (by decide) rfl (.inr ⟨⟨21, .chain⟩, by simp, rfl, rfl⟩) (by simp) 14 (fun s => #[.agg #[.slice ya ys.length yc, .slice ra R.length rc]]) (fun s W hS => by exact ⟨by simp [go_sem, Act.eval, dk.sets_get, List.lookup], (HZ2.out W hS.1).mono fun e w9 hh => by obtain ⟨rfl, k2⟩ := hh; exact ⟨s, _, rfl, (by simp [chd.But]), (by rintro _ ⟨⟩; exact dk.sets_on _ (by simp) _ rfl), hS.1.trans (k2.mono hS.1.size), fun _ => (hS.2.1 (by omega)).inn k2, fun _ => (hS.2.2 (by omega)).inn k2⟩⟩), ?_⟩
    refine ⟨cht.quiet 11 rfl (by decide) (.inl rfl) (by simp) (fun s => .bool false) (by rintro s _ ⟨⟩; exact dk.sets_on _ (by simp) _ rfl) (fun s k' W hk' hS => by simp [execOp, go_sem, Act.eval, dk.sets_get, List.lookup]), ?_⟩
    exact ⟨cht.quiet 11 rfl (by decide) (.inl rfl) (by simp) (fun s => .bool false) (by rintro s _ ⟨⟩; exact dk.sets_on _ (by simp) _ rfl) (fun s k' W hk' hS => by simp [execOp, go_sem, Act.eval, dk.sets_get, List.lookup]), trivial⟩
  intro s v3 hS
  obtain ⟨hb9, hx1, hx2⟩ := hS
  clear hx1 hx2
  obtain ⟨gb1, gb2, gb3, gb4⟩ := s
  simp only [dk.sets, Act.put, List.setIfInBounds_toArray, List.set_cons_succ, List.set_cons_zero]
  clear HS1 HS2 HPA HZ1 HZ2 HZ3 HAF q1
  have HC_ : Hid (dw.Code v3 v3.heap.size a0 len0) := (HC.out.below hb9 (Nat.le_refl _)).mono (Below.size hb9)
  have HB_ : Hid (Below w.heap.size w v3) := HB.out.trans (Below.mono hb9 (Below.size HB.out))
  have HT_ : Hid (Dt v3 ys R ya yc ra rc) := HT.out.below hb9
  have BT_ : Hid (v3.heap[w1.heap.size]? = some (.cells #[.slice ya ys.length yc, .slice ra R.length rc] 27 (0, 0))) := bstay BT.out hb9 (Array.getElem?_eq_some_iff.1 BT.out).1
  have HM_ : Hid (Pt v3 ys MR ma mc mra mrc) := HM.out.below hb9
  have BM_ : Hid (v3.heap[w2.heap.size]? = some (.cells #[.slice ma ys.length mc, .slice mra MR.length mrc] 27 (0, 0))) := bstay BM.out hb9 (Array.getElem?_eq_some_iff.1 BM.out).1
  have HN_ : Hid (Rt v3 ys MR na nra) := HN.out.below hb9
  have BN_ : Hid (v3.heap[w3.heap.size]? = some (.cells #[.slice na ys.length nc, .slice nra MR.length nrc] 27 (0, 0))) := bstay BN.out hb9 (Array.getElem?_eq_some_iff.1 BN.out).1
  have HF_ : Hid (Pt v3 FY FR fa fc fra frc) := HF.out.below hb9
  have BF_ : Hid (v3.heap[w4.heap.size]? = some (.cells #[.slice fa FY.length fc, .slice fra FR.length frc] 27 (0, 0))) := bstay BF.out hb9 (Array.getElem?_eq_some_iff.1 BF.out).1
  have HG_ : Hid (Rt v3 FY FR ga gra) := HG.out.below hb9
  have BG_ : Hid (v3.heap[w5.heap.size]? = some (.cells #[.slice ga FY.length gc, .slice gra FR.length grc] 27 (0, 0))) := bstay BG.out hb9 (Array.getElem?_eq_some_iff.1 BG.out).1
  have HU_ : Hid (Dt v3 us UR ua uc ura urc) := HU.out.below hb9
  have BU_ : Hid (v3.heap[w6.heap.size]? = some (.cells #[.slice ua us.length uc, .slice ura UR.length urc] 27 (0, 0))) := bstay BU.out hb9 (Array.getElem?_eq_some_iff.1 BU.out).1
  have HRA_ : Hid (Row flP.c 3 v3 v3.heap.size la AL) := HRA.out.inn hb9
  clear HC HB HT BT HM BM HN BN HF BF HG BG HU BU HRA
  have HC := HC_
  have HB := HB_
  have HT := HT_
  have BT := BT_
  have HM := HM_
  have BM := BM_
  have HN := HN_
  have BN := BN_
  have HF := HF_
  have BF := BF_
  have HG := HG_
  have BG := BG_
  have HU := HU_
  have BU := BU_
  have HRA := HRA_
  clear HC_ HB_ HT_ BT_ HM_ BM_ HN_ BN_ HF_ BF_ HG_ BG_ HU_ BU_ HRA_
  clear hb9
  have h10 := d_get a0 len0 cap0 _ hlen HC.out
  go_wp2_with (go_at_call 26; fail)
  refine h10.mono ?_
  rintro e v4 ⟨xs, XR, xa, xc, xra, xrc, key, rfl, hsm7, hdr7, hkz, hb7⟩
  have HC_ : Hid (dw.Code v4 v4.heap.size a0 len0) := (HC.out.below hb7 (Nat.le_refl _)).mono (Below.size hb7)
  have HB_ : Hid (Below w.heap.size w v4) := HB.out.trans (Below.mono hb7 (Below.size HB.out))
  have HT_ : Hid (Dt v4 ys R ya yc ra rc) := HT.out.below hb7
  have BT_ : Hid (v4.heap[w1.heap.size]? = some (.cells #[.slice ya ys.length yc, .slice ra R.length rc] 27 (0, 0))) := bstay BT.out hb7 (Array.getElem?_eq_some_iff.1 BT.out).1
  have HM_ : Hid (Pt v4 ys MR ma mc mra mrc) := HM.out.below hb7
  have BM_ : Hid (v4.heap[w2.heap.size]? = some (.cells #[.slice ma ys.length mc, .slice mra MR.length mrc] 27 (0, 0))) := bstay BM.out hb7 (Array.getElem?_eq_some_iff.1 BM.out).1
  have HN_ : Hid (Rt v4 ys MR na nra) := HN.out.below hb7
  have BN_ : Hid (v4.heap[w3.heap.size]? = some (.cells #[.slice na ys.length nc, .slice nra MR.length nrc] 27 (0, 0))) := bstay BN.out hb7 (Array.getElem?_eq_some_iff.1 BN.out).1
  have HF_ : Hid (Pt v4 FY FR fa fc fra frc) := HF.out.below hb7
  have BF_ : Hid (v4.heap[w4.heap.size]? = some (.cells #[.slice fa FY.length fc, .slice fra FR.length frc] 27 (0, 0))) := bstay BF.out hb7 (Array.getElem?_eq_some_iff.1 BF.out).1
  have HG_ : Hid (Rt v4 FY FR ga gra) := HG.out.below hb7
  have BG_ : Hid (v4.heap[w5.heap.size]? = some (.cells #[.slice ga FY.length gc, .slice gra FR.length grc] 27 (0, 0))) := bstay BG.out hb7 (Array.getElem?_eq_some_iff.1 BG.out).1
  have HU_ : Hid (Dt v4 us UR ua uc ura urc) := HU.out.below hb7
  have BU_ : Hid (v4.heap[w6.heap.size]? = some (.cells #[.slice ua us.length uc, .slice ura UR.length urc] 27 (0, 0))) := bstay BU.out hb7 (Array.getElem?_eq_some_iff.1 BU.out).1
  have HRA_ : Hid (Row flP.c 3 v4 v4.heap.size la AL) := HRA.out.inn hb7
  clear HC HB HT BT HM BM HN BN HF BF HG BG HU BU HRA
  have HC := HC_
  have HB := HB_
  have HT := HT_
  have BT := BT_
  have HM := HM_
  have BM := BM_
  have HN := HN_
  have BN := BN_
  have HF := HF_
  have BF := BF_
  have HG := HG_
  have BG := BG_
  have HU := HU_
  have BU := BU_
  have HRA := HRA_
  clear HC_ HB_ HT_ BT_ HM_ BM_ HN_ BN_ HF_ BF_ HG_ BG_ HU_ BU_ HRA_
  clear h10 hb7 
  have HX : Hid (Dt v4 xs XR xa xc xra xrc) := hdr7
  have HSMX : Hid (Sm 500 xs XR) := hsm7
  clear hsm7 hdr7
  have hal : Below v4.heap.size v4 (v4.alloc (.cells #[.slice xa xs.length xc, .slice xra XR.length xrc] 27)) := (Below.refl _ _).alloc (Nat.le_refl _) _
  have HC_ : Hid (dw.Code (v4.alloc (.cells #[.slice xa xs.length xc, .slice xra XR.length xrc] 27)) (v4.alloc (.cells #[.slice xa xs.length xc, .slice xra XR.length xrc] 27)).heap.size a0 len0) := (HC.out.below hal (Nat.le_refl _)).mono (Below.size hal)
  have HB_ : Hid (Below w.heap.size w (v4.alloc (.cells #[.slice xa xs.length xc, .slice xra XR.length xrc] 27))) := HB.out.trans (Below.mono hal (Below.size HB.out))
  have HT_ : Hid (Dt (v4.alloc (.cells #[.slice xa xs.length xc, .slice xra XR.length xrc] 27)) ys R ya yc ra rc) := HT.out.below hal
  have BT_ : Hid ((v4.alloc (.cells #[.slice xa xs.length xc, .slice xra XR.length xrc] 27)).heap[w1.heap.size]? = some (.cells #[.slice ya ys.length yc, .slice ra R.length rc] 27 (0, 0))) := bstay BT.out hal (Array.getElem?_eq_some_iff.1 BT.out).1
  have HM_ : Hid (Pt (v4.alloc (.cells #[.slice xa xs.length xc, .slice xra XR.length xrc] 27)) ys MR ma mc mra mrc) := HM.out.below hal
  have BM_ : Hid ((v4.alloc (.cells #[.slice xa xs.length xc, .slice xra XR.length xrc] 27)).heap[w2.heap.size]? = some (.cells #[.slice ma ys.length mc, .slice mra MR.length mrc] 27 (0, 0))) := bstay BM.out hal (Array.getElem?_eq_some_iff.1 BM.out).1
  have HN_ : Hid (Rt (v4.alloc (.cells #[.slice xa xs.length xc, .slice xra XR.length xrc] 27)) ys MR na nra) := HN.out.below hal
  have BN_ : Hid ((v4.alloc (.cells #[.slice xa xs.length xc, .slice xra XR.length xrc] 27)).heap[w3.heap.size]? = some (.cells #[.slice na ys.length nc, .slice nra MR.length nrc] 27 (0, 0))) := bstay BN.out hal (Array.getElem?_eq_some_iff.1 BN.out).1
  have HF_ : Hid (Pt (v4.alloc (.cells #[.slice xa xs.length xc, .slice xra XR.length xrc] 27)) FY FR fa fc fra frc) := HF.out.below hal
  have BF_ : Hid ((v4.alloc (.cells #[.slice xa xs.length xc, .slice xra XR.length xrc] 27)).heap[w4.heap.size]? = some (.cells #[.slice fa FY.length fc, .slice fra FR.length frc] 27 (0, 0))) := bstay BF.out hal (Array.getElem?_eq_some_iff.1 BF.out).1
  have HG_ : Hid (Rt (v4.alloc (.cells #[.slice xa xs.length xc, .slice xra XR.length xrc] 27)) FY FR ga gra) := HG.out.below hal
  have BG_ : Hid ((v4.alloc (.cells #[.slice xa xs.length xc, .slice xra XR.length xrc] 27)).heap[w5.heap.size]? = some (.cells #[.slice ga FY.length gc, .slice gra FR.length grc] 27 (0, 0))) := bstay BG.out hal (Array.getElem?_eq_some_iff.1 BG.out).1
  have HU_ : Hid (Dt (v4.alloc (.cells #[.slice xa xs.length xc, .slice xra XR.length xrc] 27)) us UR ua uc ura urc) := HU.out.below hal
  have BU_ : Hid ((v4.alloc (.cells #[.slice xa xs.length xc, .slice xra XR.length xrc] 27)).heap[w6.heap.size]? = some (.cells #[.slice ua us.length uc, .slice ura UR.length urc] 27 (0, 0))) := bstay BU.out hal (Array.getElem?_eq_some_iff.1 BU.out).1
  have HRA_ : Hid (Row flP.c 3 (v4.alloc (.cells #[.slice xa xs.length xc, .slice xra XR.length xrc] 27)) (v4.alloc (.cells #[.slice xa xs.length xc, .slice xra XR.length xrc] 27)).heap.size la AL) := HRA.out.inn hal
  have HX_ : Hid (Dt (v4.alloc (.cells #[.slice xa xs.length xc, .slice xra XR.length xrc] 27)) xs XR xa xc xra xrc) := HX.out.below hal
  clear HC HB HT BT HM BM HN BN HF BF HG BG HU BU HRA HX
  have HC := HC_
  have HB := HB_
  have HT := HT_
  have BT := BT_
  have HM := HM_
  have BM := BM_
  have HN := HN_
  have BN := BN_
  have HF := HF_
  have BF := BF_
  have HG := HG_
  have BG := BG_
  have HU := HU_
  have BU := BU_
  have HRA := HRA_
  have HX := HX_
  clear HC_ HB_ HT_ BT_ HM_ BM_ HN_ BN_ HF_ BF_ HG_ BG_ HU_ BU_ HRA_ HX_
  have BX : Hid ((v4.alloc (.cells #[.slice xa xs.length xc, .slice xra XR.length xrc] 27)).heap[v4.heap.size]? = some (.cells #[.slice xa xs.length xc, .slice xra XR.length xrc] 27 (0, 0))) := bnew v4 _ _
  clear hal
  have h11 := p_get HX.out.pt HSMX.out (by omega) key hkz
  have h12' := fun (W : World) (h : Dt W xs XR xa xc xra xrc) => t_flush h HSMX.out
  have hSY := HSMX.out.flush
  have hGY := @mdp.flush_get xs XR key
  obtain ⟨PY, hPY⟩ : ∃ x, fls.ansY xs XR = x := ⟨_, rfl⟩
  obtain ⟨PR, hPR⟩ : ∃ x, fls.ansR xs XR = x := ⟨_, rfl⟩
  obtain ⟨pb, hpb⟩ : ∃ x, fls.can xs XR = x := ⟨_, rfl⟩
  simp only [hPY, hPR, hpb] at h12' hSY hGY
  have hSZ := hSY.merge 0
  have hGZ := @mdp.merge_get PY PR 0 key
  have h13' := fun (W : World) (pa pra : Option Addr) (pc prc : Nat) (h : Pt W PY PR pa pc pra prc) => t_merge h hSY (by omega) 0 ⟨by omega, by omega⟩
  obtain ⟨QR, hQR⟩ : ∃ x, mga.ansR PY PR 0 = x := ⟨_, rfl⟩
  obtain ⟨qb, hqb⟩ : ∃ x, mga.can PY PR 0 = x := ⟨_, rfl⟩
  simp only [hQR, hqb] at h13' hSZ hGZ
  obtain ⟨gv, hgv⟩ : ∃ x, getV xs XR key = x := ⟨_, rfl⟩
  obtain ⟨go, hgo⟩ : ∃ x, getO xs XR key = x := ⟨_, rfl⟩
  rw [hgv, hgo] at h11
  have HGQ : Hid (getV PY QR key = gv ∧ getO PY QR key = go) := ⟨hGZ.1.trans (hGY.1.trans hgv), hGZ.2.trans (hGY.2.trans hgo)⟩
  have HSMZ : Hid (Sm 502 PY QR) := hSZ
  have HKZ : Hid (key.size ≤ 101) := hkz
  clear hPY hPR hpb hQR hqb hgv hgo hSY hSZ hGY hGZ hkz
  go_wp2_with (go_at_call 17; fail)
  refine h11.mono ?_
  rintro e v5 ⟨rfl, hb11⟩
  have HC_ : Hid (dw.Code v5 v5.heap.size a0 len0) := (HC.out.below hb11 (Nat.le_refl _)).mono (Below.size hb11)
  have HB_ : Hid (Below w.heap.size w v5) := HB.out.trans (Below.mono hb11 (Below.size HB.out))
  have HT_ : Hid (Dt v5 ys R ya yc ra rc) := HT.out.below hb11
  have BT_ : Hid (v5.heap[w1.heap.size]? = some (.cells #[.slice ya ys.length yc, .slice ra R.length rc] 27 (0, 0))) := bstay BT.out hb11 (Array.getElem?_eq_some_iff.1 BT.out).1
  have HM_ : Hid (Pt v5 ys MR ma mc mra mrc) := HM.out.below hb11
  have BM_ : Hid (v5.heap[w2.heap.size]? = some (.cells #[.slice ma ys.length mc, .slice mra MR.length mrc] 27 (0, 0))) := bstay BM.out hb11 (Array.getElem?_eq_some_iff.1 BM.out).1
  have HN_ : Hid (Rt v5 ys MR na nra) := HN.out.below hb11
  have BN_ : Hid (v5.heap[w3.heap.size]? = some (.cells #[.slice na ys.length nc, .slice nra MR.length nrc] 27 (0, 0))) := bstay BN.out hb11 (Array.getElem?_eq_some_iff.1 BN.out).1
  have HF_ : Hid (Pt v5 FY FR fa fc fra frc) := HF.out.below hb11
  have BF_ : Hid (v5.heap[w4.heap.size]? = some (.cells #[.slice fa FY.length fc, .slice fra FR.length frc] 27 (0, 0))) := bstay BF.out hb11 (Array.getElem?_eq_some_iff.1 BF.out).1
  have HG_ : Hid (Rt v5 FY FR ga gra) := HG.out.below hb11
  have BG_ : Hid (v5.heap[w5.heap.size]? = some (.cells #[.slice ga FY.length gc, .slice gra FR.length grc] 27 (0, 0))) := bstay BG.out hb11 (Array.getElem?_eq_some_iff.1 BG.out).1
  have HU_ : Hid (Dt v5 us UR ua uc ura urc) := HU.out.below hb11
  have BU_ : Hid (v5.heap[w6.heap.size]? = some (.cells #[.slice ua us.length uc, .slice ura UR.length urc] 27 (0, 0))) := bstay BU.out hb11 (Array.getElem?_eq_some_iff.1 BU.out).1
  have HRA_ : Hid (Row flP.c 3 v5 v5.heap.size la AL) := HRA.out.inn hb11
  have HX_ : Hid (Dt v5 xs XR xa xc xra xrc) := HX.out.below hb11
  have BX_ : Hid (v5.heap[v4.heap.size]? = some (.cells #[.slice xa xs.length xc, .slice xra XR.length xrc] 27 (0, 0))) := bstay BX.out hb11 (Array.getElem?_eq_some_iff.1 BX.out).1
  clear HC HB HT BT HM BM HN BN HF BF HG BG HU BU HRA HX BX
  have HC := HC_
  have HB := HB_
  have HT := HT_
  have BT := BT_
  have HM := HM_
  have BM := BM_
  have HN := HN_
  have BN := BN_
  have HF := HF_
  have BF := BF_
  have HG := HG_
  have BG := BG_
  have HU := HU_
  have BU := BU_
  have HRA := HRA_
  have HX := HX_
  have BX := BX_
  clear HC_ HB_ HT_ BT_ HM_ BM_ HN_ BN_ HF_ BF_ HG_ BG_ HU_ BU_ HRA_ HX_ BX_
  clear h11 hb11 
  have x0 : v5.cell? ⟨v4.heap.size, 0, none⟩ = some (.slice xa xs.length xc) := bcell BX.out rfl
  have x1 : v5.cell? ⟨v4.heap.size, 1, none⟩ = some (.slice xra XR.length xrc) := bcell BX.out rfl
  have h12 := h12' _ HX.out
  clear h12'
  go_wp2_with (go_at_call 21; fail)
  refine h12.mono ?_
  rintro e v6 ⟨pa, pc, pra, prc, rfl, hi12, hb12⟩
  have HC_ : Hid (dw.Code v6 v6.heap.size a0 len0) := (HC.out.below hb12 (Nat.le_refl _)).mono (Below.size hb12)
  have HB_ : Hid (Below w.heap.size w v6) := HB.out.trans (Below.mono hb12 (Below.size HB.out))
  have HT_ : Hid (Dt v6 ys R ya yc ra rc) := HT.out.below hb12
  have BT_ : Hid (v6.heap[w1.heap.size]? = some (.cells #[.slice ya ys.length yc, .slice ra R.length rc] 27 (0, 0))) := bstay BT.out hb12 (Array.getElem?_eq_some_iff.1 BT.out).1
  have HM_ : Hid (Pt v6 ys MR ma mc mra mrc) := HM.out.below hb12
  have BM_ : Hid (v6.heap[w2.heap.size]? = some (.cells #[.slice ma ys.length mc, .slice mra MR.length mrc] 27 (0, 0))) := bstay BM.out hb12 (Array.getElem?_eq_some_iff.1 BM.out).1
  have HN_ : Hid (Rt v6 ys MR na nra) := HN.out.below hb12
  have BN_ : Hid (v6.heap[w3.heap.size]? = some (.cells #[.slice na ys.length nc, .slice nra MR.length nrc] 27 (0, 0))) := bstay BN.out hb12 (Array.getElem?_eq_some_iff.1 BN.out).1
  have HF_ : Hid (Pt v6 FY FR fa fc fra frc) := HF.out.below hb12
  have BF_ : Hid (v6.heap[w4.heap.size]? = some (.cells #[.slice fa FY.length fc, .slice fra FR.length frc] 27 (0, 0))) := bstay BF.out hb12 (Array.getElem?_eq_some_iff.1 BF.out).1
  have HG_ : Hid (Rt v6 FY FR ga gra) := HG.out.below hb12
  have BG_ : Hid (v6.heap[w5.heap.size]? = some (.cells #[.slice ga FY.length gc, .slice gra FR.length grc] 27 (0, 0))) := bstay BG.out hb12 (Array.getElem?_eq_some_iff.1 BG.out).1
  have HU_ : Hid (Dt v6 us UR ua uc ura urc) := HU.out.below hb12
  have BU_ : Hid (v6.heap[w6.heap.size]? = some (.cells #[.slice ua us.length uc, .slice ura UR.length urc] 27 (0, 0))) := bstay BU.out hb12 (Array.getElem?_eq_some_iff.1 BU.out).1
  have HRA_ : Hid (Row flP.c 3 v6 v6.heap.size la AL) := HRA.out.inn hb12
  have HX_ : Hid (Dt v6 xs XR xa xc xra xrc) := HX.out.below hb12
  have BX_ : Hid (v6.heap[v4.heap.size]? = some (.cells #[.slice xa xs.length xc, .slice xra XR.length xrc] 27 (0, 0))) := bstay BX.out hb12 (Array.getElem?_eq_some_iff.1 BX.out).1
  clear HC HB HT BT HM BM HN BN HF BF HG BG HU BU HRA HX BX
  have HC := HC_
  have HB := HB_
  have HT := HT_
  have BT := BT_
  have HM := HM_
  have BM := BM_
  have HN := HN_
  have BN := BN_
  have HF := HF_
  have BF := BF_
  have HG := HG_
  have BG := BG_
  have HU := HU_
  have BU := BU_
  have HRA := HRA_
  have HX := HX_
  have BX := BX_
  clear HC_ HB_ HT_ BT_ HM_ BM_ HN_ BN_ HF_ BF_ HG_ BG_ HU_ BU_ HRA_ HX_ BX_
  clear h12 hb12 x0 x1
  have HY : Hid (Pt v6 PY PR pa pc pra prc) := hi12
  clear hi12
  have hal : Below v6.heap.size v6 (v6.alloc (.cells #[.slice pa PY.length pc, .slice pra PR.length prc] 27)) := (Below.refl _ _).alloc (Nat.le_refl _) _
  have HC_ : Hid (dw.Code (v6.alloc (.cells #[.slice pa PY.length pc, .slice pra PR.length prc] 27)) (v6.alloc (.cells #[.slice pa PY.length pc, .slice pra PR.length prc] 27)).heap.size a0 len0) := (HC.out.below hal (Nat.le_refl _)).mono (Below.size hal)
  have HB_ : Hid (Below w.heap.size w (v6.alloc (.cells #[.slice pa PY.length pc, .slice pra PR.length prc] 27))) := HB.out.trans (Below.mono hal (Below.size HB.out))
  have HT_ : Hid (Dt (v6.alloc (.cells #[.slice pa PY.length pc, .slice pra PR.length prc] 27)) ys R ya yc ra rc) := HT.out.below hal
  have BT_ : Hid ((v6.alloc (.cells #[.slice pa PY.length pc, .slice pra PR.length prc] 27)).heap[w1.heap.size]? = some (.cells #[.slice ya ys.length yc, .slice ra R.length rc] 27 (0, 0))) := bstay BT.out hal (Array.getElem?_eq_some_iff.1 BT.out).1
  have HM_ : Hid (Pt (v6.alloc (.cells #[.slice pa PY.length pc, .slice pra PR.length prc] 27)) ys MR ma mc mra mrc) := HM.out.below hal
  have BM_ : Hid ((v6.alloc (.cells #[.slice pa PY.length pc, .slice pra PR.length prc] 27)).heap[w2.heap.size]? = some (.cells #[.slice ma ys.length mc, .slice mra MR.length mrc] 27 (0, 0))) := bstay BM.out hal (Array.getElem?_eq_some_iff.1 BM.out).1
  have HN_ : Hid (Rt (v6.alloc (.cells #[.slice pa PY.length pc, .slice pra PR.length prc] 27)) ys MR na nra) := HN.out.below hal
  have BN_ : Hid ((v6.alloc (.cells #[.slice pa PY.length pc, .slice pra PR.length prc] 27)).heap[w3.heap.size]? = some (.cells #[.slice na ys.length nc, .slice nra MR.length nrc] 27 (0, 0))) := bstay BN.out hal (Array.getElem?_eq_some_iff.1 BN.out).1
  have HF_ : Hid (Pt (v6.alloc (.cells #[.slice pa PY.length pc, .slice pra PR.length prc] 27)) FY FR fa fc fra frc) := HF.out.below hal
  have BF_ : Hid ((v6.alloc (.cells #[.slice pa PY.length pc, .slice pra PR.length prc] 27)).heap[w4.heap.size]? = some (.cells #[.slice fa FY.length fc, .slice fra FR.length frc] 27 (0, 0))) := bstay BF.out hal (Array.getElem?_eq_some_iff.1 BF.out).1
  have HG_ : Hid (Rt (v6.alloc (.cells #[.slice pa PY.length pc, .slice pra PR.length prc] 27)) FY FR ga gra) := HG.out.below hal
  have BG_ : Hid ((v6.alloc (.cells #[.slice pa PY.length pc, .slice pra PR.length prc] 27)).heap[w5.heap.size]? = some (.cells #[.slice ga FY.length gc, .slice gra FR.length grc] 27 (0, 0))) := bstay BG.out hal (Array.getElem?_eq_some_iff.1 BG.out).1
  have HU_ : Hid (Dt (v6.alloc (.cells #[.slice pa PY.length pc, .slice pra PR.length prc] 27)) us UR ua uc ura urc) := HU.out.below hal
  have BU_ : Hid ((v6.alloc (.cells #[.slice pa PY.length pc, .slice pra PR.length prc] 27)).heap[w6.heap.size]? = some (.cells #[.slice ua us.length uc, .slice ura UR.length urc] 27 (0, 0))) := bstay BU.out hal (Array.getElem?_eq_some_iff.1 BU.out).1
  have HRA_ : Hid (Row flP.c 3 (v6.alloc (.cells #[.slice pa PY.length pc, .slice pra PR.length prc] 27)) (v6.alloc (.cells #[.slice pa PY.length pc, .slice pra PR.length prc] 27)).heap.size la AL) := HRA.out.inn hal
  have HX_ : Hid (Dt (v6.alloc (.cells #[.slice pa PY.length pc, .slice pra PR.length prc] 27)) xs XR xa xc xra xrc) := HX.out.below hal
  have BX_ : Hid ((v6.alloc (.cells #[.slice pa PY.length pc, .slice pra PR.length prc] 27)).heap[v4.heap.size]? = some (.cells #[.slice xa xs.length xc, .slice xra XR.length xrc] 27 (0, 0))) := bstay BX.out hal (Array.getElem?_eq_some_iff.1 BX.out).1
  have HY_ : Hid (Pt (v6.alloc (.cells #[.slice pa PY.length pc, .slice pra PR.length prc] 27)) PY PR pa pc pra prc) := HY.out.below hal
  clear HC HB HT BT HM BM HN BN HF BF HG BG HU BU HRA HX BX HY
  have HC := HC_
  have HB := HB_
  have HT := HT_
  have BT := BT_
  have HM := HM_
  have BM := BM_
  have HN := HN_
  have BN := BN_
  have HF := HF_
  have BF := BF_
  have HG := HG_
  have BG := BG_
  have HU := HU_
  have BU := BU_
  have HRA := HRA_
  have HX := HX_
  have BX := BX_
  have HY := HY_
  clear HC_ HB_ HT_ BT_ HM_ BM_ HN_ BN_ HF_ BF_ HG_ BG_ HU_ BU_ HRA_ HX_ BX_ HY_
  have BY : Hid ((v6.alloc (.cells #[.slice pa PY.length pc, .slice pra PR.length prc] 27)).heap[v6.heap.size]? = some (.cells #[.slice pa PY.length pc, .slice pra PR.length prc] 27 (0, 0))) := bnew v6 _ _
  clear hal
  have h13 := h13' _ _ _ _ _ HY.out
  clear h13'
  go_wp2_with (go_at_call 19; fail)
  refine h13.mono ?_
  rintro e v7 ⟨qa, qc, qra, qrc, rfl, hi13, hb13⟩
  have HC_ : Hid (dw.Code v7 v7.heap.size a0 len0) := (HC.out.below hb13 (Nat.le_refl _)).mono (Below.size hb13)
  have HB_ : Hid (Below w.heap.size w v7) := HB.out.trans (Below.mono hb13 (Below.size HB.out))
  have HT_ : Hid (Dt v7 ys R ya yc ra rc) := HT.out.below hb13
  have BT_ : Hid (v7.heap[w1.heap.size]? = some (.cells #[.slice ya ys.length yc, .slice ra R.length rc] 27 (0, 0))) := bstay BT.out hb13 (Array.getElem?_eq_some_iff.1 BT.out).1
  have HM_ : Hid (Pt v7 ys MR ma mc mra mrc) := HM.out.below hb13
  have BM_ : Hid (v7.heap[w2.heap.size]? = some (.cells #[.slice ma ys.length mc, .slice mra MR.length mrc] 27 (0, 0))) := bstay BM.out hb13 (Array.getElem?_eq_some_iff.1 BM.out).1
  have HN_ : Hid (Rt v7 ys MR na nra) := HN.out.below hb13
  have BN_ : Hid (v7.heap[w3.heap.size]? = some (.cells #[.slice na ys.length nc, .slice nra MR.length nrc] 27 (0, 0))) := bstay BN.out hb13 (Array.getElem?_eq_some_iff.1 BN.out).1
  have HF_ : Hid (Pt v7 FY FR fa fc fra frc) := HF.out.below hb13
  have BF_ : Hid (v7.heap[w4.heap.size]? = some (.cells #[.slice fa FY.length fc, .slice fra FR.length frc] 27 (0, 0))) := bstay BF.out hb13 (Array.getElem?_eq_some_iff.1 BF.out).1
  have HG_ : Hid (Rt v7 FY FR ga gra) := HG.out.below hb13
  have BG_ : Hid (v7.heap[w5.heap.size]? = some (.cells #[.slice ga FY.length gc, .slice gra FR.length grc] 27 (0, 0))) := bstay BG.out hb13 (Array.getElem?_eq_some_iff.1 BG.out).1
  have HU_ : Hid (Dt v7 us UR ua uc ura urc) := HU.out.below hb13
  have BU_ : Hid (v7.heap[w6.heap.size]? = some (.cells #[.slice ua us.length uc, .slice ura UR.length urc] 27 (0, 0))) := bstay BU.out hb13 (Array.getElem?_eq_some_iff.1 BU.out).1
  have HRA_ : Hid (Row flP.c 3 v7 v7.heap.size la AL) := HRA.out.inn hb13
  have HX_ : Hid (Dt v7 xs XR xa xc xra xrc) := HX.out.below hb13
  have BX_ : Hid (v7.heap[v4.heap.size]? = some (.cells #[.slice xa xs.length xc, .slice xra XR.length xrc] 27 (0, 0))) := bstay BX.out hb13 (Array.getElem?_eq_some_iff.1 BX.out).1
  have HY_ : Hid (Pt v7 PY PR pa pc pra prc) := HY.out.below hb13
  have BY_ : Hid (v7.heap[v6.heap.size]? = some (.cells #[.slice pa PY.length pc, .slice pra PR.length prc] 27 (0, 0))) := bstay BY.out hb13 (Array.getElem?_eq_some_iff.1 BY.out).1
  clear HC HB HT BT HM BM HN BN HF BF HG BG HU BU HRA HX BX HY BY
  have HC := HC_
  have HB := HB_
  have HT := HT_
  have BT := BT_
  have HM := HM_
  have BM := BM_
  have HN := HN_
  have BN := BN_
  have HF := HF_
  have BF := BF_
  have HG := HG_
  have BG := BG_
  have HU := HU_
  have BU := BU_
  have HRA := HRA_
  have HX := HX_
  have BX := BX_
  have HY := HY_
  have BY := BY_
  clear HC_ HB_ HT_ BT_ HM_ BM_ HN_ BN_ HF_ BF_ HG_ BG_ HU_ BU_ HRA_ HX_ BX_ HY_ BY_
  clear h13 hb13 
  have HZ : Hid (Pt v7 PY QR qa qc qra qrc) := hi13
  clear hi13
  have hal : Below v7.heap.size v7 (v7.alloc (.cells #[.slice qa PY.length qc, .slice qra QR.length qrc] 27)) := (Below.refl _ _).alloc (Nat.le_refl _) _
  have HC_ : Hid (dw.Code (v7.alloc (.cells #[.slice qa PY.length qc, .slice qra QR.length qrc] 27)) (v7.alloc (.cells #[.slice qa PY.length qc, .slice qra QR.length qrc] 27)).heap.size a0 len0) := (HC.out.below hal (Nat.le_refl _)).mono (Below.size hal)
  have HB_ : Hid (Below w.heap.size w (v7.alloc (.cells #[.slice qa PY.length qc, .slice qra QR.length qrc] 27))) := HB.out.trans (Below.mono hal (Below.size HB.out))
  have HT_ : Hid (Dt (v7.alloc (.cells #[.slice qa PY.length qc, .slice qra QR.length qrc] 27)) ys R ya yc ra rc) := HT.out.below hal
  have BT_ : Hid ((v7.alloc (.cells #[.slice qa PY.length qc, .slice qra QR.length qrc] 27)).heap[w1.heap.size]? = some (.cells #[.slice ya ys.length yc, .slice ra R.length rc] 27 (0, 0))) := bstay BT.out hal (Array.getElem?_eq_some_iff.1 BT.out).1
  have HM_ : Hid (Pt (v7.alloc (.cells #[.slice qa PY.length qc, .slice qra QR.length qrc] 27)) ys MR ma mc mra mrc) := HM.out.below hal
  have BM_ : Hid ((v7.alloc (.cells #[.slice qa PY.length qc, .slice qra QR.length qrc] 27)).heap[w2.heap.size]? = some (.cells #[.slice ma ys.length mc, .slice mra MR.length mrc] 27 (0, 0))) := bstay BM.out hal (Array.getElem?_eq_some_iff.1 BM.out).1
  have HN_ : Hid (Rt (v7.alloc (.cells #[.slice qa PY.length qc, .slice qra QR.length qrc] 27)) ys MR na nra) := HN.out.below hal
  have BN_ : Hid ((v7.alloc (.cells #[.slice qa PY.length qc, .slice qra QR.length qrc] 27)).heap[w3.heap.size]? = some (.cells #[.slice na ys.length nc, .slice nra MR.length nrc] 27 (0, 0))) := bstay BN.out hal (Array.getElem?_eq_some_iff.1 BN.out).1
  have HF_ : Hid (Pt (v7.alloc (.cells #[.slice qa PY.length qc, .slice qra QR.length qrc] 27)) FY FR fa fc fra frc) := HF.out.below hal
  have BF_ : Hid ((v7.alloc (.cells #[.slice qa PY.length qc, .slice qra QR.length qrc] 27)).heap[w4.heap.size]? = some (.cells #[.slice fa FY.length fc, .slice fra FR.length frc] 27 (0, 0))) := bstay BF.out hal (Array.getElem?_eq_some_iff.1 BF.out).1
  have HG_ : Hid (Rt (v7.alloc (.cells #[.slice qa PY.length qc, .slice qra QR.length qrc] 27)) FY FR ga gra) := HG.out.below hal
  have BG_ : Hid ((v7.alloc (.cells #[.slice qa PY.length qc, .slice qra QR.length qrc] 27)).heap[w5.heap.size]? = some (.cells #[.slice ga FY.length gc, .slice gra FR.length grc] 27 (0, 0))) := bstay BG.out hal (Array.getElem?_eq_some_iff.1 BG.out).1
  have HU_ : Hid (Dt (v7.alloc (.cells #[.slice qa PY.length qc, .slice qra QR.length qrc] 27)) us UR ua uc ura urc) := HU.out.below hal
  have BU_ : Hid ((v7.alloc (.cells #[.slice qa PY.length qc, .slice qra QR.length qrc] 27)).heap[w6.heap.size]? = some (.cells #[.slice ua us.length uc, .slice ura UR.length urc] 27 (0, 0))) := bstay BU.out hal (Array.getElem?_eq_some_iff.1 BU.out).1
  have HRA_ : Hid (Row flP.c 3 (v7.alloc (.cells #[.slice qa PY.length qc, .slice qra QR.length qrc] 27)) (v7.alloc (.cells #[.slice qa PY.length qc, .slice qra QR.length qrc] 27)).heap.size la AL) := HRA.out.inn hal
  have HX_ : Hid (Dt (v7.alloc (.cells #[.slice qa PY.length qc, .slice qra QR.length qrc] 27)) xs XR xa xc xra xrc) := HX.out.below hal
  have BX_ : Hid ((v7.alloc (.cells #[.slice qa PY.length qc, .slice qra QR.length qrc] 27)).heap[v4.heap.size]? = some (.cells #[.slice xa xs.length xc, .slice xra XR.length xrc] 27 (0, 0))) := bstay BX.out hal (Array.getElem?_eq_some_iff.1 BX.out).1
  have HY_ : Hid (Pt (v7.alloc (.cells #[.slice qa PY.length qc, .slice qra QR.length qrc] 27)) PY PR pa pc pra prc) := HY.out.below hal
  have BY_ : Hid ((v7.alloc (.cells #[.slice qa PY.length qc, .slice qra QR.length qrc] 27)).heap[v6.heap.size]? = some (.cells #[.slice pa PY.length pc, .slice pra PR.length prc] 27 (0, 0))) := bstay BY.out hal (Array.getElem?_eq_some_iff.1 BY.out).1
  have HZ_ : Hid (Pt (v7.alloc (.cells #[.slice qa PY.length qc, .slice qra QR.length qrc] 27)) PY QR qa qc qra qrc) := HZ.out.below hal
  clear HC HB HT BT HM BM HN BN HF BF HG BG HU BU HRA HX BX HY BY HZ
  have HC := HC_
  have HB := HB_
  have HT := HT_
  have BT := BT_
  have HM := HM_
  have BM := BM_
  have HN := HN_
  have BN := BN_
  have HF := HF_
  have BF := BF_
  have HG := HG_
  have BG := BG_
  have HU := HU_
  have BU := BU_
  have HRA := HRA_
  have HX := HX_
  have BX := BX_
  have HY := HY_
  have BY := BY_
  have HZ := HZ_
  clear HC_ HB_ HT_ BT_ HM_ BM_ HN_ BN_ HF_ BF_ HG_ BG_ HU_ BU_ HRA_ HX_ BX_ HY_ BY_ HZ_
  have BZ : Hid ((v7.alloc (.cells #[.slice qa PY.length qc, .slice qra QR.length qrc] 27)).heap[v7.heap.size]? = some (.cells #[.slice qa PY.length qc, .slice qra QR.length qrc] 27 (0, 0))) := bnew v7 _ _
  clear hal
  have h14 := p_get HZ.out HSMZ.out (by omega) key HKZ.out
  rw [HGQ.out.1, HGQ.out.2] at h14
  go_wp2_with (go_at_call 17; fail)
  refine h14.mono ?_
  rintro e v8 ⟨rfl, hb14⟩
  have HC_ : Hid (dw.Code v8 v8.heap.size a0 len0) := (HC.out.below hb14 (Nat.le_refl _)).mono (Below.size hb14)
  have HB_ : Hid (Below w.heap.size w v8) := HB.out.trans (Below.mono hb14 (Below.size HB.out))
  have HT_ : Hid (Dt v8 ys R ya yc ra rc) := HT.out.below hb14
  have BT_ : Hid (v8.heap[w1.heap.size]? = some (.cells #[.slice ya ys.length yc, .slice ra R.length rc] 27 (0, 0))) := bstay BT.out hb14 (Array.getElem?_eq_some_iff.1 BT.out).1
  have HM_ : Hid (Pt v8 ys MR ma mc mra mrc) := HM.out.below hb14
  have BM_ : Hid (v8.heap[w2.heap.size]? = some (.cells #[.slice ma ys.length mc, .slice mra MR.length mrc] 27 (0, 0))) := bstay BM.out hb14 (Array.getElem?_eq_some_iff.1 BM.out).1
  have HN_ : Hid (Rt v8 ys MR na nra) := HN.out.below hb14
  have BN_ : Hid (v8.heap[w3.heap.size]? = some (.cells #[.slice na ys.length nc, .slice nra MR.length nrc] 27 (0, 0))) := bstay BN.out hb14 (Array.getElem?_eq_some_iff.1 BN.out).1
  have HF_ : Hid (Pt v8 FY FR fa fc fra frc) := HF.out.below hb14
  have BF_ : Hid (v8.heap[w4.heap.size]? = some (.cells #[.slice fa FY.length fc, .slice fra FR.length frc] 27 (0, 0))) := bstay BF.out hb14 (Array.getElem?_eq_some_iff.1 BF.out).1
  have HG_ : Hid (Rt v8 FY FR ga gra) := HG.out.below hb14
  have BG_ : Hid (v8.heap[w5.heap.size]? = some (.cells #[.slice ga FY.length gc, .slice gra FR.length grc] 27 (0, 0))) := bstay BG.out hb14 (Array.getElem?_eq_some_iff.1 BG.out).1
  have HU_ : Hid (Dt v8 us UR ua uc ura urc) := HU.out.below hb14
  have BU_ : Hid (v8.heap[w6.heap.size]? = some (.cells #[.slice ua us.length uc, .slice ura UR.length urc] 27 (0, 0))) := bstay BU.out hb14 (Array.getElem?_eq_some_iff.1 BU.out).1
  have HRA_ : Hid (Row flP.c 3 v8 v8.heap.size la AL) := HRA.out.inn hb14
  have HX_ : Hid (Dt v8 xs XR xa xc xra xrc) := HX.out.below hb14
  have BX_ : Hid (v8.heap[v4.heap.size]? = some (.cells #[.slice xa xs.length xc, .slice xra XR.length xrc] 27 (0, 0))) := bstay BX.out hb14 (Array.getElem?_eq_some_iff.1 BX.out).1
  have HY_ : Hid (Pt v8 PY PR pa pc pra prc) := HY.out.below hb14
  have BY_ : Hid (v8.heap[v6.heap.size]? = some (.cells #[.slice pa PY.length pc, .slice pra PR.length prc] 27 (0, 0))) := bstay BY.out hb14 (Array.getElem?_eq_some_iff.1 BY.out).1
  have HZ_ : Hid (Pt v8 PY QR qa qc qra qrc) := HZ.out.below hb14
  have BZ_ : Hid (v8.heap[v7.heap.size]? = some (.cells #[.slice qa PY.length qc, .slice qra QR.length qrc] 27 (0, 0))) := bstay BZ.out hb14 (Array.getElem?_eq_some_iff.1 BZ.out).1
  clear HC HB HT BT HM BM HN BN HF BF HG BG HU BU HRA HX BX HY BY HZ BZ
  have HC := HC_
  have HB := HB_
  have HT := HT_
  have BT := BT_
  have HM := HM_
  have BM := BM_
  have HN := HN_
  have BN := BN_
  have HF := HF_
  have BF := BF_
  have HG := HG_
  have BG := BG_
  have HU := HU_
  have BU := BU_
  have HRA := HRA_
  have HX := HX_
  have BX := BX_
  have HY := HY_
  have BY := BY_
  have HZ := HZ_
  have BZ := BZ_
  clear HC_ HB_ HT_ BT_ HM_ BM_ HN_ BN_ HF_ BF_ HG_ BG_ HU_ BU_ HRA_ HX_ BX_ HY_ BY_ HZ_ BZ_
  clear h14 hb14 
  have x0 : v8.cell? ⟨w1.heap.size, 0, none⟩ = some (.slice ya ys.length yc) := bcell BT.out rfl
  have x1 : v8.cell? ⟨w1.heap.size, 1, none⟩ = some (.slice ra R.length rc) := bcell BT.out rfl
  have y0 : v8.cell? ⟨w2.heap.size, 0, none⟩ = some (.slice ma ys.length mc) := bcell BM.out rfl
  have y1 : v8.cell? ⟨w2.heap.size, 1, none⟩ = some (.slice mra MR.length mrc) := bcell BM.out rfl
  have z0 : v8.cell? ⟨w4.heap.size, 0, none⟩ = some (.slice fa FY.length fc) := bcell BF.out rfl
  have z1 : v8.cell? ⟨w4.heap.size, 1, none⟩ = some (.slice fra FR.length frc) := bcell BF.out rfl
  have hrl := HSM.out.rl
  cases mb
  case' true =>
    obtain ⟨m1, m2, m3⟩ := HMC.out rfl
    have hok := p_ok HM.out HSMM.out (by omega)
    rw [m3, m1] at hok
    clear m3
    go_wp2_with (go_at_call 12; fail)
    refine hok.mono ?_
    rintro e v9 ⟨rfl, hb15⟩
    have HBF : Hid (Below w.heap.size w v9) := HB.out.trans (Below.mono hb15 (Below.size HB.out))
    have HFN : Hid (Pt v9 FY FR fa fc fra frc) := HF.out.below hb15
    have u0 : v9.cell? ⟨w4.heap.size, 0, none⟩ = some (.slice fa FY.length fc) := bcell (bstay BF.out hb15 (Array.getElem?_eq_some_iff.1 BF.out).1) rfl
    have u1 : v9.cell? ⟨w4.heap.size, 1, none⟩ = some (.slice fra FR.length frc) := bcell (bstay BF.out hb15 (Array.getElem?_eq_some_iff.1 BF.out).1) rfl
    clear hok hb15 x0 x1 y0 y1 z0 z1
  case' false =>
    obtain ⟨v9, hv9⟩ : ∃ v, v = v8 := ⟨_, rfl⟩
    subst hv9
    have HBF : Hid (Below w.heap.size w v9) := HB
    have HFN : Hid (Pt v9 FY FR fa fc fra frc) := HF
  all_goals
    cases fb
    case' true =>
      obtain ⟨f1, f2⟩ := HFC.out rfl
      have hok2 := p_ok HFN.out HSMF.out (by omega)
      rw [f2, f1] at hok2
      clear f2
      go_wp2_with (go_at_call 12; fail)
      refine hok2.mono ?_
      rintro e v10 ⟨rfl, hb16⟩
      have HBE : Hid (Below w.heap.size w v10) := HBF.out.trans (Below.mono hb16 (Below.size HBF.out))
      clear hok2 hb16
      go_wp2
      go_ret
      exact ⟨rfl, HBE.out⟩
    case' false =>
      go_wp2
      go_ret
      exact ⟨rfl, HBF.out⟩
end Go.Proofs.Ytokaoafbgebelaa.mdw

/- FnMerged: at every code a merge and a flush of a drawn table answer as the specification does, change nothing that a scan or a get reads, and make nothing greater; for every input, no condition. -/
namespace Go.Proofs.Ytokaoafbgebelaa.fnMerged
open Go.ChangeShapes Go.WideShapes Go.ChangeAt Go.RowKit
open Go.ChangeMaps (open_string shut_string)
set_option linter.unusedVariables false

theorem own : ownKnob Try.prog.godebug = none := by kernel_rfl
theorem laidOut : laidOutB Try.prog = true := by kernel_rfl
def IsRow (k : IntKind) (w : World) (a : Option Addr) (len cap : Nat) (zs : List Int) : Prop :=
  (a = none ∧ len = 0 ∧ cap = 0 ∧ zs = []) ∨
  ∃ x, a = some x ∧ len ≤ cap ∧ cap ≤ maxLen ∧ zs.length = cap ∧ (∀ i, i < zs.length → w.cell? (x.add i) = some (.int k (zs.getD i 0))) ∧ ∀ n ∈ zs, (Lit.int k n).wf = true
theorem codeOf {w : World} {a : Option Addr} {len cap : Nat} {zs : List Int} (h : IsRow .u8 w a len cap zs) : dw.Code w w.heap.size a len := by
  rcases h with ⟨_, h0, _, _⟩ | ⟨x, rfl, hl, _, hz, hcell, hwf⟩
  · exact .inl h0
  · by_cases hlen : len = 0
    · exact .inl hlen
    obtain ⟨b, off, spot⟩ := x
    have h0 := hcell 0 (by omega)
    have hspot : spot = none := by simpa [Addr.add] using World.cell?_spot h0
    subst hspot
    refine .inr ⟨b, off, rfl, block_lt_of_cell h0, fun i hi => ?_⟩
    have hc := hcell i (by omega)
    have hmem : zs.getD i 0 ∈ zs := by
      have : i < zs.length := by omega
      simp [List.getD, List.getElem?_eq_getElem this]
    have hb := bounds_u8 (hwf _ hmem)
    refine ⟨(zs.getD i 0).toNat, by omega, ?_⟩
    rw [show (((zs.getD i 0).toNat : Nat) : Int) = zs.getD i 0 by omega]
    have e : (⟨b, off, none⟩ : Addr).add i = ⟨b, off + i, none⟩ := by unfold Addr.add; split <;> simp_all
    rw [← e]
    exact hc

theorem walk (a0 : Option Addr) (len0 cap0 : Nat) (z0 : List Int) (w : World) (w0 : IsRow .u8 w a0 len0 cap0 z0) :
    Calls Try.prog 4 #[.slice a0 len0 cap0] w fun e w' => e = .returned (.bool true) ∧ Below w.heap.size w w' := by
  exact mdw.walk a0 len0 cap0 w (codeOf w0)

set_option maxRecDepth 100000 in
theorem lifted (os : Os) (started : os.Started) (H : Type) (enc : TypeId × Value → H) :
    ReturnsInHanded {} Try.checked os 4 .any (Rows.fnMergedSpec.pre6 enc Try.prog Try.f4 Rows.fnMergedRow.domain false) (Rows.fnMergedSpec.post enc Try.prog Try.f4 false true false false) := by
  refine returnsInHanded_of_change (C := Try.checked) own started (by kernel_rfl) Try.func4
    (ChangeSpec.witness6 (enc := enc) (C := Try.checked) false ⟨#[], #[.slice none 0 0], []⟩ 8 (by kernel_rfl) (by kernel_rfl) (by kernel_rfl) (by kernel_rfl)) ?_
  intro W base args ds gs before hval0 hW hcnd _
  have hval : ∀ (j : Nat) t v, Try.f4.params[j]? = some t → args[j]? = some v → Value.okWide Try.prog W .any base t v := hval0
  have hW' := hW
  obtain ⟨p, q, hA0, hV, hb, hfz, hnd⟩ := hW
  have hA : DataW.TrodAll enc Try.prog W 0 (fun _ => true) true Try.f4.params.toList args.toList ds p := hA0
  rw [Try.params4] at hA hval
  obtain ⟨v0, vs0, d0, ds0, p0, q0, hargs, rfl, rfl, h0, r0⟩ := trodAll_cons hA
  obtain ⟨rfl, rfl, rfl⟩ := trodAll_nil r0
  obtain rfl : args = #[v0] := by cases args; simp_all
  obtain ⟨rfl, rfl⟩ := trodVars_none hV
  obtain ⟨a0, len0, cap0, rfl⟩ := okWide_slice Try.underlying22 (hval 0 22 v0 rfl rfl)
  have k0 := h0
  have lt0 : ∀ x ∈ p0, x.block < W.heap.size := by obtain ⟨m, hm⟩ := k0; exact DataW.trod_lt m _ _ _ hm
  obtain ⟨z0, w0⟩ : ∃ zs, IsRow .u8 W a0 len0 cap0 zs := by
    obtain ⟨fuel, hf⟩ := h0
    rcases open_ints Try.underlying22 Try.underlying5 (by kernel_rfl) hf with ⟨hcs, _⟩ | ⟨x, l, c, zs, hcs, _, hl, hm, hz, _, hcell, hwz⟩
    · simp [Value.cells] at hcs
      obtain ⟨rfl, rfl, rfl⟩ := hcs
      exact ⟨[], .inl ⟨rfl, rfl, rfl, rfl⟩⟩
    · simp [Value.cells] at hcs
      obtain ⟨rfl, rfl, rfl⟩ := hcs
      exact ⟨zs, .inr ⟨_, rfl, hl, hm, by simpa using hz, hcell, hwz⟩⟩
  clear hA0 hval0
  refine (walk a0 len0 cap0 z0 W w0).mono fun e W' ⟨he, hg⟩ => ?_
  subst he
  exact ⟨_, rfl, _, _, _, [], _, [], hW', (trodAll_cons_mk (shut_bool Try.underlying4 _) trodAll_mk0), (trodAll_cons_mk (Below.trod laidOut (by kernel_rfl) (of_decide_eq_true (by kernel_rfl)) k0 hg lt0) trodAll_mk0), rfl, hg.frame _, fun h => by cases h⟩

theorem over : Rows.fnMergedRow.holds Try.pinned (OpenSpec.ofChange Rows.fnMergedSpec) :=
  OpenClaim.holds_of_wide 4 Try.f4 rfl rfl rfl rfl rfl rfl rfl ⟨rfl, rfl, rfl, rfl, rfl⟩ rfl rfl rfl rfl rfl (by kernel_rfl) Try.func4 (by kernel_rfl)
    (of_decide_eq_true (by kernel_rfl)) (by unfold Func.isWrapper; first | (rw [if_pos (by decide +kernel)]; kernel_rfl) | (rw [if_neg (by decide +kernel)]; exact ⟨rfl, rfl⟩))
    (fun os started H enc _ => lifted os started H enc)

theorem proved : Rows.FnMergedSaid := over
#print axioms proved
end Go.Proofs.Ytokaoafbgebelaa.fnMerged
