/- The specification's StreamMark: one more mark, or one changed, where that is right; new memory alone. -/
import Derived.Test.YtlfhfcgcfggjcaaDoorStreamMarkPure
import Derived.Test.YtlfhfcgcfggjcaaDoorStreamOkSpec
namespace Go.Proofs.YtlfhfcgcfggjcaaDoor.smk
open Go.ChangeShapes Go.WideShapes Go.ChangeAt Go.RowKit Go.Proofs.YtlfhfcgcfggjcaaDoor.fl Go.Proofs.YtlfhfcgcfggjcaaDoor.fo Go.Proofs.YtlfhfcgcfggjcaaDoor.rc Go.Proofs.YtlfhfcgcfggjcaaDoor.rr Go.Proofs.YtlfhfcgcfggjcaaDoor.rf Go.Proofs.YtlfhfcgcfggjcaaDoor.rs Go.Proofs.YtlfhfcgcfggjcaaDoor.ro Go.Proofs.YtlfhfcgcfggjcaaDoor.st Go.Proofs.YtlfhfcgcfggjcaaDoor.srd Go.Proofs.YtlfhfcgcfggjcaaDoor.scp Go.Proofs.YtlfhfcgcfggjcaaDoor.spw Go.Proofs.YtlfhfcgcfggjcaaDoor.smp
set_option linter.unusedVariables false

theorem cells_mark {r : ByteArray} {o : Int} {p : Nat} {W : World} (h : W.heap[p]? = some (.cells #[.string r, .int .i64 o] 45 (0, 0))) : ∀ (j : Nat) (u : Value), ([.string r, .int .i64 o] : List Value)[j]? = some u → W.cell? ((⟨p, 0, none⟩ : Addr).add j) = some u := fun j u hu => by
  rw [add_at, Nat.zero_add]
  match j, hu with
  | 0, hu => cases hu; exact bcell h rfl
  | 1, hu => cases hu; exact bcell h rfl
  | j + 2, hu => simp at hu
set_option maxRecDepth 100000 in
set_option maxHeartbeats 4000000 in
theorem spec_mark (sn : ByteArray) (lo nx : Int) (es : List flY.En) (ms : List Ex) (g h cg ch : Nat) (r : ByteArray) (o : Int) (w : World) (F : Fit sn es ms) (hbb : r.size ≤ 1048576) (hY : RY w g es) (hE : RE w h ms) (ga ha : Option Addr) (hga : Hid (apo.NA ga g es.length cg)) (hha : Hid (apo.NA ha h ms.length ch)) (hch : ms.length ≤ ch) :
    Calls Tryd.prog 7 #[.agg #[.string sn, .int .i64 lo, .int .i64 nx, .slice ga es.length cg, .slice ha ms.length ch], .string r, .int .i64 o] w fun e w' => ∃ sa ce sb cb, e = .returned (.tuple #[.agg #[.string sn, .int .i64 lo, .int .i64 nx, .slice sa es.length ce, .slice sb (ansM sn lo nx es ms r o).length cb], .bool (fits sn lo nx es ms r o)]) ∧ OR flY.c 3 43 w' w.heap.size sa ce es ∧ OR flK.c 2 45 w' w.heap.size sb cb (ansM sn lo nx es ms r o) ∧ Below w.heap.size w w' := by
  have hWb : Below w.heap.size w ((w.alloc (.cells #[.string sn, .int .i64 lo, .int .i64 nx, .slice ga es.length cg, .slice ha ms.length ch] 27)).alloc (.cells #[.string ⟨#[]⟩, .int .i64 0, .int .i64 0, .slice none 0 0, .slice none 0 0] 27)) := ((Below.refl _ _).alloc (Nat.le_refl _) _).alloc (by simp) _
  have hcopy := spec_copy sn lo nx es ms g h cg ch ((w.alloc (.cells #[.string sn, .int .i64 lo, .int .i64 nx, .slice ga es.length cg, .slice ha ms.length ch] 27)).alloc (.cells #[.string ⟨#[]⟩, .int .i64 0, .int .i64 0, .slice none 0 0, .slice none 0 0] 27)) F (hY.below hWb) (hE.below hWb) ga ha hga hha
  have HF : Hid (Fit sn es ms) := F
  have HY : Hid (RY w g es) := hY
  have HE : Hid (RE w h ms) := hE
  have HAE : Hid (ansM sn lo nx es ms r o = if fits sn lo nx es ms r o = true then setM ms r o else ms) := rfl
  obtain ⟨AE, hAE⟩ : ∃ AE, ansM sn lo nx es ms r o = AE := ⟨_, rfl⟩
  rw [hAE] at HAE
  simp only [hAE]
  obtain ⟨ft, hft⟩ : ∃ ft, fits sn lo nx es ms r o = ft := ⟨_, rfl⟩
  rw [hft] at HAE
  simp only [hft]
  have HFT : Hid (fits sn lo nx es ms r o = ft) := hft
  have hel := F.ml
  obtain ⟨i0, hi, hz0, hz1, hz2⟩ := infoK
  clear hY hE F hAE hft
  go_enter Tryd.func7, Tryd.ntmps7
  go_wp2_with (go_at_call 29; fail)
  refine hcopy.mono ?_
  rintro e w1 ⟨g1, c1, h1, c2, rfl, oe1, om1, _, hb1⟩
  have hsp := sm_of (first_out sn lo nx es ms ga ha cg ch w w1 g1 c1 h1 c2 hb1 oe1 om1)
  obtain ⟨X, hX⟩ : ∃ X, w1.alloc (.cells #[.string sn, .int .i64 lo, .int .i64 nx, .slice (some ⟨g1, 0, none⟩) es.length c1, .slice (some ⟨h1, 0, none⟩) ms.length c2] 27) = X := ⟨_, rfl⟩
  rw [hX] at hsp
  have HSP : Hid (SM w sn lo nx es ms ga ha cg ch w1.heap.size g1 c1 h1 c2 ms X) := hsp
  have x0 : X.cell? ⟨w.heap.size, 0, none⟩ = some (.string sn) := bcell hsp.box rfl
  have x1 : X.cell? ⟨w.heap.size, 1, none⟩ = some (.int .i64 lo) := bcell hsp.box rfl
  have x2 : X.cell? ⟨w.heap.size, 2, none⟩ = some (.int .i64 nx) := bcell hsp.box rfl
  have x3 : X.cell? ⟨w.heap.size, 3, none⟩ = some (.slice ga es.length cg) := bcell hsp.box rfl
  have x4 : X.cell? ⟨w.heap.size, 4, none⟩ = some (.slice ha ms.length ch) := bcell hsp.box rfl
  have hok := sts.spec_ok sn lo nx es ms g h cg ch X HF.out (HY.out.below hsp.bel) (HE.out.below hsp.bel) ga ha hga.out.at hha.out.at
  clear hcopy oe1 om1 hb1 hWb hsp
  cases hob : okB sn lo nx es ms with
  | false =>
    rw [hob] at hok
    obtain rfl : ft = false := by rw [← HFT.out]; unfold fits; rw [hob]; rfl
    obtain rfl : ms = AE := HAE.out.symm
    go_wp2_with (go_at_call 30; fail)
    clear hX
    refine hok.mono ?_
    rintro e w2 ⟨rfl, hb2⟩
    have hs2 := HSP.out.on hb2
    have HS2 : Hid (SM w sn lo nx es ms ga ha cg ch w1.heap.size g1 c1 h1 c2 ms w2) := hs2
    have n0 : w2.cell? ⟨w1.heap.size, 0, none⟩ = some (.string sn) := bcell hs2.out rfl
    have n1 : w2.cell? ⟨w1.heap.size, 1, none⟩ = some (.int .i64 lo) := bcell hs2.out rfl
    have n2 : w2.cell? ⟨w1.heap.size, 2, none⟩ = some (.int .i64 nx) := bcell hs2.out rfl
    have n3 : w2.cell? ⟨w1.heap.size, 3, none⟩ = some (.slice (some ⟨g1, 0, none⟩) es.length c1) := bcell hs2.out rfl
    have n4 : w2.cell? ⟨w1.heap.size, 4, none⟩ = some (.slice (some ⟨h1, 0, none⟩) ms.length c2) := bcell hs2.out rfl
    have z0 : w2.cell? ⟨w.heap.size + 1, 0, none⟩ = some (.string ⟨#[]⟩) := bcell hs2.res rfl
    have z1 : w2.cell? ⟨w.heap.size + 1, 1, none⟩ = some (.int .i64 0) := bcell hs2.res rfl
    have z2 : w2.cell? ⟨w.heap.size + 1, 2, none⟩ = some (.int .i64 0) := bcell hs2.res rfl
    have z3 : w2.cell? ⟨w.heap.size + 1, 3, none⟩ = some (.slice none 0 0) := bcell hs2.res rfl
    have z4 : w2.cell? ⟨w.heap.size + 1, 4, none⟩ = some (.slice none 0 0) := bcell hs2.res rfl
    have z0f := bfree hs2.res 0
    have z1f := bfree hs2.res 1
    have z2f := bfree hs2.res 2
    have z3f := bfree hs2.res 3
    have z4f := bfree hs2.res 4
    clear hok hs2 HSP x0 x1 x2 x3 x4
    go_wp2
    refine bodyPost_ret (v := .tuple #[.agg #[.string sn, .int .i64 lo, .int .i64 nx, .slice (some ⟨g1, 0, none⟩) es.length c1, .slice (some ⟨h1, 0, none⟩) ms.length c2], .bool false]) (by simp [results, Tryd.results7, go_sem, z0, z1, z2, z3, z4]) rfl ⟨_, _, _, _, rfl, ?_, ?_, ?_⟩
    · exact fin_row flY.c_len HS2.out.oe
    · exact fin_row flK.c_len HS2.out.om
    · exact fin_below HS2.out.bel (Nat.le_succ _)
  | true =>
    rw [hob] at hok
    have HOK : Hid (OkT sn lo nx es ms) := okB_true.1 hob
    have hnx := HOK.out.nx0
    have hel4 := HOK.out.ml
    go_wp2_with (go_at_call 30; fail)
    clear hX
    refine hok.mono ?_
    rintro e w2 ⟨rfl, hb2⟩
    have hs2 := HSP.out.on hb2
    have HS2 : Hid (SM w sn lo nx es ms ga ha cg ch w1.heap.size g1 c1 h1 c2 ms w2) := hs2
    have y4 : w2.cell? ⟨w.heap.size, 4, none⟩ = some (.slice ha ms.length ch) := bcell hs2.box rfl
    have hsz2 := hs2.size
    have HE2 : Hid (RE w2 h ms) := HE.out.below hs2.bel
    clear hok hs2 HSP x0 x1 x2 x3 x4 hb2
    go_wp2
    go_loopw [9] (fun v wr => ∃ k : Nat, k ≤ ms.length ∧ v = .int .i64 k ∧ Hid (∀ (i : Nat) a, i < k → ms[i]? = some a → lt a.n r = true) ∧ wr = w2) (fun v _ => ms.length - (intOf v).toNat)
    case atStart => exact ⟨0, Nat.zero_le _, rfl, fun i a h => by omega, rfl⟩
    case round =>
      obtain ⟨k, hk, rfl, hn, hwr⟩ := hrel
      obtain rfl := hwr.symm
      by_cases hkl : k < ms.length
      · have f0 : decide ((k : Int) < (ms.length : Int)) = true := by simp; omega
        have g0 : ms[k]? = some ms[k] := List.getElem?_eq_getElem hkl
        have hqh : ha = some ⟨h, 0, none⟩ := hha.out.at (by omega)
        obtain ⟨a0, a1⟩ := HE2.out.2 k _ g0
        have HG : Hid (ms[k]? = some ms[k]) := g0
        obtain ⟨⟨mn, mo⟩, he⟩ : ∃ e, ms[k] = e := ⟨_, rfl⟩
        rw [he] at a0 a1 HG
        have i2 : (k : Int) < (ms.length : Int) := by omega
        clear g0 he
        cases hq : Op.bytesLess mn.toList r.toList with
        | true =>
          have hn2 : Hid (∀ (i : Nat) a, i < k + 1 → ms[i]? = some a → lt a.n r = true) := fun i a hi ha => by
            by_cases ei : i = k
            · subst ei; rw [HG.out] at ha; cases ha; exact hq
            · exact hn.out i a (by omega) ha
          go_wp2
          try rw [← hqa]
          try rw [← hqh]
          go_roundw
          case rel => exact ⟨k + 1, by omega, by go_num, hn2, by first | rfl | trivial⟩
          case measure => simp [intOf]; omega
        | false =>
          have HP : Hid (posM ms r = k) := posM_eq ms r k hk hn.out (fun a ha => by rw [HG.out] at ha; cases ha; exact hq)
          have r4 : ¬ ch = k := by omega
          have r4b : k < ch := by omega
          obtain rfl : ha = some ⟨h, 0, none⟩ := hqh
          have i5 : ((ch : Int) - (k : Int)).toNat = ch - k := by omega
          have r5 : 0 < ms.length - k := by omega
          have r7 : (0 : Int) < ((ms.length - k : Nat) : Int) := by omega
          have f5 : decide ((0 : Int) < ((ms.length - k : Nat) : Int)) = true := decide_eq_true r7
          clear i2 hwr
          by_cases heq : mn.toList = r.toList
          · have hq2 : (mn.toList == r.toList) = true := by simp [heq]
            have HIS : Hid (isM ms k r = true) := isM_true.2 ⟨_, HG.out, cmp_zero.2 (of_same heq)⟩
            clear heq
            have r8 : 1 ≤ ms.length - k := by omega
            by_cases hk1 : k + 1 < ms.length
            · have r6 : ¬ ch - k = 1 := by omega
              have hrest : restM ms r = ms.drop (k + 1) := by unfold restM; rw [HP.out, if_pos HIS.out]
              have hrl : (restM ms r).length = (ms.length - k - 1) := (congrArg List.length hrest).trans (by first | rfl | (simp; done) | (simp; omega))
              have hml : (ms.take k).length = k := by rw [List.length_take]; omega
              have hsl : (setM ms r o).length = k + 1 + (ms.length - k - 1) := by unfold setM; rw [HP.out, List.length_append, List.length_cons, hml, hrl] <;> omega
              have hsf : (setM ms r o).flatMap flK.c = (ms.take k).flatMap flK.c ++ [.string r, .int .i64 o] ++ (restM ms r).flatMap flK.c := by unfold setM; rw [HP.out]; simp [flK.c]
              have hS0 := HS2.out.st.alloc (.cells #[] 45)
              have ho0 := own_empty w2 (w.heap.size + 2) 45 2 (by omega)
              have HE0 : Hid (RE (w2.alloc (.cells #[] 45)) h ms) := HE.out.below hS0.bel
              have HS0 : Hid (ST w sn lo nx es ms ga (some ⟨h, 0, none⟩) cg ch w1.heap.size g1 c1 (.slice (some ⟨h1, 0, none⟩) ms.length c2) (w2.alloc (.cells #[] 45))) := hS0
              have HO0 : Hid ((w2.alloc (.cells #[] 45)).ownsRow (w.heap.size + 2) 45 2 (.slice (some ⟨w2.heap.size, 0, none⟩) 0 0) 0 []) := ho0
              have HR : Hid ((restM ms r).length = (ms.length - k - 1)) := hrl
              have HSL : Hid ((setM ms r o).length = k + 1 + (ms.length - k - 1)) := hsl
              have HSF : Hid ((setM ms r o).flatMap flK.c = (ms.take k).flatMap flK.c ++ [.string r, .int .i64 o] ++ (restM ms r).flatMap flK.c) := hsf
              have HRE : Hid (restM ms r = ms.drop (k + 1)) := hrest
              have HML : Hid ((ms.take k).length = k) := hml
              have y4b : (w2.alloc (.cells #[] 45)).cell? ⟨w.heap.size, 4, none⟩ = some (.slice (some ⟨h, 0, none⟩) ms.length ch) := bcell hS0.box rfl
              have hsW0 : (w2.alloc (.cells #[] 45)).heap.size = w2.heap.size + 1 := by simp
              obtain ⟨W0, hW0⟩ : ∃ W0, w2.alloc (.cells #[] 45) = W0 := ⟨_, rfl⟩
              rw [hW0] at y4b hsW0 HE0 HS0 HO0
              clear hS0 ho0 hrl hsl hsf hrest hml
              go_wp2_with (at_builtin; refine wpList_append_own _ rfl _ _ 25 rfl (w.heap.size + 2) 45 i0 (.agg #[.string ByteArray.empty, .int .i64 0]) 2 24 Tryd.underlying25 hi hz0 hz1 hz2 rfl (by decide) _ 0 [] rfl (by exact HO0.out) ⟨h, 0, none⟩ k ch ((ms.take k).flatMap flK.c) rfl (by rw [flat_len flK.c_len, HML.out]) (by exact news_take HE0.out k) (oneK _) (by unfold maxLen; omega) (by omega) (by first | omega | (simp; omega)) ?_)
              intro v3 w3 hown3 hgrow3 hnil3
              obtain ⟨g3, c3, rfl, hg3, hg3l⟩ := form hown3 (fun e => by first | exact hnil3 e | (have := hnil3.1 e; cases this.1))
              have hS3 := (HS0.out.grown hgrow3 HO0.out).alloc (.cells #[.string r, .int .i64 o] 45)
              have ho3 := hown3.alloc (.cells #[.string r, .int .i64 o] 45)
              have hnw := bnew w3 #[.string r, .int .i64 o] 45
              have hsz3 := hS3.size
              rw [World.size_alloc] at hsz3
              have HS3 : Hid (ST w sn lo nx es ms ga (some ⟨h, 0, none⟩) cg ch w1.heap.size g1 c1 (.slice (some ⟨h1, 0, none⟩) ms.length c2) (w3.alloc (.cells #[.string r, .int .i64 o] 45))) := hS3
              have HO3 : Hid ((w3.alloc (.cells #[.string r, .int .i64 o] 45)).ownsRow (w.heap.size + 2) 45 2 (.slice (some ⟨g3, 0, none⟩) k c3) k ((ms.take k).flatMap flK.c)) := by first | exact ho3 | (unfold Hid; rw [List.take_length]; exact ho3)
              clear hown3 hgrow3 hnil3 hS3 ho3 HS0 HO0 HE0 hW0 y4b hsW0
              go_wp2_with (at_builtin; refine wpList_append_own _ rfl _ _ 25 rfl (w.heap.size + 2) 45 i0 (.agg #[.string ByteArray.empty, .int .i64 0]) 2 24 Tryd.underlying25 hi hz0 hz1 hz2 rfl (by decide) _ k ((ms.take k).flatMap flK.c) rfl (by first | exact HO3.out | simpa using HO3.out) ⟨w3.heap.size, 0, none⟩ 1 1 [.string r, .int .i64 o] rfl rfl (by exact cells_mark hnw) (by intro u hu; simp at hu; rcases hu with rfl | rfl <;> rfl) (by unfold maxLen; omega) (by omega) (by first | omega | (simp; omega)) ?_)
              intro v4 w4 hown4 hgrow4 hnil4
              obtain ⟨g4, c4, rfl⟩ := own_form hown4
              have hS4 := HS3.out.grown hgrow4 HO3.out
              have hsz4 := hS4.size
              have HE4 : Hid (RE w4 h ms) := HE.out.below hS4.bel
              have HS4 : Hid (ST w sn lo nx es ms ga (some ⟨h, 0, none⟩) cg ch w1.heap.size g1 c1 (.slice (some ⟨h1, 0, none⟩) ms.length c2) w4) := hS4
              have HO4 : Hid (w4.ownsRow (w.heap.size + 2) 45 2 (.slice (some ⟨g4, 0, none⟩) (k + 1) c4) (k + 1) ((ms.take k).flatMap flK.c ++ [.string r, .int .i64 o])) := by first | exact hown4 | (unfold Hid; rw [List.take_length]; exact hown4)
              clear hown4 hgrow4 hnil4 hS4 HS3 HO3 hnw
              go_wp2_with (at_builtin; refine wpList_append_own _ rfl _ _ 25 rfl (w.heap.size + 2) 45 i0 (.agg #[.string ByteArray.empty, .int .i64 0]) 2 24 Tryd.underlying25 hi hz0 hz1 hz2 rfl (by decide) _ (k + 1) ((ms.take k).flatMap flK.c ++ [.string r, .int .i64 o]) rfl (by exact HO4.out) ⟨h, k * 2 + 2, none⟩ (ms.length - k - 1) (ch - k - 1) ((restM ms r).flatMap flK.c) rfl (by rw [flat_len flK.c_len, HR.out]) (by rw [HRE.out]; have hnd := news_drop HE4.out (k + 1) (by omega); rw [show (k + 1) * 2 = k * 2 + 2 by omega] at hnd; exact hnd) (oneK _) (by unfold maxLen; omega) (by omega) (by omega) ?_)
              intro v5 w5 hown5 hgrow5 hnil5
              obtain ⟨g5, c5, rfl, hg5, hg5l⟩ := form hown5 (fun e => by first | exact hnil5 e | (have := hnil5.1 e; cases this.1))
              have hS5 := HS4.out.grown hgrow5 HO4.out
              have hown5' : w5.ownsRow (w.heap.size + 2) 45 2 (.slice (some ⟨g5, 0, none⟩) (setM ms r o).length c5) (setM ms r o).length ((setM ms r o).flatMap flK.c) := by rw [HSL.out, HSF.out]; first | exact hown5 | simpa [Nat.add_assoc] using hown5
              have hsm := hS5.store hown5'
              have k0 := bfree hS5.out 4
              have k1 : w5.cell? ⟨w1.heap.size, 4, none⟩ = some (.slice (some ⟨h1, 0, none⟩) ms.length c2) := bcell hS5.out rfl
              obtain ⟨n5, hn5⟩ : ∃ n5, k + 1 + (ms.length - k - 1) = n5 := ⟨_, rfl⟩
              rw [HSL.out, hn5] at hsm
              have HN5 : Hid ((setM ms r o).length = n5) := HSL.out.trans hn5
              rw [hn5]
              have hF3 : Fit sn es (setM ms r o) := fit_mark HF.out HOK.out hbb
              obtain ⟨Y, hYe⟩ : ∃ Y, w5.setCell ⟨w1.heap.size, 4, none⟩ (.slice (some ⟨g5, 0, none⟩) n5 c5) = Y := ⟨_, rfl⟩
              rw [hYe] at hsm
              have hok3 := sts.spec_ok sn lo nx es (setM ms r o) g1 g5 c1 c5 Y hF3 (ry_owns hsm.oe) (re_owns hsm.om) _ _ (fun _ => rfl) (fun _ => rfl)
              rw [HN5.out] at hok3
              have HY3 : Hid (SM w sn lo nx es ms ga (some ⟨h, 0, none⟩) cg ch w1.heap.size g1 c1 g5 c5 (setM ms r o) Y) := hsm
              have o0 : Y.cell? ⟨w1.heap.size, 0, none⟩ = some (.string sn) := bcell hsm.out rfl
              have o1 : Y.cell? ⟨w1.heap.size, 1, none⟩ = some (.int .i64 lo) := bcell hsm.out rfl
              have o2 : Y.cell? ⟨w1.heap.size, 2, none⟩ = some (.int .i64 nx) := bcell hsm.out rfl
              have o3 : Y.cell? ⟨w1.heap.size, 3, none⟩ = some (.slice (some ⟨g1, 0, none⟩) es.length c1) := bcell hsm.out rfl
              have o4 : Y.cell? ⟨w1.heap.size, 4, none⟩ = some (.slice (some ⟨g5, 0, none⟩) (setM ms r o).length c5) := bcell hsm.out rfl
              rw [HN5.out] at o4
              clear hown5 hgrow5 hnil5 hS5 hown5' hn5 HS4 HO4 HE4
              cases hob3 : okB sn lo nx es (setM ms r o) with
              | true =>
                rw [hob3] at hok3
                obtain rfl : ft = true := by rw [← HFT.out]; unfold fits; rw [hob, hob3]; rfl
                obtain rfl : AE = setM ms r o := HAE.out
                go_wp2_with (go_at_call 30; fail)
                clear hYe o0 o1 o2 o3 o4
                refine hok3.mono ?_
                rintro e w6 ⟨rfl, hb6⟩
                have hs4 := HY3.out.on hb6
                have HS4 : Hid (SM w sn lo nx es ms ga (some ⟨h, 0, none⟩) cg ch w1.heap.size g1 c1 g5 c5 (setM ms r o) w6) := hs4
                have n0 : w6.cell? ⟨w1.heap.size, 0, none⟩ = some (.string sn) := bcell hs4.out rfl
                have n1 : w6.cell? ⟨w1.heap.size, 1, none⟩ = some (.int .i64 lo) := bcell hs4.out rfl
                have n2 : w6.cell? ⟨w1.heap.size, 2, none⟩ = some (.int .i64 nx) := bcell hs4.out rfl
                have n3 : w6.cell? ⟨w1.heap.size, 3, none⟩ = some (.slice (some ⟨g1, 0, none⟩) es.length c1) := bcell hs4.out rfl
                have n4 : w6.cell? ⟨w1.heap.size, 4, none⟩ = some (.slice (some ⟨g5, 0, none⟩) (setM ms r o).length c5) := bcell hs4.out rfl
                rw [HN5.out] at n4
                have z0 : w6.cell? ⟨w.heap.size + 1, 0, none⟩ = some (.string ⟨#[]⟩) := bcell hs4.res rfl
                have z1 : w6.cell? ⟨w.heap.size + 1, 1, none⟩ = some (.int .i64 0) := bcell hs4.res rfl
                have z2 : w6.cell? ⟨w.heap.size + 1, 2, none⟩ = some (.int .i64 0) := bcell hs4.res rfl
                have z3 : w6.cell? ⟨w.heap.size + 1, 3, none⟩ = some (.slice none 0 0) := bcell hs4.res rfl
                have z4 : w6.cell? ⟨w.heap.size + 1, 4, none⟩ = some (.slice none 0 0) := bcell hs4.res rfl
                have z0f := bfree hs4.res 0
                have z1f := bfree hs4.res 1
                have z2f := bfree hs4.res 2
                have z3f := bfree hs4.res 3
                have z4f := bfree hs4.res 4
                clear hok3 hs4 HY3
                go_wp2
                refine bodyPost_ret (v := .tuple #[.agg #[.string sn, .int .i64 lo, .int .i64 nx, .slice (some ⟨g1, 0, none⟩) es.length c1, .slice (some ⟨g5, 0, none⟩) n5 c5], .bool true]) (by simp [results, Tryd.results7, go_sem, z0, z1, z2, z3, z4]) rfl ⟨some ⟨g1, 0, none⟩, c1, some ⟨g5, 0, none⟩, c5, by rw [HN5.out], ?_, ?_, ?_⟩
                · exact fin_row flY.c_len HS4.out.oe
                · exact fin_row flK.c_len HS4.out.om
                · exact fin_below HS4.out.bel (Nat.le_succ _)
              | false =>
                rw [hob3] at hok3
                obtain rfl : ft = false := by rw [← HFT.out]; unfold fits; rw [hob, hob3]; rfl
                have hAE : AE = ms := HAE.out
                go_wp2_with (go_at_call 30; fail)
                clear hYe o0 o1 o2 o3 o4
                refine hok3.mono ?_
                rintro e w6 ⟨rfl, hb6⟩
                have hs4 := HY3.out.on hb6
                have hc5 := spec_copy sn lo nx es ms g h cg ch w6 HF.out (HY.out.below hs4.bel) (HE.out.below hs4.bel) ga _ hga hha
                have HS4 : Hid (SM w sn lo nx es ms ga (some ⟨h, 0, none⟩) cg ch w1.heap.size g1 c1 g5 c5 (setM ms r o) w6) := hs4
                have x0 : w6.cell? ⟨w.heap.size, 0, none⟩ = some (.string sn) := bcell hs4.box rfl
                have x1 : w6.cell? ⟨w.heap.size, 1, none⟩ = some (.int .i64 lo) := bcell hs4.box rfl
                have x2 : w6.cell? ⟨w.heap.size, 2, none⟩ = some (.int .i64 nx) := bcell hs4.box rfl
                have x3 : w6.cell? ⟨w.heap.size, 3, none⟩ = some (.slice ga es.length cg) := bcell hs4.box rfl
                have x4 : w6.cell? ⟨w.heap.size, 4, none⟩ = some (.slice (some ⟨h, 0, none⟩) ms.length ch) := bcell hs4.box rfl
                clear hok3 hs4 HY3
                go_wp2_with (go_at_call 29; fail)
                refine hc5.mono ?_
                rintro e w7 ⟨g7, c7, h7, d7, rfl, oe5, om5, _, hb5⟩
                have hs5 := HS4.out.on hb5
                have hsz5 := HS4.out.size
                have z0 : w7.cell? ⟨w.heap.size + 1, 0, none⟩ = some (.string ⟨#[]⟩) := bcell hs5.res rfl
                have z1 : w7.cell? ⟨w.heap.size + 1, 1, none⟩ = some (.int .i64 0) := bcell hs5.res rfl
                have z2 : w7.cell? ⟨w.heap.size + 1, 2, none⟩ = some (.int .i64 0) := bcell hs5.res rfl
                have z3 : w7.cell? ⟨w.heap.size + 1, 3, none⟩ = some (.slice none 0 0) := bcell hs5.res rfl
                have z4 : w7.cell? ⟨w.heap.size + 1, 4, none⟩ = some (.slice none 0 0) := bcell hs5.res rfl
                have z0f := bfree hs5.res 0
                have z1f := bfree hs5.res 1
                have z2f := bfree hs5.res 2
                have z3f := bfree hs5.res 3
                have z4f := bfree hs5.res 4
                have HB5 : Hid (Below w.heap.size w w7) := hs5.bel
                have HOE5 : Hid (w7.ownsRow (w.heap.size + 2) 43 3 (.slice (some ⟨g7, 0, none⟩) es.length c7) es.length (es.flatMap flY.c)) := own_low oe5 hsz5
                have HOM5 : Hid (w7.ownsRow (w.heap.size + 2) 45 2 (.slice (some ⟨h7, 0, none⟩) ms.length d7) ms.length (ms.flatMap flK.c)) := own_low om5 hsz5
                have HAM : Hid (AE = ms) := hAE
                clear hc5 hs5 oe5 om5 hb5 HS4 x0 x1 x2 x3 x4 hAE
                go_wp2
                refine bodyPost_ret (v := .tuple #[.agg #[.string sn, .int .i64 lo, .int .i64 nx, .slice (some ⟨g7, 0, none⟩) es.length c7, .slice (some ⟨h7, 0, none⟩) ms.length d7], .bool false]) (by simp [results, Tryd.results7, go_sem, z0, z1, z2, z3, z4]) rfl ⟨some ⟨g7, 0, none⟩, c7, some ⟨h7, 0, none⟩, d7, by rw [HAM.out], ?_, ?_, ?_⟩
                · exact fin_row flY.c_len HOE5.out
                · rw [HAM.out]; exact fin_row flK.c_len HOM5.out
                · exact fin_below HB5.out (Nat.le_succ _)

            · have r6 : ms.length - k = 1 := by omega
              by_cases hc1 : ch - k = 1
              · clear r4b
                have hrest : restM ms r = [] := by unfold restM; rw [HP.out, if_pos HIS.out, List.drop_eq_nil_of_le (by omega)]
                have hrl : (restM ms r).length = (0) := (congrArg List.length hrest).trans (by first | rfl | (simp; done) | (simp; omega))
                have hml : (ms.take k).length = k := by rw [List.length_take]; omega
                have hsl : (setM ms r o).length = k + 1 + (0) := by unfold setM; rw [HP.out, List.length_append, List.length_cons, hml, hrl] <;> omega
                have hsf : (setM ms r o).flatMap flK.c = (ms.take k).flatMap flK.c ++ [.string r, .int .i64 o] ++ (restM ms r).flatMap flK.c := by unfold setM; rw [HP.out]; simp [flK.c]
                have hS0 := HS2.out.st.alloc (.cells #[] 45)
                have ho0 := own_empty w2 (w.heap.size + 2) 45 2 (by omega)
                have HE0 : Hid (RE (w2.alloc (.cells #[] 45)) h ms) := HE.out.below hS0.bel
                have HS0 : Hid (ST w sn lo nx es ms ga (some ⟨h, 0, none⟩) cg ch w1.heap.size g1 c1 (.slice (some ⟨h1, 0, none⟩) ms.length c2) (w2.alloc (.cells #[] 45))) := hS0
                have HO0 : Hid ((w2.alloc (.cells #[] 45)).ownsRow (w.heap.size + 2) 45 2 (.slice (some ⟨w2.heap.size, 0, none⟩) 0 0) 0 []) := ho0
                have HR : Hid ((restM ms r).length = (0)) := hrl
                have HSL : Hid ((setM ms r o).length = k + 1 + (0)) := hsl
                have HSF : Hid ((setM ms r o).flatMap flK.c = (ms.take k).flatMap flK.c ++ [.string r, .int .i64 o] ++ (restM ms r).flatMap flK.c) := hsf
                have HRE : Hid (restM ms r = []) := hrest
                have HML : Hid ((ms.take k).length = k) := hml
                have y4b : (w2.alloc (.cells #[] 45)).cell? ⟨w.heap.size, 4, none⟩ = some (.slice (some ⟨h, 0, none⟩) ms.length ch) := bcell hS0.box rfl
                have hsW0 : (w2.alloc (.cells #[] 45)).heap.size = w2.heap.size + 1 := by simp
                obtain ⟨W0, hW0⟩ : ∃ W0, w2.alloc (.cells #[] 45) = W0 := ⟨_, rfl⟩
                rw [hW0] at y4b hsW0 HE0 HS0 HO0
                clear hS0 ho0 hrl hsl hsf hrest hml
                go_wp2_with (at_builtin; refine wpList_append_own _ rfl _ _ 25 rfl (w.heap.size + 2) 45 i0 (.agg #[.string ByteArray.empty, .int .i64 0]) 2 24 Tryd.underlying25 hi hz0 hz1 hz2 rfl (by decide) _ 0 [] rfl (by exact HO0.out) ⟨h, 0, none⟩ k ch ((ms.take k).flatMap flK.c) rfl (by rw [flat_len flK.c_len, HML.out]) (by exact news_take HE0.out k) (oneK _) (by unfold maxLen; omega) (by omega) (by first | omega | (simp; omega)) ?_)
                intro v3 w3 hown3 hgrow3 hnil3
                obtain ⟨g3, c3, rfl, hg3, hg3l⟩ := form hown3 (fun e => by first | exact hnil3 e | (have := hnil3.1 e; cases this.1))
                have hS3 := (HS0.out.grown hgrow3 HO0.out).alloc (.cells #[.string r, .int .i64 o] 45)
                have ho3 := hown3.alloc (.cells #[.string r, .int .i64 o] 45)
                have hnw := bnew w3 #[.string r, .int .i64 o] 45
                have hsz3 := hS3.size
                rw [World.size_alloc] at hsz3
                have HS3 : Hid (ST w sn lo nx es ms ga (some ⟨h, 0, none⟩) cg ch w1.heap.size g1 c1 (.slice (some ⟨h1, 0, none⟩) ms.length c2) (w3.alloc (.cells #[.string r, .int .i64 o] 45))) := hS3
                have HO3 : Hid ((w3.alloc (.cells #[.string r, .int .i64 o] 45)).ownsRow (w.heap.size + 2) 45 2 (.slice (some ⟨g3, 0, none⟩) k c3) k ((ms.take k).flatMap flK.c)) := by first | exact ho3 | (unfold Hid; rw [List.take_length]; exact ho3)
                clear hown3 hgrow3 hnil3 hS3 ho3 HS0 HO0 HE0 hW0 y4b hsW0
                go_wp2_with (at_builtin; refine wpList_append_own _ rfl _ _ 25 rfl (w.heap.size + 2) 45 i0 (.agg #[.string ByteArray.empty, .int .i64 0]) 2 24 Tryd.underlying25 hi hz0 hz1 hz2 rfl (by decide) _ k ((ms.take k).flatMap flK.c) rfl (by first | exact HO3.out | simpa using HO3.out) ⟨w3.heap.size, 0, none⟩ 1 1 [.string r, .int .i64 o] rfl rfl (by exact cells_mark hnw) (by intro u hu; simp at hu; rcases hu with rfl | rfl <;> rfl) (by unfold maxLen; omega) (by omega) (by first | omega | (simp; omega)) ?_)
                intro v4 w4 hown4 hgrow4 hnil4
                obtain ⟨g4, c4, rfl⟩ := own_form hown4
                have hS4 := HS3.out.grown hgrow4 HO3.out
                have hsz4 := hS4.size
                have HE4 : Hid (RE w4 h ms) := HE.out.below hS4.bel
                have HS4 : Hid (ST w sn lo nx es ms ga (some ⟨h, 0, none⟩) cg ch w1.heap.size g1 c1 (.slice (some ⟨h1, 0, none⟩) ms.length c2) w4) := hS4
                have HO4 : Hid (w4.ownsRow (w.heap.size + 2) 45 2 (.slice (some ⟨g4, 0, none⟩) (k + 1) c4) (k + 1) ((ms.take k).flatMap flK.c ++ [.string r, .int .i64 o])) := by first | exact hown4 | (unfold Hid; rw [List.take_length]; exact hown4)
                clear hown4 hgrow4 hnil4 hS4 HS3 HO3 hnw
                go_wp2_with (at_builtin; refine wpList_append_own _ rfl _ _ 25 rfl (w.heap.size + 2) 45 i0 (.agg #[.string ByteArray.empty, .int .i64 0]) 2 24 Tryd.underlying25 hi hz0 hz1 hz2 rfl (by decide) _ (k + 1) ((ms.take k).flatMap flK.c ++ [.string r, .int .i64 o]) rfl (by exact HO4.out) ⟨h, k * 2, none⟩ (0) (0) ((restM ms r).flatMap flK.c) rfl (by rw [flat_len flK.c_len, HR.out]) (by rw [HRE.out]; intro j u hu; simp at hu) (oneK _) (by unfold maxLen; omega) (by omega) (by omega) ?_)
                intro v5 w5 hown5 hgrow5 hnil5
                obtain ⟨g5, c5, rfl, hg5, hg5l⟩ := form hown5 (fun e => by first | exact hnil5 e | (have := hnil5.1 e; cases this.1))
                have hS5 := HS4.out.grown hgrow5 HO4.out
                have hown5' : w5.ownsRow (w.heap.size + 2) 45 2 (.slice (some ⟨g5, 0, none⟩) (setM ms r o).length c5) (setM ms r o).length ((setM ms r o).flatMap flK.c) := by rw [HSL.out, HSF.out]; first | exact hown5 | simpa [Nat.add_assoc] using hown5
                have hsm := hS5.store hown5'
                have k0 := bfree hS5.out 4
                have k1 : w5.cell? ⟨w1.heap.size, 4, none⟩ = some (.slice (some ⟨h1, 0, none⟩) ms.length c2) := bcell hS5.out rfl
                obtain ⟨n5, hn5⟩ : ∃ n5, k + 1 + (0) = n5 := ⟨_, rfl⟩
                rw [HSL.out, hn5] at hsm
                have HN5 : Hid ((setM ms r o).length = n5) := HSL.out.trans hn5
                rw [hn5]
                have hF3 : Fit sn es (setM ms r o) := fit_mark HF.out HOK.out hbb
                obtain ⟨Y, hYe⟩ : ∃ Y, w5.setCell ⟨w1.heap.size, 4, none⟩ (.slice (some ⟨g5, 0, none⟩) n5 c5) = Y := ⟨_, rfl⟩
                rw [hYe] at hsm
                have hok3 := sts.spec_ok sn lo nx es (setM ms r o) g1 g5 c1 c5 Y hF3 (ry_owns hsm.oe) (re_owns hsm.om) _ _ (fun _ => rfl) (fun _ => rfl)
                rw [HN5.out] at hok3
                have HY3 : Hid (SM w sn lo nx es ms ga (some ⟨h, 0, none⟩) cg ch w1.heap.size g1 c1 g5 c5 (setM ms r o) Y) := hsm
                have o0 : Y.cell? ⟨w1.heap.size, 0, none⟩ = some (.string sn) := bcell hsm.out rfl
                have o1 : Y.cell? ⟨w1.heap.size, 1, none⟩ = some (.int .i64 lo) := bcell hsm.out rfl
                have o2 : Y.cell? ⟨w1.heap.size, 2, none⟩ = some (.int .i64 nx) := bcell hsm.out rfl
                have o3 : Y.cell? ⟨w1.heap.size, 3, none⟩ = some (.slice (some ⟨g1, 0, none⟩) es.length c1) := bcell hsm.out rfl
                have o4 : Y.cell? ⟨w1.heap.size, 4, none⟩ = some (.slice (some ⟨g5, 0, none⟩) (setM ms r o).length c5) := bcell hsm.out rfl
                rw [HN5.out] at o4
                clear hown5 hgrow5 hnil5 hS5 hown5' hn5 HS4 HO4 HE4
                cases hob3 : okB sn lo nx es (setM ms r o) with
                | true =>
                  rw [hob3] at hok3
                  obtain rfl : ft = true := by rw [← HFT.out]; unfold fits; rw [hob, hob3]; rfl
                  obtain rfl : AE = setM ms r o := HAE.out
                  go_wp2_with (go_at_call 30; fail)
                  clear hYe o0 o1 o2 o3 o4
                  refine hok3.mono ?_
                  rintro e w6 ⟨rfl, hb6⟩
                  have hs4 := HY3.out.on hb6
                  have HS4 : Hid (SM w sn lo nx es ms ga (some ⟨h, 0, none⟩) cg ch w1.heap.size g1 c1 g5 c5 (setM ms r o) w6) := hs4
                  have n0 : w6.cell? ⟨w1.heap.size, 0, none⟩ = some (.string sn) := bcell hs4.out rfl
                  have n1 : w6.cell? ⟨w1.heap.size, 1, none⟩ = some (.int .i64 lo) := bcell hs4.out rfl
                  have n2 : w6.cell? ⟨w1.heap.size, 2, none⟩ = some (.int .i64 nx) := bcell hs4.out rfl
                  have n3 : w6.cell? ⟨w1.heap.size, 3, none⟩ = some (.slice (some ⟨g1, 0, none⟩) es.length c1) := bcell hs4.out rfl
                  have n4 : w6.cell? ⟨w1.heap.size, 4, none⟩ = some (.slice (some ⟨g5, 0, none⟩) (setM ms r o).length c5) := bcell hs4.out rfl
                  rw [HN5.out] at n4
                  have z0 : w6.cell? ⟨w.heap.size + 1, 0, none⟩ = some (.string ⟨#[]⟩) := bcell hs4.res rfl
                  have z1 : w6.cell? ⟨w.heap.size + 1, 1, none⟩ = some (.int .i64 0) := bcell hs4.res rfl
                  have z2 : w6.cell? ⟨w.heap.size + 1, 2, none⟩ = some (.int .i64 0) := bcell hs4.res rfl
                  have z3 : w6.cell? ⟨w.heap.size + 1, 3, none⟩ = some (.slice none 0 0) := bcell hs4.res rfl
                  have z4 : w6.cell? ⟨w.heap.size + 1, 4, none⟩ = some (.slice none 0 0) := bcell hs4.res rfl
                  have z0f := bfree hs4.res 0
                  have z1f := bfree hs4.res 1
                  have z2f := bfree hs4.res 2
                  have z3f := bfree hs4.res 3
                  have z4f := bfree hs4.res 4
                  clear hok3 hs4 HY3
                  go_wp2
                  refine bodyPost_ret (v := .tuple #[.agg #[.string sn, .int .i64 lo, .int .i64 nx, .slice (some ⟨g1, 0, none⟩) es.length c1, .slice (some ⟨g5, 0, none⟩) n5 c5], .bool true]) (by simp [results, Tryd.results7, go_sem, z0, z1, z2, z3, z4]) rfl ⟨some ⟨g1, 0, none⟩, c1, some ⟨g5, 0, none⟩, c5, by rw [HN5.out], ?_, ?_, ?_⟩
                  · exact fin_row flY.c_len HS4.out.oe
                  · exact fin_row flK.c_len HS4.out.om
                  · exact fin_below HS4.out.bel (Nat.le_succ _)
                | false =>
                  rw [hob3] at hok3
                  obtain rfl : ft = false := by rw [← HFT.out]; unfold fits; rw [hob, hob3]; rfl
                  have hAE : AE = ms := HAE.out
                  go_wp2_with (go_at_call 30; fail)
                  clear hYe o0 o1 o2 o3 o4
                  refine hok3.mono ?_
                  rintro e w6 ⟨rfl, hb6⟩
                  have hs4 := HY3.out.on hb6
                  have hc5 := spec_copy sn lo nx es ms g h cg ch w6 HF.out (HY.out.below hs4.bel) (HE.out.below hs4.bel) ga _ hga hha
                  have HS4 : Hid (SM w sn lo nx es ms ga (some ⟨h, 0, none⟩) cg ch w1.heap.size g1 c1 g5 c5 (setM ms r o) w6) := hs4
                  have x0 : w6.cell? ⟨w.heap.size, 0, none⟩ = some (.string sn) := bcell hs4.box rfl
                  have x1 : w6.cell? ⟨w.heap.size, 1, none⟩ = some (.int .i64 lo) := bcell hs4.box rfl
                  have x2 : w6.cell? ⟨w.heap.size, 2, none⟩ = some (.int .i64 nx) := bcell hs4.box rfl
                  have x3 : w6.cell? ⟨w.heap.size, 3, none⟩ = some (.slice ga es.length cg) := bcell hs4.box rfl
                  have x4 : w6.cell? ⟨w.heap.size, 4, none⟩ = some (.slice (some ⟨h, 0, none⟩) ms.length ch) := bcell hs4.box rfl
                  clear hok3 hs4 HY3
                  go_wp2_with (go_at_call 29; fail)
                  refine hc5.mono ?_
                  rintro e w7 ⟨g7, c7, h7, d7, rfl, oe5, om5, _, hb5⟩
                  have hs5 := HS4.out.on hb5
                  have hsz5 := HS4.out.size
                  have z0 : w7.cell? ⟨w.heap.size + 1, 0, none⟩ = some (.string ⟨#[]⟩) := bcell hs5.res rfl
                  have z1 : w7.cell? ⟨w.heap.size + 1, 1, none⟩ = some (.int .i64 0) := bcell hs5.res rfl
                  have z2 : w7.cell? ⟨w.heap.size + 1, 2, none⟩ = some (.int .i64 0) := bcell hs5.res rfl
                  have z3 : w7.cell? ⟨w.heap.size + 1, 3, none⟩ = some (.slice none 0 0) := bcell hs5.res rfl
                  have z4 : w7.cell? ⟨w.heap.size + 1, 4, none⟩ = some (.slice none 0 0) := bcell hs5.res rfl
                  have z0f := bfree hs5.res 0
                  have z1f := bfree hs5.res 1
                  have z2f := bfree hs5.res 2
                  have z3f := bfree hs5.res 3
                  have z4f := bfree hs5.res 4
                  have HB5 : Hid (Below w.heap.size w w7) := hs5.bel
                  have HOE5 : Hid (w7.ownsRow (w.heap.size + 2) 43 3 (.slice (some ⟨g7, 0, none⟩) es.length c7) es.length (es.flatMap flY.c)) := own_low oe5 hsz5
                  have HOM5 : Hid (w7.ownsRow (w.heap.size + 2) 45 2 (.slice (some ⟨h7, 0, none⟩) ms.length d7) ms.length (ms.flatMap flK.c)) := own_low om5 hsz5
                  have HAM : Hid (AE = ms) := hAE
                  clear hc5 hs5 oe5 om5 hb5 HS4 x0 x1 x2 x3 x4 hAE
                  go_wp2
                  refine bodyPost_ret (v := .tuple #[.agg #[.string sn, .int .i64 lo, .int .i64 nx, .slice (some ⟨g7, 0, none⟩) es.length c7, .slice (some ⟨h7, 0, none⟩) ms.length d7], .bool false]) (by simp [results, Tryd.results7, go_sem, z0, z1, z2, z3, z4]) rfl ⟨some ⟨g7, 0, none⟩, c7, some ⟨h7, 0, none⟩, d7, by rw [HAM.out], ?_, ?_, ?_⟩
                  · exact fin_row flY.c_len HOE5.out
                  · rw [HAM.out]; exact fin_row flK.c_len HOM5.out
                  · exact fin_below HB5.out (Nat.le_succ _)
              · clear r4b
                have hrest : restM ms r = [] := by unfold restM; rw [HP.out, if_pos HIS.out, List.drop_eq_nil_of_le (by omega)]
                have hrl : (restM ms r).length = (0) := (congrArg List.length hrest).trans (by first | rfl | (simp; done) | (simp; omega))
                have hml : (ms.take k).length = k := by rw [List.length_take]; omega
                have hsl : (setM ms r o).length = k + 1 + (0) := by unfold setM; rw [HP.out, List.length_append, List.length_cons, hml, hrl] <;> omega
                have hsf : (setM ms r o).flatMap flK.c = (ms.take k).flatMap flK.c ++ [.string r, .int .i64 o] ++ (restM ms r).flatMap flK.c := by unfold setM; rw [HP.out]; simp [flK.c]
                have hS0 := HS2.out.st.alloc (.cells #[] 45)
                have ho0 := own_empty w2 (w.heap.size + 2) 45 2 (by omega)
                have HE0 : Hid (RE (w2.alloc (.cells #[] 45)) h ms) := HE.out.below hS0.bel
                have HS0 : Hid (ST w sn lo nx es ms ga (some ⟨h, 0, none⟩) cg ch w1.heap.size g1 c1 (.slice (some ⟨h1, 0, none⟩) ms.length c2) (w2.alloc (.cells #[] 45))) := hS0
                have HO0 : Hid ((w2.alloc (.cells #[] 45)).ownsRow (w.heap.size + 2) 45 2 (.slice (some ⟨w2.heap.size, 0, none⟩) 0 0) 0 []) := ho0
                have HR : Hid ((restM ms r).length = (0)) := hrl
                have HSL : Hid ((setM ms r o).length = k + 1 + (0)) := hsl
                have HSF : Hid ((setM ms r o).flatMap flK.c = (ms.take k).flatMap flK.c ++ [.string r, .int .i64 o] ++ (restM ms r).flatMap flK.c) := hsf
                have HRE : Hid (restM ms r = []) := hrest
                have HML : Hid ((ms.take k).length = k) := hml
                have y4b : (w2.alloc (.cells #[] 45)).cell? ⟨w.heap.size, 4, none⟩ = some (.slice (some ⟨h, 0, none⟩) ms.length ch) := bcell hS0.box rfl
                have hsW0 : (w2.alloc (.cells #[] 45)).heap.size = w2.heap.size + 1 := by simp
                obtain ⟨W0, hW0⟩ : ∃ W0, w2.alloc (.cells #[] 45) = W0 := ⟨_, rfl⟩
                rw [hW0] at y4b hsW0 HE0 HS0 HO0
                clear hS0 ho0 hrl hsl hsf hrest hml
                go_wp2_with (at_builtin; refine wpList_append_own _ rfl _ _ 25 rfl (w.heap.size + 2) 45 i0 (.agg #[.string ByteArray.empty, .int .i64 0]) 2 24 Tryd.underlying25 hi hz0 hz1 hz2 rfl (by decide) _ 0 [] rfl (by exact HO0.out) ⟨h, 0, none⟩ k ch ((ms.take k).flatMap flK.c) rfl (by rw [flat_len flK.c_len, HML.out]) (by exact news_take HE0.out k) (oneK _) (by unfold maxLen; omega) (by omega) (by first | omega | (simp; omega)) ?_)
                intro v3 w3 hown3 hgrow3 hnil3
                obtain ⟨g3, c3, rfl, hg3, hg3l⟩ := form hown3 (fun e => by first | exact hnil3 e | (have := hnil3.1 e; cases this.1))
                have hS3 := (HS0.out.grown hgrow3 HO0.out).alloc (.cells #[.string r, .int .i64 o] 45)
                have ho3 := hown3.alloc (.cells #[.string r, .int .i64 o] 45)
                have hnw := bnew w3 #[.string r, .int .i64 o] 45
                have hsz3 := hS3.size
                rw [World.size_alloc] at hsz3
                have HS3 : Hid (ST w sn lo nx es ms ga (some ⟨h, 0, none⟩) cg ch w1.heap.size g1 c1 (.slice (some ⟨h1, 0, none⟩) ms.length c2) (w3.alloc (.cells #[.string r, .int .i64 o] 45))) := hS3
                have HO3 : Hid ((w3.alloc (.cells #[.string r, .int .i64 o] 45)).ownsRow (w.heap.size + 2) 45 2 (.slice (some ⟨g3, 0, none⟩) k c3) k ((ms.take k).flatMap flK.c)) := by first | exact ho3 | (unfold Hid; rw [List.take_length]; exact ho3)
                clear hown3 hgrow3 hnil3 hS3 ho3 HS0 HO0 HE0 hW0 y4b hsW0
                go_wp2_with (at_builtin; refine wpList_append_own _ rfl _ _ 25 rfl (w.heap.size + 2) 45 i0 (.agg #[.string ByteArray.empty, .int .i64 0]) 2 24 Tryd.underlying25 hi hz0 hz1 hz2 rfl (by decide) _ k ((ms.take k).flatMap flK.c) rfl (by first | exact HO3.out | simpa using HO3.out) ⟨w3.heap.size, 0, none⟩ 1 1 [.string r, .int .i64 o] rfl rfl (by exact cells_mark hnw) (by intro u hu; simp at hu; rcases hu with rfl | rfl <;> rfl) (by unfold maxLen; omega) (by omega) (by first | omega | (simp; omega)) ?_)
                intro v4 w4 hown4 hgrow4 hnil4
                obtain ⟨g4, c4, rfl⟩ := own_form hown4
                have hS4 := HS3.out.grown hgrow4 HO3.out
                have hsz4 := hS4.size
                have HE4 : Hid (RE w4 h ms) := HE.out.below hS4.bel
                have HS4 : Hid (ST w sn lo nx es ms ga (some ⟨h, 0, none⟩) cg ch w1.heap.size g1 c1 (.slice (some ⟨h1, 0, none⟩) ms.length c2) w4) := hS4
                have HO4 : Hid (w4.ownsRow (w.heap.size + 2) 45 2 (.slice (some ⟨g4, 0, none⟩) (k + 1) c4) (k + 1) ((ms.take k).flatMap flK.c ++ [.string r, .int .i64 o])) := by first | exact hown4 | (unfold Hid; rw [List.take_length]; exact hown4)
                clear hown4 hgrow4 hnil4 hS4 HS3 HO3 hnw
                go_wp2_with (at_builtin; refine wpList_append_own _ rfl _ _ 25 rfl (w.heap.size + 2) 45 i0 (.agg #[.string ByteArray.empty, .int .i64 0]) 2 24 Tryd.underlying25 hi hz0 hz1 hz2 rfl (by decide) _ (k + 1) ((ms.take k).flatMap flK.c ++ [.string r, .int .i64 o]) rfl (by exact HO4.out) ⟨h, k * 2 + 2, none⟩ (0) (ch - k - 1) ((restM ms r).flatMap flK.c) rfl (by rw [flat_len flK.c_len, HR.out]) (by rw [HRE.out]; intro j u hu; simp at hu) (oneK _) (by unfold maxLen; omega) (by omega) (by omega) ?_)
                intro v5 w5 hown5 hgrow5 hnil5
                obtain ⟨g5, c5, rfl, hg5, hg5l⟩ := form hown5 (fun e => by first | exact hnil5 e | (have := hnil5.1 e; cases this.1))
                have hS5 := HS4.out.grown hgrow5 HO4.out
                have hown5' : w5.ownsRow (w.heap.size + 2) 45 2 (.slice (some ⟨g5, 0, none⟩) (setM ms r o).length c5) (setM ms r o).length ((setM ms r o).flatMap flK.c) := by rw [HSL.out, HSF.out]; first | exact hown5 | simpa [Nat.add_assoc] using hown5
                have hsm := hS5.store hown5'
                have k0 := bfree hS5.out 4
                have k1 : w5.cell? ⟨w1.heap.size, 4, none⟩ = some (.slice (some ⟨h1, 0, none⟩) ms.length c2) := bcell hS5.out rfl
                obtain ⟨n5, hn5⟩ : ∃ n5, k + 1 + (0) = n5 := ⟨_, rfl⟩
                rw [HSL.out, hn5] at hsm
                have HN5 : Hid ((setM ms r o).length = n5) := HSL.out.trans hn5
                rw [hn5]
                have hF3 : Fit sn es (setM ms r o) := fit_mark HF.out HOK.out hbb
                obtain ⟨Y, hYe⟩ : ∃ Y, w5.setCell ⟨w1.heap.size, 4, none⟩ (.slice (some ⟨g5, 0, none⟩) n5 c5) = Y := ⟨_, rfl⟩
                rw [hYe] at hsm
                have hok3 := sts.spec_ok sn lo nx es (setM ms r o) g1 g5 c1 c5 Y hF3 (ry_owns hsm.oe) (re_owns hsm.om) _ _ (fun _ => rfl) (fun _ => rfl)
                rw [HN5.out] at hok3
                have HY3 : Hid (SM w sn lo nx es ms ga (some ⟨h, 0, none⟩) cg ch w1.heap.size g1 c1 g5 c5 (setM ms r o) Y) := hsm
                have o0 : Y.cell? ⟨w1.heap.size, 0, none⟩ = some (.string sn) := bcell hsm.out rfl
                have o1 : Y.cell? ⟨w1.heap.size, 1, none⟩ = some (.int .i64 lo) := bcell hsm.out rfl
                have o2 : Y.cell? ⟨w1.heap.size, 2, none⟩ = some (.int .i64 nx) := bcell hsm.out rfl
                have o3 : Y.cell? ⟨w1.heap.size, 3, none⟩ = some (.slice (some ⟨g1, 0, none⟩) es.length c1) := bcell hsm.out rfl
                have o4 : Y.cell? ⟨w1.heap.size, 4, none⟩ = some (.slice (some ⟨g5, 0, none⟩) (setM ms r o).length c5) := bcell hsm.out rfl
                rw [HN5.out] at o4
                clear hown5 hgrow5 hnil5 hS5 hown5' hn5 HS4 HO4 HE4
                cases hob3 : okB sn lo nx es (setM ms r o) with
                | true =>
                  rw [hob3] at hok3
                  obtain rfl : ft = true := by rw [← HFT.out]; unfold fits; rw [hob, hob3]; rfl
                  obtain rfl : AE = setM ms r o := HAE.out
                  go_wp2_with (go_at_call 30; fail)
                  clear hYe o0 o1 o2 o3 o4
                  refine hok3.mono ?_
                  rintro e w6 ⟨rfl, hb6⟩
                  have hs4 := HY3.out.on hb6
                  have HS4 : Hid (SM w sn lo nx es ms ga (some ⟨h, 0, none⟩) cg ch w1.heap.size g1 c1 g5 c5 (setM ms r o) w6) := hs4
                  have n0 : w6.cell? ⟨w1.heap.size, 0, none⟩ = some (.string sn) := bcell hs4.out rfl
                  have n1 : w6.cell? ⟨w1.heap.size, 1, none⟩ = some (.int .i64 lo) := bcell hs4.out rfl
                  have n2 : w6.cell? ⟨w1.heap.size, 2, none⟩ = some (.int .i64 nx) := bcell hs4.out rfl
                  have n3 : w6.cell? ⟨w1.heap.size, 3, none⟩ = some (.slice (some ⟨g1, 0, none⟩) es.length c1) := bcell hs4.out rfl
                  have n4 : w6.cell? ⟨w1.heap.size, 4, none⟩ = some (.slice (some ⟨g5, 0, none⟩) (setM ms r o).length c5) := bcell hs4.out rfl
                  rw [HN5.out] at n4
                  have z0 : w6.cell? ⟨w.heap.size + 1, 0, none⟩ = some (.string ⟨#[]⟩) := bcell hs4.res rfl
                  have z1 : w6.cell? ⟨w.heap.size + 1, 1, none⟩ = some (.int .i64 0) := bcell hs4.res rfl
                  have z2 : w6.cell? ⟨w.heap.size + 1, 2, none⟩ = some (.int .i64 0) := bcell hs4.res rfl
                  have z3 : w6.cell? ⟨w.heap.size + 1, 3, none⟩ = some (.slice none 0 0) := bcell hs4.res rfl
                  have z4 : w6.cell? ⟨w.heap.size + 1, 4, none⟩ = some (.slice none 0 0) := bcell hs4.res rfl
                  have z0f := bfree hs4.res 0
                  have z1f := bfree hs4.res 1
                  have z2f := bfree hs4.res 2
                  have z3f := bfree hs4.res 3
                  have z4f := bfree hs4.res 4
                  clear hok3 hs4 HY3
                  go_wp2
                  refine bodyPost_ret (v := .tuple #[.agg #[.string sn, .int .i64 lo, .int .i64 nx, .slice (some ⟨g1, 0, none⟩) es.length c1, .slice (some ⟨g5, 0, none⟩) n5 c5], .bool true]) (by simp [results, Tryd.results7, go_sem, z0, z1, z2, z3, z4]) rfl ⟨some ⟨g1, 0, none⟩, c1, some ⟨g5, 0, none⟩, c5, by rw [HN5.out], ?_, ?_, ?_⟩
                  · exact fin_row flY.c_len HS4.out.oe
                  · exact fin_row flK.c_len HS4.out.om
                  · exact fin_below HS4.out.bel (Nat.le_succ _)
                | false =>
                  rw [hob3] at hok3
                  obtain rfl : ft = false := by rw [← HFT.out]; unfold fits; rw [hob, hob3]; rfl
                  have hAE : AE = ms := HAE.out
                  go_wp2_with (go_at_call 30; fail)
                  clear hYe o0 o1 o2 o3 o4
                  refine hok3.mono ?_
                  rintro e w6 ⟨rfl, hb6⟩
                  have hs4 := HY3.out.on hb6
                  have hc5 := spec_copy sn lo nx es ms g h cg ch w6 HF.out (HY.out.below hs4.bel) (HE.out.below hs4.bel) ga _ hga hha
                  have HS4 : Hid (SM w sn lo nx es ms ga (some ⟨h, 0, none⟩) cg ch w1.heap.size g1 c1 g5 c5 (setM ms r o) w6) := hs4
                  have x0 : w6.cell? ⟨w.heap.size, 0, none⟩ = some (.string sn) := bcell hs4.box rfl
                  have x1 : w6.cell? ⟨w.heap.size, 1, none⟩ = some (.int .i64 lo) := bcell hs4.box rfl
                  have x2 : w6.cell? ⟨w.heap.size, 2, none⟩ = some (.int .i64 nx) := bcell hs4.box rfl
                  have x3 : w6.cell? ⟨w.heap.size, 3, none⟩ = some (.slice ga es.length cg) := bcell hs4.box rfl
                  have x4 : w6.cell? ⟨w.heap.size, 4, none⟩ = some (.slice (some ⟨h, 0, none⟩) ms.length ch) := bcell hs4.box rfl
                  clear hok3 hs4 HY3
                  go_wp2_with (go_at_call 29; fail)
                  refine hc5.mono ?_
                  rintro e w7 ⟨g7, c7, h7, d7, rfl, oe5, om5, _, hb5⟩
                  have hs5 := HS4.out.on hb5
                  have hsz5 := HS4.out.size
                  have z0 : w7.cell? ⟨w.heap.size + 1, 0, none⟩ = some (.string ⟨#[]⟩) := bcell hs5.res rfl
                  have z1 : w7.cell? ⟨w.heap.size + 1, 1, none⟩ = some (.int .i64 0) := bcell hs5.res rfl
                  have z2 : w7.cell? ⟨w.heap.size + 1, 2, none⟩ = some (.int .i64 0) := bcell hs5.res rfl
                  have z3 : w7.cell? ⟨w.heap.size + 1, 3, none⟩ = some (.slice none 0 0) := bcell hs5.res rfl
                  have z4 : w7.cell? ⟨w.heap.size + 1, 4, none⟩ = some (.slice none 0 0) := bcell hs5.res rfl
                  have z0f := bfree hs5.res 0
                  have z1f := bfree hs5.res 1
                  have z2f := bfree hs5.res 2
                  have z3f := bfree hs5.res 3
                  have z4f := bfree hs5.res 4
                  have HB5 : Hid (Below w.heap.size w w7) := hs5.bel
                  have HOE5 : Hid (w7.ownsRow (w.heap.size + 2) 43 3 (.slice (some ⟨g7, 0, none⟩) es.length c7) es.length (es.flatMap flY.c)) := own_low oe5 hsz5
                  have HOM5 : Hid (w7.ownsRow (w.heap.size + 2) 45 2 (.slice (some ⟨h7, 0, none⟩) ms.length d7) ms.length (ms.flatMap flK.c)) := own_low om5 hsz5
                  have HAM : Hid (AE = ms) := hAE
                  clear hc5 hs5 oe5 om5 hb5 HS4 x0 x1 x2 x3 x4 hAE
                  go_wp2
                  refine bodyPost_ret (v := .tuple #[.agg #[.string sn, .int .i64 lo, .int .i64 nx, .slice (some ⟨g7, 0, none⟩) es.length c7, .slice (some ⟨h7, 0, none⟩) ms.length d7], .bool false]) (by simp [results, Tryd.results7, go_sem, z0, z1, z2, z3, z4]) rfl ⟨some ⟨g7, 0, none⟩, c7, some ⟨h7, 0, none⟩, d7, by rw [HAM.out], ?_, ?_, ?_⟩
                  · exact fin_row flY.c_len HOE5.out
                  · rw [HAM.out]; exact fin_row flK.c_len HOM5.out
                  · exact fin_below HB5.out (Nat.le_succ _)
          · have hq2 : (mn.toList == r.toList) = false := by simp [heq]
            have HIS : Hid (isM ms k r = false) := by
              unfold Hid
              cases hh : isM ms k r with
              | false => rfl
              | true =>
                obtain ⟨a, ha, hz⟩ := isM_true.1 hh
                rw [HG.out] at ha
                cases ha
                exact absurd (congrArg ByteArray.toList (cmp_zero.1 hz)) heq
            clear heq
            have hrest : restM ms r = ms.drop k := by unfold restM; rw [HP.out, if_neg (by rw [HIS.out]; simp)]
            have hrl : (restM ms r).length = (ms.length - k) := (congrArg List.length hrest).trans (by first | rfl | (simp; done) | (simp; omega))
            have hml : (ms.take k).length = k := by rw [List.length_take]; omega
            have hsl : (setM ms r o).length = k + 1 + (ms.length - k) := by unfold setM; rw [HP.out, List.length_append, List.length_cons, hml, hrl] <;> omega
            have hsf : (setM ms r o).flatMap flK.c = (ms.take k).flatMap flK.c ++ [.string r, .int .i64 o] ++ (restM ms r).flatMap flK.c := by unfold setM; rw [HP.out]; simp [flK.c]
            have hS0 := HS2.out.st.alloc (.cells #[] 45)
            have ho0 := own_empty w2 (w.heap.size + 2) 45 2 (by omega)
            have HE0 : Hid (RE (w2.alloc (.cells #[] 45)) h ms) := HE.out.below hS0.bel
            have HS0 : Hid (ST w sn lo nx es ms ga (some ⟨h, 0, none⟩) cg ch w1.heap.size g1 c1 (.slice (some ⟨h1, 0, none⟩) ms.length c2) (w2.alloc (.cells #[] 45))) := hS0
            have HO0 : Hid ((w2.alloc (.cells #[] 45)).ownsRow (w.heap.size + 2) 45 2 (.slice (some ⟨w2.heap.size, 0, none⟩) 0 0) 0 []) := ho0
            have HR : Hid ((restM ms r).length = (ms.length - k)) := hrl
            have HSL : Hid ((setM ms r o).length = k + 1 + (ms.length - k)) := hsl
            have HSF : Hid ((setM ms r o).flatMap flK.c = (ms.take k).flatMap flK.c ++ [.string r, .int .i64 o] ++ (restM ms r).flatMap flK.c) := hsf
            have HRE : Hid (restM ms r = ms.drop k) := hrest
            have HML : Hid ((ms.take k).length = k) := hml
            have y4b : (w2.alloc (.cells #[] 45)).cell? ⟨w.heap.size, 4, none⟩ = some (.slice (some ⟨h, 0, none⟩) ms.length ch) := bcell hS0.box rfl
            have hsW0 : (w2.alloc (.cells #[] 45)).heap.size = w2.heap.size + 1 := by simp
            obtain ⟨W0, hW0⟩ : ∃ W0, w2.alloc (.cells #[] 45) = W0 := ⟨_, rfl⟩
            rw [hW0] at y4b hsW0 HE0 HS0 HO0
            clear hS0 ho0 hrl hsl hsf hrest hml
            go_wp2_with (at_builtin; refine wpList_append_own _ rfl _ _ 25 rfl (w.heap.size + 2) 45 i0 (.agg #[.string ByteArray.empty, .int .i64 0]) 2 24 Tryd.underlying25 hi hz0 hz1 hz2 rfl (by decide) _ 0 [] rfl (by exact HO0.out) ⟨h, 0, none⟩ k ch ((ms.take k).flatMap flK.c) rfl (by rw [flat_len flK.c_len, HML.out]) (by exact news_take HE0.out k) (oneK _) (by unfold maxLen; omega) (by omega) (by first | omega | (simp; omega)) ?_)
            intro v3 w3 hown3 hgrow3 hnil3
            obtain ⟨g3, c3, rfl, hg3, hg3l⟩ := form hown3 (fun e => by first | exact hnil3 e | (have := hnil3.1 e; cases this.1))
            have hS3 := (HS0.out.grown hgrow3 HO0.out).alloc (.cells #[.string r, .int .i64 o] 45)
            have ho3 := hown3.alloc (.cells #[.string r, .int .i64 o] 45)
            have hnw := bnew w3 #[.string r, .int .i64 o] 45
            have hsz3 := hS3.size
            rw [World.size_alloc] at hsz3
            have HS3 : Hid (ST w sn lo nx es ms ga (some ⟨h, 0, none⟩) cg ch w1.heap.size g1 c1 (.slice (some ⟨h1, 0, none⟩) ms.length c2) (w3.alloc (.cells #[.string r, .int .i64 o] 45))) := hS3
            have HO3 : Hid ((w3.alloc (.cells #[.string r, .int .i64 o] 45)).ownsRow (w.heap.size + 2) 45 2 (.slice (some ⟨g3, 0, none⟩) k c3) k ((ms.take k).flatMap flK.c)) := by first | exact ho3 | (unfold Hid; rw [List.take_length]; exact ho3)
            clear hown3 hgrow3 hnil3 hS3 ho3 HS0 HO0 HE0 hW0 y4b hsW0
            go_wp2_with (at_builtin; refine wpList_append_own _ rfl _ _ 25 rfl (w.heap.size + 2) 45 i0 (.agg #[.string ByteArray.empty, .int .i64 0]) 2 24 Tryd.underlying25 hi hz0 hz1 hz2 rfl (by decide) _ k ((ms.take k).flatMap flK.c) rfl (by first | exact HO3.out | simpa using HO3.out) ⟨w3.heap.size, 0, none⟩ 1 1 [.string r, .int .i64 o] rfl rfl (by exact cells_mark hnw) (by intro u hu; simp at hu; rcases hu with rfl | rfl <;> rfl) (by unfold maxLen; omega) (by omega) (by first | omega | (simp; omega)) ?_)
            intro v4 w4 hown4 hgrow4 hnil4
            obtain ⟨g4, c4, rfl⟩ := own_form hown4
            have hS4 := HS3.out.grown hgrow4 HO3.out
            have hsz4 := hS4.size
            have HE4 : Hid (RE w4 h ms) := HE.out.below hS4.bel
            have HS4 : Hid (ST w sn lo nx es ms ga (some ⟨h, 0, none⟩) cg ch w1.heap.size g1 c1 (.slice (some ⟨h1, 0, none⟩) ms.length c2) w4) := hS4
            have HO4 : Hid (w4.ownsRow (w.heap.size + 2) 45 2 (.slice (some ⟨g4, 0, none⟩) (k + 1) c4) (k + 1) ((ms.take k).flatMap flK.c ++ [.string r, .int .i64 o])) := by first | exact hown4 | (unfold Hid; rw [List.take_length]; exact hown4)
            clear hown4 hgrow4 hnil4 hS4 HS3 HO3 hnw
            go_wp2_with (at_builtin; refine wpList_append_own _ rfl _ _ 25 rfl (w.heap.size + 2) 45 i0 (.agg #[.string ByteArray.empty, .int .i64 0]) 2 24 Tryd.underlying25 hi hz0 hz1 hz2 rfl (by decide) _ (k + 1) ((ms.take k).flatMap flK.c ++ [.string r, .int .i64 o]) rfl (by exact HO4.out) ⟨h, k * 2, none⟩ (ms.length - k) (ch - k) ((restM ms r).flatMap flK.c) rfl (by rw [flat_len flK.c_len, HR.out]) (by rw [HRE.out]; exact news_drop HE4.out k hk) (oneK _) (by unfold maxLen; omega) (by omega) (by omega) ?_)
            intro v5 w5 hown5 hgrow5 hnil5
            obtain ⟨g5, c5, rfl, hg5, hg5l⟩ := form hown5 (fun e => by first | exact hnil5 e | (have := hnil5.1 e; cases this.1))
            have hS5 := HS4.out.grown hgrow5 HO4.out
            have hown5' : w5.ownsRow (w.heap.size + 2) 45 2 (.slice (some ⟨g5, 0, none⟩) (setM ms r o).length c5) (setM ms r o).length ((setM ms r o).flatMap flK.c) := by rw [HSL.out, HSF.out]; first | exact hown5 | simpa [Nat.add_assoc] using hown5
            have hsm := hS5.store hown5'
            have k0 := bfree hS5.out 4
            have k1 : w5.cell? ⟨w1.heap.size, 4, none⟩ = some (.slice (some ⟨h1, 0, none⟩) ms.length c2) := bcell hS5.out rfl
            obtain ⟨n5, hn5⟩ : ∃ n5, k + 1 + (ms.length - k) = n5 := ⟨_, rfl⟩
            rw [HSL.out, hn5] at hsm
            have HN5 : Hid ((setM ms r o).length = n5) := HSL.out.trans hn5
            rw [hn5]
            have hF3 : Fit sn es (setM ms r o) := fit_mark HF.out HOK.out hbb
            obtain ⟨Y, hYe⟩ : ∃ Y, w5.setCell ⟨w1.heap.size, 4, none⟩ (.slice (some ⟨g5, 0, none⟩) n5 c5) = Y := ⟨_, rfl⟩
            rw [hYe] at hsm
            have hok3 := sts.spec_ok sn lo nx es (setM ms r o) g1 g5 c1 c5 Y hF3 (ry_owns hsm.oe) (re_owns hsm.om) _ _ (fun _ => rfl) (fun _ => rfl)
            rw [HN5.out] at hok3
            have HY3 : Hid (SM w sn lo nx es ms ga (some ⟨h, 0, none⟩) cg ch w1.heap.size g1 c1 g5 c5 (setM ms r o) Y) := hsm
            have o0 : Y.cell? ⟨w1.heap.size, 0, none⟩ = some (.string sn) := bcell hsm.out rfl
            have o1 : Y.cell? ⟨w1.heap.size, 1, none⟩ = some (.int .i64 lo) := bcell hsm.out rfl
            have o2 : Y.cell? ⟨w1.heap.size, 2, none⟩ = some (.int .i64 nx) := bcell hsm.out rfl
            have o3 : Y.cell? ⟨w1.heap.size, 3, none⟩ = some (.slice (some ⟨g1, 0, none⟩) es.length c1) := bcell hsm.out rfl
            have o4 : Y.cell? ⟨w1.heap.size, 4, none⟩ = some (.slice (some ⟨g5, 0, none⟩) (setM ms r o).length c5) := bcell hsm.out rfl
            rw [HN5.out] at o4
            clear hown5 hgrow5 hnil5 hS5 hown5' hn5 HS4 HO4 HE4
            cases hob3 : okB sn lo nx es (setM ms r o) with
            | true =>
              rw [hob3] at hok3
              obtain rfl : ft = true := by rw [← HFT.out]; unfold fits; rw [hob, hob3]; rfl
              obtain rfl : AE = setM ms r o := HAE.out
              go_wp2_with (go_at_call 30; fail)
              clear hYe o0 o1 o2 o3 o4
              refine hok3.mono ?_
              rintro e w6 ⟨rfl, hb6⟩
              have hs4 := HY3.out.on hb6
              have HS4 : Hid (SM w sn lo nx es ms ga (some ⟨h, 0, none⟩) cg ch w1.heap.size g1 c1 g5 c5 (setM ms r o) w6) := hs4
              have n0 : w6.cell? ⟨w1.heap.size, 0, none⟩ = some (.string sn) := bcell hs4.out rfl
              have n1 : w6.cell? ⟨w1.heap.size, 1, none⟩ = some (.int .i64 lo) := bcell hs4.out rfl
              have n2 : w6.cell? ⟨w1.heap.size, 2, none⟩ = some (.int .i64 nx) := bcell hs4.out rfl
              have n3 : w6.cell? ⟨w1.heap.size, 3, none⟩ = some (.slice (some ⟨g1, 0, none⟩) es.length c1) := bcell hs4.out rfl
              have n4 : w6.cell? ⟨w1.heap.size, 4, none⟩ = some (.slice (some ⟨g5, 0, none⟩) (setM ms r o).length c5) := bcell hs4.out rfl
              rw [HN5.out] at n4
              have z0 : w6.cell? ⟨w.heap.size + 1, 0, none⟩ = some (.string ⟨#[]⟩) := bcell hs4.res rfl
              have z1 : w6.cell? ⟨w.heap.size + 1, 1, none⟩ = some (.int .i64 0) := bcell hs4.res rfl
              have z2 : w6.cell? ⟨w.heap.size + 1, 2, none⟩ = some (.int .i64 0) := bcell hs4.res rfl
              have z3 : w6.cell? ⟨w.heap.size + 1, 3, none⟩ = some (.slice none 0 0) := bcell hs4.res rfl
              have z4 : w6.cell? ⟨w.heap.size + 1, 4, none⟩ = some (.slice none 0 0) := bcell hs4.res rfl
              have z0f := bfree hs4.res 0
              have z1f := bfree hs4.res 1
              have z2f := bfree hs4.res 2
              have z3f := bfree hs4.res 3
              have z4f := bfree hs4.res 4
              clear hok3 hs4 HY3
              go_wp2
              refine bodyPost_ret (v := .tuple #[.agg #[.string sn, .int .i64 lo, .int .i64 nx, .slice (some ⟨g1, 0, none⟩) es.length c1, .slice (some ⟨g5, 0, none⟩) n5 c5], .bool true]) (by simp [results, Tryd.results7, go_sem, z0, z1, z2, z3, z4]) rfl ⟨some ⟨g1, 0, none⟩, c1, some ⟨g5, 0, none⟩, c5, by rw [HN5.out], ?_, ?_, ?_⟩
              · exact fin_row flY.c_len HS4.out.oe
              · exact fin_row flK.c_len HS4.out.om
              · exact fin_below HS4.out.bel (Nat.le_succ _)
            | false =>
              rw [hob3] at hok3
              obtain rfl : ft = false := by rw [← HFT.out]; unfold fits; rw [hob, hob3]; rfl
              have hAE : AE = ms := HAE.out
              go_wp2_with (go_at_call 30; fail)
              clear hYe o0 o1 o2 o3 o4
              refine hok3.mono ?_
              rintro e w6 ⟨rfl, hb6⟩
              have hs4 := HY3.out.on hb6
              have hc5 := spec_copy sn lo nx es ms g h cg ch w6 HF.out (HY.out.below hs4.bel) (HE.out.below hs4.bel) ga _ hga hha
              have HS4 : Hid (SM w sn lo nx es ms ga (some ⟨h, 0, none⟩) cg ch w1.heap.size g1 c1 g5 c5 (setM ms r o) w6) := hs4
              have x0 : w6.cell? ⟨w.heap.size, 0, none⟩ = some (.string sn) := bcell hs4.box rfl
              have x1 : w6.cell? ⟨w.heap.size, 1, none⟩ = some (.int .i64 lo) := bcell hs4.box rfl
              have x2 : w6.cell? ⟨w.heap.size, 2, none⟩ = some (.int .i64 nx) := bcell hs4.box rfl
              have x3 : w6.cell? ⟨w.heap.size, 3, none⟩ = some (.slice ga es.length cg) := bcell hs4.box rfl
              have x4 : w6.cell? ⟨w.heap.size, 4, none⟩ = some (.slice (some ⟨h, 0, none⟩) ms.length ch) := bcell hs4.box rfl
              clear hok3 hs4 HY3
              go_wp2_with (go_at_call 29; fail)
              refine hc5.mono ?_
              rintro e w7 ⟨g7, c7, h7, d7, rfl, oe5, om5, _, hb5⟩
              have hs5 := HS4.out.on hb5
              have hsz5 := HS4.out.size
              have z0 : w7.cell? ⟨w.heap.size + 1, 0, none⟩ = some (.string ⟨#[]⟩) := bcell hs5.res rfl
              have z1 : w7.cell? ⟨w.heap.size + 1, 1, none⟩ = some (.int .i64 0) := bcell hs5.res rfl
              have z2 : w7.cell? ⟨w.heap.size + 1, 2, none⟩ = some (.int .i64 0) := bcell hs5.res rfl
              have z3 : w7.cell? ⟨w.heap.size + 1, 3, none⟩ = some (.slice none 0 0) := bcell hs5.res rfl
              have z4 : w7.cell? ⟨w.heap.size + 1, 4, none⟩ = some (.slice none 0 0) := bcell hs5.res rfl
              have z0f := bfree hs5.res 0
              have z1f := bfree hs5.res 1
              have z2f := bfree hs5.res 2
              have z3f := bfree hs5.res 3
              have z4f := bfree hs5.res 4
              have HB5 : Hid (Below w.heap.size w w7) := hs5.bel
              have HOE5 : Hid (w7.ownsRow (w.heap.size + 2) 43 3 (.slice (some ⟨g7, 0, none⟩) es.length c7) es.length (es.flatMap flY.c)) := own_low oe5 hsz5
              have HOM5 : Hid (w7.ownsRow (w.heap.size + 2) 45 2 (.slice (some ⟨h7, 0, none⟩) ms.length d7) ms.length (ms.flatMap flK.c)) := own_low om5 hsz5
              have HAM : Hid (AE = ms) := hAE
              clear hc5 hs5 oe5 om5 hb5 HS4 x0 x1 x2 x3 x4 hAE
              go_wp2
              refine bodyPost_ret (v := .tuple #[.agg #[.string sn, .int .i64 lo, .int .i64 nx, .slice (some ⟨g7, 0, none⟩) es.length c7, .slice (some ⟨h7, 0, none⟩) ms.length d7], .bool false]) (by simp [results, Tryd.results7, go_sem, z0, z1, z2, z3, z4]) rfl ⟨some ⟨g7, 0, none⟩, c7, some ⟨h7, 0, none⟩, d7, by rw [HAM.out], ?_, ?_, ?_⟩
              · exact fin_row flY.c_len HOE5.out
              · rw [HAM.out]; exact fin_row flK.c_len HOM5.out
              · exact fin_below HB5.out (Nat.le_succ _)

      · have f0 : decide ((k : Int) < (ms.length : Int)) = false := by simp; omega
        have HP : Hid (posM ms r = k) := posM_eq ms r k hk hn.out (fun a ha => by have := (List.getElem?_eq_some_iff.1 ha).1; omega)
        have HIS : Hid (isM ms k r = false) := by unfold Hid isM; rw [List.getElem?_eq_none (by omega)]
        obtain rfl : k = ms.length := by omega
        clear f0
        rcases hha.out with hqh | ⟨hqh, hq0, hqc⟩
        · obtain rfl : ha = some ⟨h, 0, none⟩ := hqh
          by_cases hcl : ch = ms.length
          · obtain rfl : ch = ms.length := hcl
            have hrest : restM ms r = [] := by unfold restM; rw [HP.out, if_neg (by rw [HIS.out]; simp), List.drop_eq_nil_of_le (by omega)]
            have hrl : (restM ms r).length = (0) := (congrArg List.length hrest).trans (by first | rfl | (simp; done) | (simp; omega))
            have hml : (ms.take ms.length).length = ms.length := by rw [List.length_take]; omega
            have hsl : (setM ms r o).length = ms.length + 1 + (0) := by unfold setM; rw [HP.out, List.length_append, List.length_cons, hml, hrl] <;> omega
            have hsf : (setM ms r o).flatMap flK.c = (ms.take ms.length).flatMap flK.c ++ [.string r, .int .i64 o] ++ (restM ms r).flatMap flK.c := by unfold setM; rw [HP.out]; simp [flK.c]
            have hS0 := HS2.out.st.alloc (.cells #[] 45)
            have ho0 := own_empty w2 (w.heap.size + 2) 45 2 (by omega)
            have HE0 : Hid (RE (w2.alloc (.cells #[] 45)) h ms) := HE.out.below hS0.bel
            have HS0 : Hid (ST w sn lo nx es ms ga (some ⟨h, 0, none⟩) cg ms.length w1.heap.size g1 c1 (.slice (some ⟨h1, 0, none⟩) ms.length c2) (w2.alloc (.cells #[] 45))) := hS0
            have HO0 : Hid ((w2.alloc (.cells #[] 45)).ownsRow (w.heap.size + 2) 45 2 (.slice (some ⟨w2.heap.size, 0, none⟩) 0 0) 0 []) := ho0
            have HR : Hid ((restM ms r).length = (0)) := hrl
            have HSL : Hid ((setM ms r o).length = ms.length + 1 + (0)) := hsl
            have HSF : Hid ((setM ms r o).flatMap flK.c = (ms.take ms.length).flatMap flK.c ++ [.string r, .int .i64 o] ++ (restM ms r).flatMap flK.c) := hsf
            have HRE : Hid (restM ms r = []) := hrest
            have HML : Hid ((ms.take ms.length).length = ms.length) := hml
            have y4b : (w2.alloc (.cells #[] 45)).cell? ⟨w.heap.size, 4, none⟩ = some (.slice (some ⟨h, 0, none⟩) ms.length ms.length) := bcell hS0.box rfl
            have hsW0 : (w2.alloc (.cells #[] 45)).heap.size = w2.heap.size + 1 := by simp
            obtain ⟨W0, hW0⟩ : ∃ W0, w2.alloc (.cells #[] 45) = W0 := ⟨_, rfl⟩
            rw [hW0] at y4b hsW0 HE0 HS0 HO0
            clear hS0 ho0 hrl hsl hsf hrest hml
            go_wp2_with (at_builtin; refine wpList_append_own _ rfl _ _ 25 rfl (w.heap.size + 2) 45 i0 (.agg #[.string ByteArray.empty, .int .i64 0]) 2 24 Tryd.underlying25 hi hz0 hz1 hz2 rfl (by decide) _ 0 [] rfl (by exact HO0.out) ⟨h, 0, none⟩ ms.length ms.length ((ms.take ms.length).flatMap flK.c) rfl (by rw [flat_len flK.c_len, HML.out]) (by exact news_take HE0.out ms.length) (oneK _) (by unfold maxLen; omega) (by omega) (by first | omega | (simp; omega)) ?_)
            intro v3 w3 hown3 hgrow3 hnil3
            obtain ⟨g3, c3, rfl, hg3, hg3l⟩ := form hown3 (fun e => by first | exact hnil3 e | (have := hnil3.1 e; cases this.1))
            have hS3 := (HS0.out.grown hgrow3 HO0.out).alloc (.cells #[.string r, .int .i64 o] 45)
            have ho3 := hown3.alloc (.cells #[.string r, .int .i64 o] 45)
            have hnw := bnew w3 #[.string r, .int .i64 o] 45
            have hsz3 := hS3.size
            rw [World.size_alloc] at hsz3
            have HS3 : Hid (ST w sn lo nx es ms ga (some ⟨h, 0, none⟩) cg ms.length w1.heap.size g1 c1 (.slice (some ⟨h1, 0, none⟩) ms.length c2) (w3.alloc (.cells #[.string r, .int .i64 o] 45))) := hS3
            have HO3 : Hid ((w3.alloc (.cells #[.string r, .int .i64 o] 45)).ownsRow (w.heap.size + 2) 45 2 (.slice (some ⟨g3, 0, none⟩) ms.length c3) ms.length ((ms.take ms.length).flatMap flK.c)) := by first | exact ho3 | (unfold Hid; rw [List.take_length]; exact ho3)
            clear hown3 hgrow3 hnil3 hS3 ho3 HS0 HO0 HE0 hW0 y4b hsW0
            go_wp2_with (at_builtin; refine wpList_append_own _ rfl _ _ 25 rfl (w.heap.size + 2) 45 i0 (.agg #[.string ByteArray.empty, .int .i64 0]) 2 24 Tryd.underlying25 hi hz0 hz1 hz2 rfl (by decide) _ ms.length ((ms.take ms.length).flatMap flK.c) rfl (by first | exact HO3.out | simpa using HO3.out) ⟨w3.heap.size, 0, none⟩ 1 1 [.string r, .int .i64 o] rfl rfl (by exact cells_mark hnw) (by intro u hu; simp at hu; rcases hu with rfl | rfl <;> rfl) (by unfold maxLen; omega) (by omega) (by first | omega | (simp; omega)) ?_)
            intro v4 w4 hown4 hgrow4 hnil4
            obtain ⟨g4, c4, rfl⟩ := own_form hown4
            have hS4 := HS3.out.grown hgrow4 HO3.out
            have hsz4 := hS4.size
            have HE4 : Hid (RE w4 h ms) := HE.out.below hS4.bel
            have HS4 : Hid (ST w sn lo nx es ms ga (some ⟨h, 0, none⟩) cg ms.length w1.heap.size g1 c1 (.slice (some ⟨h1, 0, none⟩) ms.length c2) w4) := hS4
            have HO4 : Hid (w4.ownsRow (w.heap.size + 2) 45 2 (.slice (some ⟨g4, 0, none⟩) (ms.length + 1) c4) (ms.length + 1) ((ms.take ms.length).flatMap flK.c ++ [.string r, .int .i64 o])) := by first | exact hown4 | (unfold Hid; rw [List.take_length]; exact hown4)
            clear hown4 hgrow4 hnil4 hS4 HS3 HO3 hnw
            go_wp2_with (at_builtin; refine wpList_append_own _ rfl _ _ 25 rfl (w.heap.size + 2) 45 i0 (.agg #[.string ByteArray.empty, .int .i64 0]) 2 24 Tryd.underlying25 hi hz0 hz1 hz2 rfl (by decide) _ (ms.length + 1) ((ms.take ms.length).flatMap flK.c ++ [.string r, .int .i64 o]) rfl (by exact HO4.out) ⟨h, 0, none⟩ (0) (0) ((restM ms r).flatMap flK.c) rfl (by rw [flat_len flK.c_len, HR.out]) (by rw [HRE.out]; intro j u hu; simp at hu) (oneK _) (by unfold maxLen; omega) (by omega) (by omega) ?_)
            intro v5 w5 hown5 hgrow5 hnil5
            obtain ⟨g5, c5, rfl, hg5, hg5l⟩ := form hown5 (fun e => by first | exact hnil5 e | (have := hnil5.1 e; cases this.1))
            have hS5 := HS4.out.grown hgrow5 HO4.out
            have hown5' : w5.ownsRow (w.heap.size + 2) 45 2 (.slice (some ⟨g5, 0, none⟩) (setM ms r o).length c5) (setM ms r o).length ((setM ms r o).flatMap flK.c) := by rw [HSL.out, HSF.out]; first | exact hown5 | simpa [Nat.add_assoc] using hown5
            have hsm := hS5.store hown5'
            have k0 := bfree hS5.out 4
            have k1 : w5.cell? ⟨w1.heap.size, 4, none⟩ = some (.slice (some ⟨h1, 0, none⟩) ms.length c2) := bcell hS5.out rfl
            obtain ⟨n5, hn5⟩ : ∃ n5, ms.length + 1 + (0) = n5 := ⟨_, rfl⟩
            rw [HSL.out, hn5] at hsm
            have HN5 : Hid ((setM ms r o).length = n5) := HSL.out.trans hn5
            rw [hn5]
            have hF3 : Fit sn es (setM ms r o) := fit_mark HF.out HOK.out hbb
            obtain ⟨Y, hYe⟩ : ∃ Y, w5.setCell ⟨w1.heap.size, 4, none⟩ (.slice (some ⟨g5, 0, none⟩) n5 c5) = Y := ⟨_, rfl⟩
            rw [hYe] at hsm
            have hok3 := sts.spec_ok sn lo nx es (setM ms r o) g1 g5 c1 c5 Y hF3 (ry_owns hsm.oe) (re_owns hsm.om) _ _ (fun _ => rfl) (fun _ => rfl)
            rw [HN5.out] at hok3
            have HY3 : Hid (SM w sn lo nx es ms ga (some ⟨h, 0, none⟩) cg ms.length w1.heap.size g1 c1 g5 c5 (setM ms r o) Y) := hsm
            have o0 : Y.cell? ⟨w1.heap.size, 0, none⟩ = some (.string sn) := bcell hsm.out rfl
            have o1 : Y.cell? ⟨w1.heap.size, 1, none⟩ = some (.int .i64 lo) := bcell hsm.out rfl
            have o2 : Y.cell? ⟨w1.heap.size, 2, none⟩ = some (.int .i64 nx) := bcell hsm.out rfl
            have o3 : Y.cell? ⟨w1.heap.size, 3, none⟩ = some (.slice (some ⟨g1, 0, none⟩) es.length c1) := bcell hsm.out rfl
            have o4 : Y.cell? ⟨w1.heap.size, 4, none⟩ = some (.slice (some ⟨g5, 0, none⟩) (setM ms r o).length c5) := bcell hsm.out rfl
            rw [HN5.out] at o4
            clear hown5 hgrow5 hnil5 hS5 hown5' hn5 HS4 HO4 HE4
            cases hob3 : okB sn lo nx es (setM ms r o) with
            | true =>
              rw [hob3] at hok3
              obtain rfl : ft = true := by rw [← HFT.out]; unfold fits; rw [hob, hob3]; rfl
              obtain rfl : AE = setM ms r o := HAE.out
              go_wp2_with (go_at_call 30; fail)
              clear hYe o0 o1 o2 o3 o4
              refine hok3.mono ?_
              rintro e w6 ⟨rfl, hb6⟩
              have hs4 := HY3.out.on hb6
              have HS4 : Hid (SM w sn lo nx es ms ga (some ⟨h, 0, none⟩) cg ms.length w1.heap.size g1 c1 g5 c5 (setM ms r o) w6) := hs4
              have n0 : w6.cell? ⟨w1.heap.size, 0, none⟩ = some (.string sn) := bcell hs4.out rfl
              have n1 : w6.cell? ⟨w1.heap.size, 1, none⟩ = some (.int .i64 lo) := bcell hs4.out rfl
              have n2 : w6.cell? ⟨w1.heap.size, 2, none⟩ = some (.int .i64 nx) := bcell hs4.out rfl
              have n3 : w6.cell? ⟨w1.heap.size, 3, none⟩ = some (.slice (some ⟨g1, 0, none⟩) es.length c1) := bcell hs4.out rfl
              have n4 : w6.cell? ⟨w1.heap.size, 4, none⟩ = some (.slice (some ⟨g5, 0, none⟩) (setM ms r o).length c5) := bcell hs4.out rfl
              rw [HN5.out] at n4
              have z0 : w6.cell? ⟨w.heap.size + 1, 0, none⟩ = some (.string ⟨#[]⟩) := bcell hs4.res rfl
              have z1 : w6.cell? ⟨w.heap.size + 1, 1, none⟩ = some (.int .i64 0) := bcell hs4.res rfl
              have z2 : w6.cell? ⟨w.heap.size + 1, 2, none⟩ = some (.int .i64 0) := bcell hs4.res rfl
              have z3 : w6.cell? ⟨w.heap.size + 1, 3, none⟩ = some (.slice none 0 0) := bcell hs4.res rfl
              have z4 : w6.cell? ⟨w.heap.size + 1, 4, none⟩ = some (.slice none 0 0) := bcell hs4.res rfl
              have z0f := bfree hs4.res 0
              have z1f := bfree hs4.res 1
              have z2f := bfree hs4.res 2
              have z3f := bfree hs4.res 3
              have z4f := bfree hs4.res 4
              clear hok3 hs4 HY3
              go_wp2
              refine bodyPost_ret (v := .tuple #[.agg #[.string sn, .int .i64 lo, .int .i64 nx, .slice (some ⟨g1, 0, none⟩) es.length c1, .slice (some ⟨g5, 0, none⟩) n5 c5], .bool true]) (by simp [results, Tryd.results7, go_sem, z0, z1, z2, z3, z4]) rfl ⟨some ⟨g1, 0, none⟩, c1, some ⟨g5, 0, none⟩, c5, by rw [HN5.out], ?_, ?_, ?_⟩
              · exact fin_row flY.c_len HS4.out.oe
              · exact fin_row flK.c_len HS4.out.om
              · exact fin_below HS4.out.bel (Nat.le_succ _)
            | false =>
              rw [hob3] at hok3
              obtain rfl : ft = false := by rw [← HFT.out]; unfold fits; rw [hob, hob3]; rfl
              have hAE : AE = ms := HAE.out
              go_wp2_with (go_at_call 30; fail)
              clear hYe o0 o1 o2 o3 o4
              refine hok3.mono ?_
              rintro e w6 ⟨rfl, hb6⟩
              have hs4 := HY3.out.on hb6
              have hc5 := spec_copy sn lo nx es ms g h cg ms.length w6 HF.out (HY.out.below hs4.bel) (HE.out.below hs4.bel) ga _ hga hha
              have HS4 : Hid (SM w sn lo nx es ms ga (some ⟨h, 0, none⟩) cg ms.length w1.heap.size g1 c1 g5 c5 (setM ms r o) w6) := hs4
              have x0 : w6.cell? ⟨w.heap.size, 0, none⟩ = some (.string sn) := bcell hs4.box rfl
              have x1 : w6.cell? ⟨w.heap.size, 1, none⟩ = some (.int .i64 lo) := bcell hs4.box rfl
              have x2 : w6.cell? ⟨w.heap.size, 2, none⟩ = some (.int .i64 nx) := bcell hs4.box rfl
              have x3 : w6.cell? ⟨w.heap.size, 3, none⟩ = some (.slice ga es.length cg) := bcell hs4.box rfl
              have x4 : w6.cell? ⟨w.heap.size, 4, none⟩ = some (.slice (some ⟨h, 0, none⟩) ms.length ms.length) := bcell hs4.box rfl
              clear hok3 hs4 HY3
              go_wp2_with (go_at_call 29; fail)
              refine hc5.mono ?_
              rintro e w7 ⟨g7, c7, h7, d7, rfl, oe5, om5, _, hb5⟩
              have hs5 := HS4.out.on hb5
              have hsz5 := HS4.out.size
              have z0 : w7.cell? ⟨w.heap.size + 1, 0, none⟩ = some (.string ⟨#[]⟩) := bcell hs5.res rfl
              have z1 : w7.cell? ⟨w.heap.size + 1, 1, none⟩ = some (.int .i64 0) := bcell hs5.res rfl
              have z2 : w7.cell? ⟨w.heap.size + 1, 2, none⟩ = some (.int .i64 0) := bcell hs5.res rfl
              have z3 : w7.cell? ⟨w.heap.size + 1, 3, none⟩ = some (.slice none 0 0) := bcell hs5.res rfl
              have z4 : w7.cell? ⟨w.heap.size + 1, 4, none⟩ = some (.slice none 0 0) := bcell hs5.res rfl
              have z0f := bfree hs5.res 0
              have z1f := bfree hs5.res 1
              have z2f := bfree hs5.res 2
              have z3f := bfree hs5.res 3
              have z4f := bfree hs5.res 4
              have HB5 : Hid (Below w.heap.size w w7) := hs5.bel
              have HOE5 : Hid (w7.ownsRow (w.heap.size + 2) 43 3 (.slice (some ⟨g7, 0, none⟩) es.length c7) es.length (es.flatMap flY.c)) := own_low oe5 hsz5
              have HOM5 : Hid (w7.ownsRow (w.heap.size + 2) 45 2 (.slice (some ⟨h7, 0, none⟩) ms.length d7) ms.length (ms.flatMap flK.c)) := own_low om5 hsz5
              have HAM : Hid (AE = ms) := hAE
              clear hc5 hs5 oe5 om5 hb5 HS4 x0 x1 x2 x3 x4 hAE
              go_wp2
              refine bodyPost_ret (v := .tuple #[.agg #[.string sn, .int .i64 lo, .int .i64 nx, .slice (some ⟨g7, 0, none⟩) es.length c7, .slice (some ⟨h7, 0, none⟩) ms.length d7], .bool false]) (by simp [results, Tryd.results7, go_sem, z0, z1, z2, z3, z4]) rfl ⟨some ⟨g7, 0, none⟩, c7, some ⟨h7, 0, none⟩, d7, by rw [HAM.out], ?_, ?_, ?_⟩
              · exact fin_row flY.c_len HOE5.out
              · rw [HAM.out]; exact fin_row flK.c_len HOM5.out
              · exact fin_below HB5.out (Nat.le_succ _)
          · have r9 : ¬ ch = ms.length := hcl
            have r9b : ms.length < ch := by omega
            have i5 : ((ch : Int) - (ms.length : Int)).toNat = ch - ms.length := by omega
            clear hcl
            have hrest : restM ms r = [] := by unfold restM; rw [HP.out, if_neg (by rw [HIS.out]; simp), List.drop_eq_nil_of_le (by omega)]
            have hrl : (restM ms r).length = (0) := (congrArg List.length hrest).trans (by first | rfl | (simp; done) | (simp; omega))
            have hml : (ms.take ms.length).length = ms.length := by rw [List.length_take]; omega
            have hsl : (setM ms r o).length = ms.length + 1 + (0) := by unfold setM; rw [HP.out, List.length_append, List.length_cons, hml, hrl] <;> omega
            have hsf : (setM ms r o).flatMap flK.c = (ms.take ms.length).flatMap flK.c ++ [.string r, .int .i64 o] ++ (restM ms r).flatMap flK.c := by unfold setM; rw [HP.out]; simp [flK.c]
            have hS0 := HS2.out.st.alloc (.cells #[] 45)
            have ho0 := own_empty w2 (w.heap.size + 2) 45 2 (by omega)
            have HE0 : Hid (RE (w2.alloc (.cells #[] 45)) h ms) := HE.out.below hS0.bel
            have HS0 : Hid (ST w sn lo nx es ms ga (some ⟨h, 0, none⟩) cg ch w1.heap.size g1 c1 (.slice (some ⟨h1, 0, none⟩) ms.length c2) (w2.alloc (.cells #[] 45))) := hS0
            have HO0 : Hid ((w2.alloc (.cells #[] 45)).ownsRow (w.heap.size + 2) 45 2 (.slice (some ⟨w2.heap.size, 0, none⟩) 0 0) 0 []) := ho0
            have HR : Hid ((restM ms r).length = (0)) := hrl
            have HSL : Hid ((setM ms r o).length = ms.length + 1 + (0)) := hsl
            have HSF : Hid ((setM ms r o).flatMap flK.c = (ms.take ms.length).flatMap flK.c ++ [.string r, .int .i64 o] ++ (restM ms r).flatMap flK.c) := hsf
            have HRE : Hid (restM ms r = []) := hrest
            have HML : Hid ((ms.take ms.length).length = ms.length) := hml
            have y4b : (w2.alloc (.cells #[] 45)).cell? ⟨w.heap.size, 4, none⟩ = some (.slice (some ⟨h, 0, none⟩) ms.length ch) := bcell hS0.box rfl
            have hsW0 : (w2.alloc (.cells #[] 45)).heap.size = w2.heap.size + 1 := by simp
            obtain ⟨W0, hW0⟩ : ∃ W0, w2.alloc (.cells #[] 45) = W0 := ⟨_, rfl⟩
            rw [hW0] at y4b hsW0 HE0 HS0 HO0
            clear hS0 ho0 hrl hsl hsf hrest hml
            go_wp2_with (at_builtin; refine wpList_append_own _ rfl _ _ 25 rfl (w.heap.size + 2) 45 i0 (.agg #[.string ByteArray.empty, .int .i64 0]) 2 24 Tryd.underlying25 hi hz0 hz1 hz2 rfl (by decide) _ 0 [] rfl (by exact HO0.out) ⟨h, 0, none⟩ ms.length ch ((ms.take ms.length).flatMap flK.c) rfl (by rw [flat_len flK.c_len, HML.out]) (by exact news_take HE0.out ms.length) (oneK _) (by unfold maxLen; omega) (by omega) (by first | omega | (simp; omega)) ?_)
            intro v3 w3 hown3 hgrow3 hnil3
            obtain ⟨g3, c3, rfl, hg3, hg3l⟩ := form hown3 (fun e => by first | exact hnil3 e | (have := hnil3.1 e; cases this.1))
            have hS3 := (HS0.out.grown hgrow3 HO0.out).alloc (.cells #[.string r, .int .i64 o] 45)
            have ho3 := hown3.alloc (.cells #[.string r, .int .i64 o] 45)
            have hnw := bnew w3 #[.string r, .int .i64 o] 45
            have hsz3 := hS3.size
            rw [World.size_alloc] at hsz3
            have HS3 : Hid (ST w sn lo nx es ms ga (some ⟨h, 0, none⟩) cg ch w1.heap.size g1 c1 (.slice (some ⟨h1, 0, none⟩) ms.length c2) (w3.alloc (.cells #[.string r, .int .i64 o] 45))) := hS3
            have HO3 : Hid ((w3.alloc (.cells #[.string r, .int .i64 o] 45)).ownsRow (w.heap.size + 2) 45 2 (.slice (some ⟨g3, 0, none⟩) ms.length c3) ms.length ((ms.take ms.length).flatMap flK.c)) := by first | exact ho3 | (unfold Hid; rw [List.take_length]; exact ho3)
            clear hown3 hgrow3 hnil3 hS3 ho3 HS0 HO0 HE0 hW0 y4b hsW0
            go_wp2_with (at_builtin; refine wpList_append_own _ rfl _ _ 25 rfl (w.heap.size + 2) 45 i0 (.agg #[.string ByteArray.empty, .int .i64 0]) 2 24 Tryd.underlying25 hi hz0 hz1 hz2 rfl (by decide) _ ms.length ((ms.take ms.length).flatMap flK.c) rfl (by first | exact HO3.out | simpa using HO3.out) ⟨w3.heap.size, 0, none⟩ 1 1 [.string r, .int .i64 o] rfl rfl (by exact cells_mark hnw) (by intro u hu; simp at hu; rcases hu with rfl | rfl <;> rfl) (by unfold maxLen; omega) (by omega) (by first | omega | (simp; omega)) ?_)
            intro v4 w4 hown4 hgrow4 hnil4
            obtain ⟨g4, c4, rfl⟩ := own_form hown4
            have hS4 := HS3.out.grown hgrow4 HO3.out
            have hsz4 := hS4.size
            have HE4 : Hid (RE w4 h ms) := HE.out.below hS4.bel
            have HS4 : Hid (ST w sn lo nx es ms ga (some ⟨h, 0, none⟩) cg ch w1.heap.size g1 c1 (.slice (some ⟨h1, 0, none⟩) ms.length c2) w4) := hS4
            have HO4 : Hid (w4.ownsRow (w.heap.size + 2) 45 2 (.slice (some ⟨g4, 0, none⟩) (ms.length + 1) c4) (ms.length + 1) ((ms.take ms.length).flatMap flK.c ++ [.string r, .int .i64 o])) := by first | exact hown4 | (unfold Hid; rw [List.take_length]; exact hown4)
            clear hown4 hgrow4 hnil4 hS4 HS3 HO3 hnw
            go_wp2_with (at_builtin; refine wpList_append_own _ rfl _ _ 25 rfl (w.heap.size + 2) 45 i0 (.agg #[.string ByteArray.empty, .int .i64 0]) 2 24 Tryd.underlying25 hi hz0 hz1 hz2 rfl (by decide) _ (ms.length + 1) ((ms.take ms.length).flatMap flK.c ++ [.string r, .int .i64 o]) rfl (by exact HO4.out) ⟨h, ms.length * 2, none⟩ (0) (ch - ms.length) ((restM ms r).flatMap flK.c) rfl (by rw [flat_len flK.c_len, HR.out]) (by rw [HRE.out]; intro j u hu; simp at hu) (oneK _) (by unfold maxLen; omega) (by omega) (by omega) ?_)
            intro v5 w5 hown5 hgrow5 hnil5
            obtain ⟨g5, c5, rfl, hg5, hg5l⟩ := form hown5 (fun e => by first | exact hnil5 e | (have := hnil5.1 e; cases this.1))
            have hS5 := HS4.out.grown hgrow5 HO4.out
            have hown5' : w5.ownsRow (w.heap.size + 2) 45 2 (.slice (some ⟨g5, 0, none⟩) (setM ms r o).length c5) (setM ms r o).length ((setM ms r o).flatMap flK.c) := by rw [HSL.out, HSF.out]; first | exact hown5 | simpa [Nat.add_assoc] using hown5
            have hsm := hS5.store hown5'
            have k0 := bfree hS5.out 4
            have k1 : w5.cell? ⟨w1.heap.size, 4, none⟩ = some (.slice (some ⟨h1, 0, none⟩) ms.length c2) := bcell hS5.out rfl
            obtain ⟨n5, hn5⟩ : ∃ n5, ms.length + 1 + (0) = n5 := ⟨_, rfl⟩
            rw [HSL.out, hn5] at hsm
            have HN5 : Hid ((setM ms r o).length = n5) := HSL.out.trans hn5
            rw [hn5]
            have hF3 : Fit sn es (setM ms r o) := fit_mark HF.out HOK.out hbb
            obtain ⟨Y, hYe⟩ : ∃ Y, w5.setCell ⟨w1.heap.size, 4, none⟩ (.slice (some ⟨g5, 0, none⟩) n5 c5) = Y := ⟨_, rfl⟩
            rw [hYe] at hsm
            have hok3 := sts.spec_ok sn lo nx es (setM ms r o) g1 g5 c1 c5 Y hF3 (ry_owns hsm.oe) (re_owns hsm.om) _ _ (fun _ => rfl) (fun _ => rfl)
            rw [HN5.out] at hok3
            have HY3 : Hid (SM w sn lo nx es ms ga (some ⟨h, 0, none⟩) cg ch w1.heap.size g1 c1 g5 c5 (setM ms r o) Y) := hsm
            have o0 : Y.cell? ⟨w1.heap.size, 0, none⟩ = some (.string sn) := bcell hsm.out rfl
            have o1 : Y.cell? ⟨w1.heap.size, 1, none⟩ = some (.int .i64 lo) := bcell hsm.out rfl
            have o2 : Y.cell? ⟨w1.heap.size, 2, none⟩ = some (.int .i64 nx) := bcell hsm.out rfl
            have o3 : Y.cell? ⟨w1.heap.size, 3, none⟩ = some (.slice (some ⟨g1, 0, none⟩) es.length c1) := bcell hsm.out rfl
            have o4 : Y.cell? ⟨w1.heap.size, 4, none⟩ = some (.slice (some ⟨g5, 0, none⟩) (setM ms r o).length c5) := bcell hsm.out rfl
            rw [HN5.out] at o4
            clear hown5 hgrow5 hnil5 hS5 hown5' hn5 HS4 HO4 HE4
            cases hob3 : okB sn lo nx es (setM ms r o) with
            | true =>
              rw [hob3] at hok3
              obtain rfl : ft = true := by rw [← HFT.out]; unfold fits; rw [hob, hob3]; rfl
              obtain rfl : AE = setM ms r o := HAE.out
              go_wp2_with (go_at_call 30; fail)
              clear hYe o0 o1 o2 o3 o4
              refine hok3.mono ?_
              rintro e w6 ⟨rfl, hb6⟩
              have hs4 := HY3.out.on hb6
              have HS4 : Hid (SM w sn lo nx es ms ga (some ⟨h, 0, none⟩) cg ch w1.heap.size g1 c1 g5 c5 (setM ms r o) w6) := hs4
              have n0 : w6.cell? ⟨w1.heap.size, 0, none⟩ = some (.string sn) := bcell hs4.out rfl
              have n1 : w6.cell? ⟨w1.heap.size, 1, none⟩ = some (.int .i64 lo) := bcell hs4.out rfl
              have n2 : w6.cell? ⟨w1.heap.size, 2, none⟩ = some (.int .i64 nx) := bcell hs4.out rfl
              have n3 : w6.cell? ⟨w1.heap.size, 3, none⟩ = some (.slice (some ⟨g1, 0, none⟩) es.length c1) := bcell hs4.out rfl
              have n4 : w6.cell? ⟨w1.heap.size, 4, none⟩ = some (.slice (some ⟨g5, 0, none⟩) (setM ms r o).length c5) := bcell hs4.out rfl
              rw [HN5.out] at n4
              have z0 : w6.cell? ⟨w.heap.size + 1, 0, none⟩ = some (.string ⟨#[]⟩) := bcell hs4.res rfl
              have z1 : w6.cell? ⟨w.heap.size + 1, 1, none⟩ = some (.int .i64 0) := bcell hs4.res rfl
              have z2 : w6.cell? ⟨w.heap.size + 1, 2, none⟩ = some (.int .i64 0) := bcell hs4.res rfl
              have z3 : w6.cell? ⟨w.heap.size + 1, 3, none⟩ = some (.slice none 0 0) := bcell hs4.res rfl
              have z4 : w6.cell? ⟨w.heap.size + 1, 4, none⟩ = some (.slice none 0 0) := bcell hs4.res rfl
              have z0f := bfree hs4.res 0
              have z1f := bfree hs4.res 1
              have z2f := bfree hs4.res 2
              have z3f := bfree hs4.res 3
              have z4f := bfree hs4.res 4
              clear hok3 hs4 HY3
              go_wp2
              refine bodyPost_ret (v := .tuple #[.agg #[.string sn, .int .i64 lo, .int .i64 nx, .slice (some ⟨g1, 0, none⟩) es.length c1, .slice (some ⟨g5, 0, none⟩) n5 c5], .bool true]) (by simp [results, Tryd.results7, go_sem, z0, z1, z2, z3, z4]) rfl ⟨some ⟨g1, 0, none⟩, c1, some ⟨g5, 0, none⟩, c5, by rw [HN5.out], ?_, ?_, ?_⟩
              · exact fin_row flY.c_len HS4.out.oe
              · exact fin_row flK.c_len HS4.out.om
              · exact fin_below HS4.out.bel (Nat.le_succ _)
            | false =>
              rw [hob3] at hok3
              obtain rfl : ft = false := by rw [← HFT.out]; unfold fits; rw [hob, hob3]; rfl
              have hAE : AE = ms := HAE.out
              go_wp2_with (go_at_call 30; fail)
              clear hYe o0 o1 o2 o3 o4
              refine hok3.mono ?_
              rintro e w6 ⟨rfl, hb6⟩
              have hs4 := HY3.out.on hb6
              have hc5 := spec_copy sn lo nx es ms g h cg ch w6 HF.out (HY.out.below hs4.bel) (HE.out.below hs4.bel) ga _ hga hha
              have HS4 : Hid (SM w sn lo nx es ms ga (some ⟨h, 0, none⟩) cg ch w1.heap.size g1 c1 g5 c5 (setM ms r o) w6) := hs4
              have x0 : w6.cell? ⟨w.heap.size, 0, none⟩ = some (.string sn) := bcell hs4.box rfl
              have x1 : w6.cell? ⟨w.heap.size, 1, none⟩ = some (.int .i64 lo) := bcell hs4.box rfl
              have x2 : w6.cell? ⟨w.heap.size, 2, none⟩ = some (.int .i64 nx) := bcell hs4.box rfl
              have x3 : w6.cell? ⟨w.heap.size, 3, none⟩ = some (.slice ga es.length cg) := bcell hs4.box rfl
              have x4 : w6.cell? ⟨w.heap.size, 4, none⟩ = some (.slice (some ⟨h, 0, none⟩) ms.length ch) := bcell hs4.box rfl
              clear hok3 hs4 HY3
              go_wp2_with (go_at_call 29; fail)
              refine hc5.mono ?_
              rintro e w7 ⟨g7, c7, h7, d7, rfl, oe5, om5, _, hb5⟩
              have hs5 := HS4.out.on hb5
              have hsz5 := HS4.out.size
              have z0 : w7.cell? ⟨w.heap.size + 1, 0, none⟩ = some (.string ⟨#[]⟩) := bcell hs5.res rfl
              have z1 : w7.cell? ⟨w.heap.size + 1, 1, none⟩ = some (.int .i64 0) := bcell hs5.res rfl
              have z2 : w7.cell? ⟨w.heap.size + 1, 2, none⟩ = some (.int .i64 0) := bcell hs5.res rfl
              have z3 : w7.cell? ⟨w.heap.size + 1, 3, none⟩ = some (.slice none 0 0) := bcell hs5.res rfl
              have z4 : w7.cell? ⟨w.heap.size + 1, 4, none⟩ = some (.slice none 0 0) := bcell hs5.res rfl
              have z0f := bfree hs5.res 0
              have z1f := bfree hs5.res 1
              have z2f := bfree hs5.res 2
              have z3f := bfree hs5.res 3
              have z4f := bfree hs5.res 4
              have HB5 : Hid (Below w.heap.size w w7) := hs5.bel
              have HOE5 : Hid (w7.ownsRow (w.heap.size + 2) 43 3 (.slice (some ⟨g7, 0, none⟩) es.length c7) es.length (es.flatMap flY.c)) := own_low oe5 hsz5
              have HOM5 : Hid (w7.ownsRow (w.heap.size + 2) 45 2 (.slice (some ⟨h7, 0, none⟩) ms.length d7) ms.length (ms.flatMap flK.c)) := own_low om5 hsz5
              have HAM : Hid (AE = ms) := hAE
              clear hc5 hs5 oe5 om5 hb5 HS4 x0 x1 x2 x3 x4 hAE
              go_wp2
              refine bodyPost_ret (v := .tuple #[.agg #[.string sn, .int .i64 lo, .int .i64 nx, .slice (some ⟨g7, 0, none⟩) es.length c7, .slice (some ⟨h7, 0, none⟩) ms.length d7], .bool false]) (by simp [results, Tryd.results7, go_sem, z0, z1, z2, z3, z4]) rfl ⟨some ⟨g7, 0, none⟩, c7, some ⟨h7, 0, none⟩, d7, by rw [HAM.out], ?_, ?_, ?_⟩
              · exact fin_row flY.c_len HOE5.out
              · rw [HAM.out]; exact fin_row flK.c_len HOM5.out
              · exact fin_below HB5.out (Nat.le_succ _)
        · obtain rfl : ha = none := hqh
          obtain rfl : ch = 0 := hqc
          obtain rfl : ms = [] := List.eq_nil_of_length_eq_zero hq0
          simp only [List.length_nil] at *
          have hrest : restM ([] : List Ex) r = [] := by unfold restM; rw [HP.out, if_neg (by rw [HIS.out]; simp), List.drop_nil]
          have hrl : (restM ([] : List Ex) r).length = (0) := (congrArg List.length hrest).trans (by first | rfl | (simp; done) | (simp; omega))
          have hml : (([] : List Ex)).length = 0 := rfl
          have hsl : (setM ([] : List Ex) r o).length = 1 := by unfold setM; rw [List.length_append, List.length_cons, hrl]; simp
          have hsf : (setM ([] : List Ex) r o).flatMap flK.c = (([] : List Ex)).flatMap flK.c ++ [.string r, .int .i64 o] ++ (restM ([] : List Ex) r).flatMap flK.c := by unfold setM; rw [HP.out]; simp [flK.c]
          have hS0 := HS2.out.st.alloc (.cells #[] 45)
          have ho0 := own_empty w2 (w.heap.size + 2) 45 2 (by omega)
          have HE0 : Hid (RE (w2.alloc (.cells #[] 45)) h ([] : List Ex)) := HE.out.below hS0.bel
          have HS0 : Hid (ST w sn lo nx es ([] : List Ex) ga none cg 0 w1.heap.size g1 c1 (.slice (some ⟨h1, 0, none⟩) 0 c2) (w2.alloc (.cells #[] 45))) := hS0
          have HO0 : Hid ((w2.alloc (.cells #[] 45)).ownsRow (w.heap.size + 2) 45 2 (.slice (some ⟨w2.heap.size, 0, none⟩) 0 0) 0 []) := ho0
          have HR : Hid ((restM ([] : List Ex) r).length = (0)) := hrl
          have HSL : Hid ((setM ([] : List Ex) r o).length = 1) := hsl
          have HSF : Hid ((setM ([] : List Ex) r o).flatMap flK.c = (([] : List Ex)).flatMap flK.c ++ [.string r, .int .i64 o] ++ (restM ([] : List Ex) r).flatMap flK.c) := hsf
          have HRE : Hid (restM ([] : List Ex) r = []) := hrest
          have HML : Hid ((([] : List Ex)).length = 0) := hml
          have y4b : (w2.alloc (.cells #[] 45)).cell? ⟨w.heap.size, 4, none⟩ = some (.slice none 0 0) := bcell hS0.box rfl
          have hsW0 : (w2.alloc (.cells #[] 45)).heap.size = w2.heap.size + 1 := by simp
          obtain ⟨W0, hW0⟩ : ∃ W0, w2.alloc (.cells #[] 45) = W0 := ⟨_, rfl⟩
          rw [hW0] at y4b hsW0 HE0 HS0 HO0
          clear hS0 ho0 hrl hsl hsf hrest hml
          go_wp2_with (at_builtin; refine apo.wpList_append_opt _ rfl _ _ 25 rfl (w.heap.size + 2) 45 i0 (.agg #[.string ByteArray.empty, .int .i64 0]) 2 24 Tryd.underlying25 hi hz0 hz1 hz2 rfl (by decide) _ 0 [] rfl (by exact HO0.out) none h 0 0 (.inr ⟨rfl, rfl, rfl⟩) ((([] : List Ex)).flatMap flK.c) rfl (by rw [flat_len flK.c_len, HML.out]) (by exact news_take HE0.out 0) (oneK _) (by unfold maxLen; omega) (by omega) (by first | omega | (simp; omega)) ?_)
          intro v3 w3 hown3 hgrow3 hnil3
          obtain ⟨g3, c3, rfl, hg3, hg3l⟩ := form hown3 (fun e => by first | exact hnil3 e | (have := hnil3.1 e; cases this.1))
          have hS3 := (HS0.out.grown hgrow3 HO0.out).alloc (.cells #[.string r, .int .i64 o] 45)
          have ho3 := hown3.alloc (.cells #[.string r, .int .i64 o] 45)
          have hnw := bnew w3 #[.string r, .int .i64 o] 45
          have hsz3 := hS3.size
          rw [World.size_alloc] at hsz3
          have HS3 : Hid (ST w sn lo nx es ([] : List Ex) ga none cg 0 w1.heap.size g1 c1 (.slice (some ⟨h1, 0, none⟩) 0 c2) (w3.alloc (.cells #[.string r, .int .i64 o] 45))) := hS3
          have HO3 : Hid ((w3.alloc (.cells #[.string r, .int .i64 o] 45)).ownsRow (w.heap.size + 2) 45 2 (.slice (some ⟨g3, 0, none⟩) 0 c3) 0 ((([] : List Ex)).flatMap flK.c)) := by first | exact ho3 | (unfold Hid; rw [List.take_length]; exact ho3)
          clear hown3 hgrow3 hnil3 hS3 ho3 HS0 HO0 HE0 hW0 y4b hsW0
          go_wp2_with (at_builtin; refine wpList_append_own _ rfl _ _ 25 rfl (w.heap.size + 2) 45 i0 (.agg #[.string ByteArray.empty, .int .i64 0]) 2 24 Tryd.underlying25 hi hz0 hz1 hz2 rfl (by decide) _ 0 ((([] : List Ex)).flatMap flK.c) rfl (by first | exact HO3.out | simpa using HO3.out) ⟨w3.heap.size, 0, none⟩ 1 1 [.string r, .int .i64 o] rfl rfl (by exact cells_mark hnw) (by intro u hu; simp at hu; rcases hu with rfl | rfl <;> rfl) (by unfold maxLen; omega) (by omega) (by first | omega | (simp; omega)) ?_)
          intro v4 w4 hown4 hgrow4 hnil4
          obtain ⟨g4, c4, rfl⟩ := own_form hown4
          have hS4 := HS3.out.grown hgrow4 HO3.out
          have hsz4 := hS4.size
          have HE4 : Hid (RE w4 h ([] : List Ex)) := HE.out.below hS4.bel
          have HS4 : Hid (ST w sn lo nx es ([] : List Ex) ga none cg 0 w1.heap.size g1 c1 (.slice (some ⟨h1, 0, none⟩) 0 c2) w4) := hS4
          have HO4 : Hid (w4.ownsRow (w.heap.size + 2) 45 2 (.slice (some ⟨g4, 0, none⟩) (0 + 1) c4) (0 + 1) ((([] : List Ex)).flatMap flK.c ++ [.string r, .int .i64 o])) := by first | exact hown4 | (unfold Hid; rw [List.take_length]; exact hown4)
          clear hown4 hgrow4 hnil4 hS4 HS3 HO3 hnw
          go_wp2_with (at_builtin; refine apo.wpList_append_opt _ rfl _ _ 25 rfl (w.heap.size + 2) 45 i0 (.agg #[.string ByteArray.empty, .int .i64 0]) 2 24 Tryd.underlying25 hi hz0 hz1 hz2 rfl (by decide) _ (0 + 1) ((([] : List Ex)).flatMap flK.c ++ [.string r, .int .i64 o]) rfl (by exact HO4.out) none h 0 0 (.inr ⟨rfl, rfl, rfl⟩) ((restM ([] : List Ex) r).flatMap flK.c) rfl (by rw [flat_len flK.c_len, HR.out]) (by rw [HRE.out]; intro j u hu; simp at hu) (oneK _) (by unfold maxLen; omega) (by omega) (by omega) ?_)
          intro v5 w5 hown5 hgrow5 hnil5
          obtain ⟨g5, c5, rfl, hg5, hg5l⟩ := form hown5 (fun e => by first | exact hnil5 e | (have := hnil5.1 e; cases this.1))
          have hS5 := HS4.out.grown hgrow5 HO4.out
          have hown5' : w5.ownsRow (w.heap.size + 2) 45 2 (.slice (some ⟨g5, 0, none⟩) (setM ([] : List Ex) r o).length c5) (setM ([] : List Ex) r o).length ((setM ([] : List Ex) r o).flatMap flK.c) := by rw [HSL.out, HSF.out]; first | exact hown5 | simpa [Nat.add_assoc] using hown5
          have hsm := hS5.store hown5'
          have k0 := bfree hS5.out 4
          have k1 : w5.cell? ⟨w1.heap.size, 4, none⟩ = some (.slice (some ⟨h1, 0, none⟩) 0 c2) := bcell hS5.out rfl
          rw [HSL.out] at hsm
          have HN5 : Hid ((setM ([] : List Ex) r o).length = 1) := HSL.out
          have hF3 : Fit sn es (setM ([] : List Ex) r o) := fit_mark HF.out HOK.out hbb
          obtain ⟨Y, hYe⟩ : ∃ Y, w5.setCell ⟨w1.heap.size, 4, none⟩ (.slice (some ⟨g5, 0, none⟩) 1 c5) = Y := ⟨_, rfl⟩
          rw [hYe] at hsm
          have hok3 := sts.spec_ok sn lo nx es (setM ([] : List Ex) r o) g1 g5 c1 c5 Y hF3 (ry_owns hsm.oe) (re_owns hsm.om) _ _ (fun _ => rfl) (fun _ => rfl)
          rw [HN5.out] at hok3
          have HY3 : Hid (SM w sn lo nx es ([] : List Ex) ga none cg 0 w1.heap.size g1 c1 g5 c5 (setM ([] : List Ex) r o) Y) := hsm
          have o0 : Y.cell? ⟨w1.heap.size, 0, none⟩ = some (.string sn) := bcell hsm.out rfl
          have o1 : Y.cell? ⟨w1.heap.size, 1, none⟩ = some (.int .i64 lo) := bcell hsm.out rfl
          have o2 : Y.cell? ⟨w1.heap.size, 2, none⟩ = some (.int .i64 nx) := bcell hsm.out rfl
          have o3 : Y.cell? ⟨w1.heap.size, 3, none⟩ = some (.slice (some ⟨g1, 0, none⟩) es.length c1) := bcell hsm.out rfl
          have o4 : Y.cell? ⟨w1.heap.size, 4, none⟩ = some (.slice (some ⟨g5, 0, none⟩) (setM ([] : List Ex) r o).length c5) := bcell hsm.out rfl
          rw [HN5.out] at o4
          clear hown5 hgrow5 hnil5 hS5 hown5' HS4 HO4 HE4
          cases hob3 : okB sn lo nx es (setM ([] : List Ex) r o) with
          | true =>
            rw [hob3] at hok3
            obtain rfl : ft = true := by rw [← HFT.out]; unfold fits; rw [hob, hob3]; rfl
            obtain rfl : AE = setM ([] : List Ex) r o := HAE.out
            go_wp2_with (go_at_call 30; fail)
            clear hYe o0 o1 o2 o3 o4
            refine hok3.mono ?_
            rintro e w6 ⟨rfl, hb6⟩
            have hs4 := HY3.out.on hb6
            have HS4 : Hid (SM w sn lo nx es ([] : List Ex) ga none cg 0 w1.heap.size g1 c1 g5 c5 (setM ([] : List Ex) r o) w6) := hs4
            have n0 : w6.cell? ⟨w1.heap.size, 0, none⟩ = some (.string sn) := bcell hs4.out rfl
            have n1 : w6.cell? ⟨w1.heap.size, 1, none⟩ = some (.int .i64 lo) := bcell hs4.out rfl
            have n2 : w6.cell? ⟨w1.heap.size, 2, none⟩ = some (.int .i64 nx) := bcell hs4.out rfl
            have n3 : w6.cell? ⟨w1.heap.size, 3, none⟩ = some (.slice (some ⟨g1, 0, none⟩) es.length c1) := bcell hs4.out rfl
            have n4 : w6.cell? ⟨w1.heap.size, 4, none⟩ = some (.slice (some ⟨g5, 0, none⟩) (setM ([] : List Ex) r o).length c5) := bcell hs4.out rfl
            rw [HN5.out] at n4
            have z0 : w6.cell? ⟨w.heap.size + 1, 0, none⟩ = some (.string ⟨#[]⟩) := bcell hs4.res rfl
            have z1 : w6.cell? ⟨w.heap.size + 1, 1, none⟩ = some (.int .i64 0) := bcell hs4.res rfl
            have z2 : w6.cell? ⟨w.heap.size + 1, 2, none⟩ = some (.int .i64 0) := bcell hs4.res rfl
            have z3 : w6.cell? ⟨w.heap.size + 1, 3, none⟩ = some (.slice none 0 0) := bcell hs4.res rfl
            have z4 : w6.cell? ⟨w.heap.size + 1, 4, none⟩ = some (.slice none 0 0) := bcell hs4.res rfl
            have z0f := bfree hs4.res 0
            have z1f := bfree hs4.res 1
            have z2f := bfree hs4.res 2
            have z3f := bfree hs4.res 3
            have z4f := bfree hs4.res 4
            clear hok3 hs4 HY3
            go_wp2
            refine bodyPost_ret (v := .tuple #[.agg #[.string sn, .int .i64 lo, .int .i64 nx, .slice (some ⟨g1, 0, none⟩) es.length c1, .slice (some ⟨g5, 0, none⟩) 1 c5], .bool true]) (by simp [results, Tryd.results7, go_sem, z0, z1, z2, z3, z4]) rfl ⟨some ⟨g1, 0, none⟩, c1, some ⟨g5, 0, none⟩, c5, by rw [HN5.out], ?_, ?_, ?_⟩
            · exact fin_row flY.c_len HS4.out.oe
            · exact fin_row flK.c_len HS4.out.om
            · exact fin_below HS4.out.bel (Nat.le_succ _)
          | false =>
            rw [hob3] at hok3
            obtain rfl : ft = false := by rw [← HFT.out]; unfold fits; rw [hob, hob3]; rfl
            have hAE : AE = ([] : List Ex) := HAE.out
            go_wp2_with (go_at_call 30; fail)
            clear hYe o0 o1 o2 o3 o4
            refine hok3.mono ?_
            rintro e w6 ⟨rfl, hb6⟩
            have hs4 := HY3.out.on hb6
            have hc5 := spec_copy sn lo nx es ([] : List Ex) g h cg 0 w6 HF.out (HY.out.below hs4.bel) (HE.out.below hs4.bel) ga _ hga hha
            have HS4 : Hid (SM w sn lo nx es ([] : List Ex) ga none cg 0 w1.heap.size g1 c1 g5 c5 (setM ([] : List Ex) r o) w6) := hs4
            have x0 : w6.cell? ⟨w.heap.size, 0, none⟩ = some (.string sn) := bcell hs4.box rfl
            have x1 : w6.cell? ⟨w.heap.size, 1, none⟩ = some (.int .i64 lo) := bcell hs4.box rfl
            have x2 : w6.cell? ⟨w.heap.size, 2, none⟩ = some (.int .i64 nx) := bcell hs4.box rfl
            have x3 : w6.cell? ⟨w.heap.size, 3, none⟩ = some (.slice ga es.length cg) := bcell hs4.box rfl
            have x4 : w6.cell? ⟨w.heap.size, 4, none⟩ = some (.slice none 0 0) := bcell hs4.box rfl
            clear hok3 hs4 HY3
            go_wp2_with (go_at_call 29; fail)
            refine hc5.mono ?_
            rintro e w7 ⟨g7, c7, h7, d7, rfl, oe5, om5, _, hb5⟩
            have hs5 := HS4.out.on hb5
            have hsz5 := HS4.out.size
            have z0 : w7.cell? ⟨w.heap.size + 1, 0, none⟩ = some (.string ⟨#[]⟩) := bcell hs5.res rfl
            have z1 : w7.cell? ⟨w.heap.size + 1, 1, none⟩ = some (.int .i64 0) := bcell hs5.res rfl
            have z2 : w7.cell? ⟨w.heap.size + 1, 2, none⟩ = some (.int .i64 0) := bcell hs5.res rfl
            have z3 : w7.cell? ⟨w.heap.size + 1, 3, none⟩ = some (.slice none 0 0) := bcell hs5.res rfl
            have z4 : w7.cell? ⟨w.heap.size + 1, 4, none⟩ = some (.slice none 0 0) := bcell hs5.res rfl
            have z0f := bfree hs5.res 0
            have z1f := bfree hs5.res 1
            have z2f := bfree hs5.res 2
            have z3f := bfree hs5.res 3
            have z4f := bfree hs5.res 4
            have HB5 : Hid (Below w.heap.size w w7) := hs5.bel
            have HOE5 : Hid (w7.ownsRow (w.heap.size + 2) 43 3 (.slice (some ⟨g7, 0, none⟩) es.length c7) es.length (es.flatMap flY.c)) := own_low oe5 hsz5
            have HOM5 : Hid (w7.ownsRow (w.heap.size + 2) 45 2 (.slice (some ⟨h7, 0, none⟩) 0 d7) 0 (([] : List Ex).flatMap flK.c)) := own_low om5 hsz5
            have HAM : Hid (AE = ([] : List Ex)) := hAE
            clear hc5 hs5 oe5 om5 hb5 HS4 x0 x1 x2 x3 x4 hAE
            go_wp2
            refine bodyPost_ret (v := .tuple #[.agg #[.string sn, .int .i64 lo, .int .i64 nx, .slice (some ⟨g7, 0, none⟩) es.length c7, .slice (some ⟨h7, 0, none⟩) 0 d7], .bool false]) (by simp [results, Tryd.results7, go_sem, z0, z1, z2, z3, z4]) rfl ⟨some ⟨g7, 0, none⟩, c7, some ⟨h7, 0, none⟩, d7, by rw [HAM.out]; rfl, ?_, ?_, ?_⟩
            · exact fin_row flY.c_len HOE5.out
            · rw [HAM.out]; exact fin_row flK.c_len HOM5.out
            · exact fin_below HB5.out (Nat.le_succ _)

end Go.Proofs.YtlfhfcgcfggjcaaDoor.smk
