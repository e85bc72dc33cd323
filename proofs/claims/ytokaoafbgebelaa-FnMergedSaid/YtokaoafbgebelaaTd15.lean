/- Tables, without memory: what is scanned is what is got; what a pair that is put changes. -/
import Derived.Test.YtokaoafbgebelaaTd14
import Derived.Test.YtokaoafbgebelaaDrawBytes
import Derived.Test.YtokaoafbgebelaaTd05
import Derived.Test.YtokaoafbgebelaaTd11
import Derived.Test.YtokaoafbgebelaaTd12
import Derived.Test.YtokaoafbgebelaaTd13
import Derived.Test.YtokaoafbgebelaaPutPure

/- The specification's TableMerge where the runs' row may be nothing. -/
namespace Go.Proofs.Ytokaoafbgebelaa.mgco
open Go.ChangeShapes Go.WideShapes Go.ChangeAt Go.RowKit Go.Proofs.Ytokaoafbgebelaa.fl Go.Proofs.Ytokaoafbgebelaa.fo Go.Proofs.Ytokaoafbgebelaa.rn Go.Proofs.Ytokaoafbgebelaa.tk Go.Proofs.Ytokaoafbgebelaa.tko Go.Proofs.Ytokaoafbgebelaa.tan Go.Proofs.Ytokaoafbgebelaa.mga Go.Proofs.Ytokaoafbgebelaa.mgd Go.Proofs.Ytokaoafbgebelaa.sci Go.Proofs.Ytokaoafbgebelaa.sct Go.Proofs.Ytokaoafbgebelaa.mgk Go.Proofs.Ytokaoafbgebelaa.mgko
set_option linter.unusedVariables false

set_option maxRecDepth 100000 in
set_option maxHeartbeats 8000000 in
theorem spec_merge (ys : List flP.Pr) (rs : List Rn) (ya : Option Addr) (yc : Nat) (ra : Option Addr) (rc : Nat) (x : Int) (w : World) (F : tb.Fit ys rs) (yq : Addr) (hNQ : apa.NQ ya yq ys.length yc) (hx1 : -9223372036854775808 ≤ x) (hx2 : x ≤ 9223372036854775807) (hY : Row flP.c 3 w w.heap.size ya ys) (hR : VR w w.heap.size ra rs) (hra : rs ≠ [] → ∃ b, ra = some ⟨b, 0, none⟩) (hrs : ∀ r ∈ rs, ∃ h, apa.NQ r.a ⟨h, 0, none⟩ r.l.length r.c) :
    Calls Try.prog 20 #[.agg #[.slice ya ys.length yc, .slice ra rs.length rc], .int .i64 x] w fun e w' => ∃ sa sc ta tc ks, e = .returned (.tuple #[.agg #[.slice sa ys.length sc, .slice ta (ansR ys (rs.map (·.l)) x).length tc], .bool (can ys (rs.map (·.l)) x)]) ∧ ks.map (·.l) = ansR ys (rs.map (·.l)) x ∧ sco.SR w' (w.heap.size + 2) sa sc ta tc ys ks ∧ Below w.heap.size w w' := by
  obtain ⟨i0, hi, hz0, hz1, hz2⟩ := infoP
  obtain ⟨i1, ki, kz0, kz1, kz2⟩ := ly.infoR
  have hb : Below w.heap.size w ((w.alloc (.cells #[.slice ya ys.length yc, .slice ra rs.length rc] 27)).alloc (.cells #[.slice none 0 0, .slice none 0 0] 27)) := ((Below.refl _ _).alloc (Nat.le_refl _) _).alloc (by simp) _
  have hA := bold (bnew w #[.slice ya ys.length yc, .slice ra rs.length rc] 27) (.cells #[.slice none 0 0, .slice none 0 0] 27)
  have hRs := bnew (w.alloc (.cells #[.slice ya ys.length yc, .slice ra rs.length rc] 27)) #[.slice none 0 0, .slice none 0 0] 27
  rw [World.size_alloc] at hRs
  obtain ⟨W, hW⟩ : ∃ W, ((w.alloc (.cells #[.slice ya ys.length yc, .slice ra rs.length rc] 27)).alloc (.cells #[.slice none 0 0, .slice none 0 0] 27)) = W := ⟨_, rfl⟩
  have hsW : W.heap.size = w.heap.size + 2 := by rw [← hW]; simp
  rw [hW] at hb hA hRs
  have hok := spec_okb ys rs ya ra yc rc W F (hY.inn hb) (hR.inn hb)
  have HF : Hid (tb.Fit ys rs) := F
  have hrl := F.rl
  have hyl := F.yl
  have HY : Hid (Row flP.c 3 w w.heap.size ya ys) := hY
  have HR : Hid (VR w w.heap.size ra rs) := hR
  have HRA : Hid (rs ≠ [] → ∃ b, ra = some ⟨b, 0, none⟩) := hra
  have HRS : Hid (∀ r ∈ rs, ∃ h, apa.NQ r.a ⟨h, 0, none⟩ r.l.length r.c) := hrs
  have HA : Hid (W.heap[w.heap.size]? = some (.cells #[.slice ya ys.length yc, .slice ra rs.length rc] 27 (0, 0))) := hA
  have HRES : Hid (W.heap[w.heap.size + 1]? = some (.cells #[.slice none 0 0, .slice none 0 0] 27 (0, 0))) := hRs
  have p0 : W.cell? ⟨w.heap.size, 0, none⟩ = some (.slice ya ys.length yc) := bcell hA rfl
  have p1 : W.cell? ⟨w.heap.size, 1, none⟩ = some (.slice ra rs.length rc) := bcell hA rfl
  clear hY hR hA hRs F hrs hra
  go_enter Try.func20, Try.ntmps20
  go_wp2_with (go_at_call 13; fail)
  clear hW p0 p1
  refine hok.mono ?_
  rintro e w2 ⟨rfl, hb2⟩
  have b2 := bstay HA.out hb2 (by omega)
  have r2 := bstay HRES.out hb2 (by omega)
  have hBw2 : Below w.heap.size w w2 := hb.trans (hb2.mono hb.size)
  have hcp := sco.spec_copy ys rs ya yc ra rc w2 HF.out yq hNQ (HY.out.inn hBw2) ((HR.out.inn hBw2).1) HRA.out (fun r hr => ⟨HRS.out r hr, (HR.out.inn hBw2).2 r hr⟩)
  have x0 : w2.cell? ⟨w.heap.size, 0, none⟩ = some (.slice ya ys.length yc) := bcell b2 rfl
  have x1 : w2.cell? ⟨w.heap.size, 1, none⟩ = some (.slice ra rs.length rc) := bcell b2 rfl
  have HA2 : Hid (w2.heap[w.heap.size]? = some (.cells #[.slice ya ys.length yc, .slice ra rs.length rc] 27 (0, 0))) := b2
  have HR2 : Hid (w2.heap[w.heap.size + 1]? = some (.cells #[.slice none 0 0, .slice none 0 0] 27 (0, 0))) := r2
  have hs2 : w.heap.size + 2 ≤ w2.heap.size := by have := hb2.size; omega
  clear hok b2 r2 HA HRES hb2
  have w1 : IntKind.i64.wrap ((rs.length : Int) - 2) = (rs.length : Int) - 2 := by rw [IntKind.wrap_i64]; omega
  have hwi := ky.within x 0 ((rs.length : Int) - 2) w2
  obtain ⟨ob, hob⟩ : ∃ ob, okB ys (rs.map (·.l)) = ob := ⟨_, rfl⟩
  have HOB : Hid (okB ys (rs.map (·.l)) = ob) := hob
  rw [hob]
  clear hob
  cases ob with
  | false =>
    have HC : Hid (can ys (rs.map (·.l)) x = false) := by unfold Hid can; rw [HOB.out]; rfl
    clear hwi
    go_wp2_with (go_at_call 48; fail)
    clear x0 x1
    refine hcp.mono ?_
    rintro e w3 ⟨g1, c1, va, vc, ks, rfl, of3, or3, m3, rows3, hap, hb3⟩
    have HAP : Hid (sco.Ap (some ⟨g1, 0, none⟩) ks) := hap
    clear hap
    have l3 : rs.length = ks.length := by have := congrArg List.length m3; simpa using this.symm
    have r3 := bstay HR2.out hb3 (by omega)
    have r0 : w3.cell? ⟨w.heap.size + 1, 0, none⟩ = some (.slice none 0 0) := bcell r3 rfl
    have r1 : w3.cell? ⟨w.heap.size + 1, 1, none⟩ = some (.slice none 0 0) := bcell r3 rfl
    have f0 := bfree r3 0
    have f1 := bfree r3 1
    have HB3 : Hid (Below w.heap.size w w3) := hBw2.trans (hb3.mono hBw2.size)
    have HRW : Hid (sco.SR ((w3.setCell ⟨w.heap.size + 1, 0, none⟩ (.slice (some ⟨g1, 0, none⟩) ys.length c1)).setCell ⟨w.heap.size + 1, 1, none⟩ (.slice va rs.length vc)) (w.heap.size + 2) (some ⟨g1, 0, none⟩) c1 va vc ys ks) := ⟨own_low (own_set (own_set of3 (by omega)) (by omega)) (by omega), by rw [← l3]; exact own_low (own_set (own_set or3 (by omega)) (by omega)) (by omega), fun r hr => own_low (own_set (own_set (rows3 r hr) (by omega)) (by omega)) (by omega), HAP.out⟩
    have HM : Hid (ks.map (·.l) = rs.map (·.l)) := m3
    clear hcp m3 of3 or3 rows3 l3 r3 hb3
    go_wp2
    exact bodyPost_ret (v := .tuple #[.agg #[.slice (some ⟨g1, 0, none⟩) ys.length c1, .slice va rs.length vc], .bool false]) (by simp [results, Try.results20, go_sem, r0, r1]) rfl ⟨some ⟨g1, 0, none⟩, c1, va, vc, ks, by rw [ans_no HC.out, HC.out, List.length_map], by rw [ans_no HC.out]; exact HM.out, HRW.out, (HB3.out.setCell (Nat.le_succ _) _).setCell (Nat.le_succ _) _⟩
  | true =>
    obtain ⟨ib, hib⟩ : ∃ ib, decide ((0 : Int) ≤ x ∧ x ≤ (rs.length : Int) - 2) = ib := ⟨_, rfl⟩
    have HIB : Hid (decide ((0 : Int) ≤ x ∧ x ≤ (rs.length : Int) - 2) = ib) := hib
    rw [hib] at hwi
    have hin : inB (rs.map (·.l)) x = ib := by
      unfold inB
      rw [← hib, List.length_map]
      congr 1
      apply propext
      omega
    have HIN : Hid (inB (rs.map (·.l)) x = ib) := hin
    clear hib hin
    go_wp2_with (go_at_call 47; fail)
    refine hwi.mono ?_
    rintro e w0 ⟨rfl, hw0⟩
    obtain rfl := hw0
    clear hwi
    cases ib with
    | false =>
      have HC : Hid (can ys (rs.map (·.l)) x = false) := by unfold Hid can; rw [HOB.out, HIN.out]; rfl
      go_wp2_with (go_at_call 48; fail)
      clear x0 x1
      refine hcp.mono ?_
      rintro e w3 ⟨g1, c1, va, vc, ks, rfl, of3, or3, m3, rows3, hap, hb3⟩
      have HAP : Hid (sco.Ap (some ⟨g1, 0, none⟩) ks) := hap
      clear hap
      have l3 : rs.length = ks.length := by have := congrArg List.length m3; simpa using this.symm
      have r3 := bstay HR2.out hb3 (by omega)
      have r0 : w3.cell? ⟨w.heap.size + 1, 0, none⟩ = some (.slice none 0 0) := bcell r3 rfl
      have r1 : w3.cell? ⟨w.heap.size + 1, 1, none⟩ = some (.slice none 0 0) := bcell r3 rfl
      have f0 := bfree r3 0
      have f1 := bfree r3 1
      have HB3 : Hid (Below w.heap.size w w3) := hBw2.trans (hb3.mono hBw2.size)
      have HRW : Hid (sco.SR ((w3.setCell ⟨w.heap.size + 1, 0, none⟩ (.slice (some ⟨g1, 0, none⟩) ys.length c1)).setCell ⟨w.heap.size + 1, 1, none⟩ (.slice va rs.length vc)) (w.heap.size + 2) (some ⟨g1, 0, none⟩) c1 va vc ys ks) := ⟨own_low (own_set (own_set of3 (by omega)) (by omega)) (by omega), by rw [← l3]; exact own_low (own_set (own_set or3 (by omega)) (by omega)) (by omega), fun r hr => own_low (own_set (own_set (rows3 r hr) (by omega)) (by omega)) (by omega), HAP.out⟩
      have HM : Hid (ks.map (·.l) = rs.map (·.l)) := m3
      clear hcp m3 of3 or3 rows3 l3 r3 hb3
      go_wp2
      exact bodyPost_ret (v := .tuple #[.agg #[.slice (some ⟨g1, 0, none⟩) ys.length c1, .slice va rs.length vc], .bool false]) (by simp [results, Try.results20, go_sem, r0, r1]) rfl ⟨some ⟨g1, 0, none⟩, c1, va, vc, ks, by rw [ans_no HC.out, HC.out, List.length_map], by rw [ans_no HC.out]; exact HM.out, HRW.out, (HB3.out.setCell (Nat.le_succ _) _).setCell (Nat.le_succ _) _⟩
    | true =>
      have hrange := HIB.out
      simp at hrange
      obtain ⟨i, rfl⟩ : ∃ i : Nat, x = (i : Int) := ⟨x.toNat, by omega⟩
      have hii : i + 2 ≤ rs.length := by omega
      have HOK : Hid (OkT ys (rs.map (·.l))) := okB_true.1 HOB.out
      have h8 : rs.length ≤ 8 := by have := HOK.out.rl; simpa using this
      have hmade : (w2.alloc (.cells #[] 40)).ownsRow w2.heap.size 40 3 (.slice (some ⟨w2.heap.size, 0, none⟩) 0 0) 0 [] := World.ownsRow_made w2 #[] 0 (Nat.le_refl _) (by unfold maxLen; omega) (by simp)
      have hal2 : Below w2.heap.size w2 (w2.alloc (.cells #[] 40)) := (Below.refl _ _).alloc (Nat.le_refl _) _
      have HYW : Hid (Row flP.c 3 (w2.alloc (.cells #[] 40)) (w2.alloc (.cells #[] 40)).heap.size ya ys) := (HY.out.inn hBw2).inn hal2
      have z0 : (w2.alloc (.cells #[] 40)).cell? ⟨w.heap.size, 0, none⟩ = some (.slice ya ys.length yc) := bcell (bold HA2.out _) rfl
      have HMADE : Hid ((w2.alloc (.cells #[] 40)).ownsRow w2.heap.size 40 3 (.slice (some ⟨w2.heap.size, 0, none⟩) 0 0) 0 []) := hmade
      clear hcp hrange hx1 hx2 hmade x0 x1 HIB
      have hsz : (w2.alloc (.cells #[] 40)).heap.size = w2.heap.size + 1 := by simp
      go_wp2_with (at_builtin; refine apa.wpList_append_any _ rfl _ _ 24 rfl w2.heap.size 40 i0 (.agg #[.string ByteArray.empty, .string ByteArray.empty, .bool false]) 3 40 Try.underlying24 hi hz0 hz1 hz2 rfl (by decide) _ 0 [] rfl (by exact HMADE.out) ya yq ys.length yc hNQ (ys.flatMap flP.c) rfl (flat_len flP.c_len ys) (by exact sco.newsN hNQ HYW.out) (oneP ys) (by unfold maxLen; omega) (by omega) (by omega) ?_)
      intro v1 w1' hown1 hgrow1 hnil1
      obtain ⟨g1, c1, rfl⟩ : ∃ g1 c1, v1 = .slice (some ⟨g1, 0, none⟩) ys.length c1 := by
        obtain ⟨_, ⟨rfl, h0⟩ | ⟨g, cap, cur, e, _⟩⟩ := hown1
        · exfalso
          first | exact hnil1 rfl | (have := hnil1.1 rfl; cases this.1)
        · exact ⟨_, _, by simpa using e⟩
      have hgr1 : (w2.alloc (.cells #[] 40)).grownBy w1' (some w2.heap.size) := hgrow1
      have hs1 := hgr1.size
      have hb1 : Below w.heap.size w w1' := (hBw2.alloc hBw2.size _).grown hgr1 (by omega) (fun b hb => by cases hb; omega)
      have hX : StMO w ys rs ya yc ra rc w1'.heap.size g1 c1 0 none 0 [] (todo (rs.map (·.l)) i 0) (mrg (rs.map (·.l)) i) (w1'.alloc (.cells #[.slice (some ⟨g1, 0, none⟩) ys.length c1, .slice none 0 0] 27)) := by
        refine ⟨hb1.alloc hb1.size _, bold ((hgr1.block _ (by omega) (by simp; omega)).trans (bold HA2.out _)) _, bold ((hgr1.block _ (by omega) (by simp; omega)).trans (bold HR2.out _)) _, by omega, bnew w1' _ _, ?_, ⟨by simp, .inl ⟨rfl, rfl⟩⟩, by rw [todo_0]; rfl, fun r hr => by simp at hr, fun r hr => by simp at hr⟩
        refine own_low (World.ownsRow.alloc ?_ _) hs2
        simpa using hown1
      have hsw := hX.big
      have HX : Hid (StMO w ys rs ya yc ra rc w1'.heap.size g1 c1 0 none 0 [] (todo (rs.map (·.l)) i 0) (mrg (rs.map (·.l)) i) (w1'.alloc (.cells #[.slice (some ⟨g1, 0, none⟩) ys.length c1, .slice none 0 0] 27))) := hX
      clear hX hown1 hgrow1 hnil1 hgr1 HA2 HR2 HMADE HYW z0 hal2 hsz
      go_wp2
      obtain ⟨X, hXe⟩ : ∃ X, w1'.alloc (.cells #[.slice (some ⟨g1, 0, none⟩) ys.length c1, .slice none 0 0] 27) = X := ⟨_, rfl⟩
      rw [hXe] at HX hsw ⊢
      obtain ⟨n3, hn3⟩ : ∃ n3, w1'.heap.size = n3 := ⟨_, rfl⟩
      rw [hn3] at HX ⊢
      clear hXe hn3 hb1 hs1
      go_loopw [7] (fun x wr => ∃ (j k : Nat) (va : Option Addr) (vc : Nat) (ks : List Rn), j ≤ rs.length ∧ x = .int .i64 j ∧ k ≤ j ∧ Hid (StMO w ys rs ya yc ra rc n3 g1 c1 k va vc ks (todo (rs.map (·.l)) i j) (mrg (rs.map (·.l)) i) wr)) (fun x _ => rs.length - (intOf x).toNat)
      case atStart => exact ⟨0, 0, none, 0, [], Nat.zero_le _, rfl, Nat.le_refl _, HX⟩
      case round =>
        obtain ⟨j, k, va, vc, ks, hj, rfl, hkj, hinv⟩ := hrel
        clear HX hsw
        by_cases hjl : j < rs.length
        · obtain ⟨b, rfl⟩ := HRA.out (by rintro rfl; simp at hjl)
          have y1 : wr.cell? ⟨w.heap.size, 1, none⟩ = some (.slice (some ⟨b, 0, none⟩) rs.length rc) := bcell hinv.out.box rfl
          have i2 : (j : Int) < (rs.length : Int) := by omega
          have hlo := hinv.out.lo
          have hrb : ∀ x, (Value.slice va k vc).ownBlock = some x → w.heap.size + 2 ≤ x := fun x e => (hinv.out.runs.lt x e).1
          have n1 : w.heap.size ≠ n3 := by omega
          have n2 : (Value.slice va k vc).ownBlock ≠ some w.heap.size := fun e => by have := hrb _ e; omega
          have run : ∀ (q : Nat) (hq : q < rs.length), ∃ (qa : Option Addr) (rh qc : Nat) (ql : List flP.Pr), rs[q]? = some ⟨qa, qc, ql⟩ ∧ apa.NQ qa ⟨rh, 0, none⟩ ql.length qc ∧ Row flP.c 3 wr wr.heap.size qa ql ∧ ql.length ≤ 300 ∧ mgp.Asc ql ∧ b < w.heap.size ∧ wr.cell? ⟨b, q, none⟩ = some (.slice qa ql.length qc) := fun q hq => by
            obtain ⟨rh, hra⟩ := HRS.out rs[q] (List.getElem_mem hq)
            have hrow := HR.out.2 rs[q] (List.getElem_mem hq)
            obtain ⟨⟨qa, qc, ql⟩, he⟩ : ∃ e, rs[q] = e := ⟨_, rfl⟩
            rw [he] at hrow hra
            simp only at hra hrow
            have hg : rs[q]? = some ⟨qa, qc, ql⟩ := by rw [← he]; exact List.getElem?_eq_getElem hq
            have hok := HOK.out.ro q ql (map_at hg)
            refine ⟨qa, rh, qc, ql, hg, hra, hrow.inn hinv.out.bel, hok.ll, mgp.asc_of hok.up, ?_⟩
            rcases HR.out.1 with h0 | ⟨b', off', hh, hlt, hc⟩
            · rw [h0] at hq; simp at hq
            · cases hh
              refine ⟨hlt, ?_⟩
              have := hc q _ hg 0 _ rfl
              rw [World.cell?_of_block (hinv.out.bel.block b hlt)]
              simpa using this
          by_cases hji : j = i
          · subst hji
            obtain ⟨qa, rh, qc, ql, hg, hnr, hrow, hql, hasc, hbl, hbc⟩ := run j (by omega)
            obtain ⟨qa2, rh2, qc2, ql2, hg2, hnr2, hrow2, hql2, hasc2, _, hbc2⟩ := run (j + 1) (by omega)
            obtain ⟨last, hlast⟩ : ∃ last : Bool, decide (j + 2 = rs.length) = last := ⟨_, rfl⟩
            have d0 : ((j : Int) + 2 == (rs.length : Int)) = last := by
              rw [← hlast]
              by_cases h : j + 2 = rs.length
              · rw [decide_eq_true h]; simp; omega
              · rw [decide_eq_false h]; simp; omega
            have d1 : ((j : Int) == (j : Int)) = true := by simp
            have w3 : IntKind.i64.wrap ((j : Int) + 1) = (j : Int) + 1 := by rw [IntKind.wrap_i64]; omega
            have w4 : IntKind.i64.wrap ((j : Int) + 2) = (j : Int) + 2 := by rw [IntKind.wrap_i64]; omega
            have i3 : (j : Int) + 1 < (rs.length : Int) := by omega
            have i4 : (0 : Int) ≤ (j : Int) + 1 := by omega
            have i5 : ((j : Int) + 1).toNat = j + 1 := by omega
            have HTD : Hid (todo (rs.map (·.l)) j j = merged ql ql2 last :: todo (rs.map (·.l)) j (j + 1)) := by
              unfold Hid
              rw [todo_merge (map_at hg) (map_at hg2), List.length_map, hlast]
            have HCA : Hid (∀ W, Below wr.heap.size wr W → Calls Try.prog 49 #[.slice qa ql.length qc, .slice qa2 ql2.length qc2, .bool last] W fun r w' => ∃ v, r = .returned v ∧ w'.ownsRow W.heap.size 40 3 v (merged ql ql2 last).length ((merged ql ql2 last).flatMap flP.c) ∧ Below W.heap.size W w') := fun W hb =>
              (spec_merged ql ql2 qa qa2 ⟨rh2, 0, none⟩ qc qc2 hnr2 last W (by omega) (by omega) hasc hasc2 (hrow.inn hb) (hrow2.inn hb)).mono fun r w' ⟨v, h1, _, _, h2, h3⟩ => ⟨v, h1, h2, h3⟩
            have hAh := hinv.out.ah (merged ql ql2 last).length ((merged ql ql2 last).flatMap flP.c)
            have n3' : b ≠ n3 := by omega
            have n4 : (Value.slice va k vc).ownBlock ≠ some b := fun e => by have := hrb _ e; omega
            have HAh : Hid (Ah ⟨wr, w.heap.size + 2, n3, .slice (some ⟨g1, 0, none⟩) ys.length c1, .slice va k vc, k, ks.flatMap cR, (merged ql ql2 last).length, (merged ql ql2 last).flatMap flP.c⟩) := hAh
            clear hAh run hrow hrow2 hasc hasc2 hg hg2 hlast hnr hnr2
            go_wp2
            refine dk.region_gsets (smc.ws ⟨wr, w.heap.size + 2, n3, .slice (some ⟨g1, 0, none⟩) ys.length c1, .slice va k vc, k, ks.flatMap cR, (merged ql ql2 last).length, (merged ql ql2 last).flatMap flP.c⟩ w.heap.size b rs.length rc j qa qa2 ql.length ql2.length qc qc2 last) [37, 38, 39, 40, 41, 42, 43, 44, 45, 46, 47, 48, 49, 50, 51, 52, 53, 54, 55, 56, 57, 58, 59] (smc.C ⟨wr, w.heap.size + 2, n3, .slice (some ⟨g1, 0, none⟩) ys.length c1, .slice va k vc, k, ks.flatMap cR, (merged ql ql2 last).length, (merged ql ql2 last).flatMap flP.c⟩) ⟨.slice none 0 0, 0, .slice none 0 0⟩ (by kernel_rfl) (by kernel_rfl) (fun _ => rfl) (by kernel_rfl) (smc.start _ _ HAh.out) ?each ?fin
            case each =>
              refine ⟨smc.quiet (by decide) (by simp) (.pointer (some ⟨n3, 1, none⟩)) (by rintro s _ ⟨⟩; exact dk.sets_on _ (by simp) _ rfl) (fun s W h => by simp [execOp, go_sem, Act.eval, dk.sets_get, smc.ws, List.lookup]), ?_⟩
              refine ⟨smc.st1 (by simp) (by rintro s _ ⟨⟩; exact dk.sets_on _ (by simp) _ rfl) (fun s W h => by have c : W.cell? ⟨n3, 1, none⟩ = some (.slice va k vc) := bcell h rfl; simp [execOp, go_sem, Act.eval, dk.sets_get, smc.ws, List.lookup, c]), ?_⟩
              refine ⟨smc.quiet (by decide) (by simp) (.pointer (some ⟨w.heap.size, 1, none⟩)) (by rintro s _ ⟨⟩; exact dk.sets_on _ (by simp) _ rfl) (fun s W h => by simp [execOp, go_sem, Act.eval, dk.sets_get, smc.ws, List.lookup]), ?_⟩
              refine ⟨smc.quiet (by decide) (by simp) (.slice (some ⟨b, 0, none⟩) rs.length rc) (by rintro s _ ⟨⟩; exact dk.sets_on _ (by simp) _ rfl) (fun s W h => by have c : W.cell? ⟨w.heap.size, 1, none⟩ = some (.slice (some ⟨b, 0, none⟩) rs.length rc) := old_cell h n1 n2 y1; simp [execOp, go_sem, Act.eval, dk.sets_get, smc.ws, List.lookup, c]), ?_⟩
              refine ⟨smc.quiet (by decide) (by simp) (.int .i64 j) (by rintro s _ ⟨⟩; exact dk.sets_on _ (by simp) _ rfl) (fun s W h => by simp [execOp, go_sem, Act.eval, dk.sets_get, smc.ws, List.lookup]), ?_⟩
              refine ⟨smc.quiet (by decide) (by simp) (.pointer (some ⟨b, j, none⟩)) (by rintro s _ ⟨⟩; exact dk.sets_on _ (by simp) _ rfl) (fun s W h => by simp [execOp, go_sem, Act.eval, dk.sets_get, smc.ws, List.lookup, i2]), ?_⟩
              refine ⟨smc.quiet (by decide) (by simp) (.slice qa ql.length qc) (by rintro s _ ⟨⟩; exact dk.sets_on _ (by simp) _ rfl) (fun s W h => by have c : W.cell? ⟨b, j, none⟩ = some (.slice qa ql.length qc) := old_cell h n3' n4 hbc; simp [execOp, go_sem, Act.eval, dk.sets_get, smc.ws, List.lookup, c]), ?_⟩
              refine ⟨smc.quiet (by decide) (by simp) (.pointer (some ⟨w.heap.size, 1, none⟩)) (by rintro s _ ⟨⟩; exact dk.sets_on _ (by simp) _ rfl) (fun s W h => by simp [execOp, go_sem, Act.eval, dk.sets_get, smc.ws, List.lookup]), ?_⟩
              refine ⟨smc.quiet (by decide) (by simp) (.slice (some ⟨b, 0, none⟩) rs.length rc) (by rintro s _ ⟨⟩; exact dk.sets_on _ (by simp) _ rfl) (fun s W h => by have c : W.cell? ⟨w.heap.size, 1, none⟩ = some (.slice (some ⟨b, 0, none⟩) rs.length rc) := old_cell h n1 n2 y1; simp [execOp, go_sem, Act.eval, dk.sets_get, smc.ws, List.lookup, c]), ?_⟩
              refine ⟨smc.quiet (by decide) (by simp) (.int .i64 j) (by rintro s _ ⟨⟩; exact dk.sets_on _ (by simp) _ rfl) (fun s W h => by simp [execOp, go_sem, Act.eval, dk.sets_get, smc.ws, List.lookup]), ?_⟩
              refine ⟨smc.quiet (by decide) (by simp) (.int .i64 ((j : Int) + 1)) (by rintro s _ ⟨⟩; exact dk.sets_on _ (by simp) _ rfl) (fun s W h => by simp [execOp, go_sem, Act.eval, dk.sets_get, smc.ws, List.lookup, w3]), ?_⟩
              refine ⟨smc.quiet (by decide) (by simp) (.pointer (some ⟨b, j + 1, none⟩)) (by rintro s _ ⟨⟩; exact dk.sets_on _ (by simp) _ rfl) (fun s W h => by simp [execOp, go_sem, Act.eval, dk.sets_get, smc.ws, List.lookup, i3, i4, i5]), ?_⟩
              refine ⟨smc.quiet (by decide) (by simp) (.slice qa2 ql2.length qc2) (by rintro s _ ⟨⟩; exact dk.sets_on _ (by simp) _ rfl) (fun s W h => by have c : W.cell? ⟨b, j + 1, none⟩ = some (.slice qa2 ql2.length qc2) := old_cell h n3' n4 hbc2; simp [execOp, go_sem, Act.eval, dk.sets_get, smc.ws, List.lookup, c]), ?_⟩
              refine ⟨smc.quiet (by decide) (by simp) (.int .i64 j) (by rintro s _ ⟨⟩; exact dk.sets_on _ (by simp) _ rfl) (fun s W h => by simp [execOp, go_sem, Act.eval, dk.sets_get, smc.ws, List.lookup]), ?_⟩
              refine ⟨smc.quiet (by decide) (by simp) (.int .i64 ((j : Int) + 2)) (by rintro s _ ⟨⟩; exact dk.sets_on _ (by simp) _ rfl) (fun s W h => by simp [execOp, go_sem, Act.eval, dk.sets_get, smc.ws, List.lookup, w4]), ?_⟩
              refine ⟨smc.quiet (by decide) (by simp) (.pointer (some ⟨w.heap.size, 1, none⟩)) (by rintro s _ ⟨⟩; exact dk.sets_on _ (by simp) _ rfl) (fun s W h => by simp [execOp, go_sem, Act.eval, dk.sets_get, smc.ws, List.lookup]), ?_⟩
              refine ⟨smc.quiet (by decide) (by simp) (.slice (some ⟨b, 0, none⟩) rs.length rc) (by rintro s _ ⟨⟩; exact dk.sets_on _ (by simp) _ rfl) (fun s W h => by have c : W.cell? ⟨w.heap.size, 1, none⟩ = some (.slice (some ⟨b, 0, none⟩) rs.length rc) := old_cell h n1 n2 y1; simp [execOp, go_sem, Act.eval, dk.sets_get, smc.ws, List.lookup, c]), ?_⟩
              refine ⟨smc.quiet (by decide) (by simp) (.int .i64 rs.length) (by rintro s _ ⟨⟩; exact dk.sets_on _ (by simp) _ rfl) (fun s W h => by simp [go_sem, Act.eval, dk.sets_get, smc.ws, List.lookup]), ?_⟩
              refine ⟨smc.quiet (by decide) (by simp) (.bool last) (by rintro s _ ⟨⟩; exact dk.sets_on _ (by simp) _ rfl) (fun s W h => by simp [execOp, go_sem, Act.eval, dk.sets_get, smc.ws, List.lookup, d0]), ?_⟩
              refine ⟨smc.st19 HAh.out (by simp) (by simp) rfl #[.slice qa ql.length qc, .slice qa2 ql2.length qc2, .bool last] 49 (fun s W => by simp [go_sem, Act.eval, dk.sets_get, smc.ws, List.lookup]) HCA.out, ?_⟩
              refine ⟨smc.st20 HAh.out (by simp) rfl rfl ⟨⟨19, .data⟩, by simp, rfl, rfl⟩, ?_⟩
              refine ⟨smc.st21 HAh.out ki kz0 kz1 kz2 rfl (by simp) rfl rfl (by show k ≤ 1048576; omega) ⟨⟨20, .data⟩, by simp, rfl, rfl⟩ ⟨⟨1, .data⟩, by simp, rfl, rfl⟩, ?_⟩
              refine ⟨smc.quiet (by decide) (by simp) (.pointer (some ⟨n3, 1, none⟩)) (by rintro s _ ⟨⟩; exact dk.sets_on _ (by simp) _ rfl) (fun s W h => by simp [execOp, go_sem, Act.eval, dk.sets_get, smc.ws, List.lookup]), ?_⟩
              exact ⟨smc.st23 HAh.out (by simp) (by simp) rfl (fun s W h hv => by obtain ⟨av, nv, cv, hv⟩ := hv; have c : W.cell? ⟨n3, 1, none⟩ = some (.slice va k vc) := bcell h rfl; have f := bfree h 1; rw [hv]; simp [execOp, go_sem, Act.eval, dk.sets_get, smc.ws, List.lookup, c, f, hv]) ⟨⟨21, .data⟩, by simp, rfl, rfl⟩, trivial⟩
            case fin =>
              intro g L W2 hL hC
              obtain ⟨d1, d2, d3, d4⟩ := smc.done hC hL
              obtain ⟨qa, qq, hqv⟩ := smc.slice_of d3
              rw [hqv] at d3 d4
              obtain ⟨va', vc', ks', hv2, hst⟩ := hinv.out.step (r := ⟨qa, qq, merged ql ql2 last⟩) HTD.out d1 d2 d3 d4
              have HN : Hid (StMO w ys rs ya yc (some ⟨b, 0, none⟩) rc n3 g1 c1 (k + 1) va' vc' ks' (todo (rs.map (·.l)) j (j + 1)) (mrg (rs.map (·.l)) j) W2) := hst
              simp only [dk.sets, smc.ws, hv2, hqv]
              clear hC hL d1 d2 d3 d4 hst
              go_wp2
              go_roundw
              all_goals first | exact ⟨j + 1, k + 1, va', vc', ks', by omega, by go_num, by omega, HN⟩ | (simp [intOf]; omega)
          · by_cases hji1 : j = i + 1
            · have d1 : ((j : Int) == (i : Int)) = false := by simp; omega
              have d2 : ((j : Int) != (i : Int) + 1) = false := by simp; omega
              have w3 : IntKind.i64.wrap ((i : Int) + 1) = (i : Int) + 1 := by rw [IntKind.wrap_i64]; omega
              have HN : Hid (StMO w ys rs ya yc (some ⟨b, 0, none⟩) rc n3 g1 c1 k va vc ks (todo (rs.map (·.l)) i (j + 1)) (mrg (rs.map (·.l)) i) wr) := by
                unfold Hid
                have := hinv.out
                rw [hji1, todo_skip, ← hji1] at this
                exact this
              clear hinv run hji hji1
              go_wp2
              go_roundw
              all_goals first | exact ⟨j + 1, k, va, vc, ks, by omega, by go_num, by omega, HN⟩ | (simp [intOf]; omega)
            · obtain ⟨qa, rh, qc, ql, hg, hnr, hrow, hql, hasc, hbl, hbc⟩ := run j (by omega)
              have d1 : ((j : Int) == (i : Int)) = false := by simp; omega
              have d2 : ((j : Int) != (i : Int) + 1) = true := by simp; omega
              have w3 : IntKind.i64.wrap ((i : Int) + 1) = (i : Int) + 1 := by rw [IntKind.wrap_i64]; omega
              have HTD : Hid (todo (rs.map (·.l)) i j = ql :: todo (rs.map (·.l)) i (j + 1)) := todo_copy (map_at hg) hji hji1
              have HQ : Hid (Row flP.c 3 wr wr.heap.size qa ql) := hrow
              have HNR : Hid (apa.NQ qa ⟨rh, 0, none⟩ ql.length qc) := hnr
              have hAh := hinv.out.ah ql.length (ql.flatMap flP.c)
              have n3' : b ≠ n3 := by omega
              have n4 : (Value.slice va k vc).ownBlock ≠ some b := fun e => by have := hrb _ e; omega
              have HAh : Hid (Ah ⟨wr, w.heap.size + 2, n3, .slice (some ⟨g1, 0, none⟩) ys.length c1, .slice va k vc, k, ks.flatMap cR, ql.length, ql.flatMap flP.c⟩) := hAh
              clear hAh run hji hji1 hrow hasc hg hnr
              go_wp2
              refine dk.region_gsets (smr.ws ⟨wr, w.heap.size + 2, n3, .slice (some ⟨g1, 0, none⟩) ys.length c1, .slice va k vc, k, ks.flatMap cR, ql.length, ql.flatMap flP.c⟩ w.heap.size b rs.length rc qa qc j) [64, 65, 66, 67, 68, 69, 70, 71, 72, 73, 74, 75] (sct.C ⟨wr, w.heap.size + 2, n3, .slice (some ⟨g1, 0, none⟩) ys.length c1, .slice va k vc, k, ks.flatMap cR, ql.length, ql.flatMap flP.c⟩) ⟨0, 0, 0, 0, .slice none 0 0⟩ (by kernel_rfl) (by kernel_rfl) (fun _ => rfl) (by kernel_rfl) (sct.start _ _ HAh.out) ?each ?fin
              case each =>
                refine ⟨smr.quiet (by decide) (by simp) (.pointer (some ⟨n3, 1, none⟩)) (by rintro s _ ⟨⟩; exact dk.sets_on _ (by simp) _ rfl) (fun s W h => by simp [execOp, go_sem, Act.eval, dk.sets_get, smr.ws, List.lookup]), ?_⟩
                refine ⟨smr.st1 (by simp) (by rintro s _ ⟨⟩; exact dk.sets_on _ (by simp) _ rfl) (fun s W h => by have c : W.cell? ⟨n3, 1, none⟩ = some (.slice va k vc) := bcell h rfl; simp [execOp, go_sem, Act.eval, dk.sets_get, smr.ws, List.lookup, c]), ?_⟩
                refine ⟨smr.st2 HAh.out (by simp) rfl rfl, ?_⟩
                refine ⟨smr.quiet (by decide) (by simp) (.pointer (some ⟨w.heap.size, 1, none⟩)) (by rintro s _ ⟨⟩; exact dk.sets_on _ (by simp) _ rfl) (fun s W h => by simp [execOp, go_sem, Act.eval, dk.sets_get, smr.ws, List.lookup]), ?_⟩
                refine ⟨smr.quiet (by decide) (by simp) (.slice (some ⟨b, 0, none⟩) rs.length rc) (by rintro s _ ⟨⟩; exact dk.sets_on _ (by simp) _ rfl) (fun s W h => by have c : W.cell? ⟨w.heap.size, 1, none⟩ = some (.slice (some ⟨b, 0, none⟩) rs.length rc) := old_cell h n1 n2 y1; simp [execOp, go_sem, Act.eval, dk.sets_get, smr.ws, List.lookup, c]), ?_⟩
                refine ⟨smr.quiet (by decide) (by simp) (.int .i64 j) (by rintro s _ ⟨⟩; exact dk.sets_on _ (by simp) _ rfl) (fun s W h => by simp [execOp, go_sem, Act.eval, dk.sets_get, smr.ws, List.lookup]), ?_⟩
                refine ⟨smr.quiet (by decide) (by simp) (.pointer (some ⟨b, j, none⟩)) (by rintro s _ ⟨⟩; exact dk.sets_on _ (by simp) _ rfl) (fun s W h => by simp [execOp, go_sem, Act.eval, dk.sets_get, smr.ws, List.lookup, i2]), ?_⟩
                refine ⟨smr.quiet (by decide) (by simp) (.slice qa ql.length qc) (by rintro s _ ⟨⟩; exact dk.sets_on _ (by simp) _ rfl) (fun s W h => by have c : W.cell? ⟨b, j, none⟩ = some (.slice qa ql.length qc) := old_cell h n3' n4 hbc; simp [execOp, go_sem, Act.eval, dk.sets_get, smr.ws, List.lookup, c]), ?_⟩
                refine ⟨smr.st8 HNR.out HAh.out hi hz0 hz1 hz2 rfl (by simp) rfl rfl (flat_len flP.c_len ql) (fun W hb => sco.newsN HNR.out (HQ.out.inn hb)) (oneP ql) (by show ql.length ≤ 1048576; omega) ⟨⟨2, .data⟩, by simp, rfl, rfl⟩, ?_⟩
                refine ⟨smr.st9 HAh.out (by simp) rfl rfl ⟨⟨8, .data⟩, by simp, rfl, rfl⟩, ?_⟩
                refine ⟨smr.st10 HAh.out ki kz0 kz1 kz2 rfl (by simp) rfl rfl (by show k ≤ 1048576; omega) ⟨⟨9, .data⟩, by simp, rfl, rfl⟩ ⟨⟨1, .data⟩, by simp, rfl, rfl⟩, ?_⟩
                refine ⟨smr.quiet (by decide) (by simp) (.pointer (some ⟨n3, 1, none⟩)) (by rintro s _ ⟨⟩; exact dk.sets_on _ (by simp) _ rfl) (fun s W h => by simp [execOp, go_sem, Act.eval, dk.sets_get, smr.ws, List.lookup]), ?_⟩
                exact ⟨smr.st12 HAh.out (by simp) (by simp) rfl (fun s W h hv => by obtain ⟨av, nv, cv, hv⟩ := hv; have c : W.cell? ⟨n3, 1, none⟩ = some (.slice va k vc) := bcell h rfl; have f := bfree h 1; rw [hv]; simp [execOp, go_sem, Act.eval, dk.sets_get, smr.ws, List.lookup, c, f, hv]) ⟨⟨10, .data⟩, by simp, rfl, rfl⟩, trivial⟩
              case fin =>
                intro g L W2 hL hC
                obtain ⟨d1, d2, d3, d4⟩ := sct.done hC hL
                obtain ⟨va', vc', ks', hv2, hst⟩ := hinv.out.step (r := ⟨some ⟨g.b1, 0, none⟩, g.q1, ql⟩) HTD.out d1 d2 d3 d4
                have HN : Hid (StMO w ys rs ya yc (some ⟨b, 0, none⟩) rc n3 g1 c1 (k + 1) va' vc' ks' (todo (rs.map (·.l)) i (j + 1)) (mrg (rs.map (·.l)) i) W2) := hst
                simp only [dk.sets, smr.ws, hv2]
                clear hC hL d1 d2 d3 d4 hst
                go_wp2
                go_roundw
                all_goals first | exact ⟨j + 1, k + 1, va', vc', ks', by omega, by go_num, by omega, HN⟩ | (simp [intOf]; omega)
        · obtain rfl : j = rs.length := by omega
          have y1 : wr.cell? ⟨w.heap.size, 1, none⟩ = some (.slice ra rs.length rc) := bcell hinv.out.box rfl
          have u0 : wr.cell? ⟨n3, 0, none⟩ = some (.slice (some ⟨g1, 0, none⟩) ys.length c1) := bcell hinv.out.out rfl
          have u1 : wr.cell? ⟨n3, 1, none⟩ = some (.slice va k vc) := bcell hinv.out.out rfl
          have hmi : i + 2 ≤ (rs.map (·.l)).length := by rw [List.length_map]; exact hii
          have hkm : ks.map (·.l) = mrg (rs.map (·.l)) i := by
            have := hinv.out.same
            rw [show todo (rs.map (·.l)) i rs.length = [] by have := todo_end hmi; rwa [List.length_map] at this, List.append_nil] at this
            exact this
          have hkl : k = ks.length := by
            have h1 := hinv.out.runs.1
            rw [flat_len cR_len] at h1
            omega
          have hk1 : ks.length = rs.length - 1 := by rw [← List.length_map (f := fun r : Rn => r.l), hkm, mrg_len hmi, List.length_map]
          have hvr : Row flP.c 3 wr wr.heap.size (some ⟨g1, 0, none⟩) ys ∧ VR wr wr.heap.size va ks := fls.rows_of (n := 0) hkl hinv.out.fresh hinv.out.runs hinv.out.rows
          have hfit : tb.Fit ys ks := by
            refine ⟨hyl, by omega, HF.out.yo, fun r hr => ?_⟩
            have hold : ∀ l ∈ rs.map (·.l), l.length ≤ 1048576 ∧ ∀ e ∈ l, e.k.size ≤ 1048576 ∧ e.v.size ≤ 1048576 := fun l hl => by
              obtain ⟨q, hq, e⟩ := List.mem_map.1 hl
              rw [← e]
              exact HF.out.ro q hq
            have hm : r.l ∈ mrg (rs.map (·.l)) i := by rw [← hkm]; exact List.mem_map.2 ⟨r, hr, rfl⟩
            exact mrg_fit HOK.out hmi hold _ hm
          have hok2 := spec_okb ys ks (some ⟨g1, 0, none⟩) va c1 vc wr hfit hvr.1 hvr.2
          rw [← hkl, hkm] at hok2
          have HKM : Hid (ks.map (·.l) = mrg (rs.map (·.l)) i) := hkm
          have HKL : Hid (k = ks.length) := hkl
          clear hjl hj hkm hvr hfit hk1 hkl hkj
          go_wp2_with (go_at_call 13; fail)
          clear y1 u0 u1
          refine hok2.mono ?_
          rintro e w8 ⟨rfl, hb8⟩
          have HX8 : Hid (StMO w ys rs ya yc ra rc n3 g1 c1 k va vc ks (todo (rs.map (·.l)) i rs.length) (mrg (rs.map (·.l)) i) w8) := hinv.out.on hb8
          clear hok2 hb8 hinv
          cases hob2 : okB ys (mrg (rs.map (·.l)) i) with
          | true =>
            have HC : Hid (can ys (rs.map (·.l)) (i : Int) = true) := by unfold Hid can; rw [HOB.out, HIN.out, Int.toNat_natCast, hob2]; rfl
            have HQ : Hid (ansR ys (rs.map (·.l)) (i : Int) = mrg (rs.map (·.l)) i) := by unfold Hid; rw [ans_yes HC.out, Int.toNat_natCast]
            have y0 : w8.cell? ⟨n3, 0, none⟩ = some (.slice (some ⟨g1, 0, none⟩) ys.length c1) := bcell HX8.out.out rfl
            have y1 : w8.cell? ⟨n3, 1, none⟩ = some (.slice va k vc) := bcell HX8.out.out rfl
            have r0 : w8.cell? ⟨w.heap.size + 1, 0, none⟩ = some (.slice none 0 0) := bcell HX8.out.res rfl
            have r1 : w8.cell? ⟨w.heap.size + 1, 1, none⟩ = some (.slice none 0 0) := bcell HX8.out.res rfl
            have f0 := bfree HX8.out.res 0
            have f1 := bfree HX8.out.res 1
            clear hob2
            go_wp2
            have hrw : sco.SR ((w8.setCell ⟨w.heap.size + 1, 0, none⟩ (.slice (some ⟨g1, 0, none⟩) ys.length c1)).setCell ⟨w.heap.size + 1, 1, none⟩ (.slice va k vc)) (w.heap.size + 2) (some ⟨g1, 0, none⟩) c1 va vc ys ks := ⟨(own_set (j := 1) (u := .slice va k vc) (own_set (j := 0) (u := .slice (some ⟨g1, 0, none⟩) ys.length c1) HX8.out.fresh (show w.heap.size + 1 < w.heap.size + 2 by omega)) (show w.heap.size + 1 < w.heap.size + 2 by omega)), by rw [← HKL.out]; exact (own_set (j := 1) (u := .slice va k vc) (own_set (j := 0) (u := .slice (some ⟨g1, 0, none⟩) ys.length c1) HX8.out.runs (show w.heap.size + 1 < w.heap.size + 2 by omega)) (show w.heap.size + 1 < w.heap.size + 2 by omega)), fun r hr => (own_set (j := 1) (u := .slice va k vc) (own_set (j := 0) (u := .slice (some ⟨g1, 0, none⟩) ys.length c1) (HX8.out.rows r hr) (show w.heap.size + 1 < w.heap.size + 2 by omega)) (show w.heap.size + 1 < w.heap.size + 2 by omega)), HX8.out.ap⟩
            exact bodyPost_ret (v := .tuple #[.agg #[.slice (some ⟨g1, 0, none⟩) ys.length c1, .slice va k vc], .bool true]) (by simp [results, Try.results20, go_sem, r0, r1]) rfl ⟨some ⟨g1, 0, none⟩, c1, va, vc, ks, by rw [HQ.out, HC.out, ← HKM.out, List.length_map, ← HKL.out], by rw [HQ.out]; exact HKM.out, hrw, (HX8.out.bel.setCell (Nat.le_succ _) _).setCell (Nat.le_succ _) _⟩
          | false =>
            have HC : Hid (can ys (rs.map (·.l)) (i : Int) = false) := by unfold Hid can; rw [HOB.out, HIN.out, Int.toNat_natCast, hob2]; rfl
            have x0 : w8.cell? ⟨w.heap.size, 0, none⟩ = some (.slice ya ys.length yc) := bcell HX8.out.box rfl
            have x1 : w8.cell? ⟨w.heap.size, 1, none⟩ = some (.slice ra rs.length rc) := bcell HX8.out.box rfl
            have hcp := sco.spec_copy ys rs ya yc ra rc w8 HF.out yq hNQ (HY.out.inn HX8.out.bel) ((HR.out.inn HX8.out.bel).1) HRA.out (fun r hr => ⟨HRS.out r hr, (HR.out.inn HX8.out.bel).2 r hr⟩)
            have hs8 : w.heap.size + 1 < w8.heap.size := (Array.getElem?_eq_some_iff.1 HX8.out.res).1
            have hbel8 := HX8.out.bel
            clear hob2
            go_wp2_with (go_at_call 48; fail)
            clear x0 x1
            refine hcp.mono ?_
            rintro e w3 ⟨g9, c9, va9, vc9, ks, rfl, of3, or3, m3, rows3, hap, hb3⟩
            have HAP : Hid (sco.Ap (some ⟨g9, 0, none⟩) ks) := hap
            clear hap
            have l3 : rs.length = ks.length := by have := congrArg List.length m3; simpa using this.symm
            have r3 := bstay HX8.out.res hb3 (by omega)
            have r0 : w3.cell? ⟨w.heap.size + 1, 0, none⟩ = some (.slice none 0 0) := bcell r3 rfl
            have r1 : w3.cell? ⟨w.heap.size + 1, 1, none⟩ = some (.slice none 0 0) := bcell r3 rfl
            have f0 := bfree r3 0
            have f1 := bfree r3 1
            have HB3 : Hid (Below w.heap.size w w3) := hbel8.trans (hb3.mono hbel8.size)
            have HRW : Hid (sco.SR ((w3.setCell ⟨w.heap.size + 1, 0, none⟩ (.slice (some ⟨g9, 0, none⟩) ys.length c9)).setCell ⟨w.heap.size + 1, 1, none⟩ (.slice va9 rs.length vc9)) (w.heap.size + 2) (some ⟨g9, 0, none⟩) c9 va9 vc9 ys ks) := ⟨own_low (own_set (own_set of3 (by omega)) (by omega)) (by omega), by rw [← l3]; exact own_low (own_set (own_set or3 (by omega)) (by omega)) (by omega), fun r hr => own_low (own_set (own_set (rows3 r hr) (by omega)) (by omega)) (by omega), HAP.out⟩
            have HM : Hid (ks.map (·.l) = rs.map (·.l)) := m3
            clear hcp m3 of3 or3 rows3 l3 r3 hb3
            go_wp2
            exact bodyPost_ret (v := .tuple #[.agg #[.slice (some ⟨g9, 0, none⟩) ys.length c9, .slice va9 rs.length vc9], .bool false]) (by simp [results, Try.results20, go_sem, r0, r1]) rfl ⟨some ⟨g9, 0, none⟩, c9, va9, vc9, ks, by rw [ans_no HC.out, HC.out, List.length_map], by rw [ans_no HC.out]; exact HM.out, HRW.out, (HB3.out.setCell (Nat.le_succ _) _).setCell (Nat.le_succ _) _⟩
end Go.Proofs.Ytokaoafbgebelaa.mgco

/- A table as it is drawn: its lists lie in rows of their own at or above a block, or nowhere; how great it is. -/
namespace Go.Proofs.Ytokaoafbgebelaa.dlt
open Go.ChangeShapes Go.WideShapes Go.ChangeAt Go.RowKit Go.Proofs.Ytokaoafbgebelaa.fl Go.Proofs.Ytokaoafbgebelaa.fo Go.Proofs.Ytokaoafbgebelaa.dw Go.Proofs.Ytokaoafbgebelaa.rn Go.Proofs.Ytokaoafbgebelaa.rc Go.Proofs.Ytokaoafbgebelaa.ro Go.Proofs.Ytokaoafbgebelaa.tk Go.Proofs.Ytokaoafbgebelaa.tko Go.Proofs.Ytokaoafbgebelaa.tan Go.Proofs.Ytokaoafbgebelaa.ptp
set_option linter.unusedVariables false

/-- its lists' rows -/
structure Tb (B : Nat) (W : World) (ys : List flP.Pr) (ks : List Rn) (ya : Option Addr) (yc : Nat) (ra : Option Addr) (rc : Nat) : Prop where
  oy : W.ownsRow B 40 3 (.slice ya ys.length yc) ys.length (ys.flatMap flP.c)
  or : W.ownsRow B 24 1 (.slice ra ks.length rc) ks.length (ks.flatMap cR)
  rw : ∀ r ∈ ks, sct.OwnR W B r
  ap : sco.Ap ya ks
theorem owns_p {W W' : World} {B p k m : Nat} {T : TypeId} {v : Value} {xs : List Value} (h : W.ownsRow B T m v k xs) (hb : On p W W') (hp : p < B) : W'.ownsRow B T m v k xs := by
  refine h.kept hb ?_
  cases hv : v.ownBlock with
  | none => exact .inl rfl
  | some g =>
    right
    have := (h.lt g hv).1
    intro e
    have := Option.some.inj e
    omega
theorem owns_b {W W' : World} {B k m : Nat} {T : TypeId} {v : Value} {xs : List Value} (h : W.ownsRow B T m v k xs) (hb : Below W.heap.size W W') : W'.ownsRow B T m v k xs := by
  refine h.kept (row := none) ⟨hb.os, hb.tape, hb.output, hb.size, fun k hk _ => hb.block k hk⟩ ?_
  cases v.ownBlock with
  | none => exact .inl rfl
  | some g => exact .inr (by simp)
theorem own_nq {W : World} {B s n c : Nat} {T : TypeId} {a : Option Addr} {xs : List Value} (h : W.ownsRow B T s (.slice a n c) n xs) : ∃ g, apa.NQ a ⟨g, 0, none⟩ n c ∧ n ≤ c := by
  obtain ⟨_, ⟨h1, h2⟩ | ⟨g, cap, cur, h1, _, _, hcap, _⟩⟩ := h
  · injection h1 with e1 e2 e3
    exact ⟨0, .inr ⟨e1, e2, e3⟩, by omega⟩
  · injection h1 with e1 e2 e3
    exact ⟨g, .inl e1, by omega⟩
section
variable {B p : Nat} {W W' : World} {ys : List flP.Pr} {ks : List Rn} {ya ra : Option Addr} {yc rc : Nat}
theorem Tb.on (h : Tb B W ys ks ya yc ra rc) (hb : On p W W') (hp : p < B) : Tb B W' ys ks ya yc ra rc := ⟨owns_p h.oy hb hp, owns_p h.or hb hp, fun r hr => owns_p (h.rw r hr) hb hp, h.ap⟩
theorem Tb.below (h : Tb B W ys ks ya yc ra rc) (hb : Below W.heap.size W W') : Tb B W' ys ks ya yc ra rc := ⟨owns_b h.oy hb, owns_b h.or hb, fun r hr => owns_b (h.rw r hr) hb, h.ap⟩
theorem Tb.alloc (h : Tb B W ys ks ya yc ra rc) (o : Obj) : Tb B (W.alloc o) ys ks ya yc ra rc := h.below ((Below.refl _ _).alloc (Nat.le_refl _) _)
theorem Tb.low {B' : Nat} (h : Tb B W ys ks ya yc ra rc) (hb : B' ≤ B) : Tb B' W ys ks ya yc ra rc := ⟨sct.own_low h.oy hb, sct.own_low h.or hb, fun r hr => sct.own_low (h.rw r hr) hb, h.ap⟩
theorem nil_tb (B : Nat) (W : World) : Tb B W [] [] none 0 none 0 := ⟨⟨rfl, .inl ⟨rfl, rfl⟩⟩, ⟨rfl, .inl ⟨rfl, rfl⟩⟩, fun r hr => (by cases hr), fun r hr => (by cases hr)⟩
theorem of_sr (h : sco.SR W B ya yc ra rc ys ks) : Tb B W ys ks ya yc ra rc := ⟨h.fresh, h.runs, h.rows, h.ap⟩
theorem of_sa (h : pts.SA W B ya ra yc rc ys ks) : Tb B W ys ks ya yc ra rc := ⟨h.of, h.or, h.rows, h.ap⟩
/-- as the contracts want it -/
structure Us (W : World) (ys : List flP.Pr) (ks : List Rn) (ya : Option Addr) (yc : Nat) (ra : Option Addr) (rc : Nat) (yq rq : Addr) : Prop where
  ny : apa.NQ ya yq ys.length yc
  nr : apa.NQ ra rq ks.length rc
  nra : ks ≠ [] → ∃ b, ra = some ⟨b, 0, none⟩
  rs : ∀ r ∈ ks, ∃ h, apa.NQ r.a ⟨h, 0, none⟩ r.l.length r.c
  hy : Row flP.c 3 W W.heap.size ya ys
  hr : VR W W.heap.size ra ks
  yl : ys.length ≤ yc
  kl : ∀ r ∈ ks, r.l.length ≤ r.c
theorem Tb.use (h : Tb B W ys ks ya yc ra rc) : ∃ yq rq, Us W ys ks ya yc ra rc yq rq := by
  obtain ⟨g, h1, h2⟩ := own_nq h.oy
  obtain ⟨k, k1, k2⟩ := own_nq h.or
  obtain ⟨a, cap, hv, hr⟩ := fl.own_row flP.c_len h.oy
  injection hv with e1 e2 e3
  subst e1
  obtain ⟨b, cap', hv', hr'⟩ := fl.own_row cR_len h.or
  injection hv' with e1 e2 e3
  subst e1
  refine ⟨_, _, h1, k1, fun hne => ⟨k, k1.at (by cases ks with | nil => exact absurd rfl hne | cons a l => exact Nat.succ_pos _)⟩, fun r hrm => ?_, hr, ⟨hr', fun r hrm => ?_⟩, h2, fun r hrm => ?_⟩
  · obtain ⟨q, q1, q2⟩ := own_nq (h.rw r hrm)
    exact ⟨q, q1⟩
  · obtain ⟨c, cap2, hv2, hr2⟩ := fl.own_row flP.c_len (h.rw r hrm)
    injection hv2 with e1 e2 e3
    rw [e1]
    exact hr2
  · exact (own_nq (h.rw r hrm)).elim fun q hq => hq.2
end
/-- how great it is -/
structure Sm (j : Nat) (ys : List flP.Pr) (R : List (List flP.Pr)) : Prop where
  tt : ys.length + tot R ≤ j
  rl : R.length ≤ j
  yo : ∀ e ∈ ys, e.k.size ≤ 101 ∧ e.v.size ≤ 8
  ro : ∀ l ∈ R, ∀ e ∈ l, e.k.size ≤ 101 ∧ e.v.size ≤ 8
theorem tot_one (l : List flP.Pr) (R : List (List flP.Pr)) : tot (l :: R) = l.length + tot R := rfl
theorem tot_mem : ∀ {R : List (List flP.Pr)} {l : List flP.Pr}, l ∈ R → l.length ≤ tot R
  | [], l, h => by cases h
  | a :: R, l, h => by
    rw [tot_one]
    rcases List.mem_cons.1 h with rfl | h
    · omega
    · have := tot_mem h
      omega
section
variable {j : Nat} {ys : List flP.Pr} {R : List (List flP.Pr)} {ks : List Rn}
theorem sm_nil : Sm 0 [] [] := ⟨Nat.le_refl _, Nat.le_refl _, fun e h => (by cases h), fun e h => (by cases h)⟩
theorem Sm.more {k : Nat} (h : Sm j ys R) (hk : j ≤ k) : Sm k ys R := ⟨by have := h.tt; omega, by have := h.rl; omega, h.yo, h.ro⟩
theorem Sm.fit (h : Sm j ys (ks.map (·.l))) (hj : j ≤ 1000) : tb.Fit ys ks := by
  have h1 := h.tt
  have h2 := h.rl
  rw [List.length_map] at h2
  refine ⟨by omega, by omega, fun e he => by have := h.yo e he; omega, fun r hr => ?_⟩
  have hm : r.l ∈ ks.map (·.l) := List.mem_map.2 ⟨r, hr, rfl⟩
  have h3 := tot_mem hm
  exact ⟨by omega, fun e he => by have := h.ro _ hm e he; omega⟩
theorem Sm.with (h : Sm j ys R) {e : flP.Pr} (hk : e.k.size ≤ 101 ∧ e.v.size ≤ 8) : Sm (j + 1) (withY ys R e) R := by
  have h1 := h.tt
  refine ⟨by have := with_le ys R e; omega, by have := h.rl; omega, fun f hf => ?_, h.ro⟩
  unfold withY at hf
  split at hf
  · rcases setP_mem hf with hf | hf
    · exact h.yo f hf
    · rw [hf]; exact hk
  · exact h.yo f hf
theorem Sm.flush (h : Sm j ys R) : Sm (j + 1) (fls.ansY ys R) (fls.ansR ys R) := by
  have h1 := h.tt
  have h2 := h.rl
  cases hc : fls.can ys R with
  | true =>
    rw [(fls.ans_yes hc).1, (fls.ans_yes hc).2]
    refine ⟨?_, by simp; omega, fun e he => (by cases he), fun l hl => ?_⟩
    · rw [tot_one, List.length_nil]; omega
    rcases List.mem_cons.1 hl with rfl | hl
    · exact h.yo
    · exact h.ro l hl
  | false =>
    rw [(fls.ans_no hc).1, (fls.ans_no hc).2]
    exact h.more (by omega)
theorem Sm.merge (h : Sm j ys R) (x : Int) : Sm (j + 1) ys (mga.ansR ys R x) := by
  have h1 := h.tt
  have h2 := h.rl
  cases hc : mga.can ys R x with
  | true =>
    have hc0 := hc
    unfold mga.can at hc0
    obtain ⟨c1, c2⟩ := Bool.and_eq_true_iff.1 hc0
    obtain ⟨c2, c3⟩ := Bool.and_eq_true_iff.1 c2
    unfold mga.inB at c2
    have c4 := of_decide_eq_true c2
    have hok := okB_true.1 c1
    rw [mga.ans_yes hc]
    have hi : x.toNat + 2 ≤ R.length := by omega
    have ht := mga.mrg_tot hok hi
    refine ⟨by omega, by rw [mga.mrg_len hi]; omega, h.yo, fun l hl e he => ?_⟩
    rw [mga.mrg_at hi] at hl
    rcases List.mem_append.1 hl with hl | hl
    · exact h.ro l (List.mem_of_mem_take hl) e he
    rcases List.mem_cons.1 hl with rfl | hl
    · rcases mga.merged_mem (mga.asc_at hok (List.getElem?_eq_getElem (show x.toNat < R.length by omega))) (mga.asc_at hok (List.getElem?_eq_getElem (show x.toNat + 1 < R.length by omega))) he with h3 | h3
      · exact h.ro _ (List.getElem_mem _) e h3
      · exact h.ro _ (List.getElem_mem _) e h3
    · exact h.ro l (List.mem_of_mem_drop hl) e he
  | false =>
    rw [mga.ans_no hc]
    exact h.more (by omega)
end
end Go.Proofs.Ytokaoafbgebelaa.dlt

/- Tables, without memory: what is scanned is what is got; what a pair that is put changes. -/
namespace Go.Proofs.Ytokaoafbgebelaa.tpu
open Go.Proofs.Ytokaoafbgebelaa.rc Go.Proofs.Ytokaoafbgebelaa.ro Go.Proofs.Ytokaoafbgebelaa.rn Go.Proofs.Ytokaoafbgebelaa.tk Go.Proofs.Ytokaoafbgebelaa.tko Go.Proofs.Ytokaoafbgebelaa.tg Go.Proofs.Ytokaoafbgebelaa.tgi Go.Proofs.Ytokaoafbgebelaa.ptp Go.Proofs.Ytokaoafbgebelaa.mgp Go.Proofs.Ytokaoafbgebelaa.sci
set_option linter.unusedVariables false

theorem fnd_iff {l : List flP.Pr} (hA : Asc l) {key : ByteArray} {e : flP.Pr} : fnd l key = some e ↔ e ∈ l ∧ e.k = key := by
  unfold fnd
  constructor
  · intro h
    exact ⟨List.mem_of_find?_eq_some h, by simpa using List.find?_some h⟩
  · rintro ⟨h1, h2⟩
    cases hf : l.find? (fun e => decide (e.k = key)) with
    | none =>
      have := List.find?_eq_none.1 hf e h1
      simp [h2] at this
    | some f =>
      have f1 := List.mem_of_find?_eq_some hf
      have f2 : f.k = key := by simpa using List.find?_some hf
      rw [asc_key hA f1 h1 (f2.trans h2.symm)]
theorem fnd_no {l : List flP.Pr} {key : ByteArray} : fnd l key = none ↔ ∀ e ∈ l, e.k ≠ key := by
  unfold fnd
  rw [List.find?_eq_none]
  simp
theorem new_cons {a : List flP.Pr} {ls : List (List flP.Pr)} {x : flP.Pr} : New (a :: ls) x ↔ x ∈ a ∨ ((∀ y ∈ a, y.k ≠ x.k) ∧ New ls x) := by
  constructor
  · rintro ⟨i, l, h1, h2, h3⟩
    cases i with
    | zero => simp at h1; subst h1; exact .inl h2
    | succ i => exact .inr ⟨h3 0 a (Nat.succ_pos _) rfl, i, l, by simpa using h1, h2, fun j m hj hm => h3 (j + 1) m (by omega) (by simpa using hm)⟩
  · rintro (h | ⟨h1, i, l, h2, h3, h4⟩)
    · exact ⟨0, a, rfl, h, fun j m hj => by omega⟩
    · refine ⟨i + 1, l, by simpa using h2, h3, fun j m hj hm => ?_⟩
      cases j with
      | zero => simp at hm; subst hm; exact h1
      | succ j => exact h4 j m (by omega) (by simpa using hm)
theorem new_nil {x : flP.Pr} : ¬ New [] x := by rintro ⟨i, l, h1, _⟩; simp at h1
theorem is_some : ∀ {ls : List (List flP.Pr)}, (∀ l ∈ ls, Asc l) → ∃ out, Is ls out
  | [], _ => ⟨[], List.Pairwise.nil, fun x => ⟨fun h => (by cases h), fun h => absurd h new_nil⟩⟩
  | a :: ls, h => by
    obtain ⟨out, h1⟩ := is_some (ls := ls) (fun l hl => h l (List.mem_cons_of_mem _ hl))
    have h2 := (mga.is_nw (h a (List.mem_cons_self ..)) h1.1).1
    refine ⟨_, h2.1, fun x => (h2.2 x).trans ?_⟩
    have e1 : New [a, out] x ↔ x ∈ a ∨ ((∀ y ∈ a, y.k ≠ x.k) ∧ x ∈ out) := by
      refine new_cons.trans (or_congr Iff.rfl (and_congr Iff.rfl ⟨fun h4 => ?_, fun h4 => new_cons.2 (.inl h4)⟩))
      rcases new_cons.1 h4 with h4 | ⟨_, h4⟩
      · exact h4
      · exact absurd h4 new_nil
    have e2 : New (a :: ls) x ↔ x ∈ a ∨ ((∀ y ∈ a, y.k ≠ x.k) ∧ New ls x) := new_cons
    exact e1.trans ((or_congr Iff.rfl (and_congr Iff.rfl (h1.2 x))).trans e2.symm)
theorem is_nwL {ls : List (List flP.Pr)} (h : ∀ l ∈ ls, Asc l) : Is ls (nwL ls) := by
  obtain ⟨out, h1⟩ := is_some h
  rw [nwL_eq h1]
  exact h1
theorem nw_cons (a : List flP.Pr) (ls : List (List flP.Pr)) (key : ByteArray) : nwst (a :: ls) key = (fnd a key).or (nwst ls key) := by
  unfold nwst
  rw [List.findSome?_cons]
  cases fnd a key <;> rfl
theorem new_nw : ∀ {ls : List (List flP.Pr)} {x : flP.Pr}, (∀ l ∈ ls, Asc l) → New ls x → nwst ls x.k = some x
  | [], x, _, h => absurd h new_nil
  | a :: ls, x, hA, h => by
    rw [nw_cons]
    rcases new_cons.1 h with h | ⟨h1, h2⟩
    · rw [(fnd_iff (hA a (List.mem_cons_self ..))).2 ⟨h, rfl⟩]
      rfl
    · rw [fnd_no.2 h1, new_nw (fun l hl => hA l (List.mem_cons_of_mem _ hl)) h2]
      rfl
theorem nw_new : ∀ {ls : List (List flP.Pr)} {x : flP.Pr} {key : ByteArray}, (∀ l ∈ ls, Asc l) → nwst ls key = some x → New ls x ∧ x.k = key
  | [], x, key, _, h => by cases h
  | a :: ls, x, key, hA, h => by
    rw [nw_cons] at h
    cases hf : fnd a key with
    | some y =>
      rw [hf] at h
      cases h
      have h1 := (fnd_iff (hA a (List.mem_cons_self ..))).1 hf
      exact ⟨new_cons.2 (.inl h1.1), h1.2⟩
    | none =>
      rw [hf] at h
      obtain ⟨h1, h2⟩ := nw_new (fun l hl => hA l (List.mem_cons_of_mem _ hl)) h
      exact ⟨new_cons.2 (.inr ⟨by rw [h2]; exact fnd_no.1 hf, h1⟩), h2⟩
section
variable {ys : List flP.Pr} {R : List (List flP.Pr)}
theorem all_asc (h : OkT ys R) : ∀ l ∈ ys :: R, Asc l := fun l hl => by
  rcases List.mem_cons.1 hl with rfl | hl
  · exact asc_of h.yo.up
  · obtain ⟨i, hi⟩ := List.getElem?_of_mem hl
    exact asc_of (h.ro i l hi).up
theorem lt_of_keep {f : flP.Pr → Bool} {l : List flP.Pr} (h : Asc l) {i : Nat} {a b : flP.Pr} (ha : (l.filter f)[i]? = some a) (hb : (l.filter f)[i + 1]? = some b) : lt a.k b.k = true := by
  have h1 : Asc (l.filter f) := List.Pairwise.filter f h
  have ia := List.getElem?_eq_some_iff.1 ha
  have ib := List.getElem?_eq_some_iff.1 hb
  have := (List.pairwise_iff_getElem.1 h1) i (i + 1) ia.1 ib.1 (Nat.lt_succ_self i)
  rwa [ia.2, ib.2] at this
/-- what is scanned ascends -/
theorem scan_up {fr to : ByteArray} {i : Nat} {a b : flP.Pr} (ha : (scan ys R fr to)[i]? = some a) (hb : (scan ys R fr to)[i + 1]? = some b) : lt a.k b.k = true := by
  unfold scan at ha hb
  split at ha
  · next hok =>
    rw [if_pos hok] at hb
    exact lt_of_keep (is_nwL (all_asc (okB_true.1 hok))).1 ha hb
  · simp at ha
/-- what is scanned is got -/
theorem scan_get {fr to : ByteArray} {e : flP.Pr} (h : e ∈ scan ys R fr to) : okB ys R = true ∧ e.g = false ∧ nwst (ys :: R) e.k = some e ∧ getV ys R e.k = e.v ∧ getO ys R e.k = true := by
  unfold scan at h
  split at h
  · next hok =>
    obtain ⟨h1, h2⟩ := List.mem_filter.1 h
    have hA := all_asc (okB_true.1 hok)
    have hn := new_nw hA (((is_nwL hA).2 e).1 h1)
    have hg : e.g = false := by
      unfold keep at h2
      cases hg : e.g with
      | false => rfl
      | true => rw [hg] at h2; simp at h2
    exact ⟨hok, hg, hn, get_there hok hn hg⟩
  · cases h
theorem scan_size {fr to : ByteArray} {n : Nat} {e : flP.Pr} (h : e ∈ scan ys R fr to) (hy : ∀ e ∈ ys, e.k.size ≤ n ∧ e.v.size ≤ n) (hR : ∀ l ∈ R, ∀ e ∈ l, e.k.size ≤ n ∧ e.v.size ≤ n) : e.k.size ≤ n ∧ e.v.size ≤ n := by
  unfold scan at h
  split at h
  · next hok =>
    obtain ⟨h1, h2⟩ := List.mem_filter.1 h
    obtain ⟨i, l, g1, g2, _⟩ := ((is_nwL (all_asc (okB_true.1 hok))).2 e).1 h1
    cases i with
    | zero => simp at g1; subst g1; exact hy e g2
    | succ i => exact hR l (List.mem_of_getElem? (by simpa using g1)) e g2
  · cases h
theorem with_ok {e : flP.Pr} (h : okB ys R = true) : okB (withY ys R e) R = true := by
  unfold withY
  split
  · next hw =>
    unfold withB at hw
    exact (Bool.and_eq_true_iff.1 hw).2
  · exact h
theorem fnd_set {e : flP.Pr} {key : ByteArray} (hA : Asc ys) (hk : key ≠ e.k) : fnd (setP ys e) key = fnd ys key := by
  have h2 := setP_asc hA e
  cases hf : fnd ys key with
  | some x =>
    have h1 := (fnd_iff hA).1 hf
    exact (fnd_iff h2).2 ⟨(setP_iff hA e x).2 (.inr ⟨h1.1, by rw [h1.2]; exact hk⟩), h1.2⟩
  | none =>
    refine fnd_no.2 fun x hx hxk => ?_
    rcases (setP_iff hA e x).1 hx with rfl | ⟨h3, _⟩
    · exact hk hxk.symm
    · exact fnd_no.1 hf x h3 hxk
/-- no other key is changed -/
theorem with_other {e : flP.Pr} {key : ByteArray} (h : okB ys R = true) (hk : key ≠ e.k) : getV (withY ys R e) R key = getV ys R key ∧ getO (withY ys R e) R key = getO ys R key := by
  have hn : nwst (withY ys R e :: R) key = nwst (ys :: R) key := by
    rw [nw_cons, nw_cons]
    unfold withY
    split
    · rw [fnd_set (asc_of (okB_true.1 h).yo.up) hk]
    · rfl
  unfold getV getO getT
  rw [if_pos (with_ok h), if_pos h, hn]
  exact ⟨rfl, rfl⟩
/-- what was put is got -/
theorem with_own {e : flP.Pr} (h : withB ys R e = true) : okB (withY ys R e) R = true ∧ nwst (withY ys R e :: R) e.k = some e := by
  have h0 := h
  unfold withB at h0
  obtain ⟨h1, h2⟩ := Bool.and_eq_true_iff.1 h0
  have e1 : withY ys R e = setP ys e := by unfold withY; rw [if_pos h]
  have hA := asc_of (okB_true.1 h1).yo.up
  rw [e1]
  refine ⟨h2, ?_⟩
  rw [nw_cons, (fnd_iff (setP_asc hA e)).2 ⟨(setP_iff hA e e).2 (.inl rfl), rfl⟩]
  rfl
theorem put_own {k v : ByteArray} (h : putB ys R k v = true) : getV (putY ys R k v) R k = v ∧ getO (putY ys R k v) R k = true := by
  obtain ⟨h1, h2⟩ := with_own h
  exact get_there h1 h2 rfl
theorem drop_own {k : ByteArray} (h : dropB ys R k = true) : getO (dropY ys R k) R k = false := by
  obtain ⟨h1, h2⟩ := with_own h
  exact (get_gone h2 rfl).2
end
end Go.Proofs.Ytokaoafbgebelaa.tpu
