/- The specification's TableFlush where the runs' row may be nothing. -/
import Derived.Test.YtokaoafbgebelaaAppendAny
import Derived.Test.YtokaoafbgebelaaTd03
import Derived.Test.YtokaoafbgebelaaTd04

/- The specification's l07Copy where the runs' row may be nothing; and where the copied runs lie. -/
namespace Go.Proofs.Ytokaoafbgebelaa.sco
open Go.ChangeShapes Go.WideShapes Go.ChangeAt Go.RowKit Go.Proofs.Ytokaoafbgebelaa.fl Go.Proofs.Ytokaoafbgebelaa.fo Go.Proofs.Ytokaoafbgebelaa.rn Go.Proofs.Ytokaoafbgebelaa.sct
set_option linter.unusedVariables false

theorem newsN {w : World} {a : Option Addr} {q : Addr} {B c : Nat} {l : List flP.Pr} (hn : apa.NQ a q l.length c) (h : Row flP.c 3 w B a l) : ∀ (j : Nat) (u : Value), (l.flatMap flP.c)[j]? = some u → w.cell? (q.add j) = some u := fun j u hu => by
  rcases h with rfl | ⟨b, off, rfl, hlt, hc⟩
  · simp at hu
  · obtain ⟨i, x, r, h1, h2, rfl⟩ := flat_get flP.c_len l j u hu
    have hl := (List.getElem?_eq_some_iff.1 h1).1
    have hq := hn.at (by omega)
    cases hq
    have e2 : (⟨b, off, none⟩ : Addr).add (i * 3 + r) = ⟨b, off + i * 3 + r, none⟩ := by unfold Addr.add; split <;> simp_all <;> omega
    rw [e2]
    exact hc i x h1 r u h2
/-- another block than each run's -/
def Ap (sa : Option Addr) (ks : List Rn) : Prop := ∀ r ∈ ks, ∀ x y : Addr, sa = some x → r.a = some y → x.block ≠ y.block
/-- what stands when k runs are copied: the box, the answer's place, the copy's place, its pairs, its runs -/
structure St (w : World) (ys : List flP.Pr) (rs : List Rn) (ya : Option Addr) (yc : Nat) (ra : Option Addr) (rc n3 g1 c1 : Nat) (k : Nat) (va : Option Addr) (vc : Nat) (ks : List Rn) (W : World) : Prop where
  bel : Below w.heap.size w W
  box : W.heap[w.heap.size]? = some (.cells #[.slice ya ys.length yc, .slice ra rs.length rc] 27 (0, 0))
  res : W.heap[w.heap.size + 1]? = some (.cells #[.slice none 0 0, .slice none 0 0] 27 (0, 0))
  lo : w.heap.size + 2 ≤ n3
  out : W.heap[n3]? = some (.cells #[.slice (some ⟨g1, 0, none⟩) ys.length c1, .slice va k vc] 27 (0, 0))
  fresh : W.ownsRow (w.heap.size + 2) 40 3 (.slice (some ⟨g1, 0, none⟩) ys.length c1) ys.length (ys.flatMap flP.c)
  runs : W.ownsRow (w.heap.size + 2) 24 1 (.slice va k vc) k (ks.flatMap cR)
  same : ks.map (·.l) = (rs.take k).map (·.l)
  rows : ∀ r ∈ ks, OwnR W (w.heap.size + 2) r
  adr : Ap (some ⟨g1, 0, none⟩) ks
section
variable {w W W' : World} {ys : List flP.Pr} {rs : List Rn} {ya : Option Addr} {yc : Nat} {ra : Option Addr} {rc n3 g1 c1 k : Nat} {va : Option Addr} {vc : Nat} {ks : List Rn}
theorem St.big (h : St w ys rs ya yc ra rc n3 g1 c1 k va vc ks W) : w.heap.size + 2 ≤ W.heap.size := (Array.getElem?_eq_some_iff.1 h.res).1
theorem St.ah (h : St w ys rs ya yc ra rc n3 g1 c1 k va vc ks W) (n : Nat) (xs : List Value) : Ah ⟨W, w.heap.size + 2, n3, .slice (some ⟨g1, 0, none⟩) ys.length c1, .slice va k vc, k, ks.flatMap cR, n, xs⟩ := ⟨(Array.getElem?_eq_some_iff.1 h.out).1, h.out, h.runs, h.big⟩
theorem St.step (h : St w ys rs ya yc ra rc n3 g1 c1 k va vc ks W) {r : Rn} (hr : rs[k]? = some r) {b1 q1 : Nat} {v2 : Value} (ht : Tn W W' (fun x => (Value.slice va k vc).ownBlock = some x ∨ x = n3)) (ho : W'.heap[n3]? = some (.cells #[.slice (some ⟨g1, 0, none⟩) ys.length c1, v2] 27 (0, 0)))
    (o1 : W'.ownsRow W.heap.size 40 3 (.slice (some ⟨b1, 0, none⟩) r.l.length q1) r.l.length (r.l.flatMap flP.c)) (o2 : W'.ownsRow (w.heap.size + 2) 24 1 v2 (k + 1) (ks.flatMap cR ++ [.slice (some ⟨b1, 0, none⟩) r.l.length q1])) : ∃ va' vc' ks', v2 = .slice va' (k + 1) vc' ∧ St w ys rs ya yc ra rc n3 g1 c1 (k + 1) va' vc' ks' W' := by
  obtain ⟨va', vc', rfl⟩ : ∃ va' vc', v2 = .slice va' (k + 1) vc' := by
    obtain ⟨_, ⟨e, h0⟩ | ⟨g, cap, cur, e, _⟩⟩ := o2
    · cases h0
    · exact ⟨_, _, e⟩
  have hbig := h.big
  have hlo := h.lo
  have hrb : ∀ x, (Value.slice va k vc).ownBlock = some x → w.heap.size + 2 ≤ x := fun x e => (h.runs.lt x e).1
  have keep : ∀ x, x < w.heap.size + 2 → ¬ ((Value.slice va k vc).ownBlock = some x ∨ x = n3) := fun x hx e => by
    rcases e with e | e
    · have := hrb x e; omega
    · omega
  have kept : ∀ v n xs, W.ownsRow (w.heap.size + 2) 40 3 v n xs → W'.ownsRow (w.heap.size + 2) 40 3 v n xs := fun v n xs hv => own_tn hv ht (fun g e hS => by
    rcases hS with hS | hS
    · exact clash hv h.runs e hS
    · subst hS; exact clash3 hv h.out e)
  have hne : g1 ≠ b1 := by have q1 := (o1.lt b1 rfl).1; have q2 := (h.fresh.lt g1 rfl).2; omega
  refine ⟨va', vc', ks ++ [⟨some ⟨b1, 0, none⟩, q1, r.l⟩], rfl, ⟨⟨ht.os.trans h.bel.os, ht.tape.trans h.bel.tape, ht.output.trans h.bel.output, Nat.le_trans h.bel.size ht.size, fun x hx => (ht.block x (by omega) (keep x (by omega))).trans (h.bel.block x hx)⟩, (ht.block _ (by omega) (keep _ (by omega))).trans h.box, (ht.block _ (by omega) (keep _ (by omega))).trans h.res, h.lo, ho, kept _ _ _ h.fresh, ?_, ?_, ?_, ?_⟩⟩
  · rw [List.flatMap_append]
    exact o2
  · have hlt := (List.getElem?_eq_some_iff.1 hr).1
    have he := (List.getElem?_eq_some_iff.1 hr).2
    rw [List.take_succ_eq_append_getElem hlt, List.map_append, List.map_append, h.same, he]
    rfl
  · intro s hs
    rcases List.mem_append.1 hs with hs | hs
    · exact kept _ _ _ (h.rows s hs)
    · simp at hs
      subst hs
      exact own_low o1 hbig
  · intro s hs
    rcases List.mem_append.1 hs with hs | hs
    · exact h.adr s hs
    · simp at hs
      subst hs
      intro x y hx hy
      cases hx
      cases hy
      exact hne
end

set_option maxRecDepth 100000 in
set_option maxHeartbeats 4000000 in
theorem spec_copy (ys : List flP.Pr) (rs : List Rn) (ya : Option Addr) (yc : Nat) (ra : Option Addr) (rc : Nat) (w : World) (F : tb.Fit ys rs) (yq : Addr) (hNQ : apa.NQ ya yq ys.length yc) (hY : Row flP.c 3 w w.heap.size ya ys) (hR : Row cR 1 w w.heap.size ra rs) (hra : rs ≠ [] → ∃ b, ra = some ⟨b, 0, none⟩) (hrs : ∀ r ∈ rs, (∃ h, apa.NQ r.a ⟨h, 0, none⟩ r.l.length r.c) ∧ Row flP.c 3 w w.heap.size r.a r.l) :
    Calls Try.prog 48 #[.agg #[.slice ya ys.length yc, .slice ra rs.length rc]] w fun e w' => ∃ (g1 c1 : Nat) (va : Option Addr) (vc : Nat) (ks : List Rn), e = .returned (.agg #[.slice (some ⟨g1, 0, none⟩) ys.length c1, .slice va rs.length vc]) ∧ w'.ownsRow (w.heap.size + 2) 40 3 (.slice (some ⟨g1, 0, none⟩) ys.length c1) ys.length (ys.flatMap flP.c) ∧ w'.ownsRow (w.heap.size + 2) 24 1 (.slice va rs.length vc) rs.length (ks.flatMap cR) ∧ ks.map (·.l) = rs.map (·.l) ∧ (∀ r ∈ ks, OwnR w' (w.heap.size + 2) r) ∧ (Ap (some ⟨g1, 0, none⟩) ks) ∧ Below w.heap.size w w' := by
  obtain ⟨i0, hi, hz0, hz1, hz2⟩ := infoP
  obtain ⟨i1, ki, kz0, kz1, kz2⟩ := ly.infoR
  have hyl := F.yl
  have hrl := F.rl
  have hb : Below w.heap.size w (((w.alloc (.cells #[.slice ya ys.length yc, .slice ra rs.length rc] 27)).alloc (.cells #[.slice none 0 0, .slice none 0 0] 27)).alloc (.cells #[] 40)) := (((Below.refl _ _).alloc (Nat.le_refl _) _).alloc (by simp) _).alloc (by simp; omega) _
  have hA := bold (bold (bnew w #[.slice ya ys.length yc, .slice ra rs.length rc] 27) (.cells #[.slice none 0 0, .slice none 0 0] 27)) (.cells #[] 40)
  have hRs := bold (bnew (w.alloc (.cells #[.slice ya ys.length yc, .slice ra rs.length rc] 27)) #[.slice none 0 0, .slice none 0 0] 27) (.cells #[] 40)
  rw [World.size_alloc] at hRs
  have ho : (((w.alloc (.cells #[.slice ya ys.length yc, .slice ra rs.length rc] 27)).alloc (.cells #[.slice none 0 0, .slice none 0 0] 27)).alloc (.cells #[] 40)).ownsRow (w.heap.size + 2) 40 3 (.slice (some ⟨((w.alloc (.cells #[.slice ya ys.length yc, .slice ra rs.length rc] 27)).alloc (.cells #[.slice none 0 0, .slice none 0 0] 27)).heap.size, 0, none⟩) 0 0) 0 [] := World.ownsRow_made ((w.alloc (.cells #[.slice ya ys.length yc, .slice ra rs.length rc] 27)).alloc (.cells #[.slice none 0 0, .slice none 0 0] 27)) #[] 0 (by simp) (by unfold maxLen; omega) (by simp)
  have hS : (((w.alloc (.cells #[.slice ya ys.length yc, .slice ra rs.length rc] 27)).alloc (.cells #[.slice none 0 0, .slice none 0 0] 27)).alloc (.cells #[] 40)).heap.size = w.heap.size + 3 := by simp
  have hS2 : ((w.alloc (.cells #[.slice ya ys.length yc, .slice ra rs.length rc] 27)).alloc (.cells #[.slice none 0 0, .slice none 0 0] 27)).heap.size = w.heap.size + 2 := by simp
  rw [hS2] at ho
  obtain ⟨W, hW⟩ : ∃ W, (((w.alloc (.cells #[.slice ya ys.length yc, .slice ra rs.length rc] 27)).alloc (.cells #[.slice none 0 0, .slice none 0 0] 27)).alloc (.cells #[] 40)) = W := ⟨_, rfl⟩
  rw [hW] at hb hA hRs ho hS
  have HYW : Hid (Row flP.c 3 W W.heap.size ya ys) := hY.inn hb
  have HR : Hid (Row cR 1 w w.heap.size ra rs) := hR
  have HRS : Hid (∀ r ∈ rs, (∃ h, apa.NQ r.a ⟨h, 0, none⟩ r.l.length r.c) ∧ Row flP.c 3 w w.heap.size r.a r.l) := hrs
  have HF : Hid (tb.Fit ys rs) := F
  have x0 : W.cell? ⟨w.heap.size, 0, none⟩ = some (.slice ya ys.length yc) := bcell hA rfl
  have HA : Hid (W.heap[w.heap.size]? = some (.cells #[.slice ya ys.length yc, .slice ra rs.length rc] 27 (0, 0))) := hA
  have HRES : Hid (W.heap[w.heap.size + 1]? = some (.cells #[.slice none 0 0, .slice none 0 0] 27 (0, 0))) := hRs
  have HO : Hid (W.ownsRow (w.heap.size + 2) 40 3 (.slice (some ⟨w.heap.size + 2, 0, none⟩) 0 0) 0 []) := ho
  have HRA : Hid (rs ≠ [] → ∃ b, ra = some ⟨b, 0, none⟩) := hra
  clear hra hY hR hrs hA hRs ho F
  go_enter Try.func48, Try.ntmps48
  go_wp2_with (at_builtin; refine apa.wpList_append_any _ rfl _ _ 24 rfl (w.heap.size + 2) 40 i0 (.agg #[.string ByteArray.empty, .string ByteArray.empty, .bool false]) 3 40 Try.underlying24 hi hz0 hz1 hz2 rfl (by decide) _ 0 [] rfl (by exact HO.out) ya yq ys.length yc hNQ (ys.flatMap flP.c) rfl (flat_len flP.c_len ys) (by exact newsN hNQ HYW.out) (oneP ys) (by unfold maxLen; omega) (by omega) (by omega) ?_)
  intro v1 w1 hown1 hgrow1 hnil1
  obtain ⟨g1, c1, rfl⟩ : ∃ g1 c1, v1 = .slice (some ⟨g1, 0, none⟩) ys.length c1 := by
    obtain ⟨_, ⟨rfl, h0⟩ | ⟨g, cap, cur, e, _⟩⟩ := hown1
    · exfalso
      first | exact hnil1 rfl | (have := hnil1.1 rfl; cases this.1)
    · exact ⟨_, _, by simpa using e⟩
  have hgr1 : W.grownBy w1 (some (w.heap.size + 2)) := hgrow1
  have hs1 := hgr1.size
  have hb1 : Below w.heap.size w w1 := hb.grown hgr1 (by omega) (fun b hb => by cases hb; omega)
  have hX : St w ys rs ya yc ra rc w1.heap.size g1 c1 0 none 0 [] (w1.alloc (.cells #[.slice (some ⟨g1, 0, none⟩) ys.length c1, .slice none 0 0] 27)) := by
    refine ⟨hb1.alloc hb1.size _, bold ((hgr1.block _ (by omega) (by simp)).trans HA.out) _, bold ((hgr1.block _ (by omega) (by simp)).trans HRES.out) _, by omega, bnew w1 _ _, ?_, ⟨by simp, .inl ⟨rfl, rfl⟩⟩, rfl, fun r hr => by simp at hr, fun r hr => by simp at hr⟩
    refine World.ownsRow.alloc ?_ _
    simpa using hown1
  have hsw := hX.big
  have HX : Hid (St w ys rs ya yc ra rc w1.heap.size g1 c1 0 none 0 [] (w1.alloc (.cells #[.slice (some ⟨g1, 0, none⟩) ys.length c1, .slice none 0 0] 27))) := hX
  clear hX hown1 hgrow1 hnil1 hgr1 HA HRES HO HYW x0 hW
  go_wp2
  obtain ⟨X, hXe⟩ : ∃ X, w1.alloc (.cells #[.slice (some ⟨g1, 0, none⟩) ys.length c1, .slice none 0 0] 27) = X := ⟨_, rfl⟩
  rw [hXe] at HX hsw ⊢
  obtain ⟨n3, hn3⟩ : ∃ n3, w1.heap.size = n3 := ⟨_, rfl⟩
  rw [hn3] at HX ⊢
  clear hXe hn3 hb1 hs1
  go_loopw [4] (fun x wr => ∃ (k : Nat) (va : Option Addr) (vc : Nat) (ks : List Rn), k ≤ rs.length ∧ x = .int .i64 k ∧ Hid (St w ys rs ya yc ra rc n3 g1 c1 k va vc ks wr)) (fun x _ => rs.length - (intOf x).toNat)
  case atStart => exact ⟨0, none, 0, [], Nat.zero_le _, rfl, HX⟩
  case round =>
    obtain ⟨k, va, vc, ks, hk, rfl, hinv⟩ := hrel
    clear HX hsw
    by_cases hkl : k < rs.length
    · obtain ⟨b, rfl⟩ := HRA.out (by rintro rfl; simp at hkl)
      have y1 : wr.cell? ⟨w.heap.size, 1, none⟩ = some (.slice (some ⟨b, 0, none⟩) rs.length rc) := bcell hinv.out.box rfl
      have hRw := HR.out.inn hinv.out.bel
      have hlen : ks.length = k := by
        have h1 := congrArg List.length hinv.out.same
        simp at h1
        omega
      have HG : Hid (rs[k]? = some rs[k]) := List.getElem?_eq_getElem hkl
      obtain ⟨⟨rh, hra⟩, hrow⟩ := HRS.out rs[k] (List.getElem_mem hkl)
      have hfr := HF.out.ro rs[k] (List.getElem_mem hkl)
      obtain ⟨⟨qa, qc, ql⟩, he⟩ : ∃ e, rs[k] = e := ⟨_, rfl⟩
      rw [he] at HG hrow hfr hra
      simp only at hra hrow hfr
      have HNR : Hid (apa.NQ qa ⟨rh, 0, none⟩ ql.length qc) := hra
      clear hra
      have HQ : Hid (Row flP.c 3 wr wr.heap.size qa ql) := hrow.inn hinv.out.bel
      have hql := hfr.1
      obtain ⟨hbl, hbc⟩ : b < w.heap.size ∧ wr.cell? ⟨b, k, none⟩ = some (.slice qa ql.length qc) := by
        have hRw := HR.out
        rcases hRw with h0 | ⟨b', off', hh, hlt, hc⟩
        · rw [h0] at hkl; simp at hkl
        · cases hh
          refine ⟨hlt, ?_⟩
          have := hc k _ HG.out 0 _ rfl
          rw [World.cell?_of_block (hinv.out.bel.block b hlt)]
          simpa using this
      have hAh := hinv.out.ah ql.length (ql.flatMap flP.c)
      have hlo := hinv.out.lo
      have hrb : ∀ x, (Value.slice va k vc).ownBlock = some x → w.heap.size + 2 ≤ x := fun x e => (hinv.out.runs.lt x e).1
      have n1 : w.heap.size ≠ n3 := by omega
      have n2 : (Value.slice va k vc).ownBlock ≠ some w.heap.size := fun e => by have := hrb _ e; omega
      have n3' : b ≠ n3 := by omega
      have n4 : (Value.slice va k vc).ownBlock ≠ some b := fun e => by have := hrb _ e; omega
      have i2 : (k : Int) < (rs.length : Int) := by omega
      have HAh : Hid (Ah ⟨wr, w.heap.size + 2, n3, .slice (some ⟨g1, 0, none⟩) ys.length c1, .slice va k vc, k, ks.flatMap cR, ql.length, ql.flatMap flP.c⟩) := hAh
      clear hAh he hrow hfr
      go_wp2
      refine dk.region_gsets (ws ⟨wr, w.heap.size + 2, n3, .slice (some ⟨g1, 0, none⟩) ys.length c1, .slice va k vc, k, ks.flatMap cR, ql.length, ql.flatMap flP.c⟩ w.heap.size b rs.length rc qa qc) [17, 18, 19, 20, 21, 22, 23, 24, 25, 26, 27, 28] (C ⟨wr, w.heap.size + 2, n3, .slice (some ⟨g1, 0, none⟩) ys.length c1, .slice va k vc, k, ks.flatMap cR, ql.length, ql.flatMap flP.c⟩) ⟨0, 0, 0, 0, .slice none 0 0⟩ (by kernel_rfl) (by kernel_rfl) (fun _ => rfl) (by kernel_rfl) (sct.start _ _ HAh.out) ?each ?fin
      case each =>
        refine ⟨quiet (by decide) (by simp) (.pointer (some ⟨n3, 1, none⟩)) (by rintro s _ ⟨⟩; exact dk.sets_on _ (by simp) _ rfl) (fun s W h => by simp [execOp, go_sem, Act.eval, dk.sets_get, ws, List.lookup]), ?_⟩
        refine ⟨st1 (by simp) (by rintro s _ ⟨⟩; exact dk.sets_on _ (by simp) _ rfl) (fun s W h => by have c : W.cell? ⟨n3, 1, none⟩ = some (.slice va k vc) := bcell h rfl; simp [execOp, go_sem, Act.eval, dk.sets_get, ws, List.lookup, c]), ?_⟩
        refine ⟨st2 HAh.out (by simp) rfl rfl, ?_⟩
        refine ⟨quiet (by decide) (by simp) (.pointer (some ⟨w.heap.size, 1, none⟩)) (by rintro s _ ⟨⟩; exact dk.sets_on _ (by simp) _ rfl) (fun s W h => by simp [execOp, go_sem, Act.eval, dk.sets_get, ws, List.lookup]), ?_⟩
        refine ⟨quiet (by decide) (by simp) (.slice (some ⟨b, 0, none⟩) rs.length rc) (by rintro s _ ⟨⟩; exact dk.sets_on _ (by simp) _ rfl) (fun s W h => by have c : W.cell? ⟨w.heap.size, 1, none⟩ = some (.slice (some ⟨b, 0, none⟩) rs.length rc) := old_cell h n1 n2 y1; simp [execOp, go_sem, Act.eval, dk.sets_get, ws, List.lookup, c]), ?_⟩
        refine ⟨quiet (by decide) (by simp) (.int .i64 k) (by rintro s _ ⟨⟩; exact dk.sets_on _ (by simp) _ rfl) (fun s W h => by simp [execOp, go_sem, Act.eval, dk.sets_get, ws, List.lookup]), ?_⟩
        refine ⟨quiet (by decide) (by simp) (.pointer (some ⟨b, k, none⟩)) (by rintro s _ ⟨⟩; exact dk.sets_on _ (by simp) _ rfl) (fun s W h => by simp [execOp, go_sem, Act.eval, dk.sets_get, ws, List.lookup, i2]), ?_⟩
        refine ⟨quiet (by decide) (by simp) (.slice qa ql.length qc) (by rintro s _ ⟨⟩; exact dk.sets_on _ (by simp) _ rfl) (fun s W h => by have c : W.cell? ⟨b, k, none⟩ = some (.slice qa ql.length qc) := old_cell h n3' n4 hbc; simp [execOp, go_sem, Act.eval, dk.sets_get, ws, List.lookup, c]), ?_⟩
        refine ⟨st8 HNR.out HAh.out hi hz0 hz1 hz2 rfl (by simp) rfl rfl (flat_len flP.c_len ql) (fun W hb => newsN HNR.out (HQ.out.inn hb)) (oneP ql) hql ⟨⟨2, .data⟩, by simp, rfl, rfl⟩, ?_⟩
        refine ⟨st9 HAh.out (by simp) rfl rfl ⟨⟨8, .data⟩, by simp, rfl, rfl⟩, ?_⟩
        refine ⟨st10 HAh.out ki kz0 kz1 kz2 rfl (by simp) rfl rfl (by show k ≤ 1048576; omega) ⟨⟨9, .data⟩, by simp, rfl, rfl⟩ ⟨⟨1, .data⟩, by simp, rfl, rfl⟩, ?_⟩
        refine ⟨quiet (by decide) (by simp) (.pointer (some ⟨n3, 1, none⟩)) (by rintro s _ ⟨⟩; exact dk.sets_on _ (by simp) _ rfl) (fun s W h => by simp [execOp, go_sem, Act.eval, dk.sets_get, ws, List.lookup]), ?_⟩
        exact ⟨st12 HAh.out (by simp) (by simp) rfl (fun s W h hv => by obtain ⟨av, nv, cv, hv⟩ := hv; have c : W.cell? ⟨n3, 1, none⟩ = some (.slice va k vc) := bcell h rfl; have f := bfree h 1; rw [hv]; simp [execOp, go_sem, Act.eval, dk.sets_get, ws, List.lookup, c, f, hv]) ⟨⟨10, .data⟩, by simp, rfl, rfl⟩, trivial⟩
      case fin =>
        intro g L W2 hL hC
        obtain ⟨d1, d2, d3, d4⟩ := sct.done hC hL
        obtain ⟨va', vc', ks', hv2, hst⟩ := hinv.out.step HG.out d1 d2 d3 d4
        have HN : Hid (St w ys rs ya yc (some ⟨b, 0, none⟩) rc n3 g1 c1 (k + 1) va' vc' ks' W2) := hst
        simp only [dk.sets, ws, hv2]
        clear hC hL d1 d2 d3 d4 hst
        go_wp2
        go_roundw
        all_goals first | exact ⟨k + 1, va', vc', ks', by omega, by go_num, HN⟩ | (simp [intOf]; omega)
    · obtain rfl : k = rs.length := by omega
      have y1 : wr.cell? ⟨w.heap.size, 1, none⟩ = some (.slice ra rs.length rc) := bcell hinv.out.box rfl
      have u0 : wr.cell? ⟨n3, 0, none⟩ = some (.slice (some ⟨g1, 0, none⟩) ys.length c1) := bcell hinv.out.out rfl
      have u1 : wr.cell? ⟨n3, 1, none⟩ = some (.slice va rs.length vc) := bcell hinv.out.out rfl
      have r0 : wr.cell? ⟨w.heap.size + 1, 0, none⟩ = some (.slice none 0 0) := bcell hinv.out.res rfl
      have r1 : wr.cell? ⟨w.heap.size + 1, 1, none⟩ = some (.slice none 0 0) := bcell hinv.out.res rfl
      have f0 := bfree hinv.out.res 0
      have f1 := bfree hinv.out.res 1
      clear hkl hk
      go_wp2
      have kept : ∀ (B : Nat) (T : TypeId) (s : Nat) v n xs, w.heap.size + 2 ≤ B → wr.ownsRow B T s v n xs → ((wr.setCell ⟨w.heap.size + 1, 0, none⟩ (.slice (some ⟨g1, 0, none⟩) ys.length c1)).setCell ⟨w.heap.size + 1, 1, none⟩ (.slice va rs.length vc)).ownsRow B T s v n xs := fun B T s v n xs hB h => own_set (own_set h (by omega)) (by omega)
      refine bodyPost_ret (v := .agg #[.slice (some ⟨g1, 0, none⟩) ys.length c1, .slice va rs.length vc]) (by simp [results, Try.results48, go_sem, r0, r1]) rfl ⟨g1, c1, va, vc, ks, rfl, kept _ _ _ _ _ _ (Nat.le_refl _) hinv.out.fresh, kept _ _ _ _ _ _ (Nat.le_refl _) hinv.out.runs, by rw [hinv.out.same, List.take_length], fun r hr => kept _ _ _ _ _ _ (Nat.le_refl _) (hinv.out.rows r hr), hinv.out.adr, ?_⟩
      exact (hinv.out.bel.setCell (Nat.le_succ _) _).setCell (Nat.le_succ _) _
/-- an answered table of the specification's: its rows, all of them new -/
structure SR (W : World) (B : Nat) (sa : Option Addr) (sc : Nat) (ta : Option Addr) (tc : Nat) (l : List flP.Pr) (ks : List Rn) : Prop where
  fresh : W.ownsRow B 40 3 (.slice sa l.length sc) l.length (l.flatMap flP.c)
  runs : W.ownsRow B 24 1 (.slice ta ks.length tc) ks.length (ks.flatMap cR)
  rows : ∀ r ∈ ks, OwnR W B r
  ap : Ap sa ks
theorem SR.set {W : World} {B sc tc : Nat} {sa ta : Option Addr} {l : List flP.Pr} {ks : List Rn} (c : SR W B sa sc ta tc l ks) {b : Nat} (hb : b < B) (o : Nat) (v : Value) : SR (W.setCell ⟨b, o, none⟩ v) B sa sc ta tc l ks := ⟨own_set c.fresh hb, own_set c.runs hb, fun r hr => own_set (c.rows r hr) hb, c.ap⟩
theorem SR.low {W : World} {B B' sc tc : Nat} {sa ta : Option Addr} {l : List flP.Pr} {ks : List Rn} (c : SR W B sa sc ta tc l ks) (hb : B' ≤ B) : SR W B' sa sc ta tc l ks := ⟨own_low c.fresh hb, own_low c.runs hb, fun r hr => own_low (c.rows r hr) hb, c.ap⟩
theorem SR.on {W W' : World} {B sc tc : Nat} {sa ta : Option Addr} {l : List flP.Pr} {ks : List Rn} (c : SR W B sa sc ta tc l ks) (hb : Below W.heap.size W W') : SR W' B sa sc ta tc l ks := by
  have hg : W.grownBy W' none := ⟨hb.os, hb.tape, hb.output, hb.size, fun k hk _ => hb.block k hk⟩
  exact ⟨c.fresh.kept hg (by cases (Value.slice sa l.length sc).ownBlock <;> simp), c.runs.kept hg (by cases (Value.slice ta ks.length tc).ownBlock <;> simp), fun r hr => (c.rows r hr).kept hg (by cases (Value.slice r.a r.l.length r.c).ownBlock <;> simp), c.ap⟩
end Go.Proofs.Ytokaoafbgebelaa.sco

/- The specification's l07With, TablePut and TableDrop. -/
namespace Go.Proofs.Ytokaoafbgebelaa.pts
open Go.ChangeShapes Go.WideShapes Go.ChangeAt Go.RowKit Go.Proofs.Ytokaoafbgebelaa.fl Go.Proofs.Ytokaoafbgebelaa.fo Go.Proofs.Ytokaoafbgebelaa.rn Go.Proofs.Ytokaoafbgebelaa.tko Go.Proofs.Ytokaoafbgebelaa.ptp Go.Proofs.Ytokaoafbgebelaa.fls
set_option linter.unusedVariables false

theorem own_on {w w' : World} {B s n : Nat} {U : TypeId} {v : Value} {xs : List Value} (h : w.ownsRow B U s v n xs) (hb : Below w.heap.size w w') : w'.ownsRow B U s v n xs :=
  h.kept (row := none) ⟨hb.os, hb.tape, hb.output, hb.size, fun k hk _ => hb.block k hk⟩ (by cases v.ownBlock <;> simp)
/-- an answer's rows, at or above B -/
structure SA (W : World) (B : Nat) (sa ta : Option Addr) (sc tc : Nat) (l : List flP.Pr) (ks : List Rn) : Prop where
  of : W.ownsRow B 40 3 (.slice sa l.length sc) l.length (l.flatMap flP.c)
  or : W.ownsRow B 24 1 (.slice ta ks.length tc) ks.length (ks.flatMap cR)
  rows : ∀ r ∈ ks, sct.OwnR W B r
  ap : sco.Ap sa ks
theorem SA.row {W : World} {B : Nat} {sa ta : Option Addr} {sc tc : Nat} {l : List flP.Pr} {ks : List Rn} (h : SA W B sa ta sc tc l ks) : Row flP.c 3 W W.heap.size sa l ∧ VR W W.heap.size ta ks :=
  ⟨row_of flP.c_len rfl h.of, row_of cR_len rfl h.or, fun r hr => row_of flP.c_len rfl (h.rows r hr)⟩
theorem SA.set {W : World} {B : Nat} {sa ta : Option Addr} {sc tc : Nat} {l : List flP.Pr} {ks : List Rn} (h : SA W B sa ta sc tc l ks) {g j : Nat} {u : Value} (hg : g < B) : SA (W.setCell ⟨g, j, none⟩ u) B sa ta sc tc l ks :=
  ⟨sct.own_set h.of hg, sct.own_set h.or hg, fun r hr => sct.own_set (h.rows r hr) hg, h.ap⟩
theorem sa_of {W : World} {B B' m : Nat} {sa ta : Option Addr} {sc tc : Nat} {l : List flP.Pr} {ks : List Rn} (hm : m = ks.length) (hB : B' ≤ B) (h1 : W.ownsRow B 40 3 (.slice sa l.length sc) l.length (l.flatMap flP.c)) (h2 : W.ownsRow B 24 1 (.slice ta m tc) m (ks.flatMap cR)) (h3 : ∀ r ∈ ks, sct.OwnR W B r) (h4 : sco.Ap sa ks) : SA W B' sa ta sc tc l ks := by
  subst hm
  exact ⟨sct.own_low h1 hB, sct.own_low h2 hB, fun r hr => sct.own_low (h3 r hr) hB, h4⟩
theorem own_set_ty {w : World} {B n s : Nat} {U T : TypeId} {v : Value} {xs : List Value} {g j : Nat} {u : Value} {cur : Array Value} (h : w.ownsRow B U s v n xs) (hg : w.heap[g]? = some (.cells cur T (0, 0))) (hT : U ≠ T) : (w.setCell ⟨g, j, none⟩ u).ownsRow B U s v n xs := by
  refine h.kept (row := some g) ⟨rfl, rfl, rfl, by simp, fun k hk hne => Below.heap_setCell _ _ _ _ (fun e => hne (by rw [e]))⟩ (.inr fun e => ?_)
  obtain ⟨c, hc⟩ := sct.typed h e
  rw [hg] at hc
  simp at hc
  exact hT hc.2.symm

set_option maxRecDepth 100000 in
set_option maxHeartbeats 4000000 in
theorem spec_with (ys : List flP.Pr) (rs : List Rn) (ya ra : Option Addr) (yc rc : Nat) (yq : Addr) (hNQ : apa.NQ ya yq ys.length yc) (hra : rs ≠ [] → ∃ b, ra = some ⟨b, 0, none⟩) (pk pv : ByteArray) (pg : Bool) (w : World) (F : tb.Fit ys rs) (hpk : pk.size ≤ 1048576) (hpv : pv.size ≤ 1048576) (hY : Row flP.c 3 w w.heap.size ya ys) (hR : VR w w.heap.size ra rs) (hrs : ∀ r ∈ rs, ∃ h, apa.NQ r.a ⟨h, 0, none⟩ r.l.length r.c) :
    Calls Try.prog 34 #[.agg #[.slice ya ys.length yc, .slice ra rs.length rc], .agg #[.string pk, .string pv, .bool pg]] w fun e w' => ∃ sa sc ta tc ks, e = .returned (.tuple #[.agg #[.slice sa (withY ys (rs.map (·.l)) ⟨pk, pv, pg⟩).length sc, .slice ta (rs.map (·.l)).length tc], .bool (withB ys (rs.map (·.l)) ⟨pk, pv, pg⟩)]) ∧ ks.map (·.l) = rs.map (·.l) ∧ SA w' w.heap.size sa ta sc tc (withY ys (rs.map (·.l)) ⟨pk, pv, pg⟩) ks ∧ Below w.heap.size w w' := by
  have hb : Below w.heap.size w (((w.alloc (.cells #[.slice ya ys.length yc, .slice ra rs.length rc] 27)).alloc (.cells #[.string pk, .string pv, .bool pg] 40)).alloc (.cells #[.slice none 0 0, .slice none 0 0] 27)) := (((Below.refl _ _).alloc (Nat.le_refl _) _).alloc (by simp) _).alloc (by simp; omega) _
  have hA := bold (bold (bnew w #[.slice ya ys.length yc, .slice ra rs.length rc] 27) (.cells #[.string pk, .string pv, .bool pg] 40)) (.cells #[.slice none 0 0, .slice none 0 0] 27)
  have hPx := bold (bnew (w.alloc (.cells #[.slice ya ys.length yc, .slice ra rs.length rc] 27)) #[.string pk, .string pv, .bool pg] 40) (.cells #[.slice none 0 0, .slice none 0 0] 27)
  rw [World.size_alloc] at hPx
  have hRs := bnew ((w.alloc (.cells #[.slice ya ys.length yc, .slice ra rs.length rc] 27)).alloc (.cells #[.string pk, .string pv, .bool pg] 40)) #[.slice none 0 0, .slice none 0 0] 27
  rw [World.size_alloc, World.size_alloc] at hRs
  obtain ⟨W, hW⟩ : ∃ W, (((w.alloc (.cells #[.slice ya ys.length yc, .slice ra rs.length rc] 27)).alloc (.cells #[.string pk, .string pv, .bool pg] 40)).alloc (.cells #[.slice none 0 0, .slice none 0 0] 27)) = W := ⟨_, rfl⟩
  rw [hW] at hb hA hRs hPx
  have hcp := sco.spec_copy ys rs ya yc ra rc W F yq hNQ (hY.inn hb) (hR.1.inn hb) hra (fun r hr => ⟨hrs r hr, (hR.2 r hr).inn hb⟩)
  have HF : Hid (tb.Fit ys rs) := F
  have hrl := F.rl
  have hyl := F.yl
  have HY : Hid (Row flP.c 3 w w.heap.size ya ys) := hY
  have HR : Hid (VR w w.heap.size ra rs) := hR
  have HRA : Hid (∀ r ∈ rs, ∃ h, apa.NQ r.a ⟨h, 0, none⟩ r.l.length r.c) := hrs
  have HA : Hid (W.heap[w.heap.size]? = some (.cells #[.slice ya ys.length yc, .slice ra rs.length rc] 27 (0, 0))) := hA
  have HPX : Hid (W.heap[w.heap.size + 1]? = some (.cells #[.string pk, .string pv, .bool pg] 40 (0, 0))) := hPx
  have HRS : Hid (W.heap[w.heap.size + 1 + 1]? = some (.cells #[.slice none 0 0, .slice none 0 0] 27 (0, 0))) := hRs
  have hWs := (Array.getElem?_eq_some_iff.1 hRs).1
  have p0 : W.cell? ⟨w.heap.size, 0, none⟩ = some (.slice ya ys.length yc) := bcell hA rfl
  have p1 : W.cell? ⟨w.heap.size, 1, none⟩ = some (.slice ra rs.length rc) := bcell hA rfl
  clear hY hR hA hRs hPx F hrs
  go_enter Try.func34, Try.ntmps34
  go_wp2_with (go_at_call 48; fail)
  clear hW p0 p1
  refine hcp.mono ?_
  rintro e w2 ⟨g1, c1, va, vc, ks, rfl, of2, or2, m2, rows2, hap2, hb2⟩
  have HAP2 : Hid (sco.Ap (some ⟨g1, 0, none⟩) ks) := hap2
  clear hap2
  have l2 : rs.length = ks.length := by have := congrArg List.length m2; simpa using this.symm
  have hal : Below w2.heap.size w2 (w2.alloc (.cells #[.slice (some ⟨g1, 0, none⟩) ys.length c1, .slice va rs.length vc] 27)) := (Below.refl _ _).alloc (Nat.le_refl _) _
  have hO := bnew w2 #[.slice (some ⟨g1, 0, none⟩) ys.length c1, .slice va rs.length vc] 27
  have of3 := own_on of2 hal
  have or3 := own_on or2 hal
  have rows3 : ∀ r ∈ ks, sct.OwnR (w2.alloc (.cells #[.slice (some ⟨g1, 0, none⟩) ys.length c1, .slice va rs.length vc] 27)) (W.heap.size + 2) r := fun r hr => own_on (rows2 r hr) hal
  have hs2 := hb2.size
  obtain ⟨W3, hW3⟩ : ∃ W3, w2.alloc (.cells #[.slice (some ⟨g1, 0, none⟩) ys.length c1, .slice va rs.length vc] 27) = W3 := ⟨_, rfl⟩
  rw [hW3] at hal hO of3 or3 rows3
  have hB3 : Below W.heap.size W W3 := hb2.trans (hal.mono hs2)
  have hBw3 : Below w.heap.size w W3 := hb.trans (hB3.mono hb.size)
  have hok := spec_okb ys rs ya ra yc rc W3 HF.out (HY.out.inn hBw3) (HR.out.inn hBw3)
  have b3 := bstay HA.out hB3 (by omega)
  have c0 : W3.cell? ⟨w.heap.size, 0, none⟩ = some (.slice ya ys.length yc) := bcell b3 rfl
  have c1' : W3.cell? ⟨w.heap.size, 1, none⟩ = some (.slice ra rs.length rc) := bcell b3 rfl
  have HO : Hid (W3.heap[w2.heap.size]? = some (.cells #[.slice (some ⟨g1, 0, none⟩) ys.length c1, .slice va rs.length vc] 27 (0, 0))) := hO
  have HOF : Hid (W3.ownsRow (W.heap.size + 2) 40 3 (.slice (some ⟨g1, 0, none⟩) ys.length c1) ys.length (ys.flatMap flP.c)) := of3
  have HOR : Hid (W3.ownsRow (W.heap.size + 2) 24 1 (.slice va rs.length vc) rs.length (ks.flatMap cR)) := or3
  have HRW : Hid (∀ r ∈ ks, sct.OwnR W3 (W.heap.size + 2) r) := rows3
  have HM : Hid (ks.map (·.l) = rs.map (·.l)) := m2
  have HL : Hid (rs.length = ks.length) := l2
  have hlt3 := (Array.getElem?_eq_some_iff.1 hO).1
  clear hcp of2 or2 rows2 hO of3 or3 rows3 m2 l2 hal b3
  go_wp2_with (go_at_call 13; fail)
  clear hW3
  refine hok.mono ?_
  rintro e w4 ⟨rfl, hb4⟩
  have b4 := bstay (bstay HA.out hB3 (by omega)) hb4 (by omega)
  have r4 := bstay (bstay HRS.out hB3 (by omega)) hb4 (by omega)
  have o4 := bstay HO.out hb4 hlt3
  have s4 := bstay (bstay HPX.out hB3 (by omega)) hb4 (by omega)
  have s0 : w4.cell? ⟨w.heap.size + 1, 0, none⟩ = some (.string pk) := bcell s4 rfl
  have s1 : w4.cell? ⟨w.heap.size + 1, 1, none⟩ = some (.string pv) := bcell s4 rfl
  have s2 : w4.cell? ⟨w.heap.size + 1, 2, none⟩ = some (.bool pg) := bcell s4 rfl
  have x0 : w4.cell? ⟨w.heap.size, 0, none⟩ = some (.slice ya ys.length yc) := bcell b4 rfl
  have x1 : w4.cell? ⟨w.heap.size, 1, none⟩ = some (.slice ra rs.length rc) := bcell b4 rfl
  have r0 : w4.cell? ⟨w.heap.size + 1 + 1, 0, none⟩ = some (.slice none 0 0) := bcell r4 rfl
  have r1 : w4.cell? ⟨w.heap.size + 1 + 1, 1, none⟩ = some (.slice none 0 0) := bcell r4 rfl
  have f0 := bfree r4 0
  have f1 := bfree r4 1
  have u0 : w4.cell? ⟨w2.heap.size, 0, none⟩ = some (.slice (some ⟨g1, 0, none⟩) ys.length c1) := bcell o4 rfl
  have u1 : w4.cell? ⟨w2.heap.size, 1, none⟩ = some (.slice va rs.length vc) := bcell o4 rfl
  have HOF4 : Hid (w4.ownsRow (W.heap.size + 2) 40 3 (.slice (some ⟨g1, 0, none⟩) ys.length c1) ys.length (ys.flatMap flP.c)) := own_on HOF.out hb4
  have HOR4 : Hid (w4.ownsRow (W.heap.size + 2) 24 1 (.slice va rs.length vc) rs.length (ks.flatMap cR)) := own_on HOR.out hb4
  have HRW4 : Hid (∀ r ∈ ks, sct.OwnR w4 (W.heap.size + 2) r) := fun r hr => own_on (HRW.out r hr) hb4
  have hBw4 : Below w.heap.size w w4 := hBw3.trans (hb4.mono hBw3.size)
  have HA4 : Hid (w4.heap[w.heap.size]? = some (.cells #[.slice ya ys.length yc, .slice ra rs.length rc] 27 (0, 0))) := b4
  have HR4 : Hid (w4.heap[w.heap.size + 1 + 1]? = some (.cells #[.slice none 0 0, .slice none 0 0] 27 (0, 0))) := r4
  have HO4 : Hid (w4.heap[w2.heap.size]? = some (.cells #[.slice (some ⟨g1, 0, none⟩) ys.length c1, .slice va rs.length vc] 27 (0, 0))) := o4
  have hWs4 : W.heap.size ≤ w4.heap.size := Nat.le_trans hB3.size hb4.size
  have hs34 : w2.heap.size < w4.heap.size := Nat.lt_of_lt_of_le hlt3 hb4.size
  clear hok c0 c1' b4 r4 o4 s4 HOF HOR HRW HO HA HRS HPX hb4
  cases hob : okB ys (rs.map (·.l)) with
  | false =>
    have HC : Hid (withB ys (rs.map (·.l)) ⟨pk, pv, pg⟩ = false) := by show withB ys (rs.map (·.l)) ⟨pk, pv, pg⟩ = false; unfold withB; rw [hob]; rfl
    have HYQ : Hid (withY ys (rs.map (·.l)) ⟨pk, pv, pg⟩ = ys) := by show withY ys (rs.map (·.l)) ⟨pk, pv, pg⟩ = ys; unfold withY; rw [HC.out]; rfl
    clear hob
    go_wp2
    have hk : ∀ (T : TypeId) (s : Nat) v n xs, w4.ownsRow (W.heap.size + 2) T s v n xs → ((w4.setCell ⟨w.heap.size + 1 + 1, 0, none⟩ (.slice (some ⟨g1, 0, none⟩) ys.length c1)).setCell ⟨w.heap.size + 1 + 1, 1, none⟩ (.slice va rs.length vc)).ownsRow (W.heap.size + 2) T s v n xs := fun T s v n xs h => sct.own_set (sct.own_set h (by omega)) (by omega)
    have hrw := sa_of (B' := w.heap.size) HL.out (by omega) (hk _ _ _ _ _ HOF4.out) (hk _ _ _ _ _ HOR4.out) (fun r hr => hk _ _ _ _ _ (HRW4.out r hr)) HAP2.out
    refine bodyPost_ret (v := .tuple #[.agg #[.slice (some ⟨g1, 0, none⟩) ys.length c1, .slice va rs.length vc], .bool false]) (by simp [results, Try.results34, go_sem, r0, r1]) rfl ⟨some ⟨g1, 0, none⟩, c1, va, vc, ks, by rw [HYQ.out, HC.out, List.length_map], HM.out, by rw [HYQ.out]; exact hrw, (hBw4.setCell (show w.heap.size ≤ w.heap.size + 1 + 1 by omega) _).setCell (show w.heap.size ≤ w.heap.size + 1 + 1 by omega) _⟩
  | true =>
    have hc1 : ys.length ≤ c1 := by
      obtain ⟨_, ⟨e, _⟩ | ⟨g, cap, cur, e, _, _, hle, _⟩⟩ := HOF4.out
      · cases e
      · cases e; exact hle
    have hbig := HOF4.out.lt g1 rfl
    have hset := pss.spec_set ys g1 c1 pk pv pg w4 hyl hc1 (row_of flP.c_len rfl HOF4.out)
    have HOK : Hid (tk.OkT ys (rs.map (·.l))) := okB_true.1 hob
    have HOB : Hid (okB ys (rs.map (·.l)) = true) := hob
    clear hob
    go_wp2_with (go_at_call 53; fail)
    clear s0 s1 s2 u0
    refine hset.mono ?_
    rintro e w5 ⟨g2, c2, rfl, hown5, hb5⟩
    obtain ⟨n5, hn5⟩ : ∃ n5, (setP ys ⟨pk, pv, pg⟩).length = n5 := ⟨_, rfl⟩
    have HN5 : Hid ((setP ys ⟨pk, pv, pg⟩).length = n5) := hn5
    rw [hn5] at hown5 ⊢
    have hs5 := hb5.size
    have HAPX : Hid (sco.Ap (some ⟨g2, 0, none⟩) ks) := fun r hr x y hx hy => by
      cases hx
      have q1 := (hown5.lt g2 rfl).1
      have q2 := ((HRW4.out r hr).lt y.block (by rw [hy]; rfl)).2
      show g2 ≠ y.block
      omega
    have o5 := bstay HO4.out hb5 hs34
    have v0 : w5.cell? ⟨w2.heap.size, 0, none⟩ = some (.slice (some ⟨g1, 0, none⟩) ys.length c1) := bcell o5 rfl
    have v0f := bfree o5 0
    have hBw5 : Below w.heap.size w w5 := hBw4.trans (hb5.mono hBw4.size)
    have oX : (w5.setCell ⟨w2.heap.size, 0, none⟩ (.slice (some ⟨g2, 0, none⟩) n5 c2)).heap[w2.heap.size]? = some (.cells #[.slice (some ⟨g2, 0, none⟩) n5 c2, .slice va rs.length vc] 27 (0, 0)) := bset o5 0 _
    have hBX : Below w.heap.size w (w5.setCell ⟨w2.heap.size, 0, none⟩ (.slice (some ⟨g2, 0, none⟩) n5 c2)) := hBw5.setCell (show w.heap.size ≤ w2.heap.size by omega) _
    have bX : (w5.setCell ⟨w2.heap.size, 0, none⟩ (.slice (some ⟨g2, 0, none⟩) n5 c2)).heap[w.heap.size]? = some (.cells #[.slice ya ys.length yc, .slice ra rs.length rc] 27 (0, 0)) := boff (bstay HA4.out hb5 (by omega)) _ _ _ (by omega)
    have rX : (w5.setCell ⟨w2.heap.size, 0, none⟩ (.slice (some ⟨g2, 0, none⟩) n5 c2)).heap[w.heap.size + 1 + 1]? = some (.cells #[.slice none 0 0, .slice none 0 0] 27 (0, 0)) := boff (bstay HR4.out hb5 (by omega)) _ _ _ (by omega)
    have HOX : Hid ((w5.setCell ⟨w2.heap.size, 0, none⟩ (.slice (some ⟨g2, 0, none⟩) n5 c2)).ownsRow (W.heap.size + 2) 40 3 (.slice (some ⟨g2, 0, none⟩) (setP ys ⟨pk, pv, pg⟩).length c2) (setP ys ⟨pk, pv, pg⟩).length ((setP ys ⟨pk, pv, pg⟩).flatMap flP.c)) := by rw [hn5]; exact sct.own_low (own_set_ty hown5 o5 (by decide)) (by omega)
    have HRX : Hid ((w5.setCell ⟨w2.heap.size, 0, none⟩ (.slice (some ⟨g2, 0, none⟩) n5 c2)).ownsRow (W.heap.size + 2) 24 1 (.slice va rs.length vc) rs.length (ks.flatMap cR)) := own_set_ty (own_on HOR4.out hb5) o5 (by decide)
    have HWX : Hid (∀ r ∈ ks, sct.OwnR (w5.setCell ⟨w2.heap.size, 0, none⟩ (.slice (some ⟨g2, 0, none⟩) n5 c2)) (W.heap.size + 2) r) := fun r hr => own_set_ty (own_on (HRW4.out r hr) hb5) o5 (by decide)
    obtain ⟨X, hX⟩ : ∃ X, w5.setCell ⟨w2.heap.size, 0, none⟩ (.slice (some ⟨g2, 0, none⟩) n5 c2) = X := ⟨_, rfl⟩
    have hsX : X.heap.size = w5.heap.size := by rw [← hX]; simp
    rw [hX] at oX hBX bX rX HOX HRX HWX
    have hrows := rows_of (n := 0) HL.out HOX.out HRX.out HWX.out
    have hok2 := spec_okb (setP ys ⟨pk, pv, pg⟩) ks (some ⟨g2, 0, none⟩) va c2 vc X ((fit_with HF.out HOK.out hpk hpv).of HM.out) hrows.1 hrows.2
    rw [HM.out, HN5.out, ← HL.out] at hok2
    have t0 : X.cell? ⟨w2.heap.size, 0, none⟩ = some (.slice (some ⟨g2, 0, none⟩) n5 c2) := bcell oX rfl
    have t1 : X.cell? ⟨w2.heap.size, 1, none⟩ = some (.slice va rs.length vc) := bcell oX rfl
    have HOXB : Hid (X.heap[w2.heap.size]? = some (.cells #[.slice (some ⟨g2, 0, none⟩) n5 c2, .slice va rs.length vc] 27 (0, 0))) := oX
    have HBXB : Hid (X.heap[w.heap.size]? = some (.cells #[.slice ya ys.length yc, .slice ra rs.length rc] 27 (0, 0))) := bX
    have HRXB : Hid (X.heap[w.heap.size + 1 + 1]? = some (.cells #[.slice none 0 0, .slice none 0 0] 27 (0, 0))) := rX
    clear hset hown5 hn5 o5 oX bX rX hb5 hrows x0 x1 u1 r0 r1 f0 f1
    go_wp2_with (go_at_call 13; fail)
    clear hX t0 t1 v0 v0f
    refine hok2.mono ?_
    rintro e w6 ⟨rfl, hb6⟩
    have o6 := bstay HOXB.out hb6 (by omega)
    have b6 := bstay HBXB.out hb6 (by omega)
    have r6 := bstay HRXB.out hb6 (by omega)
    have HB6 : Hid (Below w.heap.size w w6) := hBX.trans (hb6.mono hBX.size)
    have hs6 := hb6.size
    cases hob2 : okB (setP ys ⟨pk, pv, pg⟩) (rs.map (·.l)) with
    | true =>
      have HC : Hid (withB ys (rs.map (·.l)) ⟨pk, pv, pg⟩ = true) := by show withB ys (rs.map (·.l)) ⟨pk, pv, pg⟩ = true; unfold withB; rw [HOB.out, hob2]; rfl
      have HYQ : Hid (withY ys (rs.map (·.l)) ⟨pk, pv, pg⟩ = setP ys ⟨pk, pv, pg⟩) := by show withY ys (rs.map (·.l)) ⟨pk, pv, pg⟩ = setP ys ⟨pk, pv, pg⟩; unfold withY; rw [HC.out]; rfl
      have y0 : w6.cell? ⟨w2.heap.size, 0, none⟩ = some (.slice (some ⟨g2, 0, none⟩) n5 c2) := bcell o6 rfl
      have y1 : w6.cell? ⟨w2.heap.size, 1, none⟩ = some (.slice va rs.length vc) := bcell o6 rfl
      have r0 : w6.cell? ⟨w.heap.size + 1 + 1, 0, none⟩ = some (.slice none 0 0) := bcell r6 rfl
      have r1 : w6.cell? ⟨w.heap.size + 1 + 1, 1, none⟩ = some (.slice none 0 0) := bcell r6 rfl
      have f0 := bfree r6 0
      have f1 := bfree r6 1
      have HBX6 : Hid (Below X.heap.size X w6) := hb6
      clear hok2 hob2 o6 b6 r6 hb6
      go_wp2
      have hk : ∀ (T : TypeId) (s : Nat) v n xs, X.ownsRow (W.heap.size + 2) T s v n xs → ((w6.setCell ⟨w.heap.size + 1 + 1, 0, none⟩ (.slice (some ⟨g2, 0, none⟩) n5 c2)).setCell ⟨w.heap.size + 1 + 1, 1, none⟩ (.slice va rs.length vc)).ownsRow (W.heap.size + 2) T s v n xs := fun T s v n xs h => sct.own_set (sct.own_set (own_on h HBX6.out) (by omega)) (by omega)
      have hrw := sa_of (B' := w.heap.size) HL.out (by omega) (hk _ _ _ _ _ HOX.out) (hk _ _ _ _ _ HRX.out) (fun r hr => hk _ _ _ _ _ (HWX.out r hr)) HAPX.out
      refine bodyPost_ret (v := .tuple #[.agg #[.slice (some ⟨g2, 0, none⟩) n5 c2, .slice va rs.length vc], .bool true]) (by simp [results, Try.results34, go_sem, r0, r1]) rfl ⟨some ⟨g2, 0, none⟩, c2, va, vc, ks, by rw [HYQ.out, HC.out, List.length_map, HN5.out], HM.out, by rw [HYQ.out]; exact hrw, (HB6.out.setCell (show w.heap.size ≤ w.heap.size + 1 + 1 by omega) _).setCell (show w.heap.size ≤ w.heap.size + 1 + 1 by omega) _⟩
    | false =>
      have HC : Hid (withB ys (rs.map (·.l)) ⟨pk, pv, pg⟩ = false) := by show withB ys (rs.map (·.l)) ⟨pk, pv, pg⟩ = false; unfold withB; rw [HOB.out, hob2]; rfl
      have HYQ : Hid (withY ys (rs.map (·.l)) ⟨pk, pv, pg⟩ = ys) := by show withY ys (rs.map (·.l)) ⟨pk, pv, pg⟩ = ys; unfold withY; rw [HC.out]; rfl
      have y0 : w6.cell? ⟨w.heap.size, 0, none⟩ = some (.slice ya ys.length yc) := bcell b6 rfl
      have y1 : w6.cell? ⟨w.heap.size, 1, none⟩ = some (.slice ra rs.length rc) := bcell b6 rfl
      have hcp := sco.spec_copy ys rs ya yc ra rc w6 HF.out yq hNQ (HY.out.inn HB6.out) (HR.out.1.inn HB6.out) hra (fun r hr => ⟨HRA.out r hr, (HR.out.2 r hr).inn HB6.out⟩)
      have HR6 : Hid (w6.heap[w.heap.size + 1 + 1]? = some (.cells #[.slice none 0 0, .slice none 0 0] 27 (0, 0))) := r6
      clear hok2 hob2 o6 b6 r6 hb6
      go_wp2_with (go_at_call 48; fail)
      clear y0 y1
      refine hcp.mono ?_
      rintro e w7 ⟨g7, c7, va7, vc7, k7, rfl, of7, or7, m7, rows7, hap7, hb7⟩
      have HAP7 : Hid (sco.Ap (some ⟨g7, 0, none⟩) k7) := hap7
      clear hap7
      have l7 : rs.length = k7.length := by have := congrArg List.length m7; simpa using this.symm
      have r7 := bstay HR6.out hb7 (by omega)
      have r0 : w7.cell? ⟨w.heap.size + 1 + 1, 0, none⟩ = some (.slice none 0 0) := bcell r7 rfl
      have r1 : w7.cell? ⟨w.heap.size + 1 + 1, 1, none⟩ = some (.slice none 0 0) := bcell r7 rfl
      have f0 := bfree r7 0
      have f1 := bfree r7 1
      have hk : ∀ (T : TypeId) (s : Nat) v n xs, w7.ownsRow (w6.heap.size + 2) T s v n xs → ((w7.setCell ⟨w.heap.size + 1 + 1, 0, none⟩ (.slice (some ⟨g7, 0, none⟩) ys.length c7)).setCell ⟨w.heap.size + 1 + 1, 1, none⟩ (.slice va7 rs.length vc7)).ownsRow (w6.heap.size + 2) T s v n xs := fun T s v n xs h => sct.own_set (sct.own_set h (by omega)) (by omega)
      have HROW : Hid (SA ((w7.setCell ⟨w.heap.size + 1 + 1, 0, none⟩ (.slice (some ⟨g7, 0, none⟩) ys.length c7)).setCell ⟨w.heap.size + 1 + 1, 1, none⟩ (.slice va7 rs.length vc7)) w.heap.size (some ⟨g7, 0, none⟩) va7 c7 vc7 ys k7) := sa_of l7 (by omega) (hk _ _ _ _ _ of7) (hk _ _ _ _ _ or7) (fun r hr => hk _ _ _ _ _ (rows7 r hr)) HAP7.out
      have HM7 : Hid (k7.map (·.l) = rs.map (·.l)) := m7
      have HB7 : Hid (Below w.heap.size w w7) := HB6.out.trans (hb7.mono HB6.out.size)
      clear hcp of7 or7 rows7 m7 l7 r7 hb7 hk
      go_wp2
      refine bodyPost_ret (v := .tuple #[.agg #[.slice (some ⟨g7, 0, none⟩) ys.length c7, .slice va7 rs.length vc7], .bool false]) (by simp [results, Try.results34, go_sem, r0, r1]) rfl ⟨some ⟨g7, 0, none⟩, c7, va7, vc7, k7, by rw [HYQ.out, HC.out, List.length_map], HM7.out, by rw [HYQ.out]; exact HROW.out, (HB7.out.setCell (show w.heap.size ≤ w.heap.size + 1 + 1 by omega) _).setCell (show w.heap.size ≤ w.heap.size + 1 + 1 by omega) _⟩

set_option maxRecDepth 100000 in
set_option maxHeartbeats 4000000 in
theorem spec_put (ys : List flP.Pr) (rs : List Rn) (ya ra : Option Addr) (yc rc : Nat) (yq : Addr) (hNQ : apa.NQ ya yq ys.length yc) (hra : rs ≠ [] → ∃ b, ra = some ⟨b, 0, none⟩) (xk xv : ByteArray) (w : World) (F : tb.Fit ys rs) (hpk : xk.size ≤ 1048576) (hpv : xv.size ≤ 1048576) (hY : Row flP.c 3 w w.heap.size ya ys) (hR : VR w w.heap.size ra rs) (hrs : ∀ r ∈ rs, ∃ h, apa.NQ r.a ⟨h, 0, none⟩ r.l.length r.c) :
    Calls Try.prog 8 #[.agg #[.slice ya ys.length yc, .slice ra rs.length rc], .string xk, .string xv] w fun e w' => ∃ sa sc ta tc ks, e = .returned (.tuple #[.agg #[.slice sa (putY ys (rs.map (·.l)) xk xv).length sc, .slice ta (putR ys (rs.map (·.l)) xk xv).length tc], .bool (putB ys (rs.map (·.l)) xk xv)]) ∧ ks.map (·.l) = putR ys (rs.map (·.l)) xk xv ∧ SA w' w.heap.size sa ta sc tc (putY ys (rs.map (·.l)) xk xv) ks ∧ Below w.heap.size w w' := by
  have hb : Below w.heap.size w ((w.alloc (.cells #[.slice ya ys.length yc, .slice ra rs.length rc] 27)).alloc (.cells #[.slice none 0 0, .slice none 0 0] 27)) := ((Below.refl _ _).alloc (Nat.le_refl _) _).alloc (by simp) _
  have hA := bold (bnew w #[.slice ya ys.length yc, .slice ra rs.length rc] 27) (.cells #[.slice none 0 0, .slice none 0 0] 27)
  have hRs := bnew (w.alloc (.cells #[.slice ya ys.length yc, .slice ra rs.length rc] 27)) #[.slice none 0 0, .slice none 0 0] 27
  rw [World.size_alloc] at hRs
  obtain ⟨W, hW⟩ : ∃ W, ((w.alloc (.cells #[.slice ya ys.length yc, .slice ra rs.length rc] 27)).alloc (.cells #[.slice none 0 0, .slice none 0 0] 27)) = W := ⟨_, rfl⟩
  rw [hW] at hb hA hRs
  have hwt := spec_with ys rs ya ra yc rc yq hNQ hra xk xv false W F hpk hpv (hY.inn hb) (hR.inn hb) hrs
  have HRS : Hid (W.heap[w.heap.size + 1]? = some (.cells #[.slice none 0 0, .slice none 0 0] 27 (0, 0))) := hRs
  have hWs := (Array.getElem?_eq_some_iff.1 hRs).1
  have p0 : W.cell? ⟨w.heap.size, 0, none⟩ = some (.slice ya ys.length yc) := bcell hA rfl
  have p1 : W.cell? ⟨w.heap.size, 1, none⟩ = some (.slice ra rs.length rc) := bcell hA rfl
  unfold putY putR putB
  obtain ⟨AY, hAY⟩ : ∃ AY, withY ys (rs.map (·.l)) ⟨xk, xv, false⟩ = AY := ⟨_, rfl⟩
  obtain ⟨AB, hAB⟩ : ∃ AB, withB ys (rs.map (·.l)) ⟨xk, xv, false⟩ = AB := ⟨_, rfl⟩
  rw [hAY, hAB] at hwt ⊢
  clear hY hR hA hRs F hrs hAY hAB
  go_enter Try.func8, Try.ntmps8
  go_wp2_with (go_at_call 34; fail)
  clear hW p0 p1
  refine hwt.mono ?_
  rintro e w2 ⟨sa, sc, ta, tc, ks, rfl, hm, hsa, hb2⟩
  have r2 := bstay HRS.out hb2 hWs
  have r0 : w2.cell? ⟨w.heap.size + 1, 0, none⟩ = some (.slice none 0 0) := bcell r2 rfl
  have r1 : w2.cell? ⟨w.heap.size + 1, 1, none⟩ = some (.slice none 0 0) := bcell r2 rfl
  have f0 := bfree r2 0
  have f1 := bfree r2 1
  have HB : Hid (Below w.heap.size w w2) := hb.trans (hb2.mono hb.size)
  have HSA : Hid (SA w2 W.heap.size sa ta sc tc AY ks) := hsa
  have HM : Hid (ks.map (·.l) = rs.map (·.l)) := hm
  clear hwt r2 hsa hm hb2
  rw [List.length_map]
  go_wp2
  have hrw := ((HSA.out.set (g := w.heap.size + 1) (j := 0) (u := .slice sa AY.length sc) (by omega)).set (g := w.heap.size + 1) (j := 1) (u := .slice ta rs.length tc) (by omega))
  refine bodyPost_ret (v := .tuple #[.agg #[.slice sa AY.length sc, .slice ta rs.length tc], .bool AB]) (by simp [results, Try.results8, go_sem, r0, r1]) rfl ⟨sa, sc, ta, tc, ks, by rw [List.length_map], HM.out, ⟨sct.own_low hrw.of (by omega), sct.own_low hrw.or (by omega), fun r hr => sct.own_low (hrw.rows r hr) (by omega), hrw.ap⟩, (HB.out.setCell (Nat.le_succ _) _).setCell (Nat.le_succ _) _⟩

set_option maxRecDepth 100000 in
set_option maxHeartbeats 4000000 in
theorem spec_drop (ys : List flP.Pr) (rs : List Rn) (ya ra : Option Addr) (yc rc : Nat) (yq : Addr) (hNQ : apa.NQ ya yq ys.length yc) (hra : rs ≠ [] → ∃ b, ra = some ⟨b, 0, none⟩) (xk : ByteArray) (w : World) (F : tb.Fit ys rs) (hpk : xk.size ≤ 1048576) (hY : Row flP.c 3 w w.heap.size ya ys) (hR : VR w w.heap.size ra rs) (hrs : ∀ r ∈ rs, ∃ h, apa.NQ r.a ⟨h, 0, none⟩ r.l.length r.c) :
    Calls Try.prog 10 #[.agg #[.slice ya ys.length yc, .slice ra rs.length rc], .string xk] w fun e w' => ∃ sa sc ta tc ks, e = .returned (.tuple #[.agg #[.slice sa (dropY ys (rs.map (·.l)) xk).length sc, .slice ta (dropR ys (rs.map (·.l)) xk).length tc], .bool (dropB ys (rs.map (·.l)) xk)]) ∧ ks.map (·.l) = dropR ys (rs.map (·.l)) xk ∧ SA w' w.heap.size sa ta sc tc (dropY ys (rs.map (·.l)) xk) ks ∧ Below w.heap.size w w' := by
  have hb : Below w.heap.size w ((w.alloc (.cells #[.slice ya ys.length yc, .slice ra rs.length rc] 27)).alloc (.cells #[.slice none 0 0, .slice none 0 0] 27)) := ((Below.refl _ _).alloc (Nat.le_refl _) _).alloc (by simp) _
  have hA := bold (bnew w #[.slice ya ys.length yc, .slice ra rs.length rc] 27) (.cells #[.slice none 0 0, .slice none 0 0] 27)
  have hRs := bnew (w.alloc (.cells #[.slice ya ys.length yc, .slice ra rs.length rc] 27)) #[.slice none 0 0, .slice none 0 0] 27
  rw [World.size_alloc] at hRs
  obtain ⟨W, hW⟩ : ∃ W, ((w.alloc (.cells #[.slice ya ys.length yc, .slice ra rs.length rc] 27)).alloc (.cells #[.slice none 0 0, .slice none 0 0] 27)) = W := ⟨_, rfl⟩
  rw [hW] at hb hA hRs
  have hwt := spec_with ys rs ya ra yc rc yq hNQ hra xk ⟨#[]⟩ true W F hpk (by decide) (hY.inn hb) (hR.inn hb) hrs
  have HRS : Hid (W.heap[w.heap.size + 1]? = some (.cells #[.slice none 0 0, .slice none 0 0] 27 (0, 0))) := hRs
  have hWs := (Array.getElem?_eq_some_iff.1 hRs).1
  have p0 : W.cell? ⟨w.heap.size, 0, none⟩ = some (.slice ya ys.length yc) := bcell hA rfl
  have p1 : W.cell? ⟨w.heap.size, 1, none⟩ = some (.slice ra rs.length rc) := bcell hA rfl
  unfold dropY dropR dropB
  obtain ⟨AY, hAY⟩ : ∃ AY, withY ys (rs.map (·.l)) ⟨xk, ⟨#[]⟩, true⟩ = AY := ⟨_, rfl⟩
  obtain ⟨AB, hAB⟩ : ∃ AB, withB ys (rs.map (·.l)) ⟨xk, ⟨#[]⟩, true⟩ = AB := ⟨_, rfl⟩
  rw [hAY, hAB] at hwt ⊢
  clear hY hR hA hRs F hrs hAY hAB
  go_enter Try.func10, Try.ntmps10
  go_wp2_with (go_at_call 34; fail)
  clear hW p0 p1
  refine hwt.mono ?_
  rintro e w2 ⟨sa, sc, ta, tc, ks, rfl, hm, hsa, hb2⟩
  have r2 := bstay HRS.out hb2 hWs
  have r0 : w2.cell? ⟨w.heap.size + 1, 0, none⟩ = some (.slice none 0 0) := bcell r2 rfl
  have r1 : w2.cell? ⟨w.heap.size + 1, 1, none⟩ = some (.slice none 0 0) := bcell r2 rfl
  have f0 := bfree r2 0
  have f1 := bfree r2 1
  have HB : Hid (Below w.heap.size w w2) := hb.trans (hb2.mono hb.size)
  have HSA : Hid (SA w2 W.heap.size sa ta sc tc AY ks) := hsa
  have HM : Hid (ks.map (·.l) = rs.map (·.l)) := hm
  clear hwt r2 hsa hm hb2
  rw [List.length_map]
  go_wp2
  have hrw := ((HSA.out.set (g := w.heap.size + 1) (j := 0) (u := .slice sa AY.length sc) (by omega)).set (g := w.heap.size + 1) (j := 1) (u := .slice ta rs.length tc) (by omega))
  refine bodyPost_ret (v := .tuple #[.agg #[.slice sa AY.length sc, .slice ta rs.length tc], .bool AB]) (by simp [results, Try.results10, go_sem, r0, r1]) rfl ⟨sa, sc, ta, tc, ks, by rw [List.length_map], HM.out, ⟨sct.own_low hrw.of (by omega), sct.own_low hrw.or (by omega), fun r hr => sct.own_low (hrw.rows r hr) (by omega), hrw.ap⟩, (HB.out.setCell (Nat.le_succ _) _).setCell (Nat.le_succ _) _⟩

end Go.Proofs.Ytokaoafbgebelaa.pts

/- The specification's TableFlush where the runs' row may be nothing. -/
namespace Go.Proofs.Ytokaoafbgebelaa.flo
open Go.ChangeShapes Go.WideShapes Go.ChangeAt Go.RowKit Go.Proofs.Ytokaoafbgebelaa.fl Go.Proofs.Ytokaoafbgebelaa.fo Go.Proofs.Ytokaoafbgebelaa.rn Go.Proofs.Ytokaoafbgebelaa.tko Go.Proofs.Ytokaoafbgebelaa.fls
set_option linter.unusedVariables false

set_option maxRecDepth 100000 in
set_option maxHeartbeats 4000000 in
theorem spec_flush (ys : List flP.Pr) (rs : List Rn) (ya : Option Addr) (yc : Nat) (ra : Option Addr) (rc : Nat) (w : World) (F : tb.Fit ys rs) (yq : Addr) (hNQ : apa.NQ ya yq ys.length yc) (hY : Row flP.c 3 w w.heap.size ya ys) (hR : VR w w.heap.size ra rs) (hra : rs ≠ [] → ∃ b, ra = some ⟨b, 0, none⟩) (hrs : ∀ r ∈ rs, ∃ h, apa.NQ r.a ⟨h, 0, none⟩ r.l.length r.c) :
    Calls Try.prog 22 #[.agg #[.slice ya ys.length yc, .slice ra rs.length rc]] w fun e w' => ∃ sa sc ta tc ks, e = .returned (.tuple #[.agg #[.slice sa (ansY ys (rs.map (·.l))).length sc, .slice ta (ansR ys (rs.map (·.l))).length tc], .bool (can ys (rs.map (·.l)))]) ∧ ks.map (·.l) = ansR ys (rs.map (·.l)) ∧ sco.SR w' (w.heap.size + 2) sa sc ta tc (ansY ys (rs.map (·.l))) ks ∧ Below w.heap.size w w' := by
  obtain ⟨i1, ki, kz0, kz1, kz2⟩ := ly.infoR
  have hb : Below w.heap.size w ((w.alloc (.cells #[.slice ya ys.length yc, .slice ra rs.length rc] 27)).alloc (.cells #[.slice none 0 0, .slice none 0 0] 27)) := ((Below.refl _ _).alloc (Nat.le_refl _) _).alloc (by simp) _
  have hA := bold (bnew w #[.slice ya ys.length yc, .slice ra rs.length rc] 27) (.cells #[.slice none 0 0, .slice none 0 0] 27)
  have hRs := bnew (w.alloc (.cells #[.slice ya ys.length yc, .slice ra rs.length rc] 27)) #[.slice none 0 0, .slice none 0 0] 27
  rw [World.size_alloc] at hRs
  obtain ⟨W, hW⟩ : ∃ W, ((w.alloc (.cells #[.slice ya ys.length yc, .slice ra rs.length rc] 27)).alloc (.cells #[.slice none 0 0, .slice none 0 0] 27)) = W := ⟨_, rfl⟩
  rw [hW] at hb hA hRs
  have hcp := sco.spec_copy ys rs ya yc ra rc W F yq hNQ (hY.inn hb) (hR.1.inn hb) hra (fun r hr => ⟨hrs r hr, (hR.2 r hr).inn hb⟩)
  have HF : Hid (tb.Fit ys rs) := F
  have hrl := F.rl
  have HY : Hid (Row flP.c 3 w w.heap.size ya ys) := hY
  have HR : Hid (VR w w.heap.size ra rs) := hR
  have HA : Hid (W.heap[w.heap.size]? = some (.cells #[.slice ya ys.length yc, .slice ra rs.length rc] 27 (0, 0))) := hA
  have HRS : Hid (W.heap[w.heap.size + 1]? = some (.cells #[.slice none 0 0, .slice none 0 0] 27 (0, 0))) := hRs
  have hWs := (Array.getElem?_eq_some_iff.1 hRs).1
  have p0 : W.cell? ⟨w.heap.size, 0, none⟩ = some (.slice ya ys.length yc) := bcell hA rfl
  have p1 : W.cell? ⟨w.heap.size, 1, none⟩ = some (.slice ra rs.length rc) := bcell hA rfl
  clear hY hR hA hRs F hrs
  go_enter Try.func22, Try.ntmps22
  go_wp2_with (go_at_call 48; fail)
  clear hW p0 p1
  refine hcp.mono ?_
  rintro e w2 ⟨g1, c1, va, vc, ks, rfl, of2, or2, m2, rows2, hap, hb2⟩
  have HAP : Hid (sco.Ap (some ⟨g1, 0, none⟩) ks) := hap
  clear hap
  have l2 : rs.length = ks.length := by have := congrArg List.length m2; simpa using this.symm
  have hal : Below w2.heap.size w2 (w2.alloc (.cells #[.slice (some ⟨g1, 0, none⟩) ys.length c1, .slice va rs.length vc] 27)) := (Below.refl _ _).alloc (Nat.le_refl _) _
  have hO := bnew w2 #[.slice (some ⟨g1, 0, none⟩) ys.length c1, .slice va rs.length vc] 27
  have of3 := of2.alloc (.cells #[.slice (some ⟨g1, 0, none⟩) ys.length c1, .slice va rs.length vc] 27)
  have or3 := or2.alloc (.cells #[.slice (some ⟨g1, 0, none⟩) ys.length c1, .slice va rs.length vc] 27)
  have rows3 : ∀ r ∈ ks, sct.OwnR (w2.alloc (.cells #[.slice (some ⟨g1, 0, none⟩) ys.length c1, .slice va rs.length vc] 27)) (W.heap.size + 2) r := fun r hr => (rows2 r hr).alloc _
  have hs2 := hb2.size
  obtain ⟨W3, hW3⟩ : ∃ W3, w2.alloc (.cells #[.slice (some ⟨g1, 0, none⟩) ys.length c1, .slice va rs.length vc] 27) = W3 := ⟨_, rfl⟩
  rw [hW3] at hal hO of3 or3 rows3
  have hB3 : Below W.heap.size W W3 := hb2.trans (hal.mono hs2)
  have hBw3 : Below w.heap.size w W3 := hb.trans (hB3.mono hb.size)
  have hok := spec_okb ys rs ya ra yc rc W3 HF.out (HY.out.inn hBw3) (HR.out.inn hBw3)
  have b3 := bstay HA.out hB3 (by omega)
  have c0 : W3.cell? ⟨w.heap.size, 0, none⟩ = some (.slice ya ys.length yc) := bcell b3 rfl
  have c1' : W3.cell? ⟨w.heap.size, 1, none⟩ = some (.slice ra rs.length rc) := bcell b3 rfl
  have HO : Hid (W3.heap[w2.heap.size]? = some (.cells #[.slice (some ⟨g1, 0, none⟩) ys.length c1, .slice va rs.length vc] 27 (0, 0))) := hO
  have HOF : Hid (W3.ownsRow (W.heap.size + 2) 40 3 (.slice (some ⟨g1, 0, none⟩) ys.length c1) ys.length (ys.flatMap flP.c)) := of3
  have HOR : Hid (W3.ownsRow (W.heap.size + 2) 24 1 (.slice va rs.length vc) rs.length (ks.flatMap cR)) := or3
  have HRW : Hid (∀ r ∈ ks, sct.OwnR W3 (W.heap.size + 2) r) := rows3
  have HM : Hid (ks.map (·.l) = rs.map (·.l)) := m2
  have HL : Hid (rs.length = ks.length) := l2
  have hlt3 := (Array.getElem?_eq_some_iff.1 hO).1
  clear hcp of2 or2 rows2 hO of3 or3 rows3 m2 l2 hal b3
  go_wp2_with (go_at_call 13; fail)
  clear hW3
  refine hok.mono ?_
  rintro e w4 ⟨rfl, hb4⟩
  have b4 := bstay (bstay HA.out hB3 (by omega)) hb4 (by omega)
  have r4 := bstay (bstay HRS.out hB3 (by omega)) hb4 (by omega)
  have o4 := bstay HO.out hb4 hlt3
  have x0 : w4.cell? ⟨w.heap.size, 0, none⟩ = some (.slice ya ys.length yc) := bcell b4 rfl
  have x1 : w4.cell? ⟨w.heap.size, 1, none⟩ = some (.slice ra rs.length rc) := bcell b4 rfl
  have r0 : w4.cell? ⟨w.heap.size + 1, 0, none⟩ = some (.slice none 0 0) := bcell r4 rfl
  have r1 : w4.cell? ⟨w.heap.size + 1, 1, none⟩ = some (.slice none 0 0) := bcell r4 rfl
  have f0 := bfree r4 0
  have f1 := bfree r4 1
  have u0 : w4.cell? ⟨w2.heap.size, 0, none⟩ = some (.slice (some ⟨g1, 0, none⟩) ys.length c1) := bcell o4 rfl
  have u1 : w4.cell? ⟨w2.heap.size, 1, none⟩ = some (.slice va rs.length vc) := bcell o4 rfl
  have hg4 : W3.grownBy w4 none := ⟨hb4.os, hb4.tape, hb4.output, hb4.size, fun k hk _ => hb4.block k hk⟩
  have HOF4 : Hid (w4.ownsRow (W.heap.size + 2) 40 3 (.slice (some ⟨g1, 0, none⟩) ys.length c1) ys.length (ys.flatMap flP.c)) := HOF.out.kept hg4 (by simp [Value.ownBlock])
  have HOR4 : Hid (w4.ownsRow (W.heap.size + 2) 24 1 (.slice va rs.length vc) rs.length (ks.flatMap cR)) := HOR.out.kept hg4 (by cases (Value.slice va rs.length vc).ownBlock <;> simp)
  have HRW4 : Hid (∀ r ∈ ks, sct.OwnR w4 (W.heap.size + 2) r) := fun r hr => (HRW.out r hr).kept hg4 (by cases (Value.slice r.a r.l.length r.c).ownBlock <;> simp)
  have hBw4 : Below w.heap.size w w4 := hBw3.trans (hb4.mono hBw3.size)
  have hR4 : w4.heap[w.heap.size + 1]? = some (.cells #[.slice none 0 0, .slice none 0 0] 27 (0, 0)) := r4
  have HR4 : Hid (w4.heap[w.heap.size + 1]? = some (.cells #[.slice none 0 0, .slice none 0 0] 27 (0, 0))) := r4
  obtain ⟨ob, hob⟩ : ∃ ob, okB ys (rs.map (·.l)) = ob := ⟨_, rfl⟩
  have HOB : Hid (okB ys (rs.map (·.l)) = ob) := hob
  rw [hob]
  have hWs4 : W.heap.size ≤ w4.heap.size := Nat.le_trans hB3.size hb4.size
  have hs34 : w2.heap.size < w4.heap.size := Nat.lt_of_lt_of_le hlt3 hb4.size
  clear hok c0 c1' b4 r4 o4 hR4 hob HOF HOR HRW HO HA HRS hb4 hg4
  by_cases hc : ob = true ∧ ys.length ≠ 0 ∧ rs.length < 8
  · obtain ⟨rfl, hy0, hr8⟩ := hc
    have HC : Hid (can ys (rs.map (·.l)) = true) := can_true HOB.out hy0 (by simpa using hr8)
    have hy1 : ¬ (ys.length : Int) = 0 := by omega
    have hr9 : decide ((8 : Int) ≤ (rs.length : Int)) = false := by simp; omega
    have hr10 : ((rs.length : Int)) < 8 := by omega
    have hox : (w4.alloc (.cells #[.slice (some ⟨g1, 0, none⟩) ys.length c1] 24)).ownsRow w4.heap.size 24 1 (.slice (some ⟨w4.heap.size, 0, none⟩) 1 1) 1 [.slice (some ⟨g1, 0, none⟩) ys.length c1] := ⟨by simp, .inr ⟨w4.heap.size, 1, _, rfl, Nat.le_refl _, bnew w4 _ _, Nat.le_refl _, by unfold maxLen; omega, by simp, by simp⟩⟩
    obtain ⟨v5, w5, hrun, hown5, hgr5⟩ := app_runs (i1 := i1) ki kz0 kz1 kz2 hox (HOR4.out.alloc _) (oneR ks) hrl (by simp) 25
    obtain ⟨g5, c5, hv5⟩ : ∃ g5 c5, v5 = .slice (some ⟨g5, 0, none⟩) (1 + rs.length) c5 := by
      obtain ⟨_, ⟨_, h0⟩ | ⟨g, cap, cur, e, _⟩⟩ := hown5
      · omega
      · exact ⟨g, cap, e⟩
    subst hv5
    have hs5 : w4.heap.size + 1 ≤ w5.heap.size := by have := hgr5.size; simpa using this
    have hk5 : ∀ k, k < w4.heap.size → w5.heap[k]? = w4.heap[k]? := fun k hk => (hgr5.block k (by simp; omega) (fun e => by have := Option.some.inj e; omega)).trans (Below.heap_alloc w4 _ k hk)
    have hB5 : Below w4.heap.size w4 w5 := ⟨hgr5.os, hgr5.tape, hgr5.output, by omega, hk5⟩
    have r5 := bstay HR4.out hB5 (by omega)
    have q0 : w5.cell? ⟨w.heap.size + 1, 0, none⟩ = some (.slice none 0 0) := bcell r5 rfl
    have q1 : w5.cell? ⟨w.heap.size + 1, 1, none⟩ = some (.slice none 0 0) := bcell r5 rfl
    have e0 := bfree r5 0
    have e1 := bfree r5 1
    have u1' : (w4.alloc (.cells #[.slice (some ⟨g1, 0, none⟩) ys.length c1] 24)).cell? ⟨w2.heap.size, 1, none⟩ = some (.slice va rs.length vc) := by
      rw [World.cell?_of_block (a := ⟨w2.heap.size, 1, none⟩) (Below.heap_alloc w4 _ w2.heap.size (by omega))]
      exact u1
    have HRUN : Hid ((Builtin.append_ #[25, 25] 25 #[.slice (some ⟨w4.heap.size, 0, none⟩) 1 1, .slice va rs.length vc]).run Try.prog (w4.alloc (.cells #[.slice (some ⟨g1, 0, none⟩) ys.length c1] 24)) = .ok (.slice (some ⟨g5, 0, none⟩) (1 + rs.length) c5) w5) := hrun
    have HOWN : Hid (w5.ownsRow w4.heap.size 24 1 (.slice (some ⟨g5, 0, none⟩) (1 + rs.length) c5) (1 + rs.length) ([.slice (some ⟨g1, 0, none⟩) ys.length c1] ++ ks.flatMap cR)) := hown5
    have HB5 : Hid (Below w4.heap.size w4 w5) := hB5
    clear hrun hown5 hgr5 hk5 hB5 r5 hox
    go_wp2_with (at_builtin; refine cpr.wpList_append_run rfl _ _ 25 25 rfl _ _ _ rfl rfl HRUN.out ?_)
    clear u0 u1 u1' x0 x1 r0 r1 f0 f1
    go_wp2
    have hg5 : w4.grownBy w5 none := ⟨HB5.out.os, HB5.out.tape, HB5.out.output, HB5.out.size, fun k hk _ => HB5.out.block k hk⟩
    have hk : ∀ (B : Nat) (T : TypeId) (s : Nat) v n xs, w.heap.size + 1 < B → w5.ownsRow B T s v n xs → ((w5.setCell ⟨w.heap.size + 1, 0, none⟩ (.slice none 0 0)).setCell ⟨w.heap.size + 1, 1, none⟩ (.slice (some ⟨g5, 0, none⟩) (1 + rs.length) c5)).ownsRow B T s v n xs := fun B T s v n xs hB h => sct.own_set (sct.own_set h hB) hB
    refine bodyPost_ret (v := .tuple #[.agg #[.slice none 0 0, .slice (some ⟨g5, 0, none⟩) (1 + rs.length) c5], .bool true]) (by simp [results, Try.results22, go_sem, q0, q1]) rfl ⟨none, 0, some ⟨g5, 0, none⟩, c5, ⟨some ⟨g1, 0, none⟩, c1, ys⟩ :: ks, ?_, ?_, ⟨?_, ?_, ?_, ?_⟩, ?_⟩
    · rw [(ans_yes HC.out).1, (ans_yes HC.out).2, HC.out]
      simp [Nat.add_comm]
    · rw [(ans_yes HC.out).2, ← HM.out]
      rfl
    · rw [(ans_yes HC.out).1]
      exact ⟨rfl, .inl ⟨rfl, rfl⟩⟩
    · rw [show ((⟨some ⟨g1, 0, none⟩, c1, ys⟩ : Rn) :: ks).length = 1 + rs.length by simp [HL.out, Nat.add_comm]]
      exact sct.own_low (hk _ _ _ _ _ _ (by omega) HOWN.out) (by omega)
    · intro r hr
      rcases List.mem_cons.1 hr with rfl | hr
      · exact sct.own_low (hk _ _ _ _ _ _ (by omega) (HOF4.out.kept hg5 (by simp [Value.ownBlock]))) (by omega)
      · exact sct.own_low (hk _ _ _ _ _ _ (by omega) ((HRW4.out r hr).kept hg5 (by cases (Value.slice r.a r.l.length r.c).ownBlock <;> simp))) (by omega)
    · exact fun r hr x y hx => by cases hx
    · exact ((hBw4.trans (HB5.out.mono hBw4.size)).setCell (Nat.le_succ _) _).setCell (Nat.le_succ _) _
  · have HC : Hid (can ys (rs.map (·.l)) = false) := can_false HOB.out (by simpa using hc)
    have fin : ∀ w', w' = (w4.setCell ⟨w.heap.size + 1, 0, none⟩ (.slice (some ⟨g1, 0, none⟩) ys.length c1)).setCell ⟨w.heap.size + 1, 1, none⟩ (.slice va rs.length vc) → ks.map (·.l) = ansR ys (rs.map (·.l)) ∧ sco.SR w' (w.heap.size + 2) (some ⟨g1, 0, none⟩) c1 va vc (ansY ys (rs.map (·.l))) ks ∧ Below w.heap.size w w' := fun w' hw' => by
      subst hw'
      have hk : ∀ (T : TypeId) (s : Nat) v n xs, w4.ownsRow (W.heap.size + 2) T s v n xs → ((w4.setCell ⟨w.heap.size + 1, 0, none⟩ (.slice (some ⟨g1, 0, none⟩) ys.length c1)).setCell ⟨w.heap.size + 1, 1, none⟩ (.slice va rs.length vc)).ownsRow (W.heap.size + 2) T s v n xs := fun T s v n xs h => sct.own_set (sct.own_set h (by omega)) (by omega)
      have hor := hk _ _ _ _ _ HOR4.out
      have hrw : sco.SR ((w4.setCell ⟨w.heap.size + 1, 0, none⟩ (.slice (some ⟨g1, 0, none⟩) ys.length c1)).setCell ⟨w.heap.size + 1, 1, none⟩ (.slice va rs.length vc)) (w.heap.size + 2) (some ⟨g1, 0, none⟩) c1 va vc ys ks := ⟨sct.own_low (hk _ _ _ _ _ HOF4.out) (by omega), by rw [← HL.out]; exact sct.own_low hor (by omega), fun r hr => sct.own_low (hk _ _ _ _ _ (HRW4.out r hr)) (by omega), HAP.out⟩
      refine ⟨by rw [HM.out, (ans_no HC.out).2], by rw [(ans_no HC.out).1]; exact hrw, (hBw4.setCell (Nat.le_succ _) _).setCell (Nat.le_succ _) _⟩
    have HFN : Hid (∀ w', w' = (w4.setCell ⟨w.heap.size + 1, 0, none⟩ (.slice (some ⟨g1, 0, none⟩) ys.length c1)).setCell ⟨w.heap.size + 1, 1, none⟩ (.slice va rs.length vc) → ks.map (·.l) = ansR ys (rs.map (·.l)) ∧ sco.SR w' (w.heap.size + 2) (some ⟨g1, 0, none⟩) c1 va vc (ansY ys (rs.map (·.l))) ks ∧ Below w.heap.size w w') := fin
    have HQ : Hid ((ansY ys (rs.map (·.l))).length = ys.length ∧ (ansR ys (rs.map (·.l))).length = rs.length) := by
      rw [(ans_no HC.out).1, (ans_no HC.out).2]
      exact ⟨rfl, by simp⟩
    clear fin
    have done : ∀ Qx : Prop, Qx → Qx := fun _ h => h
    cases ob
    · go_wp2
      refine bodyPost_ret (v := .tuple #[.agg #[.slice (some ⟨g1, 0, none⟩) ys.length c1, .slice va rs.length vc], .bool false]) (by simp [results, Try.results22, go_sem, r0, r1]) rfl ⟨some ⟨g1, 0, none⟩, c1, va, vc, ks, ?_, HFN.out _ rfl⟩
      rw [HQ.out.1, HQ.out.2, HC.out]
    · by_cases hy0 : ys.length = 0
      · obtain rfl : ys = [] := List.eq_nil_of_length_eq_zero hy0
        clear hy0 hc
        go_wp2
        refine bodyPost_ret (v := .tuple #[.agg #[.slice (some ⟨g1, 0, none⟩) 0 c1, .slice va rs.length vc], .bool false]) (by simp [results, Try.results22, go_sem, r0, r1]) rfl ⟨some ⟨g1, 0, none⟩, c1, va, vc, ks, ?_, HFN.out _ rfl⟩
        rw [HQ.out.1, HQ.out.2, HC.out]
        rfl
      · have hy1 : ¬ (ys.length : Int) = 0 := by omega
        have hr9 : (8 : Int) ≤ (rs.length : Int) := by simp at hc; have := hc (by intro e; rw [e] at hy0; simp at hy0); omega
        clear hc
        go_wp2
        refine bodyPost_ret (v := .tuple #[.agg #[.slice (some ⟨g1, 0, none⟩) ys.length c1, .slice va rs.length vc], .bool false]) (by simp [results, Try.results22, go_sem, r0, r1]) rfl ⟨some ⟨g1, 0, none⟩, c1, va, vc, ks, ?_, HFN.out _ rfl⟩
        rw [HQ.out.1, HQ.out.2, HC.out]
end Go.Proofs.Ytokaoafbgebelaa.flo
