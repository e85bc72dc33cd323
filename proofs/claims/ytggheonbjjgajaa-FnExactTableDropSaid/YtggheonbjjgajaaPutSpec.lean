/- The specification's l07With, TablePut and TableDrop. -/
import Derived.Test.YtggheonbjjgajaaPutSet
import Derived.Test.YtggheonbjjgajaaFlushSpec
namespace Go.Proofs.Ytggheonbjjgajaa.pts
open Go.ChangeShapes Go.WideShapes Go.ChangeAt Go.RowKit Go.Proofs.Ytggheonbjjgajaa.fl Go.Proofs.Ytggheonbjjgajaa.fo Go.Proofs.Ytggheonbjjgajaa.rn Go.Proofs.Ytggheonbjjgajaa.tko Go.Proofs.Ytggheonbjjgajaa.ptp Go.Proofs.Ytggheonbjjgajaa.fls
set_option linter.unusedVariables false

theorem own_on {w w' : World} {B s n : Nat} {U : TypeId} {v : Value} {xs : List Value} (h : w.ownsRow B U s v n xs) (hb : Below w.heap.size w w') : w'.ownsRow B U s v n xs :=
  h.kept (row := none) ⟨hb.os, hb.tape, hb.output, hb.size, fun k hk _ => hb.block k hk⟩ (by cases v.ownBlock <;> simp)
/-- an answer's rows, at or above B -/
structure SA (W : World) (B : Nat) (sa ta : Option Addr) (sc tc : Nat) (l : List flP.Pr) (ks : List Rn) : Prop where
  of : W.ownsRow B 40 3 (.slice sa l.length sc) l.length (l.flatMap flP.c)
  or : W.ownsRow B 24 1 (.slice ta ks.length tc) ks.length (ks.flatMap cR)
  rows : ∀ r ∈ ks, sct.OwnR W B r
theorem SA.row {W : World} {B : Nat} {sa ta : Option Addr} {sc tc : Nat} {l : List flP.Pr} {ks : List Rn} (h : SA W B sa ta sc tc l ks) : Row flP.c 3 W W.heap.size sa l ∧ VR W W.heap.size ta ks :=
  ⟨row_of flP.c_len rfl h.of, row_of cR_len rfl h.or, fun r hr => row_of flP.c_len rfl (h.rows r hr)⟩
theorem SA.set {W : World} {B : Nat} {sa ta : Option Addr} {sc tc : Nat} {l : List flP.Pr} {ks : List Rn} (h : SA W B sa ta sc tc l ks) {g j : Nat} {u : Value} (hg : g < B) : SA (W.setCell ⟨g, j, none⟩ u) B sa ta sc tc l ks :=
  ⟨sct.own_set h.of hg, sct.own_set h.or hg, fun r hr => sct.own_set (h.rows r hr) hg⟩
theorem sa_of {W : World} {B B' m : Nat} {sa ta : Option Addr} {sc tc : Nat} {l : List flP.Pr} {ks : List Rn} (hm : m = ks.length) (hB : B' ≤ B) (h1 : W.ownsRow B 40 3 (.slice sa l.length sc) l.length (l.flatMap flP.c)) (h2 : W.ownsRow B 24 1 (.slice ta m tc) m (ks.flatMap cR)) (h3 : ∀ r ∈ ks, sct.OwnR W B r) : SA W B' sa ta sc tc l ks := by
  subst hm
  exact ⟨sct.own_low h1 hB, sct.own_low h2 hB, fun r hr => sct.own_low (h3 r hr) hB⟩
theorem own_set_ty {w : World} {B n s : Nat} {U T : TypeId} {v : Value} {xs : List Value} {g j : Nat} {u : Value} {cur : Array Value} (h : w.ownsRow B U s v n xs) (hg : w.heap[g]? = some (.cells cur T (0, 0))) (hT : U ≠ T) : (w.setCell ⟨g, j, none⟩ u).ownsRow B U s v n xs := by
  refine h.kept (row := some g) ⟨rfl, rfl, rfl, by simp, fun k hk hne => Below.heap_setCell _ _ _ _ (fun e => hne (by rw [e]))⟩ (.inr fun e => ?_)
  obtain ⟨c, hc⟩ := sct.typed h e
  rw [hg] at hc
  simp at hc
  exact hT hc.2.symm

set_option maxRecDepth 100000 in
set_option maxHeartbeats 4000000 in
theorem spec_with (ys : List flP.Pr) (rs : List Rn) (a0 yc b rc : Nat) (pk pv : ByteArray) (pg : Bool) (w : World) (F : tb.Fit ys rs) (hpk : pk.size ≤ 1048576) (hpv : pv.size ≤ 1048576) (hY : Row flP.c 3 w w.heap.size (some ⟨a0, 0, none⟩) ys) (hR : VR w w.heap.size (some ⟨b, 0, none⟩) rs) (hrs : ∀ r ∈ rs, ∃ h, r.a = some ⟨h, 0, none⟩) :
    Calls Try.prog 51 #[.agg #[.slice (some ⟨a0, 0, none⟩) ys.length yc, .slice (some ⟨b, 0, none⟩) rs.length rc], .agg #[.string pk, .string pv, .bool pg]] w fun e w' => ∃ sa sc ta tc ks, e = .returned (.tuple #[.agg #[.slice sa (withY ys (rs.map (·.l)) ⟨pk, pv, pg⟩).length sc, .slice ta (rs.map (·.l)).length tc], .bool (withB ys (rs.map (·.l)) ⟨pk, pv, pg⟩)]) ∧ ks.map (·.l) = rs.map (·.l) ∧ SA w' w.heap.size sa ta sc tc (withY ys (rs.map (·.l)) ⟨pk, pv, pg⟩) ks ∧ Below w.heap.size w w' := by
  have hb : Below w.heap.size w (((w.alloc (.cells #[.slice (some ⟨a0, 0, none⟩) ys.length yc, .slice (some ⟨b, 0, none⟩) rs.length rc] 27)).alloc (.cells #[.string pk, .string pv, .bool pg] 40)).alloc (.cells #[.slice none 0 0, .slice none 0 0] 27)) := (((Below.refl _ _).alloc (Nat.le_refl _) _).alloc (by simp) _).alloc (by simp; omega) _
  have hA := bold (bold (bnew w #[.slice (some ⟨a0, 0, none⟩) ys.length yc, .slice (some ⟨b, 0, none⟩) rs.length rc] 27) (.cells #[.string pk, .string pv, .bool pg] 40)) (.cells #[.slice none 0 0, .slice none 0 0] 27)
  have hPx := bold (bnew (w.alloc (.cells #[.slice (some ⟨a0, 0, none⟩) ys.length yc, .slice (some ⟨b, 0, none⟩) rs.length rc] 27)) #[.string pk, .string pv, .bool pg] 40) (.cells #[.slice none 0 0, .slice none 0 0] 27)
  rw [World.size_alloc] at hPx
  have hRs := bnew ((w.alloc (.cells #[.slice (some ⟨a0, 0, none⟩) ys.length yc, .slice (some ⟨b, 0, none⟩) rs.length rc] 27)).alloc (.cells #[.string pk, .string pv, .bool pg] 40)) #[.slice none 0 0, .slice none 0 0] 27
  rw [World.size_alloc, World.size_alloc] at hRs
  obtain ⟨W, hW⟩ : ∃ W, (((w.alloc (.cells #[.slice (some ⟨a0, 0, none⟩) ys.length yc, .slice (some ⟨b, 0, none⟩) rs.length rc] 27)).alloc (.cells #[.string pk, .string pv, .bool pg] 40)).alloc (.cells #[.slice none 0 0, .slice none 0 0] 27)) = W := ⟨_, rfl⟩
  rw [hW] at hb hA hRs hPx
  have hcp := sct.spec_copy ys rs a0 yc b rc W F (hY.inn hb) (hR.1.inn hb) (fun r hr => ⟨hrs r hr, (hR.2 r hr).inn hb⟩)
  have HF : Hid (tb.Fit ys rs) := F
  have hrl := F.rl
  have hyl := F.yl
  have HY : Hid (Row flP.c 3 w w.heap.size (some ⟨a0, 0, none⟩) ys) := hY
  have HR : Hid (VR w w.heap.size (some ⟨b, 0, none⟩) rs) := hR
  have HRA : Hid (∀ r ∈ rs, ∃ h, r.a = some ⟨h, 0, none⟩) := hrs
  have HA : Hid (W.heap[w.heap.size]? = some (.cells #[.slice (some ⟨a0, 0, none⟩) ys.length yc, .slice (some ⟨b, 0, none⟩) rs.length rc] 27 (0, 0))) := hA
  have HPX : Hid (W.heap[w.heap.size + 1]? = some (.cells #[.string pk, .string pv, .bool pg] 40 (0, 0))) := hPx
  have HRS : Hid (W.heap[w.heap.size + 1 + 1]? = some (.cells #[.slice none 0 0, .slice none 0 0] 27 (0, 0))) := hRs
  have hWs := (Array.getElem?_eq_some_iff.1 hRs).1
  have p0 : W.cell? ⟨w.heap.size, 0, none⟩ = some (.slice (some ⟨a0, 0, none⟩) ys.length yc) := bcell hA rfl
  have p1 : W.cell? ⟨w.heap.size, 1, none⟩ = some (.slice (some ⟨b, 0, none⟩) rs.length rc) := bcell hA rfl
  clear hY hR hA hRs hPx F hrs
  go_enter Try.func51, Try.ntmps51
  go_wp2_with (go_at_call 65; fail)
  clear hW p0 p1
  refine hcp.mono ?_
  rintro e w2 ⟨g1, c1, va, vc, ks, rfl, of2, or2, m2, rows2, hb2⟩
  have l2 : rs.length = ks.length := by have := congrArg List.length m2; simpa using this.symm
  have hal : Below w2.heap.size w2 (w2.alloc (.cells #[.slice (some ⟨g1, 0, none⟩) ys.length c1, .slice va rs.length vc] 27)) := (Below.refl _ _).alloc (Nat.le_refl _) _
  have hO := bnew w2 #[.slice (some ⟨g1, 0, none⟩) ys.length c1, .slice va rs.length vc] 27
  have of3 := own_on of2 hal
  have or3 := own_on or2 hal
  have rows3 : ∀ r ∈ ks, sct.OwnR (w2.alloc (.cells #[.slice (some ⟨g1, 0, none⟩) ys.length c1, .slice va rs.length vc] 27)) (W.heap.size + 2) r := fun r hr => own_on (rows2 r hr) hal
  have hs2 := hb2.size
  obtain ⟨W3, hW3⟩ : ∃ W3, w2.alloc (.cells #[.slice (some ⟨g1, 0, none⟩) ys.length c1, .slice va rs.length vc] 27) = W3 := ⟨_, rfl⟩
  rw [hW3] at hal hO of3 or3 rows3
  have hB3 : Below W.heap.size W W3 := hb2.trans (hal.mono hs2)
  have hBw3 : Below w.heap.size w W3 := hb.trans (hB3.mono hb.size)
  have hok := spec_okb ys rs (some ⟨a0, 0, none⟩) (some ⟨b, 0, none⟩) yc rc W3 HF.out (HY.out.inn hBw3) (HR.out.inn hBw3)
  have b3 := bstay HA.out hB3 (by omega)
  have c0 : W3.cell? ⟨w.heap.size, 0, none⟩ = some (.slice (some ⟨a0, 0, none⟩) ys.length yc) := bcell b3 rfl
  have c1' : W3.cell? ⟨w.heap.size, 1, none⟩ = some (.slice (some ⟨b, 0, none⟩) rs.length rc) := bcell b3 rfl
  have HO : Hid (W3.heap[w2.heap.size]? = some (.cells #[.slice (some ⟨g1, 0, none⟩) ys.length c1, .slice va rs.length vc] 27 (0, 0))) := hO
  have HOF : Hid (W3.ownsRow (W.heap.size + 2) 40 3 (.slice (some ⟨g1, 0, none⟩) ys.length c1) ys.length (ys.flatMap flP.c)) := of3
  have HOR : Hid (W3.ownsRow (W.heap.size + 2) 24 1 (.slice va rs.length vc) rs.length (ks.flatMap cR)) := or3
  have HRW : Hid (∀ r ∈ ks, sct.OwnR W3 (W.heap.size + 2) r) := rows3
  have HM : Hid (ks.map (·.l) = rs.map (·.l)) := m2
  have HL : Hid (rs.length = ks.length) := l2
  have hlt3 := (Array.getElem?_eq_some_iff.1 hO).1
  clear hcp of2 or2 rows2 hO of3 or3 rows3 m2 l2 hal b3
  go_wp2_with (go_at_call 21; fail)
  clear hW3
  refine hok.mono ?_
  rintro e w4 ⟨rfl, hb4⟩
  have b4 := bstay (bstay HA.out hB3 (by omega)) hb4 (by omega)
  have r4 := bstay (bstay HRS.out hB3 (by omega)) hb4 (by omega)
  have o4 := bstay HO.out hb4 hlt3
  have s4 := bstay (bstay HPX.out hB3 (by omega)) hb4 (by omega)
  have s0 : w4.cell? ⟨w.heap.size + 1, 0, none⟩ = some (.string pk) := bcell s4 rfl
  have s1 : w4.cell? ⟨w.heap.size + 1, 1, none⟩ = some (.string pv) := bcell s4 rfl
  have s2 : w4.cell? ⟨w.heap.size + 1, 2, none⟩ = some (.bool pg) := bcell s4 rfl
  have x0 : w4.cell? ⟨w.heap.size, 0, none⟩ = some (.slice (some ⟨a0, 0, none⟩) ys.length yc) := bcell b4 rfl
  have x1 : w4.cell? ⟨w.heap.size, 1, none⟩ = some (.slice (some ⟨b, 0, none⟩) rs.length rc) := bcell b4 rfl
  have r0 : w4.cell? ⟨w.heap.size + 1 + 1, 0, none⟩ = some (.slice none 0 0) := bcell r4 rfl
  have r1 : w4.cell? ⟨w.heap.size + 1 + 1, 1, none⟩ = some (.slice none 0 0) := bcell r4 rfl
  have f0 := bfree r4 0
  have f1 := bfree r4 1
  have u0 : w4.cell? ⟨w2.heap.size, 0, none⟩ = some (.slice (some ⟨g1, 0, none⟩) ys.length c1) := bcell o4 rfl
  have u1 : w4.cell? ⟨w2.heap.size, 1, none⟩ = some (.slice va rs.length vc) := bcell o4 rfl
  have HOF4 : Hid (w4.ownsRow (W.heap.size + 2) 40 3 (.slice (some ⟨g1, 0, none⟩) ys.length c1) ys.length (ys.flatMap flP.c)) := own_on HOF.out hb4
  have HOR4 : Hid (w4.ownsRow (W.heap.size + 2) 24 1 (.slice va rs.length vc) rs.length (ks.flatMap cR)) := own_on HOR.out hb4
  have HRW4 : Hid (∀ r ∈ ks, sct.OwnR w4 (W.heap.size + 2) r) := fun r hr => own_on (HRW.out r hr) hb4
  have hBw4 : Below w.heap.size w w4 := hBw3.trans (hb4.mono hBw3.size)
  have HA4 : Hid (w4.heap[w.heap.size]? = some (.cells #[.slice (some ⟨a0, 0, none⟩) ys.length yc, .slice (some ⟨b, 0, none⟩) rs.length rc] 27 (0, 0))) := b4
  have HR4 : Hid (w4.heap[w.heap.size + 1 + 1]? = some (.cells #[.slice none 0 0, .slice none 0 0] 27 (0, 0))) := r4
  have HO4 : Hid (w4.heap[w2.heap.size]? = some (.cells #[.slice (some ⟨g1, 0, none⟩) ys.length c1, .slice va rs.length vc] 27 (0, 0))) := o4
  have hWs4 : W.heap.size ≤ w4.heap.size := Nat.le_trans hB3.size hb4.size
  have hs34 : w2.heap.size < w4.heap.size := Nat.lt_of_lt_of_le hlt3 hb4.size
  clear hok c0 c1' b4 r4 o4 s4 HOF HOR HRW HO HA HRS HPX hb4
  cases hob : okB ys (rs.map (·.l)) with
  | false =>
    have HC : Hid (withB ys (rs.map (·.l)) ⟨pk, pv, pg⟩ = false) := by show withB ys (rs.map (·.l)) ⟨pk, pv, pg⟩ = false; unfold withB; rw [hob]; rfl
    have HYQ : Hid (withY ys (rs.map (·.l)) ⟨pk, pv, pg⟩ = ys) := by show withY ys (rs.map (·.l)) ⟨pk, pv, pg⟩ = ys; unfold withY; rw [HC.out]; rfl
    clear hob
    go_wp2
    have hk : ∀ (T : TypeId) (s : Nat) v n xs, w4.ownsRow (W.heap.size + 2) T s v n xs → ((w4.setCell ⟨w.heap.size + 1 + 1, 0, none⟩ (.slice (some ⟨g1, 0, none⟩) ys.length c1)).setCell ⟨w.heap.size + 1 + 1, 1, none⟩ (.slice va rs.length vc)).ownsRow (W.heap.size + 2) T s v n xs := fun T s v n xs h => sct.own_set (sct.own_set h (by omega)) (by omega)
    have hrw := sa_of (B' := w.heap.size) HL.out (by omega) (hk _ _ _ _ _ HOF4.out) (hk _ _ _ _ _ HOR4.out) (fun r hr => hk _ _ _ _ _ (HRW4.out r hr))
    refine bodyPost_ret (v := .tuple #[.agg #[.slice (some ⟨g1, 0, none⟩) ys.length c1, .slice va rs.length vc], .bool false]) (by simp [results, Try.results51, go_sem, r0, r1]) rfl ⟨some ⟨g1, 0, none⟩, c1, va, vc, ks, by rw [HYQ.out, HC.out, List.length_map], HM.out, by rw [HYQ.out]; exact hrw, (hBw4.setCell (show w.heap.size ≤ w.heap.size + 1 + 1 by omega) _).setCell (show w.heap.size ≤ w.heap.size + 1 + 1 by omega) _⟩
  | true =>
    have hc1 : ys.length ≤ c1 := by
      obtain ⟨_, ⟨e, _⟩ | ⟨g, cap, cur, e, _, _, hle, _⟩⟩ := HOF4.out
      · cases e
      · cases e; exact hle
    have hbig := HOF4.out.lt g1 rfl
    have hset := pss.spec_set ys g1 c1 pk pv pg w4 hyl hc1 (row_of flP.c_len rfl HOF4.out)
    have HOK : Hid (tk.OkT ys (rs.map (·.l))) := okB_true.1 hob
    have HOB : Hid (okB ys (rs.map (·.l)) = true) := hob
    clear hob
    go_wp2_with (go_at_call 70; fail)
    clear s0 s1 s2 u0
    refine hset.mono ?_
    rintro e w5 ⟨g2, c2, rfl, hown5, hb5⟩
    obtain ⟨n5, hn5⟩ : ∃ n5, (setP ys ⟨pk, pv, pg⟩).length = n5 := ⟨_, rfl⟩
    have HN5 : Hid ((setP ys ⟨pk, pv, pg⟩).length = n5) := hn5
    rw [hn5] at hown5 ⊢
    have hs5 := hb5.size
    have o5 := bstay HO4.out hb5 hs34
    have v0 : w5.cell? ⟨w2.heap.size, 0, none⟩ = some (.slice (some ⟨g1, 0, none⟩) ys.length c1) := bcell o5 rfl
    have v0f := bfree o5 0
    have hBw5 : Below w.heap.size w w5 := hBw4.trans (hb5.mono hBw4.size)
    have oX : (w5.setCell ⟨w2.heap.size, 0, none⟩ (.slice (some ⟨g2, 0, none⟩) n5 c2)).heap[w2.heap.size]? = some (.cells #[.slice (some ⟨g2, 0, none⟩) n5 c2, .slice va rs.length vc] 27 (0, 0)) := bset o5 0 _
    have hBX : Below w.heap.size w (w5.setCell ⟨w2.heap.size, 0, none⟩ (.slice (some ⟨g2, 0, none⟩) n5 c2)) := hBw5.setCell (show w.heap.size ≤ w2.heap.size by omega) _
    have bX : (w5.setCell ⟨w2.heap.size, 0, none⟩ (.slice (some ⟨g2, 0, none⟩) n5 c2)).heap[w.heap.size]? = some (.cells #[.slice (some ⟨a0, 0, none⟩) ys.length yc, .slice (some ⟨b, 0, none⟩) rs.length rc] 27 (0, 0)) := boff (bstay HA4.out hb5 (by omega)) _ _ _ (by omega)
    have rX : (w5.setCell ⟨w2.heap.size, 0, none⟩ (.slice (some ⟨g2, 0, none⟩) n5 c2)).heap[w.heap.size + 1 + 1]? = some (.cells #[.slice none 0 0, .slice none 0 0] 27 (0, 0)) := boff (bstay HR4.out hb5 (by omega)) _ _ _ (by omega)
    have HOX : Hid ((w5.setCell ⟨w2.heap.size, 0, none⟩ (.slice (some ⟨g2, 0, none⟩) n5 c2)).ownsRow (W.heap.size + 2) 40 3 (.slice (some ⟨g2, 0, none⟩) (setP ys ⟨pk, pv, pg⟩).length c2) (setP ys ⟨pk, pv, pg⟩).length ((setP ys ⟨pk, pv, pg⟩).flatMap flP.c)) := by rw [hn5]; exact sct.own_low (own_set_ty hown5 o5 (by decide)) (by omega)
    have HRX : Hid ((w5.setCell ⟨w2.heap.size, 0, none⟩ (.slice (some ⟨g2, 0, none⟩) n5 c2)).ownsRow (W.heap.size + 2) 24 1 (.slice va rs.length vc) rs.length (ks.flatMap cR)) := own_set_ty (own_on HOR4.out hb5) o5 (by decide)
    have HWX : Hid (∀ r ∈ ks, sct.OwnR (w5.setCell ⟨w2.heap.size, 0, none⟩ (.slice (some ⟨g2, 0, none⟩) n5 c2)) (W.heap.size + 2) r) := fun r hr => own_set_ty (own_on (HRW4.out r hr) hb5) o5 (by decide)
    obtain ⟨X, hX⟩ : ∃ X, w5.setCell ⟨w2.heap.size, 0, none⟩ (.slice (some ⟨g2, 0, none⟩) n5 c2) = X := ⟨_, rfl⟩
    have hsX : X.heap.size = w5.heap.size := by rw [← hX]; simp
    rw [hX] at oX hBX bX rX HOX HRX HWX
    have hrows := rows_of (n := 0) HL.out HOX.out HRX.out HWX.out
    have hok2 := spec_okb (setP ys ⟨pk, pv, pg⟩) ks (some ⟨g2, 0, none⟩) va c2 vc X ((fit_with HF.out HOK.out hpk hpv).of HM.out) hrows.1 hrows.2
    rw [HM.out, HN5.out, ← HL.out] at hok2
    have t0 : X.cell? ⟨w2.heap.size, 0, none⟩ = some (.slice (some ⟨g2, 0, none⟩) n5 c2) := bcell oX rfl
    have t1 : X.cell? ⟨w2.heap.size, 1, none⟩ = some (.slice va rs.length vc) := bcell oX rfl
    have HOXB : Hid (X.heap[w2.heap.size]? = some (.cells #[.slice (some ⟨g2, 0, none⟩) n5 c2, .slice va rs.length vc] 27 (0, 0))) := oX
    have HBXB : Hid (X.heap[w.heap.size]? = some (.cells #[.slice (some ⟨a0, 0, none⟩) ys.length yc, .slice (some ⟨b, 0, none⟩) rs.length rc] 27 (0, 0))) := bX
    have HRXB : Hid (X.heap[w.heap.size + 1 + 1]? = some (.cells #[.slice none 0 0, .slice none 0 0] 27 (0, 0))) := rX
    clear hset hown5 hn5 o5 oX bX rX hb5 hrows x0 x1 u1 r0 r1 f0 f1
    go_wp2_with (go_at_call 21; fail)
    clear hX t0 t1 v0 v0f
    refine hok2.mono ?_
    rintro e w6 ⟨rfl, hb6⟩
    have o6 := bstay HOXB.out hb6 (by omega)
    have b6 := bstay HBXB.out hb6 (by omega)
    have r6 := bstay HRXB.out hb6 (by omega)
    have HB6 : Hid (Below w.heap.size w w6) := hBX.trans (hb6.mono hBX.size)
    have hs6 := hb6.size
    cases hob2 : okB (setP ys ⟨pk, pv, pg⟩) (rs.map (·.l)) with
    | true =>
      have HC : Hid (withB ys (rs.map (·.l)) ⟨pk, pv, pg⟩ = true) := by show withB ys (rs.map (·.l)) ⟨pk, pv, pg⟩ = true; unfold withB; rw [HOB.out, hob2]; rfl
      have HYQ : Hid (withY ys (rs.map (·.l)) ⟨pk, pv, pg⟩ = setP ys ⟨pk, pv, pg⟩) := by show withY ys (rs.map (·.l)) ⟨pk, pv, pg⟩ = setP ys ⟨pk, pv, pg⟩; unfold withY; rw [HC.out]; rfl
      have y0 : w6.cell? ⟨w2.heap.size, 0, none⟩ = some (.slice (some ⟨g2, 0, none⟩) n5 c2) := bcell o6 rfl
      have y1 : w6.cell? ⟨w2.heap.size, 1, none⟩ = some (.slice va rs.length vc) := bcell o6 rfl
      have r0 : w6.cell? ⟨w.heap.size + 1 + 1, 0, none⟩ = some (.slice none 0 0) := bcell r6 rfl
      have r1 : w6.cell? ⟨w.heap.size + 1 + 1, 1, none⟩ = some (.slice none 0 0) := bcell r6 rfl
      have f0 := bfree r6 0
      have f1 := bfree r6 1
      have HBX6 : Hid (Below X.heap.size X w6) := hb6
      clear hok2 hob2 o6 b6 r6 hb6
      go_wp2
      have hk : ∀ (T : TypeId) (s : Nat) v n xs, X.ownsRow (W.heap.size + 2) T s v n xs → ((w6.setCell ⟨w.heap.size + 1 + 1, 0, none⟩ (.slice (some ⟨g2, 0, none⟩) n5 c2)).setCell ⟨w.heap.size + 1 + 1, 1, none⟩ (.slice va rs.length vc)).ownsRow (W.heap.size + 2) T s v n xs := fun T s v n xs h => sct.own_set (sct.own_set (own_on h HBX6.out) (by omega)) (by omega)
      have hrw := sa_of (B' := w.heap.size) HL.out (by omega) (hk _ _ _ _ _ HOX.out) (hk _ _ _ _ _ HRX.out) (fun r hr => hk _ _ _ _ _ (HWX.out r hr))
      refine bodyPost_ret (v := .tuple #[.agg #[.slice (some ⟨g2, 0, none⟩) n5 c2, .slice va rs.length vc], .bool true]) (by simp [results, Try.results51, go_sem, r0, r1]) rfl ⟨some ⟨g2, 0, none⟩, c2, va, vc, ks, by rw [HYQ.out, HC.out, List.length_map, HN5.out], HM.out, by rw [HYQ.out]; exact hrw, (HB6.out.setCell (show w.heap.size ≤ w.heap.size + 1 + 1 by omega) _).setCell (show w.heap.size ≤ w.heap.size + 1 + 1 by omega) _⟩
    | false =>
      have HC : Hid (withB ys (rs.map (·.l)) ⟨pk, pv, pg⟩ = false) := by show withB ys (rs.map (·.l)) ⟨pk, pv, pg⟩ = false; unfold withB; rw [HOB.out, hob2]; rfl
      have HYQ : Hid (withY ys (rs.map (·.l)) ⟨pk, pv, pg⟩ = ys) := by show withY ys (rs.map (·.l)) ⟨pk, pv, pg⟩ = ys; unfold withY; rw [HC.out]; rfl
      have y0 : w6.cell? ⟨w.heap.size, 0, none⟩ = some (.slice (some ⟨a0, 0, none⟩) ys.length yc) := bcell b6 rfl
      have y1 : w6.cell? ⟨w.heap.size, 1, none⟩ = some (.slice (some ⟨b, 0, none⟩) rs.length rc) := bcell b6 rfl
      have hcp := sct.spec_copy ys rs a0 yc b rc w6 HF.out (HY.out.inn HB6.out) (HR.out.1.inn HB6.out) (fun r hr => ⟨HRA.out r hr, (HR.out.2 r hr).inn HB6.out⟩)
      have HR6 : Hid (w6.heap[w.heap.size + 1 + 1]? = some (.cells #[.slice none 0 0, .slice none 0 0] 27 (0, 0))) := r6
      clear hok2 hob2 o6 b6 r6 hb6
      go_wp2_with (go_at_call 65; fail)
      clear y0 y1
      refine hcp.mono ?_
      rintro e w7 ⟨g7, c7, va7, vc7, k7, rfl, of7, or7, m7, rows7, hb7⟩
      have l7 : rs.length = k7.length := by have := congrArg List.length m7; simpa using this.symm
      have r7 := bstay HR6.out hb7 (by omega)
      have r0 : w7.cell? ⟨w.heap.size + 1 + 1, 0, none⟩ = some (.slice none 0 0) := bcell r7 rfl
      have r1 : w7.cell? ⟨w.heap.size + 1 + 1, 1, none⟩ = some (.slice none 0 0) := bcell r7 rfl
      have f0 := bfree r7 0
      have f1 := bfree r7 1
      have hk : ∀ (T : TypeId) (s : Nat) v n xs, w7.ownsRow (w6.heap.size + 2) T s v n xs → ((w7.setCell ⟨w.heap.size + 1 + 1, 0, none⟩ (.slice (some ⟨g7, 0, none⟩) ys.length c7)).setCell ⟨w.heap.size + 1 + 1, 1, none⟩ (.slice va7 rs.length vc7)).ownsRow (w6.heap.size + 2) T s v n xs := fun T s v n xs h => sct.own_set (sct.own_set h (by omega)) (by omega)
      have HROW : Hid (SA ((w7.setCell ⟨w.heap.size + 1 + 1, 0, none⟩ (.slice (some ⟨g7, 0, none⟩) ys.length c7)).setCell ⟨w.heap.size + 1 + 1, 1, none⟩ (.slice va7 rs.length vc7)) w.heap.size (some ⟨g7, 0, none⟩) va7 c7 vc7 ys k7) := sa_of l7 (by omega) (hk _ _ _ _ _ of7) (hk _ _ _ _ _ or7) (fun r hr => hk _ _ _ _ _ (rows7 r hr))
      have HM7 : Hid (k7.map (·.l) = rs.map (·.l)) := m7
      have HB7 : Hid (Below w.heap.size w w7) := HB6.out.trans (hb7.mono HB6.out.size)
      clear hcp of7 or7 rows7 m7 l7 r7 hb7 hk
      go_wp2
      refine bodyPost_ret (v := .tuple #[.agg #[.slice (some ⟨g7, 0, none⟩) ys.length c7, .slice va7 rs.length vc7], .bool false]) (by simp [results, Try.results51, go_sem, r0, r1]) rfl ⟨some ⟨g7, 0, none⟩, c7, va7, vc7, k7, by rw [HYQ.out, HC.out, List.length_map], HM7.out, by rw [HYQ.out]; exact HROW.out, (HB7.out.setCell (show w.heap.size ≤ w.heap.size + 1 + 1 by omega) _).setCell (show w.heap.size ≤ w.heap.size + 1 + 1 by omega) _⟩

set_option maxRecDepth 100000 in
set_option maxHeartbeats 4000000 in
theorem spec_put (ys : List flP.Pr) (rs : List Rn) (a0 yc b rc : Nat) (xk xv : ByteArray) (w : World) (F : tb.Fit ys rs) (hpk : xk.size ≤ 1048576) (hpv : xv.size ≤ 1048576) (hY : Row flP.c 3 w w.heap.size (some ⟨a0, 0, none⟩) ys) (hR : VR w w.heap.size (some ⟨b, 0, none⟩) rs) (hrs : ∀ r ∈ rs, ∃ h, r.a = some ⟨h, 0, none⟩) :
    Calls Try.prog 16 #[.agg #[.slice (some ⟨a0, 0, none⟩) ys.length yc, .slice (some ⟨b, 0, none⟩) rs.length rc], .string xk, .string xv] w fun e w' => ∃ sa sc ta tc ks, e = .returned (.tuple #[.agg #[.slice sa (putY ys (rs.map (·.l)) xk xv).length sc, .slice ta (putR ys (rs.map (·.l)) xk xv).length tc], .bool (putB ys (rs.map (·.l)) xk xv)]) ∧ ks.map (·.l) = putR ys (rs.map (·.l)) xk xv ∧ Row flP.c 3 w' w'.heap.size sa (putY ys (rs.map (·.l)) xk xv) ∧ VR w' w'.heap.size ta ks ∧ Below w.heap.size w w' := by
  have hb : Below w.heap.size w ((w.alloc (.cells #[.slice (some ⟨a0, 0, none⟩) ys.length yc, .slice (some ⟨b, 0, none⟩) rs.length rc] 27)).alloc (.cells #[.slice none 0 0, .slice none 0 0] 27)) := ((Below.refl _ _).alloc (Nat.le_refl _) _).alloc (by simp) _
  have hA := bold (bnew w #[.slice (some ⟨a0, 0, none⟩) ys.length yc, .slice (some ⟨b, 0, none⟩) rs.length rc] 27) (.cells #[.slice none 0 0, .slice none 0 0] 27)
  have hRs := bnew (w.alloc (.cells #[.slice (some ⟨a0, 0, none⟩) ys.length yc, .slice (some ⟨b, 0, none⟩) rs.length rc] 27)) #[.slice none 0 0, .slice none 0 0] 27
  rw [World.size_alloc] at hRs
  obtain ⟨W, hW⟩ : ∃ W, ((w.alloc (.cells #[.slice (some ⟨a0, 0, none⟩) ys.length yc, .slice (some ⟨b, 0, none⟩) rs.length rc] 27)).alloc (.cells #[.slice none 0 0, .slice none 0 0] 27)) = W := ⟨_, rfl⟩
  rw [hW] at hb hA hRs
  have hwt := spec_with ys rs a0 yc b rc xk xv false W F hpk hpv (hY.inn hb) (hR.inn hb) hrs
  have HRS : Hid (W.heap[w.heap.size + 1]? = some (.cells #[.slice none 0 0, .slice none 0 0] 27 (0, 0))) := hRs
  have hWs := (Array.getElem?_eq_some_iff.1 hRs).1
  have p0 : W.cell? ⟨w.heap.size, 0, none⟩ = some (.slice (some ⟨a0, 0, none⟩) ys.length yc) := bcell hA rfl
  have p1 : W.cell? ⟨w.heap.size, 1, none⟩ = some (.slice (some ⟨b, 0, none⟩) rs.length rc) := bcell hA rfl
  unfold putY putR putB
  obtain ⟨AY, hAY⟩ : ∃ AY, withY ys (rs.map (·.l)) ⟨xk, xv, false⟩ = AY := ⟨_, rfl⟩
  obtain ⟨AB, hAB⟩ : ∃ AB, withB ys (rs.map (·.l)) ⟨xk, xv, false⟩ = AB := ⟨_, rfl⟩
  rw [hAY, hAB] at hwt ⊢
  clear hY hR hA hRs F hrs hAY hAB
  go_enter Try.func16, Try.ntmps16
  go_wp2_with (go_at_call 51; fail)
  clear hW p0 p1
  refine hwt.mono ?_
  rintro e w2 ⟨sa, sc, ta, tc, ks, rfl, hm, hsa, hb2⟩
  have r2 := bstay HRS.out hb2 hWs
  have r0 : w2.cell? ⟨w.heap.size + 1, 0, none⟩ = some (.slice none 0 0) := bcell r2 rfl
  have r1 : w2.cell? ⟨w.heap.size + 1, 1, none⟩ = some (.slice none 0 0) := bcell r2 rfl
  have f0 := bfree r2 0
  have f1 := bfree r2 1
  have HB : Hid (Below w.heap.size w w2) := hb.trans (hb2.mono hb.size)
  have HSA : Hid (SA w2 W.heap.size sa ta sc tc AY ks) := hsa
  have HM : Hid (ks.map (·.l) = rs.map (·.l)) := hm
  clear hwt r2 hsa hm hb2
  rw [List.length_map]
  go_wp2
  have hrw := ((HSA.out.set (g := w.heap.size + 1) (j := 0) (u := .slice sa AY.length sc) (by omega)).set (g := w.heap.size + 1) (j := 1) (u := .slice ta rs.length tc) (by omega)).row
  refine bodyPost_ret (v := .tuple #[.agg #[.slice sa AY.length sc, .slice ta rs.length tc], .bool AB]) (by simp [results, Try.results16, go_sem, r0, r1]) rfl ⟨sa, sc, ta, tc, ks, by rw [List.length_map], HM.out, hrw.1, hrw.2, (HB.out.setCell (Nat.le_succ _) _).setCell (Nat.le_succ _) _⟩

set_option maxRecDepth 100000 in
set_option maxHeartbeats 4000000 in
theorem spec_drop (ys : List flP.Pr) (rs : List Rn) (a0 yc b rc : Nat) (xk : ByteArray) (w : World) (F : tb.Fit ys rs) (hpk : xk.size ≤ 1048576) (hY : Row flP.c 3 w w.heap.size (some ⟨a0, 0, none⟩) ys) (hR : VR w w.heap.size (some ⟨b, 0, none⟩) rs) (hrs : ∀ r ∈ rs, ∃ h, r.a = some ⟨h, 0, none⟩) :
    Calls Try.prog 18 #[.agg #[.slice (some ⟨a0, 0, none⟩) ys.length yc, .slice (some ⟨b, 0, none⟩) rs.length rc], .string xk] w fun e w' => ∃ sa sc ta tc ks, e = .returned (.tuple #[.agg #[.slice sa (dropY ys (rs.map (·.l)) xk).length sc, .slice ta (dropR ys (rs.map (·.l)) xk).length tc], .bool (dropB ys (rs.map (·.l)) xk)]) ∧ ks.map (·.l) = dropR ys (rs.map (·.l)) xk ∧ Row flP.c 3 w' w'.heap.size sa (dropY ys (rs.map (·.l)) xk) ∧ VR w' w'.heap.size ta ks ∧ Below w.heap.size w w' := by
  have hb : Below w.heap.size w ((w.alloc (.cells #[.slice (some ⟨a0, 0, none⟩) ys.length yc, .slice (some ⟨b, 0, none⟩) rs.length rc] 27)).alloc (.cells #[.slice none 0 0, .slice none 0 0] 27)) := ((Below.refl _ _).alloc (Nat.le_refl _) _).alloc (by simp) _
  have hA := bold (bnew w #[.slice (some ⟨a0, 0, none⟩) ys.length yc, .slice (some ⟨b, 0, none⟩) rs.length rc] 27) (.cells #[.slice none 0 0, .slice none 0 0] 27)
  have hRs := bnew (w.alloc (.cells #[.slice (some ⟨a0, 0, none⟩) ys.length yc, .slice (some ⟨b, 0, none⟩) rs.length rc] 27)) #[.slice none 0 0, .slice none 0 0] 27
  rw [World.size_alloc] at hRs
  obtain ⟨W, hW⟩ : ∃ W, ((w.alloc (.cells #[.slice (some ⟨a0, 0, none⟩) ys.length yc, .slice (some ⟨b, 0, none⟩) rs.length rc] 27)).alloc (.cells #[.slice none 0 0, .slice none 0 0] 27)) = W := ⟨_, rfl⟩
  rw [hW] at hb hA hRs
  have hwt := spec_with ys rs a0 yc b rc xk ⟨#[]⟩ true W F hpk (by decide) (hY.inn hb) (hR.inn hb) hrs
  have HRS : Hid (W.heap[w.heap.size + 1]? = some (.cells #[.slice none 0 0, .slice none 0 0] 27 (0, 0))) := hRs
  have hWs := (Array.getElem?_eq_some_iff.1 hRs).1
  have p0 : W.cell? ⟨w.heap.size, 0, none⟩ = some (.slice (some ⟨a0, 0, none⟩) ys.length yc) := bcell hA rfl
  have p1 : W.cell? ⟨w.heap.size, 1, none⟩ = some (.slice (some ⟨b, 0, none⟩) rs.length rc) := bcell hA rfl
  unfold dropY dropR dropB
  obtain ⟨AY, hAY⟩ : ∃ AY, withY ys (rs.map (·.l)) ⟨xk, ⟨#[]⟩, true⟩ = AY := ⟨_, rfl⟩
  obtain ⟨AB, hAB⟩ : ∃ AB, withB ys (rs.map (·.l)) ⟨xk, ⟨#[]⟩, true⟩ = AB := ⟨_, rfl⟩
  rw [hAY, hAB] at hwt ⊢
  clear hY hR hA hRs F hrs hAY hAB
  go_enter Try.func18, Try.ntmps18
  go_wp2_with (go_at_call 51; fail)
  clear hW p0 p1
  refine hwt.mono ?_
  rintro e w2 ⟨sa, sc, ta, tc, ks, rfl, hm, hsa, hb2⟩
  have r2 := bstay HRS.out hb2 hWs
  have r0 : w2.cell? ⟨w.heap.size + 1, 0, none⟩ = some (.slice none 0 0) := bcell r2 rfl
  have r1 : w2.cell? ⟨w.heap.size + 1, 1, none⟩ = some (.slice none 0 0) := bcell r2 rfl
  have f0 := bfree r2 0
  have f1 := bfree r2 1
  have HB : Hid (Below w.heap.size w w2) := hb.trans (hb2.mono hb.size)
  have HSA : Hid (SA w2 W.heap.size sa ta sc tc AY ks) := hsa
  have HM : Hid (ks.map (·.l) = rs.map (·.l)) := hm
  clear hwt r2 hsa hm hb2
  rw [List.length_map]
  go_wp2
  have hrw := ((HSA.out.set (g := w.heap.size + 1) (j := 0) (u := .slice sa AY.length sc) (by omega)).set (g := w.heap.size + 1) (j := 1) (u := .slice ta rs.length tc) (by omega)).row
  refine bodyPost_ret (v := .tuple #[.agg #[.slice sa AY.length sc, .slice ta rs.length tc], .bool AB]) (by simp [results, Try.results18, go_sem, r0, r1]) rfl ⟨sa, sc, ta, tc, ks, by rw [List.length_map], HM.out, hrw.1, hrw.2, (HB.out.setCell (Nat.le_succ _) _).setCell (Nat.le_succ _) _⟩

end Go.Proofs.Ytggheonbjjgajaa.pts
