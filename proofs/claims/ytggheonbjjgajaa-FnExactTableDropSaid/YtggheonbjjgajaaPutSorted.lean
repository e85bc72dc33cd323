/- The program's putSorted at pairs: an ascending run with a pair in its place. -/
import Derived.Test.YtggheonbjjgajaaPutPure
import Derived.Test.YtggheonbjjgajaaInsertPair
import Derived.Test.YtggheonbjjgajaaTabGet
import Derived.Test.YtggheonbjjgajaaSpecCopyT
namespace Go.Proofs.Ytggheonbjjgajaa.psi
open Go.ChangeShapes Go.WideShapes Go.ChangeAt Go.RowKit Go.Proofs.Ytggheonbjjgajaa.fl Go.Proofs.Ytggheonbjjgajaa.fo Go.Proofs.Ytggheonbjjgajaa.rn Go.Proofs.Ytggheonbjjgajaa.rc Go.Proofs.Ytggheonbjjgajaa.ro Go.Proofs.Ytggheonbjjgajaa.tk Go.Proofs.Ytggheonbjjgajaa.pf Go.Proofs.Ytggheonbjjgajaa.ptp
set_option linter.unusedVariables false

theorem flat_set (l : List flP.Pr) (p : Nat) (pk pv : ByteArray) (pg : Bool) : p < l.length → (((l.flatMap flP.c).set (p * 3) (.string pk)).set (p * 3 + 1) (.string pv)).set (p * 3 + 2) (.bool pg) = (l.set p ⟨pk, pv, pg⟩).flatMap flP.c := by
  induction l generalizing p with
  | nil => intro h; simp at h
  | cons e l ih =>
    intro h
    cases p with
    | zero => simp [flP.c]
    | succ p =>
      have := ih p (by simp at h; omega)
      simp only [List.flatMap_cons, List.set_cons_succ, flP.c] at this ⊢
      rw [← this, show (p + 1) * 3 = p * 3 + 3 by omega]
      simp
theorem owns_put {W : World} {B gm c p : Nat} {l : List flP.Pr} {pk pv : ByteArray} {pg : Bool} (h : W.ownsRow B 40 3 (.slice (some ⟨gm, 0, none⟩) l.length c) l.length (l.flatMap flP.c)) (hp : p < l.length) : (((W.setCell ⟨gm, p * 3, none⟩ (.string pk)).setCell ⟨gm, p * 3 + 1, none⟩ (.string pv)).setCell ⟨gm, p * 3 + 2, none⟩ (.bool pg)).ownsRow B 40 3 (.slice (some ⟨gm, 0, none⟩) (l.set p ⟨pk, pv, pg⟩).length c) (l.set p ⟨pk, pv, pg⟩).length ((l.set p ⟨pk, pv, pg⟩).flatMap flP.c) := by
  obtain ⟨h0, ⟨h1, _⟩ | ⟨g', cap', cur, h1, h2, h3, h4, h5, h6, h7⟩⟩ := h
  · cases h1
  cases h1
  have hs := bset (bset (bset h3 (p * 3) (.string pk)) (p * 3 + 1) (.string pv)) (p * 3 + 2) (.bool pg)
  rw [List.length_set]
  refine ⟨by rw [flat_len flP.c_len, List.length_set], .inr ⟨gm, c, _, rfl, h2, hs, h4, h5, by simp [h6], ?_⟩⟩
  rw [← flat_set l p pk pv pg hp, ← h7]
  simp [List.take_set]

set_option maxRecDepth 100000 in
set_option maxHeartbeats 4000000 in
theorem impl_sorted (l : List flP.Pr) (g B : Nat) (pk pv : ByteArray) (pg : Bool) (w : World) (hl : l.length ≤ 1048576) (hup : UpP l l.length) (hB : B ≤ w.heap.size) (ho : w.ownsRow B 40 3 (.slice (some ⟨g, 0, none⟩) l.length l.length) l.length (l.flatMap flP.c)) :
    Calls Try.prog 84 #[.slice (some ⟨g, 0, none⟩) l.length l.length, .agg #[.string pk, .string pv, .bool pg], .func (.func 58) #[] #[]] w fun e w' => ∃ g2 c2, e = .returned (.slice (some ⟨g2, 0, none⟩) (setP l ⟨pk, pv, pg⟩).length c2) ∧ w'.ownsRow B 40 3 (.slice (some ⟨g2, 0, none⟩) (setP l ⟨pk, pv, pg⟩).length c2) (setP l ⟨pk, pv, pg⟩).length ((setP l ⟨pk, pv, pg⟩).flatMap flP.c) ∧ (g2 = g ∨ w.heap.size ≤ g2) ∧ w.grownBy w' (some g) := by
  have hb : Below w.heap.size w (w.alloc (.cells #[.string pk, .string pv, .bool pg] 40)) := (Below.refl _ _).alloc (Nat.le_refl _) _
  have hA := bnew w #[.string pk, .string pv, .bool pg] 40
  have hown := ho.alloc (.cells #[.string pk, .string pv, .bool pg] 40)
  have hgl := (ho.lt g rfl).2
  obtain ⟨W, hW⟩ : ∃ W, w.alloc (.cells #[.string pk, .string pv, .bool pg] 40) = W := ⟨_, rfl⟩
  have hsW : W.heap.size = w.heap.size + 1 := by rw [← hW]; simp
  rw [hW] at hb hA hown
  have hse := tgi.search_pair l (some ⟨g, 0, none⟩) l.length pk pv pg W hl (by obtain ⟨a', c', e, hr⟩ := own_row flP.c_len hown; cases e; exact hr) (up_mon hup _)
  have HA : Hid (W.heap[w.heap.size]? = some (.cells #[.string pk, .string pv, .bool pg] 40 (0, 0))) := hA
  have p0 : W.cell? ⟨w.heap.size, 0, none⟩ = some (.string pk) := bcell hA rfl
  have p1 : W.cell? ⟨w.heap.size, 1, none⟩ = some (.string pv) := bcell hA rfl
  have p2 : W.cell? ⟨w.heap.size, 2, none⟩ = some (.bool pg) := bcell hA rfl
  have HOW : Hid (W.ownsRow B 40 3 (.slice (some ⟨g, 0, none⟩) l.length l.length) l.length (l.flatMap flP.c)) := hown
  clear ho hA hown
  go_enter Try.func84, Try.ntmps84
  go_wp2_with (go_at_call 57; fail)
  clear hW p0 p1 p2
  refine hse.mono ?_
  rintro e w2 ⟨⟨p, bo, rfl, hpos, hfo⟩, hb2⟩
  have HP : Hid (posP l pk = p) := posP_of hpos
  have hpl := hpos.1
  have HG2 : Hid (w.grownBy w2 (some g)) := by
    have h : Below w.heap.size w w2 := hb.trans (hb2.mono hb.size)
    exact ⟨h.os, h.tape, h.output, h.size, fun k hk _ => h.block k hk⟩
  have a2 := bstay HA.out hb2 (by omega)
  have c0 : w2.cell? ⟨w.heap.size, 0, none⟩ = some (.string pk) := bcell a2 rfl
  have c1 : w2.cell? ⟨w.heap.size, 1, none⟩ = some (.string pv) := bcell a2 rfl
  have c2 : w2.cell? ⟨w.heap.size, 2, none⟩ = some (.bool pg) := bcell a2 rfl
  have HO2 : Hid (w2.ownsRow B 40 3 (.slice (some ⟨g, 0, none⟩) l.length l.length) l.length (l.flatMap flP.c)) := HOW.out.kept (row := none) ⟨hb2.os, hb2.tape, hb2.output, hb2.size, fun k hk _ => hb2.block k hk⟩ (by simp [Value.ownBlock])
  have hs2 := hb2.size
  have HFO : Hid (bo = true ↔ ∃ a, l[p]? = some a ∧ cmpP a ⟨pk, pv, pg⟩ = 0) := hfo
  clear hse hpos hfo a2 HA HOW hb2
  cases bo with
  | true =>
    have HIS : Hid (isP l p pk = true) := isP_true.2 (HFO.out.1 rfl)
    have hpl2 : p < l.length := by
      obtain ⟨a, ha, _⟩ := isP_true.1 HIS.out
      exact (List.getElem?_eq_some_iff.1 ha).1
    have hp3 : (p : Int) < (l.length : Int) := by omega
    have HPUT := owns_put (pk := pk) (pv := pv) (pg := pg) HO2.out hpl2
    have HPT : Hid ((((w2.setCell ⟨g, p * 3, none⟩ (.string pk)).setCell ⟨g, p * 3 + 1, none⟩ (.string pv)).setCell ⟨g, p * 3 + 2, none⟩ (.bool pg)).ownsRow B 40 3 (.slice (some ⟨g, 0, none⟩) (l.set p ⟨pk, pv, pg⟩).length l.length) (l.set p ⟨pk, pv, pg⟩).length ((l.set p ⟨pk, pv, pg⟩).flatMap flP.c)) := HPUT
    obtain ⟨cur, hcur, hcs⟩ : ∃ cur, w2.heap[g]? = some (.cells cur 40 (0, 0)) ∧ cur.size = l.length * 3 := by
      obtain ⟨_, ⟨e, _⟩ | ⟨g', cap, cur, e, _, hg, _, _, hs, _⟩⟩ := HO2.out
      · cases e
      · cases e; exact ⟨cur, hg, hs⟩
    obtain ⟨z0, hz0⟩ : ∃ v, w2.cell? ⟨g, p * 3, none⟩ = some v := ⟨_, bcell hcur (Array.getElem?_eq_getElem (by omega))⟩
    obtain ⟨z1, hz1⟩ : ∃ v, w2.cell? ⟨g, p * 3 + 1, none⟩ = some v := ⟨_, bcell hcur (Array.getElem?_eq_getElem (by omega))⟩
    obtain ⟨z2, hz2⟩ : ∃ v, w2.cell? ⟨g, p * 3 + 2, none⟩ = some v := ⟨_, bcell hcur (Array.getElem?_eq_getElem (by omega))⟩
    have f0 := bfree hcur (p * 3)
    have f1 := bfree hcur (p * 3 + 1)
    have f2 := bfree hcur (p * 3 + 2)
    clear HPUT hcur
    go_wp2
    go_ret
    rw [setP_there HP.out HIS.out, List.length_set]
    refine ⟨g, l.length, rfl, by have := HPT.out; rw [List.length_set] at this; exact this, .inl rfl, ?_⟩
    exact ⟨HG2.out.os, HG2.out.tape, HG2.out.output, by simpa using HG2.out.size, fun k hk hne => (((Below.heap_setCell _ _ _ _ (fun e => hne (by rw [e]))).trans (Below.heap_setCell _ _ _ _ (fun e => hne (by rw [e])))).trans (Below.heap_setCell _ _ _ _ (fun e => hne (by rw [e])))).trans (HG2.out.block k hk hne)⟩
  | false =>
    have HIS : Hid (isP l p pk = false) := by
      cases h : isP l p pk with
      | false => rfl
      | true =>
        have := HFO.out.2 (isP_true.1 h)
        cases this
    have hins := insp.insert_pair l g p B pk pv pg w2.heap.size (w2.alloc (.cells #[.string pk, .string pv, .bool pg] 40)) hpl hl (by simp; omega) (HO2.out.alloc _) (bnew w2 _ _)
    go_wp2_with (go_at_call 100; fail)
    refine hins.mono ?_
    rintro e w3 ⟨g2, c2, rfl, hown3, hat3, hgr3⟩
    have HO3 : Hid (w3.ownsRow B 40 3 (.slice (some ⟨g2, 0, none⟩) (l.length + 1) c2) (l.length + 1) ((l.take p ++ ⟨pk, pv, pg⟩ :: l.drop p).flatMap flP.c)) := hown3
    have HG3 : Hid ((w2.alloc (.cells #[.string pk, .string pv, .bool pg] 40)).grownBy w3 (some g)) := hgr3
    have HAT : Hid (g2 = g ∨ w.heap.size ≤ g2) := by
      rcases hat3 with h | h
      · exact .inl h
      · rw [World.size_alloc] at h
        exact .inr (by omega)
    clear hins hown3 hgr3 hat3
    go_wp2
    go_ret
    have hlen : (setP l ⟨pk, pv, pg⟩).length = l.length + 1 := by rw [setP_new HP.out HIS.out]; simp; omega
    rw [hlen, setP_new HP.out HIS.out]
    refine ⟨g2, c2, rfl, HO3.out, HAT.out, ?_⟩
    have hs3 := HG3.out.size
    rw [World.size_alloc] at hs3
    exact ⟨HG3.out.os.trans HG2.out.os, HG3.out.tape.trans HG2.out.tape, HG3.out.output.trans HG2.out.output, by have := HG2.out.size; omega, fun k hk hne => ((HG3.out.block k (by simp; omega) hne).trans (Below.heap_alloc w2 _ k (by omega))).trans (HG2.out.block k hk hne)⟩
end Go.Proofs.Ytggheonbjjgajaa.psi
