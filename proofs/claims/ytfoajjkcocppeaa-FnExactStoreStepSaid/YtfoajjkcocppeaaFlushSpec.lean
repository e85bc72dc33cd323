/- The specification's TableFlush. -/
import Derived.Test.YtfoajjkcocppeaaSpecCopyT
import Derived.Test.YtfoajjkcocppeaaTabOk
import Derived.Test.YtfoajjkcocppeaaTabAns
namespace Go.Proofs.Ytfoajjkcocppeaa.fls
open Go.ChangeShapes Go.WideShapes Go.ChangeAt Go.RowKit Go.Proofs.Ytfoajjkcocppeaa.fl Go.Proofs.Ytfoajjkcocppeaa.fo Go.Proofs.Ytfoajjkcocppeaa.rn Go.Proofs.Ytfoajjkcocppeaa.tko
set_option linter.unusedVariables false

theorem row_of {α : Type} {c : α → List Value} {n : Nat} (hn : ∀ e, (c e).length = n) {W : World} {B m : Nat} {T : TypeId} {a : Option Addr} {q : Nat} {l : List α} (hm : m = l.length) (h : W.ownsRow B T n (.slice a m q) m (l.flatMap c)) : Row c n W W.heap.size a l := by
  subst hm
  obtain ⟨a', cap, e, hr⟩ := own_row hn h
  cases e
  exact hr
/-- the copy's rows as rows -/
theorem rows_of {W : World} {B n m : Nat} {g1 c1 : Nat} {va : Option Addr} {vc : Nat} {ys : List flP.Pr} {ks : List Rn} (hm : m = ks.length) (hf : W.ownsRow B 63 3 (.slice (some ⟨g1, 0, none⟩) ys.length c1) ys.length (ys.flatMap flP.c)) (hr : W.ownsRow B 29 1 (.slice va m vc) m (ks.flatMap cR)) (hk : ∀ r ∈ ks, sct.OwnR W B r) :
    Row flP.c 3 W W.heap.size (some ⟨g1, 0, none⟩) ys ∧ VR W W.heap.size va ks :=
  ⟨row_of flP.c_len rfl hf, row_of cR_len hm hr, fun r h => row_of flP.c_len rfl (hk r h)⟩
theorem app_nil {P : Program} (w : World) (t ty e : TypeId) (i : TypeInfo) (ht : P.underlying t = some (.slice e)) (hi : P.info? e = some i) (base : Option Addr) (n m : Nat) (hle : n ≤ m) :
    (Builtin.append_ #[t, t] ty #[.slice base n m, .slice none 0 0]).run P w = .ok (.slice base n m) w := by
  cases base <;> simp [Builtin.append_, run_underlying ht, sizeOf, typeInfo, hi, hle, Builtin.lenOf, Builtin.firstCells, storeCells]
theorem app_runs {X : World} {B B' n0 m vc : Nat} {va : Option Addr} {u : Value} {xs : List Value} {i1 : TypeInfo} (hi : Try.prog.info? 29 = some i1) (hz : i1.zero = some (.slice none 0 0)) (hn : i1.size = 1) (hb : i1.bytes = 24) (hown : X.ownsRow B 29 1 (.slice (some ⟨n0, 0, none⟩) 1 1) 1 [u]) (hsrc : X.ownsRow B' 29 1 (.slice va m vc) m xs) (h1 : ∀ u ∈ xs, u.oneCell' = true) (hm : m ≤ 1048576) (hB : B ≤ X.heap.size) (ty : TypeId) :
    ∃ v' w', (Builtin.append_ #[30, 30] ty #[.slice (some ⟨n0, 0, none⟩) 1 1, .slice va m vc]).run Try.prog X = .ok v' w' ∧ w'.ownsRow B 29 1 v' (1 + m) ([u] ++ xs) ∧ X.grownBy w' (some n0) := by
  have hs := hsrc
  obtain ⟨hl, ⟨e, h0⟩ | ⟨g, cap, cur, e, hB', hg, h3, h4, h5, h6⟩⟩ := hs
  · cases e
    have hx : xs = [] := List.eq_nil_of_length_eq_zero (by omega)
    subst hx
    exact ⟨_, X, app_nil X 30 ty 29 i1 Try.underlying30 hi _ 1 1 (Nat.le_refl _), by simpa using hown, World.grownBy.refl _ _⟩
  · cases e
    obtain ⟨v', w', hr, ho, hgr, _⟩ := run_append_own_at (P := Try.prog) X B 30 ty 29 i1 (.slice none 0 0) 1 24 Try.underlying30 hi hz hn hb rfl (by decide) _ 1 [u] hown ⟨g, 0, none⟩ m vc xs hl (fun j u hu => by
      rw [sct.add0]
      refine bcell hg ?_
      rw [← h6, List.getElem?_take] at hu
      split at hu
      · simpa using hu
      · cases hu) h1 (by unfold maxLen; omega) (by omega) hB
    exact ⟨v', w', hr, ho, hgr⟩
theorem oneR (ks : List Rn) : ∀ u ∈ ks.flatMap cR, u.oneCell' = true := fun u hu => by
  obtain ⟨e, _, he⟩ := List.mem_flatMap.1 hu
  simp [cR] at he
  rw [he]
  rfl
noncomputable def can (ys : List flP.Pr) (R : List (List flP.Pr)) : Bool := okB ys R && (decide (ys.length ≠ 0) && decide (R.length < 8))
noncomputable def ansY (ys : List flP.Pr) (R : List (List flP.Pr)) : List flP.Pr := if can ys R then [] else ys
noncomputable def ansR (ys : List flP.Pr) (R : List (List flP.Pr)) : List (List flP.Pr) := if can ys R then ys :: R else R
theorem can_true {ys : List flP.Pr} {R : List (List flP.Pr)} (h1 : okB ys R = true) (h2 : ys.length ≠ 0) (h3 : R.length < 8) : can ys R = true := by
  unfold can
  rw [h1, decide_eq_true h2, decide_eq_true h3]
  rfl
theorem can_false {ys : List flP.Pr} {R : List (List flP.Pr)} {ob : Bool} (h : okB ys R = ob) (hc : ¬ (ob = true ∧ ys.length ≠ 0 ∧ R.length < 8)) : can ys R = false := by
  cases hcan : can ys R with
  | false => rfl
  | true =>
    exfalso
    unfold can at hcan
    rw [h] at hcan
    simp only [Bool.and_eq_true, decide_eq_true_eq] at hcan
    exact hc ⟨hcan.1, hcan.2.1, hcan.2.2⟩
theorem ans_no {ys : List flP.Pr} {R : List (List flP.Pr)} (h : can ys R = false) : ansY ys R = ys ∧ ansR ys R = R := by
  unfold ansY ansR
  rw [h]
  exact ⟨rfl, rfl⟩
theorem ans_yes {ys : List flP.Pr} {R : List (List flP.Pr)} (h : can ys R = true) : ansY ys R = [] ∧ ansR ys R = ys :: R := by
  unfold ansY ansR
  rw [h]
  exact ⟨rfl, rfl⟩

set_option maxRecDepth 100000 in
set_option maxHeartbeats 4000000 in
theorem spec_flush (ys : List flP.Pr) (rs : List Rn) (a0 yc b rc : Nat) (w : World) (F : tb.Fit ys rs) (hY : Row flP.c 3 w w.heap.size (some ⟨a0, 0, none⟩) ys) (hR : VR w w.heap.size (some ⟨b, 0, none⟩) rs) (hrs : ∀ r ∈ rs, ∃ h, r.a = some ⟨h, 0, none⟩) :
    Calls Try.prog 30 #[.agg #[.slice (some ⟨a0, 0, none⟩) ys.length yc, .slice (some ⟨b, 0, none⟩) rs.length rc]] w fun e w' => ∃ sa sc ta tc ks, e = .returned (.tuple #[.agg #[.slice sa (ansY ys (rs.map (·.l))).length sc, .slice ta (ansR ys (rs.map (·.l))).length tc], .bool (can ys (rs.map (·.l)))]) ∧ ks.map (·.l) = ansR ys (rs.map (·.l)) ∧ Row flP.c 3 w' w'.heap.size sa (ansY ys (rs.map (·.l))) ∧ VR w' w'.heap.size ta ks ∧ Below w.heap.size w w' := by
  obtain ⟨i1, ki, kz0, kz1, kz2⟩ := ly.infoR
  have hb : Below w.heap.size w ((w.alloc (.cells #[.slice (some ⟨a0, 0, none⟩) ys.length yc, .slice (some ⟨b, 0, none⟩) rs.length rc] 32)).alloc (.cells #[.slice none 0 0, .slice none 0 0] 32)) := ((Below.refl _ _).alloc (Nat.le_refl _) _).alloc (by simp) _
  have hA := bold (bnew w #[.slice (some ⟨a0, 0, none⟩) ys.length yc, .slice (some ⟨b, 0, none⟩) rs.length rc] 32) (.cells #[.slice none 0 0, .slice none 0 0] 32)
  have hRs := bnew (w.alloc (.cells #[.slice (some ⟨a0, 0, none⟩) ys.length yc, .slice (some ⟨b, 0, none⟩) rs.length rc] 32)) #[.slice none 0 0, .slice none 0 0] 32
  rw [World.size_alloc] at hRs
  obtain ⟨W, hW⟩ : ∃ W, ((w.alloc (.cells #[.slice (some ⟨a0, 0, none⟩) ys.length yc, .slice (some ⟨b, 0, none⟩) rs.length rc] 32)).alloc (.cells #[.slice none 0 0, .slice none 0 0] 32)) = W := ⟨_, rfl⟩
  rw [hW] at hb hA hRs
  have hcp := sct.spec_copy ys rs a0 yc b rc W F (hY.inn hb) (hR.1.inn hb) (fun r hr => ⟨hrs r hr, (hR.2 r hr).inn hb⟩)
  have HF : Hid (tb.Fit ys rs) := F
  have hrl := F.rl
  have HY : Hid (Row flP.c 3 w w.heap.size (some ⟨a0, 0, none⟩) ys) := hY
  have HR : Hid (VR w w.heap.size (some ⟨b, 0, none⟩) rs) := hR
  have HA : Hid (W.heap[w.heap.size]? = some (.cells #[.slice (some ⟨a0, 0, none⟩) ys.length yc, .slice (some ⟨b, 0, none⟩) rs.length rc] 32 (0, 0))) := hA
  have HRS : Hid (W.heap[w.heap.size + 1]? = some (.cells #[.slice none 0 0, .slice none 0 0] 32 (0, 0))) := hRs
  have hWs := (Array.getElem?_eq_some_iff.1 hRs).1
  have p0 : W.cell? ⟨w.heap.size, 0, none⟩ = some (.slice (some ⟨a0, 0, none⟩) ys.length yc) := bcell hA rfl
  have p1 : W.cell? ⟨w.heap.size, 1, none⟩ = some (.slice (some ⟨b, 0, none⟩) rs.length rc) := bcell hA rfl
  clear hY hR hA hRs F hrs
  go_enter Try.func30, Try.ntmps30
  go_wp2_with (go_at_call 42; fail)
  clear hW p0 p1
  refine hcp.mono ?_
  rintro e w2 ⟨g1, c1, va, vc, ks, rfl, of2, or2, m2, rows2, hb2⟩
  have l2 : rs.length = ks.length := by have := congrArg List.length m2; simpa using this.symm
  have hal : Below w2.heap.size w2 (w2.alloc (.cells #[.slice (some ⟨g1, 0, none⟩) ys.length c1, .slice va rs.length vc] 32)) := (Below.refl _ _).alloc (Nat.le_refl _) _
  have hO := bnew w2 #[.slice (some ⟨g1, 0, none⟩) ys.length c1, .slice va rs.length vc] 32
  have of3 := of2.alloc (.cells #[.slice (some ⟨g1, 0, none⟩) ys.length c1, .slice va rs.length vc] 32)
  have or3 := or2.alloc (.cells #[.slice (some ⟨g1, 0, none⟩) ys.length c1, .slice va rs.length vc] 32)
  have rows3 : ∀ r ∈ ks, sct.OwnR (w2.alloc (.cells #[.slice (some ⟨g1, 0, none⟩) ys.length c1, .slice va rs.length vc] 32)) (W.heap.size + 2) r := fun r hr => (rows2 r hr).alloc _
  have hs2 := hb2.size
  obtain ⟨W3, hW3⟩ : ∃ W3, w2.alloc (.cells #[.slice (some ⟨g1, 0, none⟩) ys.length c1, .slice va rs.length vc] 32) = W3 := ⟨_, rfl⟩
  rw [hW3] at hal hO of3 or3 rows3
  have hB3 : Below W.heap.size W W3 := hb2.trans (hal.mono hs2)
  have hBw3 : Below w.heap.size w W3 := hb.trans (hB3.mono hb.size)
  have hok := spec_okb ys rs (some ⟨a0, 0, none⟩) (some ⟨b, 0, none⟩) yc rc W3 HF.out (HY.out.inn hBw3) (HR.out.inn hBw3)
  have b3 := bstay HA.out hB3 (by omega)
  have c0 : W3.cell? ⟨w.heap.size, 0, none⟩ = some (.slice (some ⟨a0, 0, none⟩) ys.length yc) := bcell b3 rfl
  have c1' : W3.cell? ⟨w.heap.size, 1, none⟩ = some (.slice (some ⟨b, 0, none⟩) rs.length rc) := bcell b3 rfl
  have HO : Hid (W3.heap[w2.heap.size]? = some (.cells #[.slice (some ⟨g1, 0, none⟩) ys.length c1, .slice va rs.length vc] 32 (0, 0))) := hO
  have HOF : Hid (W3.ownsRow (W.heap.size + 2) 63 3 (.slice (some ⟨g1, 0, none⟩) ys.length c1) ys.length (ys.flatMap flP.c)) := of3
  have HOR : Hid (W3.ownsRow (W.heap.size + 2) 29 1 (.slice va rs.length vc) rs.length (ks.flatMap cR)) := or3
  have HRW : Hid (∀ r ∈ ks, sct.OwnR W3 (W.heap.size + 2) r) := rows3
  have HM : Hid (ks.map (·.l) = rs.map (·.l)) := m2
  have HL : Hid (rs.length = ks.length) := l2
  have hlt3 := (Array.getElem?_eq_some_iff.1 hO).1
  clear hcp of2 or2 rows2 hO of3 or3 rows3 m2 l2 hal b3
  go_wp2_with (go_at_call 49; fail)
  clear hW3
  refine hok.mono ?_
  rintro e w4 ⟨rfl, hb4⟩
  have b4 := bstay (bstay HA.out hB3 (by omega)) hb4 (by omega)
  have r4 := bstay (bstay HRS.out hB3 (by omega)) hb4 (by omega)
  have o4 := bstay HO.out hb4 hlt3
  have x0 : w4.cell? ⟨w.heap.size, 0, none⟩ = some (.slice (some ⟨a0, 0, none⟩) ys.length yc) := bcell b4 rfl
  have x1 : w4.cell? ⟨w.heap.size, 1, none⟩ = some (.slice (some ⟨b, 0, none⟩) rs.length rc) := bcell b4 rfl
  have r0 : w4.cell? ⟨w.heap.size + 1, 0, none⟩ = some (.slice none 0 0) := bcell r4 rfl
  have r1 : w4.cell? ⟨w.heap.size + 1, 1, none⟩ = some (.slice none 0 0) := bcell r4 rfl
  have f0 := bfree r4 0
  have f1 := bfree r4 1
  have u0 : w4.cell? ⟨w2.heap.size, 0, none⟩ = some (.slice (some ⟨g1, 0, none⟩) ys.length c1) := bcell o4 rfl
  have u1 : w4.cell? ⟨w2.heap.size, 1, none⟩ = some (.slice va rs.length vc) := bcell o4 rfl
  have hg4 : W3.grownBy w4 none := ⟨hb4.os, hb4.tape, hb4.output, hb4.size, fun k hk _ => hb4.block k hk⟩
  have HOF4 : Hid (w4.ownsRow (W.heap.size + 2) 63 3 (.slice (some ⟨g1, 0, none⟩) ys.length c1) ys.length (ys.flatMap flP.c)) := HOF.out.kept hg4 (by simp [Value.ownBlock])
  have HOR4 : Hid (w4.ownsRow (W.heap.size + 2) 29 1 (.slice va rs.length vc) rs.length (ks.flatMap cR)) := HOR.out.kept hg4 (by cases (Value.slice va rs.length vc).ownBlock <;> simp)
  have HRW4 : Hid (∀ r ∈ ks, sct.OwnR w4 (W.heap.size + 2) r) := fun r hr => (HRW.out r hr).kept hg4 (by cases (Value.slice r.a r.l.length r.c).ownBlock <;> simp)
  have hBw4 : Below w.heap.size w w4 := hBw3.trans (hb4.mono hBw3.size)
  have hR4 : w4.heap[w.heap.size + 1]? = some (.cells #[.slice none 0 0, .slice none 0 0] 32 (0, 0)) := r4
  have HR4 : Hid (w4.heap[w.heap.size + 1]? = some (.cells #[.slice none 0 0, .slice none 0 0] 32 (0, 0))) := r4
  obtain ⟨ob, hob⟩ : ∃ ob, okB ys (rs.map (·.l)) = ob := ⟨_, rfl⟩
  have HOB : Hid (okB ys (rs.map (·.l)) = ob) := hob
  rw [hob]
  have hWs4 : W.heap.size ≤ w4.heap.size := Nat.le_trans hB3.size hb4.size
  have hs34 : w2.heap.size < w4.heap.size := Nat.lt_of_lt_of_le hlt3 hb4.size
  clear hok c0 c1' b4 r4 o4 hR4 hob HOF HOR HRW HO HA HRS hb4 hg4
  by_cases hc : ob = true ∧ ys.length ≠ 0 ∧ rs.length < 8
  · obtain ⟨rfl, hy0, hr8⟩ := hc
    have HC : Hid (can ys (rs.map (·.l)) = true) := can_true HOB.out hy0 (by simpa using hr8)
    have hy1 : ¬ (ys.length : Int) = 0 := by omega
    have hr9 : decide ((8 : Int) ≤ (rs.length : Int)) = false := by simp; omega
    have hr10 : ((rs.length : Int)) < 8 := by omega
    have hox : (w4.alloc (.cells #[.slice (some ⟨g1, 0, none⟩) ys.length c1] 29)).ownsRow w4.heap.size 29 1 (.slice (some ⟨w4.heap.size, 0, none⟩) 1 1) 1 [.slice (some ⟨g1, 0, none⟩) ys.length c1] := ⟨by simp, .inr ⟨w4.heap.size, 1, _, rfl, Nat.le_refl _, bnew w4 _ _, Nat.le_refl _, by unfold maxLen; omega, by simp, by simp⟩⟩
    obtain ⟨v5, w5, hrun, hown5, hgr5⟩ := app_runs (i1 := i1) ki kz0 kz1 kz2 hox (HOR4.out.alloc _) (oneR ks) hrl (by simp) 30
    obtain ⟨g5, c5, hv5⟩ : ∃ g5 c5, v5 = .slice (some ⟨g5, 0, none⟩) (1 + rs.length) c5 := by
      obtain ⟨_, ⟨_, h0⟩ | ⟨g, cap, cur, e, _⟩⟩ := hown5
      · omega
      · exact ⟨g, cap, e⟩
    subst hv5
    have hs5 : w4.heap.size + 1 ≤ w5.heap.size := by have := hgr5.size; simpa using this
    have hk5 : ∀ k, k < w4.heap.size → w5.heap[k]? = w4.heap[k]? := fun k hk => (hgr5.block k (by simp; omega) (fun e => by have := Option.some.inj e; omega)).trans (Below.heap_alloc w4 _ k hk)
    have hB5 : Below w4.heap.size w4 w5 := ⟨hgr5.os, hgr5.tape, hgr5.output, by omega, hk5⟩
    have r5 := bstay HR4.out hB5 (by omega)
    have q0 : w5.cell? ⟨w.heap.size + 1, 0, none⟩ = some (.slice none 0 0) := bcell r5 rfl
    have q1 : w5.cell? ⟨w.heap.size + 1, 1, none⟩ = some (.slice none 0 0) := bcell r5 rfl
    have e0 := bfree r5 0
    have e1 := bfree r5 1
    have u1' : (w4.alloc (.cells #[.slice (some ⟨g1, 0, none⟩) ys.length c1] 29)).cell? ⟨w2.heap.size, 1, none⟩ = some (.slice va rs.length vc) := by
      rw [World.cell?_of_block (a := ⟨w2.heap.size, 1, none⟩) (Below.heap_alloc w4 _ w2.heap.size (by omega))]
      exact u1
    have HRUN : Hid ((Builtin.append_ #[30, 30] 30 #[.slice (some ⟨w4.heap.size, 0, none⟩) 1 1, .slice va rs.length vc]).run Try.prog (w4.alloc (.cells #[.slice (some ⟨g1, 0, none⟩) ys.length c1] 29)) = .ok (.slice (some ⟨g5, 0, none⟩) (1 + rs.length) c5) w5) := hrun
    have HOWN : Hid (w5.ownsRow w4.heap.size 29 1 (.slice (some ⟨g5, 0, none⟩) (1 + rs.length) c5) (1 + rs.length) ([.slice (some ⟨g1, 0, none⟩) ys.length c1] ++ ks.flatMap cR)) := hown5
    have HB5 : Hid (Below w4.heap.size w4 w5) := hB5
    clear hrun hown5 hgr5 hk5 hB5 r5 hox
    go_wp2_with (at_builtin; refine cpr.wpList_append_run rfl _ _ 30 30 rfl _ _ _ rfl rfl HRUN.out ?_)
    clear u0 u1 u1' x0 x1 r0 r1 f0 f1
    go_wp2
    have hg5 : w4.grownBy w5 none := ⟨HB5.out.os, HB5.out.tape, HB5.out.output, HB5.out.size, fun k hk _ => HB5.out.block k hk⟩
    have hk : ∀ (B : Nat) (T : TypeId) (s : Nat) v n xs, w.heap.size + 1 < B → w5.ownsRow B T s v n xs → ((w5.setCell ⟨w.heap.size + 1, 0, none⟩ (.slice none 0 0)).setCell ⟨w.heap.size + 1, 1, none⟩ (.slice (some ⟨g5, 0, none⟩) (1 + rs.length) c5)).ownsRow B T s v n xs := fun B T s v n xs hB h => sct.own_set (sct.own_set h hB) hB
    refine bodyPost_ret (v := .tuple #[.agg #[.slice none 0 0, .slice (some ⟨g5, 0, none⟩) (1 + rs.length) c5], .bool true]) (by simp [results, Try.results30, go_sem, q0, q1]) rfl ⟨none, 0, some ⟨g5, 0, none⟩, c5, ⟨some ⟨g1, 0, none⟩, c1, ys⟩ :: ks, ?_, ?_, ?_, ⟨?_, ?_⟩, ?_⟩
    · rw [(ans_yes HC.out).1, (ans_yes HC.out).2, HC.out]
      simp [Nat.add_comm]
    · rw [(ans_yes HC.out).2, ← HM.out]
      rfl
    · rw [(ans_yes HC.out).1]
      exact .inl rfl
    · exact row_of cR_len (by simp [HL.out, Nat.add_comm]) (hk _ _ _ _ _ _ (by omega) HOWN.out)
    · intro r hr
      rcases List.mem_cons.1 hr with rfl | hr
      · exact row_of flP.c_len rfl (hk _ _ _ _ _ _ (by omega) (HOF4.out.kept hg5 (by simp [Value.ownBlock])))
      · exact row_of flP.c_len rfl (hk _ _ _ _ _ _ (by omega) ((HRW4.out r hr).kept hg5 (by cases (Value.slice r.a r.l.length r.c).ownBlock <;> simp)))
    · exact ((hBw4.trans (HB5.out.mono hBw4.size)).setCell (Nat.le_succ _) _).setCell (Nat.le_succ _) _
  · have HC : Hid (can ys (rs.map (·.l)) = false) := can_false HOB.out (by simpa using hc)
    have fin : ∀ w', w' = (w4.setCell ⟨w.heap.size + 1, 0, none⟩ (.slice (some ⟨g1, 0, none⟩) ys.length c1)).setCell ⟨w.heap.size + 1, 1, none⟩ (.slice va rs.length vc) → ks.map (·.l) = ansR ys (rs.map (·.l)) ∧ Row flP.c 3 w' w'.heap.size (some ⟨g1, 0, none⟩) (ansY ys (rs.map (·.l))) ∧ VR w' w'.heap.size va ks ∧ Below w.heap.size w w' := fun w' hw' => by
      subst hw'
      have hk : ∀ (T : TypeId) (s : Nat) v n xs, w4.ownsRow (W.heap.size + 2) T s v n xs → ((w4.setCell ⟨w.heap.size + 1, 0, none⟩ (.slice (some ⟨g1, 0, none⟩) ys.length c1)).setCell ⟨w.heap.size + 1, 1, none⟩ (.slice va rs.length vc)).ownsRow (W.heap.size + 2) T s v n xs := fun T s v n xs h => sct.own_set (sct.own_set h (by omega)) (by omega)
      have hrw := rows_of (n := 0) HL.out (hk _ _ _ _ _ HOF4.out) (hk _ _ _ _ _ HOR4.out) (fun r hr => hk _ _ _ _ _ (HRW4.out r hr))
      refine ⟨by rw [HM.out, (ans_no HC.out).2], by rw [(ans_no HC.out).1]; exact hrw.1, hrw.2, (hBw4.setCell (Nat.le_succ _) _).setCell (Nat.le_succ _) _⟩
    have HFN : Hid (∀ w', w' = (w4.setCell ⟨w.heap.size + 1, 0, none⟩ (.slice (some ⟨g1, 0, none⟩) ys.length c1)).setCell ⟨w.heap.size + 1, 1, none⟩ (.slice va rs.length vc) → ks.map (·.l) = ansR ys (rs.map (·.l)) ∧ Row flP.c 3 w' w'.heap.size (some ⟨g1, 0, none⟩) (ansY ys (rs.map (·.l))) ∧ VR w' w'.heap.size va ks ∧ Below w.heap.size w w') := fin
    have HQ : Hid ((ansY ys (rs.map (·.l))).length = ys.length ∧ (ansR ys (rs.map (·.l))).length = rs.length) := by
      rw [(ans_no HC.out).1, (ans_no HC.out).2]
      exact ⟨rfl, by simp⟩
    clear fin
    have done : ∀ Qx : Prop, Qx → Qx := fun _ h => h
    cases ob
    · go_wp2
      refine bodyPost_ret (v := .tuple #[.agg #[.slice (some ⟨g1, 0, none⟩) ys.length c1, .slice va rs.length vc], .bool false]) (by simp [results, Try.results30, go_sem, r0, r1]) rfl ⟨some ⟨g1, 0, none⟩, c1, va, vc, ks, ?_, HFN.out _ rfl⟩
      rw [HQ.out.1, HQ.out.2, HC.out]
    · by_cases hy0 : ys.length = 0
      · obtain rfl : ys = [] := List.eq_nil_of_length_eq_zero hy0
        clear hy0 hc
        go_wp2
        refine bodyPost_ret (v := .tuple #[.agg #[.slice (some ⟨g1, 0, none⟩) 0 c1, .slice va rs.length vc], .bool false]) (by simp [results, Try.results30, go_sem, r0, r1]) rfl ⟨some ⟨g1, 0, none⟩, c1, va, vc, ks, ?_, HFN.out _ rfl⟩
        rw [HQ.out.1, HQ.out.2, HC.out]
        rfl
      · have hy1 : ¬ (ys.length : Int) = 0 := by omega
        have hr9 : (8 : Int) ≤ (rs.length : Int) := by simp at hc; have := hc (by intro e; rw [e] at hy0; simp at hy0); omega
        clear hc
        go_wp2
        refine bodyPost_ret (v := .tuple #[.agg #[.slice (some ⟨g1, 0, none⟩) ys.length c1, .slice va rs.length vc], .bool false]) (by simp [results, Try.results30, go_sem, r0, r1]) rfl ⟨some ⟨g1, 0, none⟩, c1, va, vc, ks, ?_, HFN.out _ rfl⟩
        rw [HQ.out.1, HQ.out.2, HC.out]
end Go.Proofs.Ytfoajjkcocppeaa.fls
