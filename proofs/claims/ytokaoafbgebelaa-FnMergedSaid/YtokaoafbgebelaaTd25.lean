/- A region that draws its order, with operations that have a guard which holds; else as RegionTurn and ChainTurn. -/
import Derived.Test.YtokaoafbgebelaaTd15
import Derived.Test.YtokaoafbgebelaaTd04
import Derived.Test.YtokaoafbgebelaaTd18
import Derived.Test.YtokaoafbgebelaaTd22
import Derived.Test.YtokaoafbgebelaaTd23
import Derived.Test.YtokaoafbgebelaaTd24
import Derived.Test.YtokaoafbgebelaaTd12
import Derived.Test.YtokaoafbgebelaaTd20

/- Tables, without memory: what a flush and a merge change is nothing that a scan or a get reads. -/
namespace Go.Proofs.Ytokaoafbgebelaa.mdp
open Go.Proofs.Ytokaoafbgebelaa.rc Go.Proofs.Ytokaoafbgebelaa.ro Go.Proofs.Ytokaoafbgebelaa.rn Go.Proofs.Ytokaoafbgebelaa.tk Go.Proofs.Ytokaoafbgebelaa.tko Go.Proofs.Ytokaoafbgebelaa.tg Go.Proofs.Ytokaoafbgebelaa.tgi Go.Proofs.Ytokaoafbgebelaa.ptp Go.Proofs.Ytokaoafbgebelaa.mgp Go.Proofs.Ytokaoafbgebelaa.sci Go.Proofs.Ytokaoafbgebelaa.tpu
set_option linter.unusedVariables false

/-- what lives at a key -/
def lv (ls : List (List flP.Pr)) (key : ByteArray) : Option flP.Pr := (nwst ls key).filter (fun e => !e.g)
theorem is_len : ∀ {ls : List (List flP.Pr)}, (∀ l ∈ ls, Asc l) → ∃ out, Is ls out ∧ out.length ≤ tan.tot ls
  | [], _ => ⟨[], ⟨List.Pairwise.nil, fun x => ⟨fun h => (by cases h), fun h => absurd h new_nil⟩⟩, Nat.zero_le _⟩
  | a :: ls, h => by
    obtain ⟨out, h1, hl⟩ := is_len (ls := ls) (fun l hl => h l (List.mem_cons_of_mem _ hl))
    have h2 := (mga.is_nw (h a (List.mem_cons_self ..)) h1.1).1
    have h3 := (mga.is_nw (h a (List.mem_cons_self ..)) h1.1).2
    refine ⟨_, ⟨h2.1, fun x => (h2.2 x).trans ?_⟩, by rw [mga.tot_cons]; omega⟩
    have e1 : New [a, out] x ↔ x ∈ a ∨ ((∀ y ∈ a, y.k ≠ x.k) ∧ x ∈ out) := by
      refine new_cons.trans (or_congr Iff.rfl (and_congr Iff.rfl ⟨fun h4 => ?_, fun h4 => new_cons.2 (.inl h4)⟩))
      rcases new_cons.1 h4 with h4 | ⟨_, h4⟩
      · exact h4
      · exact absurd h4 new_nil
    have e2 : New (a :: ls) x ↔ x ∈ a ∨ ((∀ y ∈ a, y.k ≠ x.k) ∧ New ls x) := new_cons
    exact e1.trans ((or_congr Iff.rfl (and_congr Iff.rfl (h1.2 x))).trans e2.symm)
section
variable {ys ys' : List flP.Pr} {R R' : List (List flP.Pr)}
theorem mem_scan (hok : okB ys R = true) {fr to : ByteArray} {e : flP.Pr} : e ∈ scan ys R fr to ↔ lv (ys :: R) e.k = some e ∧ keep fr to e = true := by
  have hA := all_asc (okB_true.1 hok)
  unfold scan
  rw [if_pos hok, List.mem_filter]
  have hk : keep fr to e = true → e.g = false := fun h => by
    unfold keep at h
    cases hg : e.g with
    | false => rfl
    | true => rw [hg] at h; simp at h
  constructor
  · rintro ⟨h1, h2⟩
    refine ⟨?_, h2⟩
    unfold lv
    rw [new_nw hA (((is_nwL hA).2 e).1 h1)]
    simp [Option.filter, hk h2]
  · rintro ⟨h1, h2⟩
    refine ⟨((is_nwL hA).2 e).2 ?_, h2⟩
    unfold lv at h1
    rw [Option.filter_eq_some_iff] at h1
    exact (nw_new hA h1.1).1
theorem scan_len (fr to : ByteArray) : (scan ys R fr to).length ≤ ys.length + tan.tot R := by
  unfold scan
  split
  · next hok =>
    obtain ⟨out, h1, h2⟩ := is_len (all_asc (okB_true.1 hok))
    rw [nwL_eq h1]
    rw [mga.tot_cons] at h2
    exact Nat.le_trans (List.length_filter_le _ _) h2
  · exact Nat.zero_le _
theorem scan_ext (h : okB ys R = true) (h' : okB ys' R' = true) (hl : ∀ k, lv (ys :: R) k = lv (ys' :: R') k) (fr to : ByteArray) : scan ys R fr to = scan ys' R' fr to := by
  refine asc_ext ?_ ?_ fun e => ?_
  · unfold scan; rw [if_pos h]; exact List.Pairwise.filter _ (is_nwL (all_asc (okB_true.1 h))).1
  · unfold scan; rw [if_pos h']; exact List.Pairwise.filter _ (is_nwL (all_asc (okB_true.1 h'))).1
  · rw [mem_scan h, mem_scan h', hl]
theorem get_of (h : okB ys R = true) (key : ByteArray) : getV ys R key = (match lv (ys :: R) key with | some e => e.v | none => ⟨#[]⟩) ∧ getO ys R key = (lv (ys :: R) key).isSome := by
  unfold lv
  cases hn : nwst (ys :: R) key with
  | none => exact get_none hn
  | some e =>
    cases hg : e.g with
    | true =>
      have := get_gone hn hg
      simp [Option.filter, hg, this]
    | false =>
      have := get_there h hn hg
      simp [Option.filter, hg, this]
theorem get_ext (h : okB ys R = true) (h' : okB ys' R' = true) (hl : ∀ k, lv (ys :: R) k = lv (ys' :: R') k) (key : ByteArray) : getV ys R key = getV ys' R' key ∧ getO ys R key = getO ys' R' key := by
  have h1 := get_of h key
  have h2 := get_of h' key
  rw [hl] at h1
  exact ⟨h1.1.trans h2.1.symm, h1.2.trans h2.2.symm⟩
theorem lv_flush (k : ByteArray) : lv ([] :: ys :: R) k = lv (ys :: R) k := by
  unfold lv
  rw [nw_cons]
  rfl
theorem nw_app (A B : List (List flP.Pr)) (k : ByteArray) : nwst (A ++ B) k = (nwst A k).or (nwst B k) := by
  unfold nwst
  rw [List.findSome?_append]
theorem fnd_is {ls : List (List flP.Pr)} {out : List flP.Pr} (hA : ∀ l ∈ ls, Asc l) (h : Is ls out) (k : ByteArray) : fnd out k = nwst ls k := by
  cases hn : nwst ls k with
  | none =>
    rw [fnd_no]
    intro e he hk
    have := new_nw hA ((h.2 e).1 he)
    rw [hk, hn] at this
    cases this
  | some e =>
    obtain ⟨h1, h2⟩ := nw_new hA hn
    exact (fnd_iff h.1).2 ⟨(h.2 e).2 h1, h2⟩
theorem fnd_filter {l : List flP.Pr} (hA : Asc l) (k : ByteArray) : fnd (l.filter (fun e => !e.g)) k = (fnd l k).filter (fun e => !e.g) := by
  have hA' : Asc (l.filter (fun e => !e.g)) := List.Pairwise.filter _ hA
  cases hf : fnd l k with
  | none =>
    rw [fnd_no] at hf
    exact fnd_no.2 fun e he => hf e (List.mem_filter.1 he).1
  | some e =>
    obtain ⟨h1, h2⟩ := (fnd_iff hA).1 hf
    cases hg : e.g with
    | true =>
      simp only [Option.filter, hg]
      refine fnd_no.2 fun f hf hk => ?_
      obtain ⟨f1, f2⟩ := List.mem_filter.1 hf
      have := asc_key hA f1 h1 (hk.trans h2.symm)
      rw [this, hg] at f2
      simp at f2
    | false =>
      simp only [Option.filter, hg]
      exact (fnd_iff hA').2 ⟨List.mem_filter.2 ⟨h1, by simp [hg]⟩, h2⟩
theorem or_filter (a b : Option flP.Pr) : (a.or (b.filter (fun e => !e.g))).filter (fun e => !e.g) = (a.or b).filter (fun e => !e.g) := by
  cases a with
  | some a => rfl
  | none =>
    cases b with
    | none => rfl
    | some b => cases hg : b.g <;> simp [Option.filter, hg]
theorem lv_merge (hok : okB ys R = true) {i : Nat} (hi : i + 2 ≤ R.length) (k : ByteArray) : lv (ys :: mga.mrg R i) k = lv (ys :: R) k := by
  have hO := okB_true.1 hok
  have g1 := List.getElem?_eq_getElem (show i < R.length by omega)
  have g2 := List.getElem?_eq_getElem (show i + 1 < R.length by omega)
  have ha := mga.asc_at hO g1
  have hb := mga.asc_at hO g2
  have his := (mga.is_nw ha hb).1
  have hA2 : ∀ l ∈ [R[i]'(by omega), R[i + 1]'(by omega)], Asc l := fun l hl => by
    simp at hl
    rcases hl with rfl | rfl
    · exact ha
    · exact hb
  have hf := fnd_is hA2 his k
  have hR : nwst R k = (nwst (R.take i) k).or ((nwst [R[i]'(by omega), R[i + 1]'(by omega)] k).or (nwst (R.drop (i + 2)) k)) := by
    conv => lhs; rw [mga.parts hi]
    rw [nw_app]
    congr 1
    rw [← nw_app]
    rfl
  have e1 : lv (ys :: mga.mrg R i) k = ((fnd ys k).or ((nwst (R.take i) k).or ((fnd (mgd.merged (R[i]'(by omega)) (R[i + 1]'(by omega)) (decide (i + 2 = R.length))) k).or (nwst (R.drop (i + 2)) k)))).filter (fun e => !e.g) := by
    unfold lv
    rw [nw_cons, mga.mrg_at hi, nw_app, nw_cons]
  have e2 : lv (ys :: R) k = ((fnd ys k).or ((nwst (R.take i) k).or ((nwst [R[i]'(by omega), R[i + 1]'(by omega)] k).or (nwst (R.drop (i + 2)) k)))).filter (fun e => !e.g) := by
    unfold lv
    rw [nw_cons, hR]
  rw [e1, e2]
  by_cases hl : i + 2 = R.length
  · have hd : R.drop (i + 2) = [] := List.drop_eq_nil_of_le (by omega)
    rw [decide_eq_true hl, mga.merged_yes, fnd_filter his.1, hf, hd]
    simp only [show nwst [] k = none from rfl, Option.or_none]
    rw [← Option.or_assoc, or_filter, Option.or_assoc]
  · rw [decide_eq_false hl, mga.merged_no, hf]
theorem ok_nil : OkL [] := ⟨by simp, fun i e h => (by simp at h), fun i a b h => (by simp at h)⟩
theorem flush_can (hc : fls.can ys R = true) : (fls.ansY ys R).length = 0 ∧ okB (fls.ansY ys R) (fls.ansR ys R) = true := by
  rw [(fls.ans_yes hc).1, (fls.ans_yes hc).2]
  unfold fls.can at hc
  obtain ⟨c1, c2⟩ := Bool.and_eq_true_iff.1 hc
  obtain ⟨_, c3⟩ := Bool.and_eq_true_iff.1 c2
  have c4 := of_decide_eq_true c3
  have hok := okB_true.1 c1
  refine ⟨rfl, okB_true.2 ⟨by rw [List.length_cons]; omega, ok_nil, fun i l hi => ?_⟩⟩
  cases i with
  | zero => cases hi; exact hok.yo
  | succ i => exact hok.ro i l hi
theorem flush_ok (hc : fls.can ys R = true) : okB ys R = true := by
  unfold fls.can at hc
  exact (Bool.and_eq_true_iff.1 hc).1
theorem flush_scan (fr to : ByteArray) : scan (fls.ansY ys R) (fls.ansR ys R) fr to = scan ys R fr to := by
  cases hc : fls.can ys R with
  | true =>
    refine scan_ext (flush_can hc).2 (flush_ok hc) (fun k => ?_) fr to
    rw [(fls.ans_yes hc).1, (fls.ans_yes hc).2]
    exact lv_flush k
  | false => rw [(fls.ans_no hc).1, (fls.ans_no hc).2]
theorem flush_get (k : ByteArray) : getV (fls.ansY ys R) (fls.ansR ys R) k = getV ys R k ∧ getO (fls.ansY ys R) (fls.ansR ys R) k = getO ys R k := by
  cases hc : fls.can ys R with
  | true =>
    refine get_ext (flush_can hc).2 (flush_ok hc) (fun k => ?_) k
    rw [(fls.ans_yes hc).1, (fls.ans_yes hc).2]
    exact lv_flush k
  | false => rw [(fls.ans_no hc).1, (fls.ans_no hc).2]; exact ⟨rfl, rfl⟩
theorem flush_size : tsz.szT (fls.ansY ys R) (fls.ansR ys R) = tsz.szT ys R := by
  cases hc : fls.can ys R with
  | true =>
    rw [(fls.ans_yes hc).1, (fls.ans_yes hc).2]
    unfold tsz.szT
    have := mga.tot_cons ys R
    unfold tan.tot at this
    rw [this, List.length_nil, Nat.zero_add]
  | false => rw [(fls.ans_no hc).1, (fls.ans_no hc).2]
variable {x : Int}
theorem merge_parts (hc : mga.can ys R x = true) : okB ys R = true ∧ x.toNat + 2 ≤ R.length ∧ okB ys (mga.mrg R x.toNat) = true := by
  unfold mga.can at hc
  obtain ⟨c1, c2⟩ := Bool.and_eq_true_iff.1 hc
  obtain ⟨c2, c3⟩ := Bool.and_eq_true_iff.1 c2
  unfold mga.inB at c2
  have c4 := of_decide_eq_true c2
  exact ⟨c1, by omega, c3⟩
theorem merge_can (hc : mga.can ys R x = true) : (mga.ansR ys R x).length = R.length - 1 ∧ 2 ≤ R.length ∧ okB ys (mga.ansR ys R x) = true := by
  obtain ⟨c1, c2, c3⟩ := merge_parts hc
  rw [mga.ans_yes hc]
  exact ⟨mga.mrg_len c2, by omega, c3⟩
theorem merge_scan (fr to : ByteArray) : scan ys (mga.ansR ys R x) fr to = scan ys R fr to := by
  cases hc : mga.can ys R x with
  | true =>
    obtain ⟨c1, c2, c3⟩ := merge_parts hc
    rw [mga.ans_yes hc]
    exact scan_ext c3 c1 (fun k => lv_merge c1 c2 k) fr to
  | false => rw [mga.ans_no hc]
theorem merge_get (k : ByteArray) : getV ys (mga.ansR ys R x) k = getV ys R k ∧ getO ys (mga.ansR ys R x) k = getO ys R k := by
  cases hc : mga.can ys R x with
  | true =>
    obtain ⟨c1, c2, c3⟩ := merge_parts hc
    rw [mga.ans_yes hc]
    exact get_ext c3 c1 (fun k => lv_merge c1 c2 k) k
  | false => rw [mga.ans_no hc]; exact ⟨rfl, rfl⟩
theorem merge_size : tsz.szT ys (mga.ansR ys R x) ≤ tsz.szT ys R := by
  cases hc : mga.can ys R x with
  | true =>
    obtain ⟨c1, c2, c3⟩ := merge_parts hc
    rw [mga.ans_yes hc]
    have := mga.mrg_tot (okB_true.1 c1) c2
    unfold tan.tot at this
    unfold tsz.szT
    omega
  | false => rw [mga.ans_no hc]; exact Nat.le_refl _
end
end Go.Proofs.Ytokaoafbgebelaa.mdp

/- FnMerged: the contracts in the words of its walk: tables by their lists alone. -/
namespace Go.Proofs.Ytokaoafbgebelaa.mdt
open Go.ChangeShapes Go.WideShapes Go.ChangeAt Go.RowKit Go.Proofs.Ytokaoafbgebelaa.fl Go.Proofs.Ytokaoafbgebelaa.fo Go.Proofs.Ytokaoafbgebelaa.dw Go.Proofs.Ytokaoafbgebelaa.rn Go.Proofs.Ytokaoafbgebelaa.rc Go.Proofs.Ytokaoafbgebelaa.ro Go.Proofs.Ytokaoafbgebelaa.tk Go.Proofs.Ytokaoafbgebelaa.tko Go.Proofs.Ytokaoafbgebelaa.tan Go.Proofs.Ytokaoafbgebelaa.ptp Go.Proofs.Ytokaoafbgebelaa.dlt Go.Proofs.Ytokaoafbgebelaa.tgi Go.Proofs.Ytokaoafbgebelaa.sci Go.Proofs.Ytokaoafbgebelaa.ttp Go.Proofs.Ytokaoafbgebelaa.dts
set_option linter.unusedVariables false

/-- a table of the program's, with its rooms -/
structure Ic (W : World) (ys : List flP.Pr) (ks : List Rn) (ya : Option Addr) (yc : Nat) (ra : Option Addr) (rc : Nat) : Prop where
  iu : Iu W ys ks ya ra rc
  yl : ys.length ≤ yc
  kl : ∀ r ∈ ks, r.l.length ≤ r.c
/-- drawn; the program's; rows alone -/
def Dt (W : World) (ys : List flP.Pr) (R : List (List flP.Pr)) (ya : Option Addr) (yc : Nat) (ra : Option Addr) (rc : Nat) : Prop := ∃ K : List Rn, K.map (·.l) = R ∧ It W ys K ya yc ra rc
def Pt (W : World) (ys : List flP.Pr) (R : List (List flP.Pr)) (ya : Option Addr) (yc : Nat) (ra : Option Addr) (rc : Nat) : Prop := ∃ K : List Rn, K.map (·.l) = R ∧ Ic W ys K ya yc ra rc
def Rt (W : World) (ys : List flP.Pr) (R : List (List flP.Pr)) (ya ra : Option Addr) : Prop := ∃ K : List Rn, K.map (·.l) = R ∧ Ir W ys K ya ra
section
variable {j : Nat} {W W' : World} {ys : List flP.Pr} {ya ra : Option Addr} {yc rc : Nat} {R : List (List flP.Pr)}
theorem Dt.below (h : Dt W ys R ya yc ra rc) (hb : Below W.heap.size W W') : Dt W' ys R ya yc ra rc := let ⟨K, h1, h2⟩ := h; ⟨K, h1, h2.below hb⟩
theorem Pt.below (h : Pt W ys R ya yc ra rc) (hb : Below W.heap.size W W') : Pt W' ys R ya yc ra rc := let ⟨K, h1, h2⟩ := h; ⟨K, h1, h2.iu.below hb, h2.yl, h2.kl⟩
theorem Rt.below (h : Rt W ys R ya ra) (hb : Below W.heap.size W W') : Rt W' ys R ya ra := let ⟨K, h1, h2⟩ := h; ⟨K, h1, h2.below hb⟩
theorem Dt.pt (h : Dt W ys R ya yc ra rc) : Pt W ys R ya yc ra rc := by
  obtain ⟨K, h1, yq, rq, U⟩ := h
  exact ⟨K, h1, ⟨U.hy, U.hr, rq, U.nr⟩, U.yl, U.kl⟩
theorem Pt.rt (h : Pt W ys R ya yc ra rc) : Rt W ys R ya ra := let ⟨K, h1, h2⟩ := h; ⟨K, h1, h2.iu.ir⟩
theorem len_of {K : List Rn} (h : K.map (·.l) = R) : R.length = K.length := by rw [← h, List.length_map]
theorem d_merge (a : Option Addr) (len cap : Nat) (w : World) (hlen : len ≤ 1048576) (hc : dw.Code w w.heap.size a len) :
    Calls Try.prog 18 #[.slice a len cap] w fun e w' => ∃ (ys : List flP.Pr) (R : List (List flP.Pr)) (ya : Option Addr) (yc : Nat) (ra : Option Addr) (rc : Nat) (x : Int), e = .returned (.tuple #[.agg #[.slice ya ys.length yc, .slice ra R.length rc], .int .i64 x]) ∧ Sm 500 ys R ∧ Dt w' ys R ya yc ra rc ∧ (-1 ≤ x ∧ x ≤ 3) ∧ Below w.heap.size w w' := by
  refine (draw_Merge a len cap w hlen hc).mono ?_
  rintro e w' ⟨⟨ys, ks, ya, yc, ra, rc, x, rfl, h1, h2, h3, h4⟩, hb, hz⟩
  exact ⟨ys, ks.map (·.l), ya, yc, ra, rc, x, by rw [List.length_map], h1, ⟨ks, rfl, tb_it h2⟩, ⟨h3, h4⟩, hb⟩
theorem d_scan (a : Option Addr) (len cap : Nat) (w : World) (hlen : len ≤ 1048576) (hc : dw.Code w w.heap.size a len) :
    Calls Try.prog 23 #[.slice a len cap] w fun e w' => ∃ (ys : List flP.Pr) (R : List (List flP.Pr)) (ya : Option Addr) (yc : Nat) (ra : Option Addr) (rc : Nat) (f t : ByteArray), e = .returned (.tuple #[.agg #[.slice ya ys.length yc, .slice ra R.length rc], .string f, .string t]) ∧ Sm 500 ys R ∧ Dt w' ys R ya yc ra rc ∧ Below w.heap.size w w' := by
  refine (draw_Scan a len cap w hlen hc).mono ?_
  rintro e w' ⟨⟨ys, ks, ya, yc, ra, rc, f, t, rfl, h1, h2, h3, h4⟩, hb, hz⟩
  exact ⟨ys, ks.map (·.l), ya, yc, ra, rc, f, t, by rw [List.length_map], h1, ⟨ks, rfl, tb_it h2⟩, hb⟩
theorem d_get (a : Option Addr) (len cap : Nat) (w : World) (hlen : len ≤ 1048576) (hc : dw.Code w w.heap.size a len) :
    Calls Try.prog 26 #[.slice a len cap] w fun e w' => ∃ (ys : List flP.Pr) (R : List (List flP.Pr)) (ya : Option Addr) (yc : Nat) (ra : Option Addr) (rc : Nat) (k : ByteArray), e = .returned (.tuple #[.agg #[.slice ya ys.length yc, .slice ra R.length rc], .string k]) ∧ Sm 500 ys R ∧ Dt w' ys R ya yc ra rc ∧ k.size ≤ 101 ∧ Below w.heap.size w w' := by
  refine (draw_Get a len cap w hlen hc).mono ?_
  rintro e w' ⟨⟨ys, ks, ya, yc, ra, rc, k, rfl, h1, h2, h3⟩, hb, hz⟩
  exact ⟨ys, ks.map (·.l), ya, yc, ra, rc, k, by rw [List.length_map], h1, ⟨ks, rfl, tb_it h2⟩, h3, hb⟩
theorem t_flush (h : Dt W ys R ya yc ra rc) (hs : Sm 500 ys R) : Calls Try.prog 21 #[.agg #[.slice ya ys.length yc, .slice ra R.length rc]] W fun e w' =>
    ∃ sa sc ta tc, e = .returned (.tuple #[.agg #[.slice sa (fls.ansY ys R).length sc, .slice ta (fls.ansR ys R).length tc], .bool (fls.can ys R)]) ∧ Pt w' (fls.ansY ys R) (fls.ansR ys R) sa sc ta tc ∧ Below W.heap.size W w' := by
  obtain ⟨K, rfl, yq, rq, U⟩ := h
  rw [List.length_map]
  refine (fli.impl_flush ys K ya ra yc rc W (hs.fit (by omega)) U.hy U.hr).mono ?_
  rintro e w' ⟨sa, sc, ta, tc, ks, rfl, ⟨⟨h1, h2, h3⟩, h4⟩, h5, hb⟩
  obtain ⟨q, rfl⟩ : ∃ q, ta = some q := Option.isSome_iff_exists.1 h2
  exact ⟨sa, sc, _, tc, rfl, ⟨ks, h4, ⟨h5.rows.1, h5.rows.2, q, .inl rfl⟩, h1, h3⟩, hb⟩
theorem s_flush (h : Dt W ys R ya yc ra rc) (hs : Sm 500 ys R) : Calls Try.prog 22 #[.agg #[.slice ya ys.length yc, .slice ra R.length rc]] W fun e w' =>
    ∃ sa sc ta tc, e = .returned (.tuple #[.agg #[.slice sa (fls.ansY ys R).length sc, .slice ta (fls.ansR ys R).length tc], .bool (fls.can ys R)]) ∧ Rt w' (fls.ansY ys R) (fls.ansR ys R) sa ta ∧ Below W.heap.size W w' := by
  obtain ⟨K, rfl, yq, rq, U⟩ := h
  rw [List.length_map]
  refine (flo.spec_flush ys K ya yc ra rc W (hs.fit (by omega)) yq U.ny U.hy U.hr U.nra U.rs).mono ?_
  rintro e w' ⟨sa, sc, ta, tc, ks, rfl, h4, h5, hb⟩
  obtain ⟨yq', rq', U'⟩ := (of_sr h5).use
  exact ⟨sa, sc, ta, tc, rfl, ⟨ks, h4, U'.hy, U'.hr⟩, hb⟩
theorem t_merge (h : Pt W ys R ya yc ra rc) (hs : Sm j ys R) (hj : j ≤ 600) (x : Int) (hx : -9223372036854775808 ≤ x ∧ x ≤ 9223372036854775807) : Calls Try.prog 19 #[.agg #[.slice ya ys.length yc, .slice ra R.length rc], .int .i64 x] W fun e w' =>
    ∃ sa sc ta tc, e = .returned (.tuple #[.agg #[.slice sa ys.length sc, .slice ta (mga.ansR ys R x).length tc], .bool (mga.can ys R x)]) ∧ Pt w' ys (mga.ansR ys R x) sa sc ta tc ∧ Below W.heap.size W w' := by
  obtain ⟨K, rfl, hI⟩ := h
  rw [List.length_map]
  refine (mgi.impl_merge ys K ya ra yc rc x W (hs.fit (by omega)) hx.1 hx.2 hI.iu.hy hI.iu.hr).mono ?_
  rintro e w' ⟨sa, sc, ta, tc, ks, rfl, ⟨⟨h1, h2, h3⟩, h4⟩, h5, hb⟩
  obtain ⟨q, rfl⟩ : ∃ q, ta = some q := Option.isSome_iff_exists.1 h2
  exact ⟨sa, sc, _, tc, rfl, ⟨ks, h4, ⟨h5.rows.1, h5.rows.2, q, .inl rfl⟩, h1, h3⟩, hb⟩
theorem s_merge (h : Dt W ys R ya yc ra rc) (hs : Sm 500 ys R) (x : Int) (hx : -9223372036854775808 ≤ x ∧ x ≤ 9223372036854775807) : Calls Try.prog 20 #[.agg #[.slice ya ys.length yc, .slice ra R.length rc], .int .i64 x] W fun e w' =>
    ∃ sa sc ta tc, e = .returned (.tuple #[.agg #[.slice sa ys.length sc, .slice ta (mga.ansR ys R x).length tc], .bool (mga.can ys R x)]) ∧ Rt w' ys (mga.ansR ys R x) sa ta ∧ Below W.heap.size W w' := by
  obtain ⟨K, rfl, yq, rq, U⟩ := h
  rw [List.length_map]
  refine (mgco.spec_merge ys K ya yc ra rc x W (hs.fit (by omega)) yq U.ny hx.1 hx.2 U.hy U.hr U.nra U.rs).mono ?_
  rintro e w' ⟨sa, sc, ta, tc, ks, rfl, h4, h5, hb⟩
  obtain ⟨yq', rq', U'⟩ := (of_sr h5).use
  exact ⟨sa, sc, ta, tc, rfl, ⟨ks, h4, U'.hy, U'.hr⟩, hb⟩
theorem p_scan (h : Pt W ys R ya yc ra rc) (hs : Sm j ys R) (hj : j ≤ 600) (fr to : ByteArray) : Calls Try.prog 16 #[.agg #[.slice ya ys.length yc, .slice ra R.length rc], .string fr, .string to] W fun e w' =>
    ∃ a cap, e = .returned (.slice a (scan ys R fr to).length cap) ∧ (scan ys R fr to).length ≤ 6000 ∧ Row flP.c 3 w' w'.heap.size a (scan ys R fr to) ∧ Below W.heap.size W w' := by
  obtain ⟨K, rfl, hI⟩ := h
  obtain ⟨rq, hn⟩ := hI.iu.nr
  rw [List.length_map]
  refine (sci.impl_scan ys K ya ra yc rc fr to W (hs.fit (by omega)) rq hn hI.yl hI.kl hI.iu.hy hI.iu.hr).mono ?_
  rintro e w' ⟨v, rfl, h1, h2, hb⟩
  obtain ⟨a, cap, rfl, hr⟩ := fl.own_row flP.c_len h2
  exact ⟨a, cap, rfl, h1, hr, hb⟩
theorem s_scan (h : Dt W ys R ya yc ra rc) (hs : Sm 500 ys R) (fr to : ByteArray) : Calls Try.prog 25 #[.agg #[.slice ya ys.length yc, .slice ra R.length rc], .string fr, .string to] W fun e w' =>
    ∃ a cap, e = .returned (.slice a (scan ys R fr to).length cap) ∧ Row flP.c 3 w' w'.heap.size a (scan ys R fr to) ∧ Below W.heap.size W w' := by
  obtain ⟨K, rfl, yq, rq, U⟩ := h
  rw [List.length_map]
  refine (scs.spec_scan ys K ya ra yc rc yq U.ny fr to W (hs.fit (by omega)) U.hy U.hr).mono ?_
  rintro e w' ⟨v, rfl, h2, hb⟩
  obtain ⟨a, cap, rfl, hr⟩ := fl.own_row flP.c_len h2
  exact ⟨a, cap, rfl, hr, hb⟩
theorem p_size (h : Pt W ys R ya yc ra rc) (hs : Sm j ys R) (hj : j ≤ 600) : Calls Try.prog 14 #[.agg #[.slice ya ys.length yc, .slice ra R.length rc]] W fun e w' => e = .returned (.int .i64 (tsz.szT ys R)) ∧ Below W.heap.size W w' := by
  obtain ⟨K, rfl, hI⟩ := h
  rw [List.length_map]
  exact t_size hI.iu (hs.fit (by omega))
theorem p_ok (h : Pt W ys R ya yc ra rc) (hs : Sm j ys R) (hj : j ≤ 600) : Calls Try.prog 12 #[.agg #[.slice ya ys.length yc, .slice ra R.length rc]] W fun e w' => e = .returned (.bool (okB ys R)) ∧ Below W.heap.size W w' := by
  obtain ⟨K, rfl, hI⟩ := h
  rw [List.length_map]
  exact impl_okb ys K ya ra yc rc W (hs.fit (by omega)) hI.iu.hy hI.iu.hr
theorem p_get (h : Pt W ys R ya yc ra rc) (hs : Sm j ys R) (hj : j ≤ 600) (key : ByteArray) (hk : key.size ≤ 101) : Calls Try.prog 17 #[.agg #[.slice ya ys.length yc, .slice ra R.length rc], .string key] W fun e w' => e = .returned (.tuple #[.string (getV ys R key), .bool (getO ys R key)]) ∧ Below W.heap.size W w' := by
  obtain ⟨K, rfl, hI⟩ := h
  rw [List.length_map]
  exact t_get hI.iu (hs.fit (by omega)) key (by omega)
theorem p_same {y2 r2 : Option Addr} {c1 c2 d1 d2 : Nat} (h : Pt W ys R ya yc ra rc) (h2 : Rt W ys R y2 r2) (hs : Sm j ys R) (hj : j ≤ 600) : Calls Try.prog 11 #[.agg #[.slice ya ys.length c1, .slice ra R.length d1], .agg #[.slice y2 ys.length c2, .slice r2 R.length d2]] W fun e w' => e = .returned (.bool true) ∧ Below W.heap.size W w' := by
  obtain ⟨K, hK, hI⟩ := h
  obtain ⟨K2, hK2, hI2⟩ := h2
  exact same hI.iu.ir hI2 ((show Sm j ys (K.map (·.l)) by rw [hK]; exact hs).fit (by omega)) hK hK2 rfl
end
end Go.Proofs.Ytokaoafbgebelaa.mdt

/- A region that draws its order, with operations that have a guard which holds; else as RegionTurn and ChainTurn. -/
namespace Go.Proofs.Ytokaoafbgebelaa.chg
open Go.Proofs.Ytokaoafbgebelaa.dn Go.Proofs.Ytokaoafbgebelaa.gt
open Go.Proofs.Ytokaoafbgebelaa.chn (Cn on off up shut at_m next_m)
set_option linter.unusedVariables false

def strip (o : Oper) : Oper := { o with guard := none }
/-- each guard names a slot of the list and what it must hold, and is waited for -/
def guardB (l : List Oper) (gs : List (Nat × Bool)) : Bool := l.all fun o => match o.guard with
  | none => true
  | some (j, b) => (o.after.any fun e => Region.binds .any e && e.on == j) && (match l[j]? with | some p => (match p.dst with | some q => gs.contains (q, b) | none => false) | none => false)
theorem ready_strip (ops : Array Oper) (l : Array Bool) : Region.ready .any (ops.map strip) l = Region.ready .any ops l := by
  unfold Region.ready
  rw [Array.size_map]
  congr 1
  funext i
  rw [Array.getElem?_map]
  cases ops[i]? with
  | none => rfl
  | some o => rfl
theorem strip_at {ops : Array Oper} {i : Nat} {o : Oper} (h : ops[i]? = some o) : (ops.map strip)[i]? = some (strip o) := by rw [Array.getElem?_map, h]; rfl
theorem at_strip {ops : Array Oper} {i : Nat} {p : Oper} (h : (ops.map strip)[i]? = some p) : ∃ o, ops[i]? = some o ∧ p = strip o := by
  rw [Array.getElem?_map] at h
  cases ho : ops[i]? with
  | none => rw [ho] at h; cases h
  | some o => rw [ho] at h; cases h; exact ⟨o, rfl, rfl⟩
section
variable {σ : Type} {P : Program} {ops : Array Oper} {a0 : Act} {fin : σ → Act} {C : σ → (Nat → Bool) → World → Prop} {Q : Exit → Act → World → Prop}
theorem turn_strip {L : Nat → Bool} {f f' : Act} (h : Turn ops L f f') : Turn (ops.map strip) L f f' := ⟨h.defers, h.size, fun j p q hj hp hL => by
  obtain ⟨o, ho, rfl⟩ := at_strip hj
  exact h.same j o q ho hp hL⟩
theorem any_done (hok : okB (ops.map strip) = true) (hgd : ∀ (i : Nat) (o : Oper) (j : Nat) (b : Bool), ops[i]? = some o → o.guard = some (j, b) → (∃ e ∈ o.after, Region.binds .any e = true ∧ e.on = j) ∧ ∃ p q, ops[j]? = some p ∧ p.dst = some q ∧ ∀ s, (fin s).tmps[q]? = some (.bool b))
    (hfin : ∀ (g : σ) (s : Nat), (∀ (i : Nat) (o : Oper), (ops.map strip)[i]? = some o → o.dst ≠ some s) → a0.tmps[s]? = (fin g).tmps[s]?)
    (hstep : ∀ (i : Nat) (o : Oper), ops[i]? = some o → Step P ops fin C Q i o) (hend : ∀ (s : σ) (L : Nat → Bool) (w : World), (∀ i, i < ops.size → L i = true) → C s L w → Q .normal (fin s) w) :
    ∀ (fuel : Nat) (l : Array Bool) (s : σ) (a : Act) (w : World), l.size = ops.size → undone l ≤ fuel → Fr (ops.map strip) a0 (fin s) (fun j => l.getD j false) a → C s (fun j => l.getD j false) w → wpAny P .any ops Q fuel l a w := by
  intro fuel
  have hsz : (ops.map strip).size = ops.size := Array.size_map ..
  have fin_of : ∀ (l : Array Bool) (s : σ) (a : Act) (w : World), l.size = ops.size → Fr (ops.map strip) a0 (fin s) (fun j => l.getD j false) a → C s (fun j => l.getD j false) w → Region.ready .any ops l = [] → Q .normal a w := by
    intro l s a w hs hfr hC hr
    have hall := ready_nil (ops := ops.map strip) (by rw [hsz]; exact hs) hok (by rw [ready_strip]; exact hr)
    have hL : ∀ i, i < (ops.map strip).size → (fun j => l.getD j false) i = true := fun i hi => hall i i (Nat.le_refl _) hi
    rw [hfr.all (hfin s) hL]
    exact hend s _ w (fun i hi => hL i (by rw [hsz]; exact hi)) hC
  induction fuel with
  | zero =>
    intro l s a w hs hu hfr hC
    have hr : Region.ready .any ops l = [] := by
      cases hr : Region.ready .any ops l with
      | nil => rfl
      | cons i r =>
        obtain ⟨hlt, hb, _⟩ := ready_spec hs (show i ∈ Region.ready .any ops l by rw [hr]; simp)
        exfalso
        unfold undone at hu
        have h0 : l.toList.filter (fun b => !b) = [] := List.eq_nil_of_length_eq_zero (by omega)
        have hm : false ∈ l.toList := by
          rw [Array.getD_eq_getD_getElem?, Array.getElem?_eq_getElem hlt] at hb
          simp only [Option.getD_some] at hb
          rw [← hb]
          simp
        have := List.filter_eq_nil_iff.1 h0 false hm
        simp at this
    exact ⟨hr, fin_of l s a w hs hfr hC hr⟩
  | succ fuel ih =>
    intro l s a w hs hu hfr hC
    refine ⟨fun hr => fin_of l s a w hs hfr hC hr, fun i hi => ?_⟩
    obtain ⟨hlt, hb, o, ho, hd⟩ := ready_spec hs hi
    have hf := fine_of hok (strip_at ho)
    have hs' : (l.setIfInBounds i true).size = ops.size := by simpa using hs
    have hu' : undone (l.setIfInBounds i true) ≤ fuel := by
      have h1 := undone_set l.toList i (by
        rw [Array.getD_eq_getD_getElem?, Array.getElem?_eq_getElem hlt] at hb
        simp only [Option.getD_some] at hb
        simp [hlt, hb])
      unfold undone at hu ⊢
      rw [Array.toList_setIfInBounds]
      omega
    have hw : Region.wanted o (yielded ops a.tmps) = true := by
      unfold Region.wanted
      cases hg : o.guard with
      | none => rfl
      | some jb =>
        obtain ⟨j, b⟩ := jb
        obtain ⟨⟨e, he, hbe, hon⟩, p, q, hp, hq, hv⟩ := hgd i o j b ho hg
        have hL : l.getD j false = true := by rw [← hon]; exact hd e he hbe
        have hc := hfr.done j (strip p) q (strip_at hp) hq hL
        rw [hv s] at hc
        have hy : yielded ops a.tmps j = some b := by
          unfold yielded
          rw [hp]
          simp [hq, hc]
        simp [hy]
    unfold wpOp
    rw [ho]
    simp only [hw, if_true]
    left
    have hrd : ∀ x ∈ o.op.operands, a.eval x = (fin s).eval x := Fr.reads (o := strip o) hfr hf (hfin s) hd
    refine hstep i o ho s (fun j => l.getD j false) w a hrd hd hb hC _ (fun s' v w' hag hv hD => ?_)
    have hfr' : Fr (ops.map strip) a0 (fin s') (more (fun j => l.getD j false) i) (a.put o.dst v) := Fr.step (o := strip o) (gt.Fr.turn hfr (turn_strip hag)) (strip_at ho) hf hv
    rw [← more_set l hlt] at hfr' hD
    exact ih _ _ _ _ hs' hu' hfr' hD
theorem guard_get {l : List Oper} {gs : List (Nat × Bool)} (h : guardB l gs = true) {fin : σ → Act} (hv : ∀ s, ∀ x ∈ gs, (fin s).tmps[x.1]? = some (.bool x.2)) (i : Nat) (o : Oper) (j : Nat) (b : Bool) (ho : l[i]? = some o) (hg : o.guard = some (j, b)) :
    (∃ e ∈ o.after, Region.binds .any e = true ∧ e.on = j) ∧ ∃ p q, l[j]? = some p ∧ p.dst = some q ∧ ∀ s, (fin s).tmps[q]? = some (.bool b) := by
  have h1 := List.all_eq_true.1 h o (List.mem_of_getElem? ho)
  rw [hg] at h1
  simp only [Bool.and_eq_true] at h1
  obtain ⟨h2, h3⟩ := h1
  refine ⟨?_, ?_⟩
  · simp only [Array.any_eq_true, Bool.and_eq_true, beq_iff_eq] at h2
    obtain ⟨n, hn, hb, hm⟩ := h2
    exact ⟨_, Array.getElem_mem hn, hb, hm⟩
  · cases hp : l[j]? with
    | none => rw [hp] at h3; cases h3
    | some p =>
      rw [hp] at h3
      simp only at h3
      cases hq : p.dst with
      | none => rw [hq] at h3; cases h3
      | some q =>
        rw [hq] at h3
        exact ⟨p, q, rfl, hq, fun s => hv s (q, b) (by simpa using h3)⟩
theorem region_ghost {id : Nat} {l : List Oper} {w : World} (fin : σ → Act) (C : σ → (Nat → Bool) → World → Prop) (s0 : σ) (hm : P.follows .mixedOrders = true) (hok : okB (l.map strip).toArray = true) (gs : List (Nat × Bool)) (hgs : guardB l gs = true) (hgv : ∀ s, ∀ x ∈ gs, (fin s).tmps[x.1]? = some (.bool x.2))
    (hdef : a0.defers = (fin s0).defers) (hsz : ∀ s, a0.tmps.size = (fin s).tmps.size) (ks : List Nat) (hks : ((List.range a0.tmps.size).filter fun s => !keepB l s) = ks) (hkeep : ∀ g, gh.Kept a0.tmps (fin g).tmps ks)
    (hC : C s0 (fun _ => false) w.drew) (hstep : Each P l.toArray fin C Q 0 l) (hend : ∀ (s : σ) (L : Nat → Bool) (w' : World), (∀ i, i < l.length → L i = true) → C s L w' → Q .normal (fin s) w') :
    (Code.region id l.toArray true).wp P Q a0 w := by
  refine wp_region_any hm ?_
  have hL0 : (fun j => (Array.replicate l.toArray.size false).getD j false) = fun _ => false := by
    funext j
    simp only [Array.getD_eq_getD_getElem?, Array.getElem?_replicate]
    split <;> rfl
  have hst : l.toArray.map strip = (l.map strip).toArray := by simp
  refine any_done (a0 := a0) (fin := fin) (C := C) (by rw [hst]; exact hok) (fun i o j b hi hg => by
    have := guard_get hgs hgv i o j b (by simpa using hi) hg
    simpa using this) (fun g s hs => ?_) (fun i o hi => ?_) (fun s L w' hL hD => hend s L w' (fun i hi => hL i (by simpa using hi)) hD) _ _ s0 _ _ (by simp) ?_ ?_ ?_
  · by_cases hlt : s < a0.tmps.size
    · refine gh.kept_get ks (hkeep g) s ?_
      rw [← hks, List.mem_filter]
      refine ⟨by simpa using hlt, ?_⟩
      rw [Bool.not_eq_true']
      unfold keepB
      rw [List.any_eq_false]
      intro o ho
      obtain ⟨i, hi⟩ := List.getElem?_of_mem ho
      have := hs i (strip o) (strip_at (by simpa using hi))
      simpa [strip] using this
    · rw [Array.getElem?_eq_none (by omega), Array.getElem?_eq_none (by rw [← hsz]; omega)]
  · have := each_get l 0 hstep i o (by simpa using hi)
    rwa [Nat.zero_add] at this
  · unfold undone
    refine Nat.le_trans (List.length_filter_le _ _) (by simp)
  · rw [hL0]
    exact ⟨hdef, hsz s0, fun i o s _ _ h => (by cases h), fun s _ => rfl⟩
  · rw [hL0]
    exact hC
end
section
variable {σ : Type} {P : Program} {act : Act} {ws : σ → List (Nat × Value)} {l : List Oper} {js : List Nat} {S : σ → Nat → World → Prop} {Q : Exit → Act → World → Prop}
/-- the whole region -/
theorem region {id : Nat} {w : World} (gs : List (Nat × Bool)) (hgs : guardB l gs = true) (hgv : ∀ s, ∀ x ∈ gs, (dk.sets act (ws s)).tmps[x.1]? = some (.bool x.2)) (ks : List Nat) (s0 : σ) (hm : P.follows .mixedOrders = true) (hok : okB (l.map strip).toArray = true) (hw : ∀ g, (ws g).map (·.1) = ks) (hks : (ks.all fun t => keepB l t) = true) (hjs : ∀ j ∈ js, j < l.length) (hS : S s0 0 w.drew)
    (hstep : gt.Each P l.toArray (fun g => dk.sets act (ws g)) (Cn l js S) Q 0 l) (hend : ∀ s w', S s js.length w' → Q .normal (dk.sets act (ws s)) w') : (Code.region id l.toArray true).wp P Q act w := by
  refine region_ghost (fun g => dk.sets act (ws g)) (Cn l js S) s0 hm hok gs hgs hgv (dk.sets_defers act _).symm (fun s => (dk.sets_size act (ws s)).symm) _ rfl (fun g => dk.kept_of _ (dk.keeps (ws g) (hw g) hks)) ⟨fun i o _ h => (by cases h), 0, Nat.zero_le _, fun m j _ => by simp, hS⟩ hstep fun s L w' hL hC => ?_
  obtain ⟨_, k, hk, hLk, hS'⟩ := hC
  have : k = js.length := by
    rcases Nat.lt_or_ge k js.length with h | h
    · have h1 := hLk k js[k] (List.getElem?_eq_getElem h)
      rw [hL _ (hjs _ (List.getElem_mem h))] at h1
      simp at h1
    · omega
  subst this
  exact hend s w' hS'
end
end Go.Proofs.Ytokaoafbgebelaa.chg
