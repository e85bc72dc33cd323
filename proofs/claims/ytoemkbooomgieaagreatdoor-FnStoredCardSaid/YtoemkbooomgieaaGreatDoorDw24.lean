/- FnStored: what its law wants of stores: what a right log makes is a right store again; a step of the table changes nothing of its pairs; a record more is a record more. -/
import Derived.Test.YtoemkbooomgieaaGreatDoorDw19
import Derived.Test.YtoemkbooomgieaaGreatDoorDw03
import Derived.Test.YtoemkbooomgieaaGreatDoorDw23
import Derived.Test.YtoemkbooomgieaaGreatDoorStoLib
import Derived.Test.YtoemkbooomgieaaGreatDoorCloneLaid
import Derived.Test.YtoemkbooomgieaaGreatDoorDw18
import Derived.Test.YtoemkbooomgieaaGreatDoorDw15
import Derived.Laws.Small
import Derived.Deep.RegionWith

/- Tables, without memory: what a flush and a merge change is nothing that a scan or a get reads. -/
namespace Go.Proofs.YtoemkbooomgieaaGreatDoor.mdp
open Go.Proofs.YtoemkbooomgieaaGreatDoor.rc Go.Proofs.YtoemkbooomgieaaGreatDoor.ro Go.Proofs.YtoemkbooomgieaaGreatDoor.rn Go.Proofs.YtoemkbooomgieaaGreatDoor.tk Go.Proofs.YtoemkbooomgieaaGreatDoor.tko Go.Proofs.YtoemkbooomgieaaGreatDoor.tg Go.Proofs.YtoemkbooomgieaaGreatDoor.tgi Go.Proofs.YtoemkbooomgieaaGreatDoor.ptp Go.Proofs.YtoemkbooomgieaaGreatDoor.mgp Go.Proofs.YtoemkbooomgieaaGreatDoor.sci Go.Proofs.YtoemkbooomgieaaGreatDoor.tpu
set_option linter.unusedVariables false

/-- what lives at a key -/
def lv (ls : List (List flP.Pr)) (key : ByteArray) : Option flP.Pr := (nwst ls key).filter (fun e => !e.g)
theorem is_len : ∀ {ls : List (List flP.Pr)}, (∀ l ∈ ls, Asc l) → ∃ out, Is ls out ∧ out.length ≤ tan.tot ls
  | [], _ => ⟨[], ⟨List.Pairwise.nil, fun x => ⟨fun h => (by cases h), fun h => absurd h new_nil⟩⟩, Nat.zero_le _⟩
  | a :: ls, h => by
    obtain ⟨out, h1, hl⟩ := is_len (ls := ls) (fun l hl => h l (List.mem_cons_of_mem _ hl))
    have h2 := (mga.is_nw (h a (List.mem_cons_self ..)) h1.1).1
    have h3 := (mga.is_nw (h a (List.mem_cons_self ..)) h1.1).2
    refine ⟨_, ⟨h2.1, fun x => (h2.2 x).trans ?_⟩, by rw [mga.tot_cons]; omega⟩
    have e1 : New [a, out] x ↔ x ∈ a ∨ ((∀ y ∈ a, y.k ≠ x.k) ∧ x ∈ out) := by
      refine new_cons.trans (or_congr Iff.rfl (and_congr Iff.rfl ⟨fun h4 => ?_, fun h4 => new_cons.2 (.inl h4)⟩))
      rcases new_cons.1 h4 with h4 | ⟨_, h4⟩
      · exact h4
      · exact absurd h4 new_nil
    have e2 : New (a :: ls) x ↔ x ∈ a ∨ ((∀ y ∈ a, y.k ≠ x.k) ∧ New ls x) := new_cons
    exact e1.trans ((or_congr Iff.rfl (and_congr Iff.rfl (h1.2 x))).trans e2.symm)
section
variable {ys ys' : List flP.Pr} {R R' : List (List flP.Pr)}
theorem mem_scan (hok : okB ys R = true) {fr to : ByteArray} {e : flP.Pr} : e ∈ scan ys R fr to ↔ lv (ys :: R) e.k = some e ∧ keep fr to e = true := by
  have hA := all_asc (okB_true.1 hok)
  unfold scan
  rw [if_pos hok, List.mem_filter]
  have hk : keep fr to e = true → e.g = false := fun h => by
    unfold keep at h
    cases hg : e.g with
    | false => rfl
    | true => rw [hg] at h; simp at h
  constructor
  · rintro ⟨h1, h2⟩
    refine ⟨?_, h2⟩
    unfold lv
    rw [new_nw hA (((is_nwL hA).2 e).1 h1)]
    simp [Option.filter, hk h2]
  · rintro ⟨h1, h2⟩
    refine ⟨((is_nwL hA).2 e).2 ?_, h2⟩
    unfold lv at h1
    rw [Option.filter_eq_some_iff] at h1
    exact (nw_new hA h1.1).1
theorem scan_len (fr to : ByteArray) : (scan ys R fr to).length ≤ ys.length + tan.tot R := by
  unfold scan
  split
  · next hok =>
    obtain ⟨out, h1, h2⟩ := is_len (all_asc (okB_true.1 hok))
    rw [nwL_eq h1]
    rw [mga.tot_cons] at h2
    exact Nat.le_trans (List.length_filter_le _ _) h2
  · exact Nat.zero_le _
theorem scan_ext (h : okB ys R = true) (h' : okB ys' R' = true) (hl : ∀ k, lv (ys :: R) k = lv (ys' :: R') k) (fr to : ByteArray) : scan ys R fr to = scan ys' R' fr to := by
  refine asc_ext ?_ ?_ fun e => ?_
  · unfold scan; rw [if_pos h]; exact List.Pairwise.filter _ (is_nwL (all_asc (okB_true.1 h))).1
  · unfold scan; rw [if_pos h']; exact List.Pairwise.filter _ (is_nwL (all_asc (okB_true.1 h'))).1
  · rw [mem_scan h, mem_scan h', hl]
theorem lv_flush (k : ByteArray) : lv ([] :: ys :: R) k = lv (ys :: R) k := by
  unfold lv
  rw [nw_cons]
  rfl
theorem nw_app (A B : List (List flP.Pr)) (k : ByteArray) : nwst (A ++ B) k = (nwst A k).or (nwst B k) := by
  unfold nwst
  rw [List.findSome?_append]
theorem fnd_is {ls : List (List flP.Pr)} {out : List flP.Pr} (hA : ∀ l ∈ ls, Asc l) (h : Is ls out) (k : ByteArray) : fnd out k = nwst ls k := by
  cases hn : nwst ls k with
  | none =>
    rw [fnd_no]
    intro e he hk
    have := new_nw hA ((h.2 e).1 he)
    rw [hk, hn] at this
    cases this
  | some e =>
    obtain ⟨h1, h2⟩ := nw_new hA hn
    exact (fnd_iff h.1).2 ⟨(h.2 e).2 h1, h2⟩
theorem fnd_filter {l : List flP.Pr} (hA : Asc l) (k : ByteArray) : fnd (l.filter (fun e => !e.g)) k = (fnd l k).filter (fun e => !e.g) := by
  have hA' : Asc (l.filter (fun e => !e.g)) := List.Pairwise.filter _ hA
  cases hf : fnd l k with
  | none =>
    rw [fnd_no] at hf
    exact fnd_no.2 fun e he => hf e (List.mem_filter.1 he).1
  | some e =>
    obtain ⟨h1, h2⟩ := (fnd_iff hA).1 hf
    cases hg : e.g with
    | true =>
      simp only [Option.filter, hg]
      refine fnd_no.2 fun f hf hk => ?_
      obtain ⟨f1, f2⟩ := List.mem_filter.1 hf
      have := asc_key hA f1 h1 (hk.trans h2.symm)
      rw [this, hg] at f2
      simp at f2
    | false =>
      simp only [Option.filter, hg]
      exact (fnd_iff hA').2 ⟨List.mem_filter.2 ⟨h1, by simp [hg]⟩, h2⟩
theorem or_filter (a b : Option flP.Pr) : (a.or (b.filter (fun e => !e.g))).filter (fun e => !e.g) = (a.or b).filter (fun e => !e.g) := by
  cases a with
  | some a => rfl
  | none =>
    cases b with
    | none => rfl
    | some b => cases hg : b.g <;> simp [Option.filter, hg]
theorem lv_merge (hok : okB ys R = true) {i : Nat} (hi : i + 2 ≤ R.length) (k : ByteArray) : lv (ys :: mga.mrg R i) k = lv (ys :: R) k := by
  have hO := okB_true.1 hok
  have g1 := List.getElem?_eq_getElem (show i < R.length by omega)
  have g2 := List.getElem?_eq_getElem (show i + 1 < R.length by omega)
  have ha := mga.asc_at hO g1
  have hb := mga.asc_at hO g2
  have his := (mga.is_nw ha hb).1
  have hA2 : ∀ l ∈ [R[i]'(by omega), R[i + 1]'(by omega)], Asc l := fun l hl => by
    simp at hl
    rcases hl with rfl | rfl
    · exact ha
    · exact hb
  have hf := fnd_is hA2 his k
  have hR : nwst R k = (nwst (R.take i) k).or ((nwst [R[i]'(by omega), R[i + 1]'(by omega)] k).or (nwst (R.drop (i + 2)) k)) := by
    conv => lhs; rw [mga.parts hi]
    rw [nw_app]
    congr 1
    rw [← nw_app]
    rfl
  have e1 : lv (ys :: mga.mrg R i) k = ((fnd ys k).or ((nwst (R.take i) k).or ((fnd (mgd.merged (R[i]'(by omega)) (R[i + 1]'(by omega)) (decide (i + 2 = R.length))) k).or (nwst (R.drop (i + 2)) k)))).filter (fun e => !e.g) := by
    unfold lv
    rw [nw_cons, mga.mrg_at hi, nw_app, nw_cons]
  have e2 : lv (ys :: R) k = ((fnd ys k).or ((nwst (R.take i) k).or ((nwst [R[i]'(by omega), R[i + 1]'(by omega)] k).or (nwst (R.drop (i + 2)) k)))).filter (fun e => !e.g) := by
    unfold lv
    rw [nw_cons, hR]
  rw [e1, e2]
  by_cases hl : i + 2 = R.length
  · have hd : R.drop (i + 2) = [] := List.drop_eq_nil_of_le (by omega)
    rw [decide_eq_true hl, mga.merged_yes, fnd_filter his.1, hf, hd]
    simp only [show nwst [] k = none from rfl, Option.or_none]
    rw [← Option.or_assoc, or_filter, Option.or_assoc]
  · rw [decide_eq_false hl, mga.merged_no, hf]
theorem ok_nil : OkL [] := ⟨by simp, fun i e h => (by simp at h), fun i a b h => (by simp at h)⟩
theorem flush_can (hc : fls.can ys R = true) : (fls.ansY ys R).length = 0 ∧ okB (fls.ansY ys R) (fls.ansR ys R) = true := by
  rw [(fls.ans_yes hc).1, (fls.ans_yes hc).2]
  unfold fls.can at hc
  obtain ⟨c1, c2⟩ := Bool.and_eq_true_iff.1 hc
  obtain ⟨_, c3⟩ := Bool.and_eq_true_iff.1 c2
  have c4 := of_decide_eq_true c3
  have hok := okB_true.1 c1
  refine ⟨rfl, okB_true.2 ⟨by rw [List.length_cons]; omega, ok_nil, fun i l hi => ?_⟩⟩
  cases i with
  | zero => cases hi; exact hok.yo
  | succ i => exact hok.ro i l hi
theorem flush_ok (hc : fls.can ys R = true) : okB ys R = true := by
  unfold fls.can at hc
  exact (Bool.and_eq_true_iff.1 hc).1
theorem flush_scan (fr to : ByteArray) : scan (fls.ansY ys R) (fls.ansR ys R) fr to = scan ys R fr to := by
  cases hc : fls.can ys R with
  | true =>
    refine scan_ext (flush_can hc).2 (flush_ok hc) (fun k => ?_) fr to
    rw [(fls.ans_yes hc).1, (fls.ans_yes hc).2]
    exact lv_flush k
  | false => rw [(fls.ans_no hc).1, (fls.ans_no hc).2]
variable {x : Int}
theorem merge_parts (hc : mga.can ys R x = true) : okB ys R = true ∧ x.toNat + 2 ≤ R.length ∧ okB ys (mga.mrg R x.toNat) = true := by
  unfold mga.can at hc
  obtain ⟨c1, c2⟩ := Bool.and_eq_true_iff.1 hc
  obtain ⟨c2, c3⟩ := Bool.and_eq_true_iff.1 c2
  unfold mga.inB at c2
  have c4 := of_decide_eq_true c2
  exact ⟨c1, by omega, c3⟩
theorem merge_can (hc : mga.can ys R x = true) : (mga.ansR ys R x).length = R.length - 1 ∧ 2 ≤ R.length ∧ okB ys (mga.ansR ys R x) = true := by
  obtain ⟨c1, c2, c3⟩ := merge_parts hc
  rw [mga.ans_yes hc]
  exact ⟨mga.mrg_len c2, by omega, c3⟩
theorem merge_scan (fr to : ByteArray) : scan ys (mga.ansR ys R x) fr to = scan ys R fr to := by
  cases hc : mga.can ys R x with
  | true =>
    obtain ⟨c1, c2, c3⟩ := merge_parts hc
    rw [mga.ans_yes hc]
    exact scan_ext c3 c1 (fun k => lv_merge c1 c2 k) fr to
  | false => rw [mga.ans_no hc]
end
end Go.Proofs.YtoemkbooomgieaaGreatDoor.mdp

/- Stores that are answered: their marks. -/
namespace Go.Proofs.YtoemkbooomgieaaGreatDoor.stm
open Go.ChangeShapes Go.WideShapes Go.ChangeAt Go.RowKit Go.Proofs.YtoemkbooomgieaaGreatDoor.fl Go.Proofs.YtoemkbooomgieaaGreatDoor.fo Go.Proofs.YtoemkbooomgieaaGreatDoor.rn Go.Proofs.YtoemkbooomgieaaGreatDoor.tb Go.Proofs.YtoemkbooomgieaaGreatDoor.tan Go.Proofs.YtoemkbooomgieaaGreatDoor.mrR Go.Proofs.YtoemkbooomgieaaGreatDoor.mrT
set_option linter.unusedVariables false

end Go.Proofs.YtoemkbooomgieaaGreatDoor.stm

/- StoreCrash: what is found again of a store: the specification and the program. -/
namespace Go.Proofs.YtoemkbooomgieaaGreatDoor.sco
open Go.ChangeShapes Go.WideShapes Go.ChangeAt Go.RowKit Go.Proofs.YtoemkbooomgieaaGreatDoor.fl Go.Proofs.YtoemkbooomgieaaGreatDoor.fo Go.Proofs.YtoemkbooomgieaaGreatDoor.rn Go.Proofs.YtoemkbooomgieaaGreatDoor.mrR Go.Proofs.YtoemkbooomgieaaGreatDoor.mrT Go.Proofs.YtoemkbooomgieaaGreatDoor.tan Go.Proofs.YtoemkbooomgieaaGreatDoor.rcp Go.Proofs.YtoemkbooomgieaaGreatDoor.rcm Go.Proofs.YtoemkbooomgieaaGreatDoor.rpp Go.Proofs.YtoemkbooomgieaaGreatDoor.rcI
set_option linter.unusedVariables false

/-- how many bytes are left -/
def lft (sf kp : Int) (n : Nat) : Int := max 0 (min sf n) + max 0 (min kp (n - max 0 (min sf n)))
theorem lft_in (sf kp : Int) (n : Nat) : 0 ≤ lft sf kp n ∧ lft sf kp n ≤ n := by unfold lft; omega
noncomputable def endL (lg : ByteArray) (sf kp : Int) : Int := (recs (lg.extract 0 (lft sf kp lg.size).toNat)).2
noncomputable def logL (lg : ByteArray) (sf kp : Int) : ByteArray := lg.extract 0 (endL lg sf kp).toNat
noncomputable def ansY (lg : ByteArray) (sf kp : Int) : List flP.Pr := rep (logL lg sf kp)
theorem recs_in (s : ByteArray) : 0 ≤ (recs s).2 ∧ (recs s).2 ≤ s.size := by
  by_cases h : s.size ≤ 200000
  · obtain ⟨i, hi, he⟩ := left_ex s h
    rw [he]
    have h1 := hi.far
    have h2 := hi.hi
    omega
  · rw [recs_big (by omega)]
    simp
theorem end_in (lg : ByteArray) (sf kp : Int) : 0 ≤ endL lg sf kp ∧ endL lg sf kp ≤ lft sf kp lg.size ∧ endL lg sf kp ≤ lg.size := by
  have h1 := recs_in (lg.extract 0 (lft sf kp lg.size).toNat)
  have h2 := lft_in sf kp lg.size
  rw [ByteArray.size_extract] at h1
  unfold endL
  omega
theorem cut_cut (lg : ByteArray) (a b : Nat) (h : b ≤ a) : (lg.extract 0 a).extract 0 b = lg.extract 0 b := by
  rw [ByteArray.extract_extract]
  simp only [Nat.zero_add, Nat.add_zero]
  congr 1
  omega
theorem ta_one {w : World} {B : Nat} {fa : Option Addr} {l : List flP.Pr} (h : MP w B fa l) : TA w B fa none l [] :=
  ⟨⟨h, .inl rfl, fun r hr => (by cases hr), fun i j r s hi => (by simp at hi), fun g o e => (by cases e), fun k _ hb => (by obtain ⟨r, hr, _⟩ := hb; cases hr)⟩, fun g o e => (by cases e)⟩
theorem cap_of {w : World} {B k : Nat} {T : TypeId} {s : Nat} {a : Option Addr} {c : Nat} {xs : List Value} (h : w.ownsRow B T s (.slice a k c) k xs) : k ≤ c := by
  obtain ⟨_, ⟨h1, h2⟩ | ⟨g', cap, cur, h1, _, _, hcap, _⟩⟩ := h
  · cases h1; exact Nat.le_refl _
  · cases h1; exact hcap
/-- what both answer -/
def CA (w : World) (lg : ByteArray) (sf kp : Int) (e : Ending) (w' : World) : Prop := ∃ sa sc, e = .returned (.agg #[.slice sa (ansY lg sf kp).length sc, .slice none 0 0, .string (logL lg sf kp), .int .i64 (endL lg sf kp)]) ∧ (ansY lg sf kp).length ≤ sc ∧ TA w' w.heap.size sa none (ansY lg sf kp) [] ∧ Below w.heap.size w w'


end Go.Proofs.YtoemkbooomgieaaGreatDoor.sco

/- StoreCrash: the program. -/
namespace Go.Proofs.YtoemkbooomgieaaGreatDoor.sco
open Go.ChangeShapes Go.WideShapes Go.ChangeAt Go.RowKit Go.Proofs.YtoemkbooomgieaaGreatDoor.fl Go.Proofs.YtoemkbooomgieaaGreatDoor.fo Go.Proofs.YtoemkbooomgieaaGreatDoor.rn Go.Proofs.YtoemkbooomgieaaGreatDoor.mrR Go.Proofs.YtoemkbooomgieaaGreatDoor.mrT Go.Proofs.YtoemkbooomgieaaGreatDoor.tan Go.Proofs.YtoemkbooomgieaaGreatDoor.rcp Go.Proofs.YtoemkbooomgieaaGreatDoor.rcm Go.Proofs.YtoemkbooomgieaaGreatDoor.rpp Go.Proofs.YtoemkbooomgieaaGreatDoor.rcI
set_option linter.unusedVariables false

theorem impl_within (n m : Int) (w : World) : Calls Tryz.prog 29 #[.int .i64 n, .int .i64 m] w fun e w' => e = .returned (.int .i64 (max 0 (min n m))) ∧ w' = w := by
  go_enter Tryz.func29, Tryz.ntmps29
  go_wp2
  go_ret
  exact ⟨rfl, rfl⟩

set_option maxRecDepth 100000 in
set_option maxHeartbeats 2000000 in
theorem impl_crash (ya ra : Option Addr) (yl yc rl rc : Nat) (lg : ByteArray) (sf kp : Int) (w : World) (hlg : lg.size ≤ 1048576) (hT : TB w) :
    Calls Tryz.prog 13 #[.agg #[.slice ya yl yc, .slice ra rl rc, .string lg, .int .i64 sf], .int .i64 kp] w fun e w' => CA w lg sf kp e w' := by
  have hA := bnew w #[.slice ya yl yc, .slice ra rl rc, .string lg, .int .i64 sf] 32
  obtain ⟨W, hW⟩ : ∃ W, w.alloc (.cells #[.slice ya yl yc, .slice ra rl rc, .string lg, .int .i64 sf] 32) = W := ⟨_, rfl⟩
  have HB0 : Hid (Below w.heap.size w W) := by unfold Hid; rw [← hW]; exact (Below.refl _ _).alloc (Nat.le_refl _) _
  rw [hW] at hA
  have hlt := (Array.getElem?_eq_some_iff.1 hA).1
  have hO := bnew W #[.slice none 0 0, .slice none 0 0, .string ⟨#[]⟩, .int .i64 0] 32
  obtain ⟨V, hV⟩ : ∃ V, W.alloc (.cells #[.slice none 0 0, .slice none 0 0, .string ⟨#[]⟩, .int .i64 0] 32) = V := ⟨_, rfl⟩
  have HB2 : Hid (Below W.heap.size W V) := by unfold Hid; rw [← hV]; exact (Below.refl _ _).alloc (Nat.le_refl _) _
  rw [hV] at hO
  have HT : Hid (TB V) := (hT.on HB0.out).on HB2.out
  have HA : Hid (V.heap[w.heap.size]? = some (.cells #[.slice ya yl yc, .slice ra rl rc, .string lg, .int .i64 sf] 32 (0, 0))) := bstay hA HB2.out hlt
  have HO : Hid (V.heap[W.heap.size]? = some (.cells #[.slice none 0 0, .slice none 0 0, .string ⟨#[]⟩, .int .i64 0] 32 (0, 0))) := hO
  have c2 : V.cell? ⟨w.heap.size, 2, none⟩ = some (.string lg) := bcell HA.out rfl
  have c3 : V.cell? ⟨w.heap.size, 3, none⟩ = some (.int .i64 sf) := bcell HA.out rfl
  have hw1 := impl_within sf (lg.size : Int) V
  obtain ⟨sv, hsv⟩ : ∃ sv, max 0 (min sf (lg.size : Int)) = sv := ⟨_, rfl⟩
  have HSV : Hid (max 0 (min sf (lg.size : Int)) = sv) := hsv
  have v1 : 0 ≤ sv := by omega
  have v2 : sv ≤ (lg.size : Int) := by omega
  rw [hsv] at hw1
  clear hA hO hlt hT hsv
  go_enter Tryz.func13, Tryz.ntmps13
  go_wp2_with (go_at_call 29; fail)
  refine hw1.mono ?_
  rintro e w1 ⟨rfl, hw1'⟩
  obtain rfl := hw1'.symm
  clear hw1 c3
  have hw2 := impl_within kp ((lg.size : Int) - sv) V.drew
  obtain ⟨kv, hkv⟩ : ∃ kv, max 0 (min kp ((lg.size : Int) - sv)) = kv := ⟨_, rfl⟩
  have HLF : Hid (lft sf kp lg.size = sv + kv) := by unfold Hid lft; rw [HSV.out, hkv]
  have v3 : 0 ≤ kv := by omega
  have v4 : sv + kv ≤ (lg.size : Int) := by omega
  have v5 : 0 ≤ sv + kv := by omega
  rw [hkv] at hw2
  clear hkv
  have hwr1 : IntKind.i64.wrap ((lg.size : Int) - sv) = (lg.size : Int) - sv := by rw [IntKind.wrap_i64]; omega
  have hwr2 : IntKind.i64.wrap (sv + kv) = sv + kv := by rw [IntKind.wrap_i64]; omega
  have hbD : Below V.heap.size V V.drew := (Below.refl _ V).drew
  have HT' : Hid (TB V.drew) := HT.out.on hbD
  have HB2' : Hid (Below W.heap.size W V.drew) := HB2.out.drew
  have HO' : Hid (V.drew.heap[W.heap.size]? = some (.cells #[.slice none 0 0, .slice none 0 0, .string ⟨#[]⟩, .int .i64 0] 32 (0, 0))) := HO.out
  go_wp2
  go_region_with (go_at_call 29; refine hw2.mono ?_; rintro e w1 ⟨rfl, hw2'⟩; obtain rfl := hw2'.symm)
  all_goals
    clear hw2
    obtain ⟨U, hU⟩ : ∃ U, V.drew = U := ⟨_, rfl⟩
    rw [hU] at HT' HB2' HO' ⊢
    have hrc := impl_recs (lg.extract 0 (lft sf kp lg.size).toNat) U (by rw [ByteArray.size_extract]; omega) HT'.out
    have hcv : ∀ t : ByteArray, t = lg.extract 0 (lft sf kp lg.size).toNat → Calls Tryz.prog 14 #[.string t] U fun e w' => ∃ v, e = .returned (.tuple #[v, .int .i64 (endL lg sf kp)]) ∧ Below U.heap.size U w' := fun t ht => by
      rw [ht]
      exact hrc.mono fun e w' ⟨v, h1, _, _, h2⟩ => ⟨v, h1, h2.bel⟩
    clear hrc hW hV hU
    go_wp2_with (go_at_call 14; fail)
    refine (hcv _ (by rw [HLF.out])).mono ?_
    rintro e w3 ⟨v3', rfl, hb3⟩
    clear c2 hcv
    obtain ⟨h1, h1', h2⟩ := end_in lg sf kp
    rw [HLF.out] at h1'
    have hrl : logL lg sf kp = lg.extract 0 (endL lg sf kp).toNat := rfl
    obtain ⟨en, hen⟩ : ∃ en, endL lg sf kp = en := ⟨_, rfl⟩
    have HEN : Hid (endL lg sf kp = en) := hen
    rw [hen] at h1 h1' h2 hrl ⊢
    have hcc : (lg.extract 0 (sv + kv).toNat).extract 0 en.toNat = logL lg sf kp := by rw [hrl, cut_cut _ _ _ (by omega)]
    have hsz : en ≤ ((lg.extract 0 (sv + kv).toNat).size : Int) := by rw [ByteArray.size_extract]; omega
    obtain ⟨ll, hll⟩ : ∃ ll, logL lg sf kp = ll := ⟨_, rfl⟩
    have HLL : Hid (logL lg sf kp = ll) := hll
    have hls : ll.size ≤ 1048576 := by rw [← hll, hrl, ByteArray.size_extract]; omega
    rw [hll] at hcc
    obtain ⟨cut, hcut⟩ : ∃ cut, lg.extract 0 (sv + kv).toNat = cut := ⟨_, rfl⟩
    rw [hcut] at hcc hsz ⊢
    have hcl := cl.clone ll w3 (by omega)
    clear hcut hrl hll hen
    go_wp2_with (go_at_call 25; fail)
    refine hcl.mono ?_
    rintro e w5 ⟨rfl, hb5⟩
    have hB5 : Below U.heap.size U w5 := hb3.trans (hb5.mono hb3.size)
    have hrp3 := rpi.impl_replay ll w5 hls (HT'.out.on hB5)
    obtain ⟨yy, hyy⟩ : ∃ yy, rep ll = yy := ⟨_, rfl⟩
    have HYY : Hid (ansY lg sf kp = yy) := by unfold Hid ansY; rw [HLL.out, hyy]
    rw [hyy] at hrp3
    clear hyy hcl hcc hsz
    go_wp2_with (go_at_call 27; fail)
    refine hrp3.mono ?_
    rintro e w4 ⟨v4', rfl, ho4, hb4⟩
    obtain ⟨aa, ac, rfl, hm4'⟩ := pmk.mine_of flP.c_len ho4
    have hm4 : Mine flP.c 3 61 w4 w3.heap.size aa yy := by
      rcases hm4' with e | ⟨g, off, e, hB, hO⟩
      · exact .inl e
      · exact .inr ⟨g, off, e, Nat.le_trans hb5.size hB, hO⟩
    have hB34 : Below U.heap.size U w4 := hB5.trans (hb4.mono hB5.size)
    have hltO : W.heap.size < U.heap.size := (Array.getElem?_eq_some_iff.1 HO'.out).1
    have hO4 := bstay HO'.out hB34 hltO
    have f0 := bfree hO4 0
    have f1 := bfree hO4 1
    have f2 := bfree hO4 2
    have f3 := bfree hO4 3
    have x0 : w4.cell? ⟨W.heap.size, 0, none⟩ = some (.slice none 0 0) := bcell hO4 rfl
    have x1 : w4.cell? ⟨W.heap.size, 1, none⟩ = some (.slice none 0 0) := bcell hO4 rfl
    have x2 : w4.cell? ⟨W.heap.size, 2, none⟩ = some (.string ⟨#[]⟩) := bcell hO4 rfl
    have x3 : w4.cell? ⟨W.heap.size, 3, none⟩ = some (.int .i64 0) := bcell hO4 rfl
    have HC4 : Hid (yy.length ≤ ac) := cap_of ho4
    clear hb4 hrp3 ho4 hm4' hb5 hB5
    go_wp2
    have hm5 : MP ((((w4.setCell ⟨W.heap.size, 0, none⟩ (.slice aa yy.length ac)).setCell ⟨W.heap.size, 1, none⟩ (.slice none 0 0)).setCell ⟨W.heap.size, 2, none⟩ (.string ll)).setCell ⟨W.heap.size, 3, none⟩ (.int .i64 en)) w.heap.size aa yy := by
      have hbs := hb3.size
      have hb0 := HB0.out.size
      have ht : Tn w4 ((((w4.setCell ⟨W.heap.size, 0, none⟩ (.slice aa yy.length ac)).setCell ⟨W.heap.size, 1, none⟩ (.slice none 0 0)).setCell ⟨W.heap.size, 2, none⟩ (.string ll)).setCell ⟨W.heap.size, 3, none⟩ (.int .i64 en)) (fun k => k = W.heap.size) := ((((Tn.refl w4 (fun k => k = W.heap.size)).set (g := W.heap.size) rfl 0 _).set (g := W.heap.size) rfl 1 _).set (g := W.heap.size) rfl 2 _).set (g := W.heap.size) rfl 3 _
      have h5 := Mine.kept hm4 ht (fun k hk e => by have := (Mine.blk_le hm4 hk).1; omega)
      rcases h5 with e | ⟨g, off, e, hB, hO⟩
      · exact .inl e
      · exact .inr ⟨g, off, e, by omega, hO⟩
    have b5 := bset (bset (bset (bset hO4 0 (.slice aa yy.length ac)) 1 (.slice none 0 0)) 2 (.string ll)) 3 (.int .i64 en)
    have z0 : ((((w4.setCell ⟨W.heap.size, 0, none⟩ (.slice aa yy.length ac)).setCell ⟨W.heap.size, 1, none⟩ (.slice none 0 0)).setCell ⟨W.heap.size, 2, none⟩ (.string ll)).setCell ⟨W.heap.size, 3, none⟩ (.int .i64 en)).cell? ⟨W.heap.size, 0, none⟩ = some (.slice aa yy.length ac) := bcell b5 rfl
    have z1 : ((((w4.setCell ⟨W.heap.size, 0, none⟩ (.slice aa yy.length ac)).setCell ⟨W.heap.size, 1, none⟩ (.slice none 0 0)).setCell ⟨W.heap.size, 2, none⟩ (.string ll)).setCell ⟨W.heap.size, 3, none⟩ (.int .i64 en)).cell? ⟨W.heap.size, 1, none⟩ = some (.slice none 0 0) := bcell b5 rfl
    have z2 : ((((w4.setCell ⟨W.heap.size, 0, none⟩ (.slice aa yy.length ac)).setCell ⟨W.heap.size, 1, none⟩ (.slice none 0 0)).setCell ⟨W.heap.size, 2, none⟩ (.string ll)).setCell ⟨W.heap.size, 3, none⟩ (.int .i64 en)).cell? ⟨W.heap.size, 2, none⟩ = some (.string ll) := bcell b5 rfl
    have z3 : ((((w4.setCell ⟨W.heap.size, 0, none⟩ (.slice aa yy.length ac)).setCell ⟨W.heap.size, 1, none⟩ (.slice none 0 0)).setCell ⟨W.heap.size, 2, none⟩ (.string ll)).setCell ⟨W.heap.size, 3, none⟩ (.int .i64 en)).cell? ⟨W.heap.size, 3, none⟩ = some (.int .i64 en) := bcell b5 rfl
    have hBw4 : Below w.heap.size w w4 := HB0.out.trans ((HB2'.out.trans (hB34.mono HB2'.out.size)).mono HB0.out.size)
    refine bodyPost_ret (v := .agg #[.slice aa yy.length ac, .slice none 0 0, .string ll, .int .i64 en]) (by simp [results, Tryz.results13, go_sem, z0, z1, z2, z3]) rfl ?_
    refine ⟨aa, ac, by rw [HYY.out, HLL.out, HEN.out], by rw [HYY.out]; exact HC4.out, ?_, (((hBw4.setCell HB0.out.size _).setCell HB0.out.size _).setCell HB0.out.size _).setCell HB0.out.size _⟩
    rw [HYY.out]
    exact ta_one hm5
end Go.Proofs.YtoemkbooomgieaaGreatDoor.sco

/- FnStored: what its law wants of stores: what a right log makes is a right store again; a step of the table changes nothing of its pairs; a record more is a record more. -/
namespace Go.Proofs.YtoemkbooomgieaaGreatDoor.sdq
open Go.Proofs.YtoemkbooomgieaaGreatDoor.fl Go.Proofs.YtoemkbooomgieaaGreatDoor.rc Go.Proofs.YtoemkbooomgieaaGreatDoor.ro Go.Proofs.YtoemkbooomgieaaGreatDoor.tk Go.Proofs.YtoemkbooomgieaaGreatDoor.tko Go.Proofs.YtoemkbooomgieaaGreatDoor.sok Go.Proofs.YtoemkbooomgieaaGreatDoor.rcp Go.Proofs.YtoemkbooomgieaaGreatDoor.rpp Go.Proofs.YtoemkbooomgieaaGreatDoor.sam Go.Proofs.YtoemkbooomgieaaGreatDoor.mgp Go.Proofs.YtoemkbooomgieaaGreatDoor.ptp Go.Proofs.YtoemkbooomgieaaGreatDoor.tpu
set_option linter.unusedVariables false

section
variable {ys : List flP.Pr} {R : List (List flP.Pr)} {lg : ByteArray} {sf : Int}
theorem fold_mem : ∀ (A L : List flP.Pr) (e : flP.Pr), e ∈ A.foldl setP L → e ∈ L ∨ e ∈ A
  | [], L, e, h => .inl h
  | a :: A, L, e, h => by
    rcases fold_mem A (setP L a) e h with h | h
    · rcases ptp.setP_mem h with h | rfl
      · exact .inl h
      · exact .inr (List.mem_cons_self ..)
    · exact .inr (List.mem_cons_of_mem _ h)
theorem rep_asc (lg : ByteArray) : Asc (rep lg) := List.Pairwise.filter _ (ev_asc _)
theorem rep_elem {e : flP.Pr} (h : e ∈ rep lg) : okP e ∧ e.g = false := by
  unfold rep at h
  obtain ⟨h1, h2⟩ := List.mem_filter.1 h
  refine ⟨?_, by simpa using h2⟩
  rcases fold_mem _ [] e h1 with h | h
  · cases h
  by_cases hz : lg.size ≤ 200000
  · obtain ⟨b, hb, he⟩ := List.mem_flatten.1 h
    exact (rro.okb_all (rro.rok_form ((rro.recs_form hz).1 b hb)).1).2 e he
  · unfold recs at h
    rw [if_neg hz] at h
    cases h
theorem asc_up {l : List flP.Pr} (h : Asc l) : UpP l l.length := by
  intro i a b hi ha hb
  obtain ⟨h1, rfl⟩ := List.getElem?_eq_some_iff.1 ha
  obtain ⟨h2, rfl⟩ := List.getElem?_eq_some_iff.1 hb
  exact cmp_neg.2 (List.pairwise_iff_getElem.1 h i (i + 1) h1 h2 (by omega))
theorem rep_ok (h : (rep lg).length ≤ 300) : okB (rep lg) [] = true := by
  refine okB_true.2 ⟨by simp, ⟨h, fun i e he => (rep_elem (List.mem_of_getElem? he)).1, asc_up (rep_asc lg)⟩, fun i l hl => by simp at hl⟩
theorem keep_all {e : flP.Pr} (h : e.g = false) : sci.keep ⟨#[]⟩ ⟨#[]⟩ e = true := by
  unfold sci.keep
  rw [h]
  have h1 : lt e.k ⟨#[]⟩ = false := by
    cases hl : lt e.k ⟨#[]⟩ with
    | false => rfl
    | true =>
      exfalso
      unfold lt at hl
      have h2 : (⟨#[]⟩ : ByteArray).toList = [] := by rw [Lib.toList_data]
      rw [h2] at hl
      cases h3 : e.k.toList with
      | nil => rw [h3] at hl; simp [Op.bytesLess] at hl
      | cons a r => rw [h3] at hl; simp [Op.bytesLess] at hl
  rw [h1]
  rfl
theorem is_one {l : List flP.Pr} (h : Asc l) : Is [l] l := ⟨h, fun x => by
  have e2 : New [l] x ↔ x ∈ l ∨ ((∀ y ∈ l, y.k ≠ x.k) ∧ New [] x) := new_cons
  rw [e2]
  exact ⟨.inl, fun h => h.resolve_right fun h => new_nil h.2⟩⟩
theorem rep_all (h : (rep lg).length ≤ 300) : all0 (rep lg) [] = rep lg := by
  unfold all0 sci.scan
  rw [if_pos (rep_ok h), sci.nwL_eq (is_one (rep_asc lg))]
  exact List.filter_eq_self.2 fun e he => keep_all (rep_elem he).2
/-- a store that is found again from a log that is whole -/
theorem made_ok (h : (rep lg).length ≤ 300) (he : (recs lg).2 = lg.size) : okS (rep lg) [] lg lg.size = true := by
  rw [okS_5 (rep_ok h) (by omega) he (by rw [rep_all h]; exact h), rep_all h]
  exact sameL_yes rfl
theorem okS_parts (h : okS ys R lg sf = true) : okB ys R = true ∧ (0 ≤ sf ∧ sf ≤ lg.size) ∧ (recs lg).2 = lg.size ∧ (all0 ys R).length ≤ 300 ∧ all0 ys R = rep lg := by
  unfold okS at h
  simp only [Bool.and_eq_true, decide_eq_true_eq] at h
  exact ⟨h.1, h.2.1, h.2.2.1, h.2.2.2.1, (sameL_iff.1 h.2.2.2.2).symm⟩
theorem okS_of (h1 : okB ys R = true) (h2 : 0 ≤ sf ∧ sf ≤ lg.size) (h3 : (recs lg).2 = lg.size) (h4 : (all0 ys R).length ≤ 300) (h5 : all0 ys R = rep lg) : okS ys R lg sf = true := by
  rw [okS_5 h1 h2 h3 h4]
  exact sameL_yes h5.symm
/-- all of it safe -/
theorem sync_ok (h : okS ys R lg sf = true) : okS ys R lg lg.size = true := by
  obtain ⟨h1, h2, h3, h4, h5⟩ := okS_parts h
  exact okS_of h1 (by omega) h3 h4 h5
/-- a step of the table -/
theorem step_ok {kd x : Int} (h : okS ys R lg sf = true) : okS (sst.ansY ys R lg sf kd x) (sst.ansR ys R lg sf kd x) lg sf = true ∧ all0 (sst.ansY ys R lg sf kd x) (sst.ansR ys R lg sf kd x) = all0 ys R := by
  obtain ⟨h1, h2, h3, h4, h5⟩ := okS_parts h
  have hs : okB (sst.ansY ys R lg sf kd x) (sst.ansR ys R lg sf kd x) = true ∧ all0 (sst.ansY ys R lg sf kd x) (sst.ansR ys R lg sf kd x) = all0 ys R := by
    unfold sst.ansY sst.ansR
    by_cases k0 : kd = 0
    · rw [if_pos k0, if_pos k0]
      refine ⟨?_, mdp.flush_scan _ _⟩
      cases hc : fls.can ys R with
      | true => exact (mdp.flush_can hc).2
      | false =>
        obtain ⟨e1, e2⟩ := fls.ans_no hc
        rw [e1, e2]
        exact h1
    · rw [if_neg k0, if_neg k0]
      by_cases k1 : kd = 1
      · rw [if_pos k1]
        refine ⟨?_, mdp.merge_scan _ _⟩
        cases hc : mga.can ys R x with
        | true => exact (mdp.merge_can hc).2.2
        | false =>
          rw [mga.ans_no hc]
          exact h1
      · rw [if_neg k1]
        exact ⟨h1, rfl⟩
  exact ⟨okS_of hs.1 h2 h3 (by rw [hs.2]; exact h4) (by rw [hs.2]; exact h5), hs.2⟩
/-- the records of a log that is whole -/
theorem recs_whole (h : (recs lg).2 = lg.size) : (∀ b ∈ (recs lg).1, rro.Rok b) ∧ rro.cat (recs lg).1 = lg ∧ lg.size ≤ 200000 := by
  by_cases hz : lg.size ≤ 200000
  · obtain ⟨h1, h2, h3, h4⟩ := rro.recs_form hz
    refine ⟨h1, ?_, hz⟩
    have h5 : (rro.cat (recs lg).1).size = lg.size := by rw [h2] at h; omega
    rw [← h3, h5]
    exact rro.whole lg
  · unfold recs at h
    rw [if_neg hz] at h
    simp only at h
    omega
/-- a batch more -/
theorem do_recs {l : List flP.Pr} (h : (recs lg).2 = lg.size) (hc : apd.can lg l = true) : recs (apd.ans lg l) = ((recs lg).1 ++ [l], ((apd.ans lg l).size : Int)) := by
  obtain ⟨h1, h2, h3⟩ := recs_whole h
  unfold apd.can at hc
  simp only [Bool.not_eq_true', decide_eq_false_iff_not, not_or] at hc
  have he : apd.ans lg l = lg ++ rcd.out l := by unfold apd.ans; rw [if_neg (by omega)]
  have h4 := rro.recs_more (l := (recs lg).1) (b := l) h1 hc.1 (by rw [h2, ByteArray.size_append]; omega)
  rw [h2] at h4
  rw [he]
  exact h4
end
end Go.Proofs.YtoemkbooomgieaaGreatDoor.sdq
