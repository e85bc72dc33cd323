/- TableMerge: the specification and the program in the words of the law's walk. -/
import Derived.Test.YtbgkccleiapkmaaMergedSpec
import Derived.Test.YtbgkccleiapkmaaTabAns
import Derived.Test.YtbgkccleiapkmaaSpecCopyT
import Derived.Test.YtbgkccleiapkmaaTabOk
import Derived.Test.YtbgkccleiapkmaaCopyRows
import Derived.Test.YtbgkccleiapkmaaRunLib
import Derived.Test.YtbgkccleiapkmaaFlatOwn
import Derived.Deep.DeepAppendWide
import Derived.Laws.CopyOwn
import Derived.Deep.QuietTactic
import Derived.BigQuiet
import Derived.Test.YtbgkccleiapkmaaFlPair
import Derived.Test.YtbgkccleiapkmaaFlatOff
import Derived.Lib.SliceRun
import Derived.Test.YtbgkccleiapkmaaCopyPairs
import Derived.Test.YtbgkccleiapkmaaTabLib
import Derived.Test.YtbgkccleiapkmaaLayers

/- TableMerge: what it answers, on lists; and a table's memory where a run may be nothing. -/
namespace Go.Proofs.Ytbgkccleiapkmaa.mga
open Go.ChangeShapes Go.WideShapes Go.ChangeAt Go.RowKit Go.Proofs.Ytbgkccleiapkmaa.fl Go.Proofs.Ytbgkccleiapkmaa.fo Go.Proofs.Ytbgkccleiapkmaa.rn Go.Proofs.Ytbgkccleiapkmaa.mrR Go.Proofs.Ytbgkccleiapkmaa.mrT Go.Proofs.Ytbgkccleiapkmaa.tan Go.Proofs.Ytbgkccleiapkmaa.tk Go.Proofs.Ytbgkccleiapkmaa.tko Go.Proofs.Ytbgkccleiapkmaa.mgd Go.Proofs.Ytbgkccleiapkmaa.sci
set_option linter.unusedVariables false

theorem is_ex {a b : List flP.Pr} (ha : mgp.Asc a) (hb : mgp.Asc b) : ∀ k, k ≤ a.length → ∃ out, mgp.Is [a.take k, b] out ∧ out.length ≤ b.length + k
  | 0, _ => ⟨b, by rw [List.take_zero]; exact is_start hb, by omega⟩
  | k + 1, h => by
    obtain ⟨out, h1, h2⟩ := is_ex ha hb k (by omega)
    exact ⟨ptp.setP out a[k], mgs.is_over h1 ha (List.getElem?_eq_getElem (by omega)), by have := ptp.setP_le out a[k]; omega⟩
theorem is_nw {a b : List flP.Pr} (ha : mgp.Asc a) (hb : mgp.Asc b) : mgp.Is [a, b] (nwL [a, b]) ∧ (nwL [a, b]).length ≤ a.length + b.length := by
  obtain ⟨out, h1, h2⟩ := is_ex ha hb a.length (Nat.le_refl _)
  rw [List.take_length] at h1
  rw [nwL_eq h1]
  exact ⟨h1, by omega⟩
theorem merged_le {a b : List flP.Pr} (ha : mgp.Asc a) (hb : mgp.Asc b) (last : Bool) : (merged a b last).length ≤ a.length + b.length := Nat.le_trans (List.length_filter_le _ _) (is_nw ha hb).2
theorem merged_no (a b : List flP.Pr) : merged a b false = nwL [a, b] := by
  unfold merged
  rw [List.filter_eq_self]
  intro e _
  simp [kp]
theorem merged_yes (a b : List flP.Pr) : merged a b true = (nwL [a, b]).filter (fun e => !e.g) := by
  unfold merged
  congr 1
  funext e
  simp [kp]
theorem merged_mem {a b : List flP.Pr} (ha : mgp.Asc a) (hb : mgp.Asc b) {last : Bool} {e : flP.Pr} (h : e ∈ merged a b last) : e ∈ a ∨ e ∈ b := by
  have h1 := (List.mem_filter.1 h).1
  obtain ⟨i, l, h2, h3, _⟩ := ((is_nw ha hb).1.2 e).1 h1
  match i, h2 with
  | 0, h2 => simp at h2; subst h2; exact .inl h3
  | 1, h2 => simp at h2; subst h2; exact .inr h3
  | i + 2, h2 => simp at h2
/-- the runs number i and i + 1 as one -/
noncomputable def mrg (R : List (List flP.Pr)) (i : Nat) : List (List flP.Pr) := R.take i ++ merged (R.getD i []) (R.getD (i + 1) []) (decide (i + 2 = R.length)) :: R.drop (i + 2)
noncomputable def inB (R : List (List flP.Pr)) (x : Int) : Bool := decide (0 ≤ x ∧ x + 2 ≤ R.length)
noncomputable def can (ys : List flP.Pr) (R : List (List flP.Pr)) (x : Int) : Bool := okB ys R && (inB R x && okB ys (mrg R x.toNat))
noncomputable def ansY (ys : List flP.Pr) (R : List (List flP.Pr)) (x : Int) : List flP.Pr := ys
noncomputable def ansR (ys : List flP.Pr) (R : List (List flP.Pr)) (x : Int) : List (List flP.Pr) := if can ys R x then mrg R x.toNat else R
theorem tot_app : ∀ (A B : List (List flP.Pr)), tot (A ++ B) = tot A + tot B
  | [], B => by simp [tot, bulk]
  | a :: A, B => by
    have := tot_app A B
    simp only [tot, List.cons_append, bulk] at this ⊢
    omega
theorem tot_cons (a : List flP.Pr) (A : List (List flP.Pr)) : tot (a :: A) = a.length + tot A := rfl
theorem parts {α : Type} {R : List α} {i : Nat} (h : i + 2 ≤ R.length) : R = R.take i ++ R[i]'(by omega) :: R[i + 1]'(by omega) :: R.drop (i + 2) := by
  conv => lhs; rw [← List.take_append_drop i R]
  rw [List.drop_eq_getElem_cons (show i < R.length by omega), List.drop_eq_getElem_cons (show i + 1 < R.length by omega)]
theorem mrg_at {R : List (List flP.Pr)} {i : Nat} (h : i + 2 ≤ R.length) : mrg R i = R.take i ++ merged (R[i]'(by omega)) (R[i + 1]'(by omega)) (decide (i + 2 = R.length)) :: R.drop (i + 2) := by
  unfold mrg
  rw [List.getD_eq_getElem?_getD, List.getD_eq_getElem?_getD, List.getElem?_eq_getElem (show i < R.length by omega), List.getElem?_eq_getElem (show i + 1 < R.length by omega)]
  rfl
theorem mrg_len {R : List (List flP.Pr)} {i : Nat} (h : i + 2 ≤ R.length) : (mrg R i).length = R.length - 1 := by
  rw [mrg_at h]
  simp
  omega
theorem asc_at {ys : List flP.Pr} {R : List (List flP.Pr)} (h : OkT ys R) {i : Nat} {l : List flP.Pr} (hl : R[i]? = some l) : mgp.Asc l := mgp.asc_of (h.ro i l hl).up
theorem mrg_tot {ys : List flP.Pr} {R : List (List flP.Pr)} {i : Nat} (hok : OkT ys R) (h : i + 2 ≤ R.length) : tot (mrg R i) ≤ tot R := by
  have h1 := merged_le (asc_at hok (List.getElem?_eq_getElem (show i < R.length by omega))) (asc_at hok (List.getElem?_eq_getElem (show i + 1 < R.length by omega))) (decide (i + 2 = R.length))
  have h2 := congrArg tot (parts h)
  rw [tot_app, tot_cons, tot_cons] at h2
  rw [mrg_at h, tot_app, tot_cons]
  omega
theorem mrg_fit {ys : List flP.Pr} {R : List (List flP.Pr)} {i : Nat} (hok : OkT ys R) (h : i + 2 ≤ R.length) (hold : ∀ l ∈ R, l.length ≤ 1048576 ∧ ∀ e ∈ l, e.k.size ≤ 1048576 ∧ e.v.size ≤ 1048576) : ∀ l ∈ mrg R i, l.length ≤ 1048576 ∧ ∀ e ∈ l, e.k.size ≤ 1048576 ∧ e.v.size ≤ 1048576 := fun l hl => by
  have g1 := List.getElem?_eq_getElem (show i < R.length by omega)
  have g2 := List.getElem?_eq_getElem (show i + 1 < R.length by omega)
  have ha1 := asc_at hok g1
  have ha2 := asc_at hok g2
  rw [mrg_at h] at hl
  rcases List.mem_append.1 hl with hl | hl
  · exact hold l (List.mem_of_mem_take hl)
  · rcases List.mem_cons.1 hl with rfl | hl
    · refine ⟨?_, fun e he => ?_⟩
      · have := merged_le ha1 ha2 (decide (i + 2 = R.length))
        have := (hok.ro _ _ g1).ll
        have := (hok.ro _ _ g2).ll
        omega
      · rcases merged_mem ha1 ha2 he with h | h
        · exact (hold _ (List.getElem_mem _)).2 e h
        · exact (hold _ (List.getElem_mem _)).2 e h
    · exact hold l (List.mem_of_mem_drop hl)
theorem in_true {R : List (List flP.Pr)} {x : Int} (h : inB R x = true) : 0 ≤ x ∧ x.toNat + 2 ≤ R.length := by
  unfold inB at h
  simp at h
  omega
theorem ans_le (ys : List flP.Pr) (R : List (List flP.Pr)) (x : Int) : tot (ansR ys R x) ≤ ys.length + tot R ∧ (ansY ys R x).length ≤ ys.length + 1 ∧ (ansR ys R x).length ≤ R.length + 1 := by
  unfold ansR ansY
  cases hc : can ys R x with
  | false => simp
  | true =>
    unfold can at hc
    simp only [Bool.and_eq_true] at hc
    obtain ⟨h1, h2, h3⟩ := hc
    have h4 := in_true h2
    have h5 := mrg_tot (okB_true.1 h1) h4.2
    have h6 := mrg_len h4.2
    simp only [if_true]
    omega
theorem ans_no {ys : List flP.Pr} {R : List (List flP.Pr)} {x : Int} (h : can ys R x = false) : ansR ys R x = R := by
  unfold ansR
  rw [h]
  rfl
theorem ans_yes {ys : List flP.Pr} {R : List (List flP.Pr)} {x : Int} (h : can ys R x = true) : ansR ys R x = mrg R x.toNat := by
  unfold ansR
  rw [h]
  rfl
/-- a run in memory: nothing, or a row of its own at or above B -/
def RV (w : World) (B : Nat) (r : Rn) : Prop := r.l = [] ∨ ∃ h, r.a = some ⟨h, 0, none⟩ ∧ B ≤ h ∧ OwnO flP.c 3 40 w h 0 r.l r.l.length
/-- a table is its own where its runs are, and no two of them lie in one place -/
theorem of_runs {w : World} {B : Nat} {fa : Option Addr} {l : List flP.Pr} {rs : List Rn} {g2 : Nat} {cur : Array Value} (hf : MP w B fa l) (hg2 : B ≤ g2) (hty : w.heap[g2]? = some (.cells cur 24 (0, 0))) (hrow : Row cR 1 w w.heap.size (some ⟨g2, 0, none⟩) rs) (hown : ∀ (i : Nat) (r : Rn), rs[i]? = some r → RV w B r) (hnd : ∀ (i j : Nat) (r s : Rn), i < j → rs[i]? = some r → rs[j]? = some s → r.l ≠ [] → s.l ≠ [] → r.a ≠ s.a) (hne : ∀ (i : Nat) (r : Rn), rs[i]? = some r → r.l ≠ [] → ∀ k, blk fa l k → r.a ≠ some ⟨k, 0, none⟩) : TA w B fa (some ⟨g2, 0, none⟩) l rs := by
  have clash : ∀ (h : Nat) (m : Nat × List flP.Pr), OwnO flP.c 3 40 w h m.1 m.2 m.2.length → h ≠ g2 := fun h m ho e => by
    subst e
    obtain ⟨c, hc, _⟩ := ho
    rw [hty] at hc
    simp at hc
  refine ⟨⟨hf, hrow, fun r hr => ?_, fun i j r s hr hs hij k hk1 hk2 => ?_, fun g' o e hn => ?_, fun k hk hb => ?_⟩, fun g' o e => by cases e; exact hg2⟩
  · obtain ⟨i, hi⟩ := List.getElem?_of_mem hr
    rcases hown i r hi with h0 | ⟨h', e, hB', ho'⟩
    · exact .inl h0
    · exact .inr ⟨h', 0, e, hB', ho'⟩
  · obtain ⟨n1, g1, o1, a1, rfl⟩ := hk1
    obtain ⟨n2, g2, o2, a2, b2⟩ := hk2
    obtain ⟨h1, e1, _⟩ := (hown i r hr).resolve_left n1
    obtain ⟨h2, e2, _⟩ := (hown j s hs).resolve_left n2
    rw [e1] at a1
    rw [e2] at a2
    have p1 := congrArg Addr.block (Option.some.inj a1)
    have p2 := congrArg Addr.block (Option.some.inj a2)
    simp only at p1 p2
    have hh : h1 = h2 := by omega
    subst hh
    rcases Nat.lt_or_gt_of_ne hij with hij | hij
    · exact hnd i j r s hij hr hs n1 n2 (by rw [e1, e2])
    · exact hnd j i s r hij hs hr n2 n1 (by rw [e1, e2])
  · cases e
    refine ⟨fun hb => ?_, fun hb => ?_⟩
    · obtain ⟨r, hr, n1, g1, o1, a1, b1⟩ := hb
      obtain ⟨i, hi⟩ := List.getElem?_of_mem hr
      obtain ⟨h', e, hB', ho'⟩ := (hown i r hi).resolve_left n1
      rw [e] at a1
      have p1 := congrArg Addr.block (Option.some.inj a1)
      simp only at p1
      exact clash h' (0, r.l) ho' (by omega)
    · obtain ⟨hl, g1, o1, a1, b1⟩ := hb
      rcases hf with hf | ⟨g3, o3, e3, _, ho3⟩
      · exact hl hf
      · rw [e3] at a1
        have p1 := congrArg Addr.block (Option.some.inj a1)
        simp only at p1
        exact clash g3 (o3, l) ho3 (by omega)
  · obtain ⟨r, hr, n2, g2, o2, a2, b2⟩ := hb
    obtain ⟨i, hi⟩ := List.getElem?_of_mem hr
    obtain ⟨h', e, hB', ho'⟩ := (hown i r hi).resolve_left n2
    rw [e] at a2
    have p2 := congrArg Addr.block (Option.some.inj a2)
    simp only at p2
    exact hne i r hi n2 k hk (by rw [e]; congr 2; omega)
/-- two neighbours of a row of runs -/
theorem two_runs {w : World} {h : Nat} {ks : List Rn} {i : Nat} (hi : i + 2 ≤ ks.length) (hv : VR w w.heap.size (some ⟨h, 0, none⟩) ks) : VR w w.heap.size (some ⟨h, i, none⟩) [ks[i]'(by omega), ks[i + 1]'(by omega)] := by
  refine ⟨?_, fun r hr => ?_⟩
  · rcases hv.1 with h0 | ⟨b, off, hb, hlt, hc⟩
    · rw [h0] at hi; simp at hi
    · cases hb
      refine .inr ⟨h, i, rfl, hlt, fun j e he q v hq => ?_⟩
      have : ks[i + j]? = some e := by
        match j, he with
        | 0, he => simp at he; subst he; exact List.getElem?_eq_getElem (by omega)
        | 1, he => simp at he; subst he; exact List.getElem?_eq_getElem (by omega)
        | j + 2, he => simp at he
      have h2 := hc (i + j) e this q v hq
      rw [show i + j * 1 + q = 0 + (i + j) * 1 + q by omega]
      exact h2
  · simp at hr
    rcases hr with rfl | rfl
    · exact hv.2 _ (List.getElem_mem _)
    · exact hv.2 _ (List.getElem_mem _)
theorem own_owns {α : Type} {c : α → List Value} {n B g : Nat} {U : TypeId} {l : List α} {w : World} (hn : ∀ e, (c e).length = n) (ho : Own c n U w g l l.length) (hB : B ≤ g) (hl : l.length ≤ maxLen) : w.ownsRow B U n (.slice (some ⟨g, 0, none⟩) l.length l.length) l.length (l.flatMap c) := by
  obtain ⟨cur, h1, h2, h3⟩ := ho
  refine ⟨flat_len hn l, .inr ⟨g, l.length, cur, rfl, hB, h1, Nat.le_refl _, hl, h2, ?_⟩⟩
  apply List.ext_getElem?
  intro j
  by_cases hj : j < l.length * n
  · rw [List.getElem?_take_of_lt hj]
    have hj2 : j < (l.flatMap c).length := by rw [flat_len hn]; exact hj
    obtain ⟨u, hu⟩ : ∃ u, (l.flatMap c)[j]? = some u := ⟨_, List.getElem?_eq_getElem hj2⟩
    obtain ⟨i, e, r, k1, k2, k3⟩ := flat_get hn l j _ hu
    rw [hu]
    subst k3
    have := h3 i e (List.getElem?_eq_some_iff.1 k1).1 k1 r _ k2
    simpa using this
  · rw [List.getElem?_eq_none (by rw [List.length_take]; omega), List.getElem?_eq_none (by rw [flat_len hn]; omega)]
theorem owns_ownO {α : Type} {c : α → List Value} {n B g cap : Nat} {U : TypeId} {l : List α} {w : World} (hn : ∀ e, (c e).length = n) (ho : w.ownsRow B U n (.slice (some ⟨g, 0, none⟩) l.length cap) l.length (l.flatMap c)) : OwnO c n U w g 0 l l.length := by
  obtain ⟨_, ⟨h1, _⟩ | ⟨g', cap', cur, h1, h2, h3, h4, h5, h6, h7⟩⟩ := ho
  · cases h1
  cases h1
  refine ⟨cur, h3, by rw [h6, Nat.zero_add]; exact Nat.mul_le_mul_right n h4, fun i e hi he j v hv => ?_⟩
  have hf := flat_at hn l i e he j v hv
  rw [← h7] at hf
  have hlt := (List.getElem?_eq_some_iff.1 hf).1
  rw [List.length_take] at hlt
  rw [List.getElem?_take_of_lt (by omega)] at hf
  rw [Nat.zero_add]
  simpa using hf
/-- a copy given back as it is -/
theorem ta_set {w' : World} {B r n g h : Nat} {ys : List flP.Pr} {ks : List Rn} (hn : n = ks.length) (hr : r < B) (ho : Own flP.c 3 40 w' g ys ys.length) (hor : OR w' B h n ks) (hg : B ≤ g) (hh : B ≤ h) (hne : ∀ (i : Nat) (r : Rn), ks[i]? = some r → r.a ≠ some ⟨g, 0, none⟩) (u v : Value) : TA ((w'.setCell ⟨r, 0, none⟩ u).setCell ⟨r, 1, none⟩ v) B (some ⟨g, 0, none⟩) (some ⟨h, 0, none⟩) ys ks := by
  subst hn
  exact of_own_runs (B' := B) ((ho.kept (Below.heap_setCell _ _ _ _ (show g ≠ r by omega))).kept (Below.heap_setCell _ _ _ _ (show g ≠ r by omega))) ((hor.set hr (by omega) _ _).set hr (by omega) _ _) hg hh (Nat.le_refl _) hne
end Go.Proofs.Ytbgkccleiapkmaa.mga

/- The specification's TableFlush. -/
namespace Go.Proofs.Ytbgkccleiapkmaa.fls
open Go.ChangeShapes Go.WideShapes Go.ChangeAt Go.RowKit Go.Proofs.Ytbgkccleiapkmaa.fl Go.Proofs.Ytbgkccleiapkmaa.fo Go.Proofs.Ytbgkccleiapkmaa.rn Go.Proofs.Ytbgkccleiapkmaa.tko
set_option linter.unusedVariables false

theorem row_of {α : Type} {c : α → List Value} {n : Nat} (hn : ∀ e, (c e).length = n) {W : World} {B m : Nat} {T : TypeId} {a : Option Addr} {q : Nat} {l : List α} (hm : m = l.length) (h : W.ownsRow B T n (.slice a m q) m (l.flatMap c)) : Row c n W W.heap.size a l := by
  subst hm
  obtain ⟨a', cap, e, hr⟩ := own_row hn h
  cases e
  exact hr
/-- the copy's rows as rows -/
theorem rows_of {W : World} {B n m : Nat} {g1 c1 : Nat} {va : Option Addr} {vc : Nat} {ys : List flP.Pr} {ks : List Rn} (hm : m = ks.length) (hf : W.ownsRow B 40 3 (.slice (some ⟨g1, 0, none⟩) ys.length c1) ys.length (ys.flatMap flP.c)) (hr : W.ownsRow B 24 1 (.slice va m vc) m (ks.flatMap cR)) (hk : ∀ r ∈ ks, sct.OwnR W B r) :
    Row flP.c 3 W W.heap.size (some ⟨g1, 0, none⟩) ys ∧ VR W W.heap.size va ks :=
  ⟨row_of flP.c_len rfl hf, row_of cR_len hm hr, fun r h => row_of flP.c_len rfl (hk r h)⟩
theorem app_nil {P : Program} (w : World) (t ty e : TypeId) (i : TypeInfo) (ht : P.underlying t = some (.slice e)) (hi : P.info? e = some i) (base : Option Addr) (n m : Nat) (hle : n ≤ m) :
    (Builtin.append_ #[t, t] ty #[.slice base n m, .slice none 0 0]).run P w = .ok (.slice base n m) w := by
  cases base <;> simp [Builtin.append_, run_underlying ht, sizeOf, typeInfo, hi, hle, Builtin.lenOf, Builtin.firstCells, storeCells]
theorem app_runs {X : World} {B B' n0 m vc : Nat} {va : Option Addr} {u : Value} {xs : List Value} {i1 : TypeInfo} (hi : Try.prog.info? 24 = some i1) (hz : i1.zero = some (.slice none 0 0)) (hn : i1.size = 1) (hb : i1.bytes = 24) (hown : X.ownsRow B 24 1 (.slice (some ⟨n0, 0, none⟩) 1 1) 1 [u]) (hsrc : X.ownsRow B' 24 1 (.slice va m vc) m xs) (h1 : ∀ u ∈ xs, u.oneCell' = true) (hm : m ≤ 1048576) (hB : B ≤ X.heap.size) (ty : TypeId) :
    ∃ v' w', (Builtin.append_ #[25, 25] ty #[.slice (some ⟨n0, 0, none⟩) 1 1, .slice va m vc]).run Try.prog X = .ok v' w' ∧ w'.ownsRow B 24 1 v' (1 + m) ([u] ++ xs) ∧ X.grownBy w' (some n0) := by
  have hs := hsrc
  obtain ⟨hl, ⟨e, h0⟩ | ⟨g, cap, cur, e, hB', hg, h3, h4, h5, h6⟩⟩ := hs
  · cases e
    have hx : xs = [] := List.eq_nil_of_length_eq_zero (by omega)
    subst hx
    exact ⟨_, X, app_nil X 25 ty 24 i1 Try.underlying25 hi _ 1 1 (Nat.le_refl _), by simpa using hown, World.grownBy.refl _ _⟩
  · cases e
    obtain ⟨v', w', hr, ho, hgr, _⟩ := run_append_own_at (P := Try.prog) X B 25 ty 24 i1 (.slice none 0 0) 1 24 Try.underlying25 hi hz hn hb rfl (by decide) _ 1 [u] hown ⟨g, 0, none⟩ m vc xs hl (fun j u hu => by
      rw [sct.add0]
      refine bcell hg ?_
      rw [← h6, List.getElem?_take] at hu
      split at hu
      · simpa using hu
      · cases hu) h1 (by unfold maxLen; omega) (by omega) hB
    exact ⟨v', w', hr, ho, hgr⟩
theorem oneR (ks : List Rn) : ∀ u ∈ ks.flatMap cR, u.oneCell' = true := fun u hu => by
  obtain ⟨e, _, he⟩ := List.mem_flatMap.1 hu
  simp [cR] at he
  rw [he]
  rfl
noncomputable def can (ys : List flP.Pr) (R : List (List flP.Pr)) : Bool := okB ys R && (decide (ys.length ≠ 0) && decide (R.length < 8))
noncomputable def ansY (ys : List flP.Pr) (R : List (List flP.Pr)) : List flP.Pr := if can ys R then [] else ys
noncomputable def ansR (ys : List flP.Pr) (R : List (List flP.Pr)) : List (List flP.Pr) := if can ys R then ys :: R else R
theorem can_true {ys : List flP.Pr} {R : List (List flP.Pr)} (h1 : okB ys R = true) (h2 : ys.length ≠ 0) (h3 : R.length < 8) : can ys R = true := by
  unfold can
  rw [h1, decide_eq_true h2, decide_eq_true h3]
  rfl
theorem can_false {ys : List flP.Pr} {R : List (List flP.Pr)} {ob : Bool} (h : okB ys R = ob) (hc : ¬ (ob = true ∧ ys.length ≠ 0 ∧ R.length < 8)) : can ys R = false := by
  cases hcan : can ys R with
  | false => rfl
  | true =>
    exfalso
    unfold can at hcan
    rw [h] at hcan
    simp only [Bool.and_eq_true, decide_eq_true_eq] at hcan
    exact hc ⟨hcan.1, hcan.2.1, hcan.2.2⟩
theorem ans_no {ys : List flP.Pr} {R : List (List flP.Pr)} (h : can ys R = false) : ansY ys R = ys ∧ ansR ys R = R := by
  unfold ansY ansR
  rw [h]
  exact ⟨rfl, rfl⟩
theorem ans_yes {ys : List flP.Pr} {R : List (List flP.Pr)} (h : can ys R = true) : ansY ys R = [] ∧ ansR ys R = ys :: R := by
  unfold ansY ansR
  rw [h]
  exact ⟨rfl, rfl⟩

set_option maxRecDepth 100000 in
set_option maxHeartbeats 4000000 in
theorem spec_flush (ys : List flP.Pr) (rs : List Rn) (a0 yc b rc : Nat) (w : World) (F : tb.Fit ys rs) (hY : Row flP.c 3 w w.heap.size (some ⟨a0, 0, none⟩) ys) (hR : VR w w.heap.size (some ⟨b, 0, none⟩) rs) (hrs : ∀ r ∈ rs, ∃ h, r.a = some ⟨h, 0, none⟩) :
    Calls Try.prog 30 #[.agg #[.slice (some ⟨a0, 0, none⟩) ys.length yc, .slice (some ⟨b, 0, none⟩) rs.length rc]] w fun e w' => ∃ sa sc ta tc ks, e = .returned (.tuple #[.agg #[.slice sa (ansY ys (rs.map (·.l))).length sc, .slice ta (ansR ys (rs.map (·.l))).length tc], .bool (can ys (rs.map (·.l)))]) ∧ ks.map (·.l) = ansR ys (rs.map (·.l)) ∧ Row flP.c 3 w' w'.heap.size sa (ansY ys (rs.map (·.l))) ∧ VR w' w'.heap.size ta ks ∧ Below w.heap.size w w' := by
  obtain ⟨i1, ki, kz0, kz1, kz2⟩ := ly.infoR
  have hb : Below w.heap.size w ((w.alloc (.cells #[.slice (some ⟨a0, 0, none⟩) ys.length yc, .slice (some ⟨b, 0, none⟩) rs.length rc] 27)).alloc (.cells #[.slice none 0 0, .slice none 0 0] 27)) := ((Below.refl _ _).alloc (Nat.le_refl _) _).alloc (by simp) _
  have hA := bold (bnew w #[.slice (some ⟨a0, 0, none⟩) ys.length yc, .slice (some ⟨b, 0, none⟩) rs.length rc] 27) (.cells #[.slice none 0 0, .slice none 0 0] 27)
  have hRs := bnew (w.alloc (.cells #[.slice (some ⟨a0, 0, none⟩) ys.length yc, .slice (some ⟨b, 0, none⟩) rs.length rc] 27)) #[.slice none 0 0, .slice none 0 0] 27
  rw [World.size_alloc] at hRs
  obtain ⟨W, hW⟩ : ∃ W, ((w.alloc (.cells #[.slice (some ⟨a0, 0, none⟩) ys.length yc, .slice (some ⟨b, 0, none⟩) rs.length rc] 27)).alloc (.cells #[.slice none 0 0, .slice none 0 0] 27)) = W := ⟨_, rfl⟩
  rw [hW] at hb hA hRs
  have hcp := sct.spec_copy ys rs a0 yc b rc W F (hY.inn hb) (hR.1.inn hb) (fun r hr => ⟨hrs r hr, (hR.2 r hr).inn hb⟩)
  have HF : Hid (tb.Fit ys rs) := F
  have hrl := F.rl
  have HY : Hid (Row flP.c 3 w w.heap.size (some ⟨a0, 0, none⟩) ys) := hY
  have HR : Hid (VR w w.heap.size (some ⟨b, 0, none⟩) rs) := hR
  have HA : Hid (W.heap[w.heap.size]? = some (.cells #[.slice (some ⟨a0, 0, none⟩) ys.length yc, .slice (some ⟨b, 0, none⟩) rs.length rc] 27 (0, 0))) := hA
  have HRS : Hid (W.heap[w.heap.size + 1]? = some (.cells #[.slice none 0 0, .slice none 0 0] 27 (0, 0))) := hRs
  have hWs := (Array.getElem?_eq_some_iff.1 hRs).1
  have p0 : W.cell? ⟨w.heap.size, 0, none⟩ = some (.slice (some ⟨a0, 0, none⟩) ys.length yc) := bcell hA rfl
  have p1 : W.cell? ⟨w.heap.size, 1, none⟩ = some (.slice (some ⟨b, 0, none⟩) rs.length rc) := bcell hA rfl
  clear hY hR hA hRs F hrs
  go_enter Try.func30, Try.ntmps30
  go_wp2_with (go_at_call 65; fail)
  clear hW p0 p1
  refine hcp.mono ?_
  rintro e w2 ⟨g1, c1, va, vc, ks, rfl, of2, or2, m2, rows2, hb2⟩
  have l2 : rs.length = ks.length := by have := congrArg List.length m2; simpa using this.symm
  have hal : Below w2.heap.size w2 (w2.alloc (.cells #[.slice (some ⟨g1, 0, none⟩) ys.length c1, .slice va rs.length vc] 27)) := (Below.refl _ _).alloc (Nat.le_refl _) _
  have hO := bnew w2 #[.slice (some ⟨g1, 0, none⟩) ys.length c1, .slice va rs.length vc] 27
  have of3 := of2.alloc (.cells #[.slice (some ⟨g1, 0, none⟩) ys.length c1, .slice va rs.length vc] 27)
  have or3 := or2.alloc (.cells #[.slice (some ⟨g1, 0, none⟩) ys.length c1, .slice va rs.length vc] 27)
  have rows3 : ∀ r ∈ ks, sct.OwnR (w2.alloc (.cells #[.slice (some ⟨g1, 0, none⟩) ys.length c1, .slice va rs.length vc] 27)) (W.heap.size + 2) r := fun r hr => (rows2 r hr).alloc _
  have hs2 := hb2.size
  obtain ⟨W3, hW3⟩ : ∃ W3, w2.alloc (.cells #[.slice (some ⟨g1, 0, none⟩) ys.length c1, .slice va rs.length vc] 27) = W3 := ⟨_, rfl⟩
  rw [hW3] at hal hO of3 or3 rows3
  have hB3 : Below W.heap.size W W3 := hb2.trans (hal.mono hs2)
  have hBw3 : Below w.heap.size w W3 := hb.trans (hB3.mono hb.size)
  have hok := spec_okb ys rs (some ⟨a0, 0, none⟩) (some ⟨b, 0, none⟩) yc rc W3 HF.out (HY.out.inn hBw3) (HR.out.inn hBw3)
  have b3 := bstay HA.out hB3 (by omega)
  have c0 : W3.cell? ⟨w.heap.size, 0, none⟩ = some (.slice (some ⟨a0, 0, none⟩) ys.length yc) := bcell b3 rfl
  have c1' : W3.cell? ⟨w.heap.size, 1, none⟩ = some (.slice (some ⟨b, 0, none⟩) rs.length rc) := bcell b3 rfl
  have HO : Hid (W3.heap[w2.heap.size]? = some (.cells #[.slice (some ⟨g1, 0, none⟩) ys.length c1, .slice va rs.length vc] 27 (0, 0))) := hO
  have HOF : Hid (W3.ownsRow (W.heap.size + 2) 40 3 (.slice (some ⟨g1, 0, none⟩) ys.length c1) ys.length (ys.flatMap flP.c)) := of3
  have HOR : Hid (W3.ownsRow (W.heap.size + 2) 24 1 (.slice va rs.length vc) rs.length (ks.flatMap cR)) := or3
  have HRW : Hid (∀ r ∈ ks, sct.OwnR W3 (W.heap.size + 2) r) := rows3
  have HM : Hid (ks.map (·.l) = rs.map (·.l)) := m2
  have HL : Hid (rs.length = ks.length) := l2
  have hlt3 := (Array.getElem?_eq_some_iff.1 hO).1
  clear hcp of2 or2 rows2 hO of3 or3 rows3 m2 l2 hal b3
  go_wp2_with (go_at_call 21; fail)
  clear hW3
  refine hok.mono ?_
  rintro e w4 ⟨rfl, hb4⟩
  have b4 := bstay (bstay HA.out hB3 (by omega)) hb4 (by omega)
  have r4 := bstay (bstay HRS.out hB3 (by omega)) hb4 (by omega)
  have o4 := bstay HO.out hb4 hlt3
  have x0 : w4.cell? ⟨w.heap.size, 0, none⟩ = some (.slice (some ⟨a0, 0, none⟩) ys.length yc) := bcell b4 rfl
  have x1 : w4.cell? ⟨w.heap.size, 1, none⟩ = some (.slice (some ⟨b, 0, none⟩) rs.length rc) := bcell b4 rfl
  have r0 : w4.cell? ⟨w.heap.size + 1, 0, none⟩ = some (.slice none 0 0) := bcell r4 rfl
  have r1 : w4.cell? ⟨w.heap.size + 1, 1, none⟩ = some (.slice none 0 0) := bcell r4 rfl
  have f0 := bfree r4 0
  have f1 := bfree r4 1
  have u0 : w4.cell? ⟨w2.heap.size, 0, none⟩ = some (.slice (some ⟨g1, 0, none⟩) ys.length c1) := bcell o4 rfl
  have u1 : w4.cell? ⟨w2.heap.size, 1, none⟩ = some (.slice va rs.length vc) := bcell o4 rfl
  have hg4 : W3.grownBy w4 none := ⟨hb4.os, hb4.tape, hb4.output, hb4.size, fun k hk _ => hb4.block k hk⟩
  have HOF4 : Hid (w4.ownsRow (W.heap.size + 2) 40 3 (.slice (some ⟨g1, 0, none⟩) ys.length c1) ys.length (ys.flatMap flP.c)) := HOF.out.kept hg4 (by simp [Value.ownBlock])
  have HOR4 : Hid (w4.ownsRow (W.heap.size + 2) 24 1 (.slice va rs.length vc) rs.length (ks.flatMap cR)) := HOR.out.kept hg4 (by cases (Value.slice va rs.length vc).ownBlock <;> simp)
  have HRW4 : Hid (∀ r ∈ ks, sct.OwnR w4 (W.heap.size + 2) r) := fun r hr => (HRW.out r hr).kept hg4 (by cases (Value.slice r.a r.l.length r.c).ownBlock <;> simp)
  have hBw4 : Below w.heap.size w w4 := hBw3.trans (hb4.mono hBw3.size)
  have hR4 : w4.heap[w.heap.size + 1]? = some (.cells #[.slice none 0 0, .slice none 0 0] 27 (0, 0)) := r4
  have HR4 : Hid (w4.heap[w.heap.size + 1]? = some (.cells #[.slice none 0 0, .slice none 0 0] 27 (0, 0))) := r4
  obtain ⟨ob, hob⟩ : ∃ ob, okB ys (rs.map (·.l)) = ob := ⟨_, rfl⟩
  have HOB : Hid (okB ys (rs.map (·.l)) = ob) := hob
  rw [hob]
  have hWs4 : W.heap.size ≤ w4.heap.size := Nat.le_trans hB3.size hb4.size
  have hs34 : w2.heap.size < w4.heap.size := Nat.lt_of_lt_of_le hlt3 hb4.size
  clear hok c0 c1' b4 r4 o4 hR4 hob HOF HOR HRW HO HA HRS hb4 hg4
  by_cases hc : ob = true ∧ ys.length ≠ 0 ∧ rs.length < 8
  · obtain ⟨rfl, hy0, hr8⟩ := hc
    have HC : Hid (can ys (rs.map (·.l)) = true) := can_true HOB.out hy0 (by simpa using hr8)
    have hy1 : ¬ (ys.length : Int) = 0 := by omega
    have hr9 : decide ((8 : Int) ≤ (rs.length : Int)) = false := by simp; omega
    have hr10 : ((rs.length : Int)) < 8 := by omega
    have hox : (w4.alloc (.cells #[.slice (some ⟨g1, 0, none⟩) ys.length c1] 24)).ownsRow w4.heap.size 24 1 (.slice (some ⟨w4.heap.size, 0, none⟩) 1 1) 1 [.slice (some ⟨g1, 0, none⟩) ys.length c1] := ⟨by simp, .inr ⟨w4.heap.size, 1, _, rfl, Nat.le_refl _, bnew w4 _ _, Nat.le_refl _, by unfold maxLen; omega, by simp, by simp⟩⟩
    obtain ⟨v5, w5, hrun, hown5, hgr5⟩ := app_runs (i1 := i1) ki kz0 kz1 kz2 hox (HOR4.out.alloc _) (oneR ks) hrl (by simp) 25
    obtain ⟨g5, c5, hv5⟩ : ∃ g5 c5, v5 = .slice (some ⟨g5, 0, none⟩) (1 + rs.length) c5 := by
      obtain ⟨_, ⟨_, h0⟩ | ⟨g, cap, cur, e, _⟩⟩ := hown5
      · omega
      · exact ⟨g, cap, e⟩
    subst hv5
    have hs5 : w4.heap.size + 1 ≤ w5.heap.size := by have := hgr5.size; simpa using this
    have hk5 : ∀ k, k < w4.heap.size → w5.heap[k]? = w4.heap[k]? := fun k hk => (hgr5.block k (by simp; omega) (fun e => by have := Option.some.inj e; omega)).trans (Below.heap_alloc w4 _ k hk)
    have hB5 : Below w4.heap.size w4 w5 := ⟨hgr5.os, hgr5.tape, hgr5.output, by omega, hk5⟩
    have r5 := bstay HR4.out hB5 (by omega)
    have q0 : w5.cell? ⟨w.heap.size + 1, 0, none⟩ = some (.slice none 0 0) := bcell r5 rfl
    have q1 : w5.cell? ⟨w.heap.size + 1, 1, none⟩ = some (.slice none 0 0) := bcell r5 rfl
    have e0 := bfree r5 0
    have e1 := bfree r5 1
    have u1' : (w4.alloc (.cells #[.slice (some ⟨g1, 0, none⟩) ys.length c1] 24)).cell? ⟨w2.heap.size, 1, none⟩ = some (.slice va rs.length vc) := by
      rw [World.cell?_of_block (a := ⟨w2.heap.size, 1, none⟩) (Below.heap_alloc w4 _ w2.heap.size (by omega))]
      exact u1
    have HRUN : Hid ((Builtin.append_ #[25, 25] 25 #[.slice (some ⟨w4.heap.size, 0, none⟩) 1 1, .slice va rs.length vc]).run Try.prog (w4.alloc (.cells #[.slice (some ⟨g1, 0, none⟩) ys.length c1] 24)) = .ok (.slice (some ⟨g5, 0, none⟩) (1 + rs.length) c5) w5) := hrun
    have HOWN : Hid (w5.ownsRow w4.heap.size 24 1 (.slice (some ⟨g5, 0, none⟩) (1 + rs.length) c5) (1 + rs.length) ([.slice (some ⟨g1, 0, none⟩) ys.length c1] ++ ks.flatMap cR)) := hown5
    have HB5 : Hid (Below w4.heap.size w4 w5) := hB5
    clear hrun hown5 hgr5 hk5 hB5 r5 hox
    go_wp2_with (at_builtin; refine cpr.wpList_append_run rfl _ _ 25 25 rfl _ _ _ rfl rfl HRUN.out ?_)
    clear u0 u1 u1' x0 x1 r0 r1 f0 f1
    go_wp2
    have hg5 : w4.grownBy w5 none := ⟨HB5.out.os, HB5.out.tape, HB5.out.output, HB5.out.size, fun k hk _ => HB5.out.block k hk⟩
    have hk : ∀ (B : Nat) (T : TypeId) (s : Nat) v n xs, w.heap.size + 1 < B → w5.ownsRow B T s v n xs → ((w5.setCell ⟨w.heap.size + 1, 0, none⟩ (.slice none 0 0)).setCell ⟨w.heap.size + 1, 1, none⟩ (.slice (some ⟨g5, 0, none⟩) (1 + rs.length) c5)).ownsRow B T s v n xs := fun B T s v n xs hB h => sct.own_set (sct.own_set h hB) hB
    refine bodyPost_ret (v := .tuple #[.agg #[.slice none 0 0, .slice (some ⟨g5, 0, none⟩) (1 + rs.length) c5], .bool true]) (by simp [results, Try.results30, go_sem, q0, q1]) rfl ⟨none, 0, some ⟨g5, 0, none⟩, c5, ⟨some ⟨g1, 0, none⟩, c1, ys⟩ :: ks, ?_, ?_, ?_, ⟨?_, ?_⟩, ?_⟩
    · rw [(ans_yes HC.out).1, (ans_yes HC.out).2, HC.out]
      simp [Nat.add_comm]
    · rw [(ans_yes HC.out).2, ← HM.out]
      rfl
    · rw [(ans_yes HC.out).1]
      exact .inl rfl
    · exact row_of cR_len (by simp [HL.out, Nat.add_comm]) (hk _ _ _ _ _ _ (by omega) HOWN.out)
    · intro r hr
      rcases List.mem_cons.1 hr with rfl | hr
      · exact row_of flP.c_len rfl (hk _ _ _ _ _ _ (by omega) (HOF4.out.kept hg5 (by simp [Value.ownBlock])))
      · exact row_of flP.c_len rfl (hk _ _ _ _ _ _ (by omega) ((HRW4.out r hr).kept hg5 (by cases (Value.slice r.a r.l.length r.c).ownBlock <;> simp)))
    · exact ((hBw4.trans (HB5.out.mono hBw4.size)).setCell (Nat.le_succ _) _).setCell (Nat.le_succ _) _
  · have HC : Hid (can ys (rs.map (·.l)) = false) := can_false HOB.out (by simpa using hc)
    have fin : ∀ w', w' = (w4.setCell ⟨w.heap.size + 1, 0, none⟩ (.slice (some ⟨g1, 0, none⟩) ys.length c1)).setCell ⟨w.heap.size + 1, 1, none⟩ (.slice va rs.length vc) → ks.map (·.l) = ansR ys (rs.map (·.l)) ∧ Row flP.c 3 w' w'.heap.size (some ⟨g1, 0, none⟩) (ansY ys (rs.map (·.l))) ∧ VR w' w'.heap.size va ks ∧ Below w.heap.size w w' := fun w' hw' => by
      subst hw'
      have hk : ∀ (T : TypeId) (s : Nat) v n xs, w4.ownsRow (W.heap.size + 2) T s v n xs → ((w4.setCell ⟨w.heap.size + 1, 0, none⟩ (.slice (some ⟨g1, 0, none⟩) ys.length c1)).setCell ⟨w.heap.size + 1, 1, none⟩ (.slice va rs.length vc)).ownsRow (W.heap.size + 2) T s v n xs := fun T s v n xs h => sct.own_set (sct.own_set h (by omega)) (by omega)
      have hrw := rows_of (n := 0) HL.out (hk _ _ _ _ _ HOF4.out) (hk _ _ _ _ _ HOR4.out) (fun r hr => hk _ _ _ _ _ (HRW4.out r hr))
      refine ⟨by rw [HM.out, (ans_no HC.out).2], by rw [(ans_no HC.out).1]; exact hrw.1, hrw.2, (hBw4.setCell (Nat.le_succ _) _).setCell (Nat.le_succ _) _⟩
    have HFN : Hid (∀ w', w' = (w4.setCell ⟨w.heap.size + 1, 0, none⟩ (.slice (some ⟨g1, 0, none⟩) ys.length c1)).setCell ⟨w.heap.size + 1, 1, none⟩ (.slice va rs.length vc) → ks.map (·.l) = ansR ys (rs.map (·.l)) ∧ Row flP.c 3 w' w'.heap.size (some ⟨g1, 0, none⟩) (ansY ys (rs.map (·.l))) ∧ VR w' w'.heap.size va ks ∧ Below w.heap.size w w') := fin
    have HQ : Hid ((ansY ys (rs.map (·.l))).length = ys.length ∧ (ansR ys (rs.map (·.l))).length = rs.length) := by
      rw [(ans_no HC.out).1, (ans_no HC.out).2]
      exact ⟨rfl, by simp⟩
    clear fin
    have done : ∀ Qx : Prop, Qx → Qx := fun _ h => h
    cases ob
    · go_wp2
      refine bodyPost_ret (v := .tuple #[.agg #[.slice (some ⟨g1, 0, none⟩) ys.length c1, .slice va rs.length vc], .bool false]) (by simp [results, Try.results30, go_sem, r0, r1]) rfl ⟨some ⟨g1, 0, none⟩, c1, va, vc, ks, ?_, HFN.out _ rfl⟩
      rw [HQ.out.1, HQ.out.2, HC.out]
    · by_cases hy0 : ys.length = 0
      · obtain rfl : ys = [] := List.eq_nil_of_length_eq_zero hy0
        clear hy0 hc
        go_wp2
        refine bodyPost_ret (v := .tuple #[.agg #[.slice (some ⟨g1, 0, none⟩) 0 c1, .slice va rs.length vc], .bool false]) (by simp [results, Try.results30, go_sem, r0, r1]) rfl ⟨some ⟨g1, 0, none⟩, c1, va, vc, ks, ?_, HFN.out _ rfl⟩
        rw [HQ.out.1, HQ.out.2, HC.out]
        rfl
      · have hy1 : ¬ (ys.length : Int) = 0 := by omega
        have hr9 : (8 : Int) ≤ (rs.length : Int) := by simp at hc; have := hc (by intro e; rw [e] at hy0; simp at hy0); omega
        clear hc
        go_wp2
        refine bodyPost_ret (v := .tuple #[.agg #[.slice (some ⟨g1, 0, none⟩) ys.length c1, .slice va rs.length vc], .bool false]) (by simp [results, Try.results30, go_sem, r0, r1]) rfl ⟨some ⟨g1, 0, none⟩, c1, va, vc, ks, ?_, HFN.out _ rfl⟩
        rw [HQ.out.1, HQ.out.2, HC.out]
end Go.Proofs.Ytbgkccleiapkmaa.fls

/- The specification's TableMerge: the region of its loop that copies one run. -/
namespace Go.Proofs.Ytbgkccleiapkmaa.smr
open Go.ChangeShapes Go.WideShapes Go.ChangeAt Go.RowKit Go.Proofs.Ytbgkccleiapkmaa.fl Go.Proofs.Ytbgkccleiapkmaa.fo Go.Proofs.Ytbgkccleiapkmaa.rn Go.Proofs.Ytbgkccleiapkmaa.sct
set_option linter.unusedVariables false

def ws (p : Pm) (s0 b m rc a c j : Nat) (g : G) : List (Nat × Value) := [(64, .pointer (some ⟨p.n3, 1, none⟩)), (65, p.rv), (66, .slice (some ⟨g.e0, 0, none⟩) 0 0), (67, .pointer (some ⟨s0, 1, none⟩)), (68, .slice (some ⟨b, 0, none⟩) m rc), (69, .int .i64 j), (70, .pointer (some ⟨b, j, none⟩)), (71, .slice (some ⟨a, 0, none⟩) p.n c), (72, v1 p g), (73, .slice (some ⟨g.h, 0, none⟩) 1 1), (74, g.v2), (75, .pointer (some ⟨p.n3, 1, none⟩))]
section
variable {p : Pm} {s0 b m rc a c j : Nat} {act : Act} {Q : Exit → Act → World → Prop} {o : Oper}
theorem quiet {i : Nat} (hi : i = 0 ∨ i = 3 ∨ i = 4 ∨ i = 5 ∨ i = 6 ∨ i = 7 ∨ i = 11) (hsel : ∀ cs b, o.op ≠ .select cs b) (u : Value) (hd : ∀ s d, o.dst = some d → (dk.sets act (ws p s0 b m rc a c j s)).tmps[d]? = some u)
    (hrun : ∀ s W, (∀ (b : Nat) (o : Obj), p.W0.heap[b]? = some o → b ≠ p.n3 → p.rv.ownBlock ≠ some b → W.heap[b]? = some o) → (execOp (dk.sets act (ws p s0 b m rc a c j s)).eval o).run Try.prog W = .ok (.value u) W) : gh.Step Try.prog (fun s => dk.sets act (ws p s0 b m rc a c j s)) (C p) Q i o := by
  refine gh.step_val hsel fun s L W hdp h0 hC => ⟨s, u, gh.Agree.refl _ _, hd s, ?_⟩
  rw [hrun s W (fun b o hb hne hr => hC.d.old hb hne hr)]
  refine ⟨rfl, ?_⟩
  unfold C
  rw [more_off L (show 1 ≠ i by omega), more_off L (show 2 ≠ i by omega), more_off L (show 8 ≠ i by omega), more_off L (show 9 ≠ i by omega), more_off L (show 10 ≠ i by omega), more_off L (show 12 ≠ i by omega)]
  exact hC
theorem st1 (hsel : ∀ cs b, o.op ≠ .select cs b) (hd : ∀ s d, o.dst = some d → (dk.sets act (ws p s0 b m rc a c j s)).tmps[d]? = some p.rv)
    (hrun : ∀ s W, W.heap[p.n3]? = some (.cells #[p.f0, p.rv] 27 (0, 0)) → (execOp (dk.sets act (ws p s0 b m rc a c j s)).eval o).run Try.prog W = .ok (.value p.rv) W) : gh.Step Try.prog (fun s => dk.sets act (ws p s0 b m rc a c j s)) (C p) Q 1 o := by
  refine gh.step_val hsel fun s L W hdp h0 hC => ⟨s, p.rv, gh.Agree.refl _ _, hd s, ?_⟩
  have hd := hC.d
  rw [h0] at hd
  have e12 : L 12 = false := by
    have e10 := no101 hd
    rw [e10] at hd
    exact no12 hd
  have ho := hd.out
  rw [e12] at ho
  rw [hrun s W ho]
  refine ⟨rfl, ?_⟩
  unfold C
  rw [more_on, more_off L (show 2 ≠ 1 by omega), more_off L (show 8 ≠ 1 by omega), more_off L (show 9 ≠ 1 by omega), more_off L (show 10 ≠ 1 by omega), more_off L (show 12 ≠ 1 by omega)]
  exact hd.s1
theorem st2 (hA : Ah p) (hsz : 75 < act.tmps.size) (hop : o.op = .buildSlice 24 0 #[]) (hdst : o.dst = some 66) : gh.Step Try.prog (fun s => dk.sets act (ws p s0 b m rc a c j s)) (C p) Q 2 o := by
  refine gh.step_val (by rw [hop]; simp) fun s L W hdp h0 hC => ⟨{ s with e0 := W.heap.size }, .slice (some ⟨W.heap.size, 0, none⟩) 0 0, dk.agree_sets 2 66 _ hdst rfl rfl, (fun d hd => by rw [hdst] at hd; cases hd; exact dk.sets_on _ (by omega) _ rfl), ?_⟩
  have hrun : (execOp (dk.sets act (ws p s0 b m rc a c j s)).eval o).run Try.prog W = .ok (.value (.slice (some ⟨W.heap.size, 0, none⟩) 0 0)) (W.alloc (.cells #[] 40)) := by
    simp [execOp, hop, go_sem]
  rw [hrun]
  refine ⟨rfl, ?_⟩
  have hd := hC.d
  rw [h0] at hd
  unfold C
  rw [more_on, more_off L (show 1 ≠ 2 by omega), more_off L (show 8 ≠ 2 by omega), more_off L (show 9 ≠ 2 by omega), more_off L (show 10 ≠ 2 by omega), more_off L (show 12 ≠ 2 by omega)]
  exact hd.s2 hA
variable {i0 i1 : TypeInfo} {z z1 : Value}
theorem st8 (hA : Ah p) (hi : Try.prog.info? 40 = some i0) (hz : i0.zero = some z) (hn : i0.size = 3) (hb : i0.bytes = 40) (hzs : z.cells.size = 3) (hsz : 75 < act.tmps.size)
    (hop : o.op = .call { callee := .builtin .append, args := #[.tmp 66, .tmp 71], argTypes := #[24, 24] }) (hdst : o.dst = some 72)
    (hlen : p.xs.length = p.n * 3) (hnews : ∀ W, Below p.W0.heap.size p.W0 W → ∀ j u, p.xs[j]? = some u → W.cell? ((⟨a, 0, none⟩ : Addr).add j) = some u) (h1c : ∀ u ∈ p.xs, u.oneCell' = true) (hk : p.n ≤ 1048576)
    (hdep : ∃ e ∈ o.after, Region.binds .any e = true ∧ e.on = 2) : gh.Step Try.prog (fun s => dk.sets act (ws p s0 b m rc a c j s)) (C p) Q 8 o := by
  refine gh.step_val (by rw [hop]; simp) fun s L W hdp h0 hC => ?_
  obtain ⟨xp, mp, yp, zp⟩ := hdep
  have lp := hdp xp mp yp
  rw [zp] at lp
  have hd := hC.d
  rw [h0] at hd
  have hbel : Below p.W0.heap.size p.W0 W := by
    have e9 := no9 hd
    rw [e9] at hd
    have e10 := no10 hd
    rw [e10] at hd
    have e12 := no12 hd
    rw [e12] at hd
    exact hd.below
  have hold := hd.at2 lp rfl
  obtain ⟨v', w', hr, ho, hg, _, hat⟩ := run_append_own_at (P := Try.prog) W p.W0.heap.size 24 o.type 40 i0 z 3 40 Try.underlying24 hi hz hn hb hzs (by omega) _ 0 [] hold ⟨a, 0, none⟩ p.n c p.xs hlen (hnews W hbel) h1c (by unfold maxLen; omega) (by omega) hd.tn.size
  rw [Nat.zero_add, List.nil_append] at ho
  obtain ⟨b', q', rfl⟩ : ∃ b' q', v' = .slice (some ⟨b', 0, none⟩) p.n q' := by
    rcases hat with ha | ha
    · exact ⟨_, form ho ha⟩
    · exact ⟨_, form ho ha⟩
  refine ⟨{ s with b1 := b', q1 := q' }, .slice (some ⟨b', 0, none⟩) p.n q', dk.agree_sets 8 72 _ hdst rfl rfl, (fun d' hd => by rw [hdst] at hd; cases hd; exact dk.sets_on _ (by omega) _ rfl), ?_⟩
  rw [app_run hop (dk.eval_on _ _ (by omega) rfl) (dk.eval_on _ _ (by omega) rfl) hr]
  refine ⟨rfl, ?_⟩
  unfold C
  rw [more_on, more_off L (show 1 ≠ 8 by omega), more_off L (show 2 ≠ 8 by omega), more_off L (show 9 ≠ 8 by omega), more_off L (show 10 ≠ 8 by omega), more_off L (show 12 ≠ 8 by omega)]
  exact hd.s8 hA lp hg ho
theorem st9 (hA : Ah p) (hsz : 75 < act.tmps.size) (hop : o.op = .buildSlice 25 1 #[(0, .tmp 72)]) (hdst : o.dst = some 73) (hdep : ∃ e ∈ o.after, Region.binds .any e = true ∧ e.on = 8) : gh.Step Try.prog (fun s => dk.sets act (ws p s0 b m rc a c j s)) (C p) Q 9 o := by
  refine gh.step_val (by rw [hop]; simp) fun s L W hdp h0 hC => ⟨{ s with h := W.heap.size }, .slice (some ⟨W.heap.size, 0, none⟩) 1 1, dk.agree_sets 9 73 _ hdst rfl rfl, (fun d hd => by rw [hdst] at hd; cases hd; exact dk.sets_on _ (by omega) _ rfl), ?_⟩
  obtain ⟨xp, mp, yp, zp⟩ := hdep
  have lp := hdp xp mp yp
  rw [zp] at lp
  have e25 : (dk.sets act (ws p s0 b m rc a c j s)).tmps[72]? = some (.slice (some ⟨s.b1, 0, none⟩) p.n s.q1) := dk.sets_on _ (by omega) _ rfl
  have hrun : (execOp (dk.sets act (ws p s0 b m rc a c j s)).eval o).run Try.prog W = .ok (.value (.slice (some ⟨W.heap.size, 0, none⟩) 1 1)) (W.alloc (.cells #[v1 p s] 24)) := by
    simp [execOp, hop, go_sem, e25, v1]
  rw [hrun]
  refine ⟨rfl, ?_⟩
  have hd := hC.d
  rw [h0] at hd
  unfold C
  rw [more_on, more_off L (show 1 ≠ 9 by omega), more_off L (show 2 ≠ 9 by omega), more_off L (show 8 ≠ 9 by omega), more_off L (show 10 ≠ 9 by omega), more_off L (show 12 ≠ 9 by omega)]
  exact hd.s9 hA lp
theorem st10 (hA : Ah p) (hi : Try.prog.info? 24 = some i1) (hz : i1.zero = some z1) (hn : i1.size = 1) (hb : i1.bytes = 24) (hzs : z1.cells.size = 1) (hsz : 75 < act.tmps.size)
    (hop : o.op = .call { callee := .builtin .append, args := #[.tmp 65, .tmp 73], argTypes := #[25, 25] }) (hdst : o.dst = some 74) (hk : p.k ≤ 1048576)
    (hdep : ∃ e ∈ o.after, Region.binds .any e = true ∧ e.on = 9) (hdep1 : ∃ e ∈ o.after, Region.binds .any e = true ∧ e.on = 1) : gh.Step Try.prog (fun s => dk.sets act (ws p s0 b m rc a c j s)) (C p) Q 10 o := by
  refine gh.step_val (by rw [hop]; simp) fun s L W hdp h0 hC => ?_
  obtain ⟨xp, mp, yp, zp⟩ := hdep
  have lp := hdp xp mp yp
  rw [zp] at lp
  obtain ⟨xq, mq, yq, zq⟩ := hdep1
  have lq := hdp xq mq yq
  rw [zq] at lq
  have hd := hC.d
  rw [h0] at hd
  have hbel : Below p.W0.heap.size p.W0 W := by
    have e12 := no12 hd
    rw [e12] at hd
    exact hd.below
  have hcell := (hd.at9 lp).2 rfl
  have hold : W.ownsRow p.B 24 1 p.rv p.k p.ys := hA.runs.kept (row := none) ⟨hbel.os, hbel.tape, hbel.output, hbel.size, fun k hk _ => hbel.block k hk⟩ (by cases p.rv.ownBlock <;> simp)
  have hnews : ∀ j u, [v1 p s][j]? = some u → W.cell? ((⟨s.h, 0, none⟩ : Addr).add j) = some u := fun j u hu => by
    rw [add0]
    exact bcell hcell (by simpa using hu)
  obtain ⟨v', w', hr, ho, hg, _, hat⟩ := run_append_own_at (P := Try.prog) W p.B 25 o.type 24 i1 z1 1 24 Try.underlying25 hi hz hn hb hzs (by omega) _ p.k p.ys hold ⟨s.h, 0, none⟩ 1 1 [v1 p s] rfl hnews (by intro u hu; simp at hu; subst hu; rfl) (by unfold maxLen; omega) (by omega) (Nat.le_trans hA.sz hd.tn.size)
  refine ⟨{ s with v2 := v' }, v', dk.agree_sets 10 74 _ hdst rfl rfl, (fun d' hd => by rw [hdst] at hd; cases hd; exact dk.sets_on _ (by omega) _ rfl), ?_⟩
  rw [app_run hop (dk.eval_on _ _ (by omega) rfl) (dk.eval_on _ _ (by omega) rfl) hr]
  refine ⟨rfl, ?_⟩
  unfold C
  rw [more_on, more_off L (show 1 ≠ 10 by omega), more_off L (show 2 ≠ 10 by omega), more_off L (show 8 ≠ 10 by omega), more_off L (show 9 ≠ 10 by omega), more_off L (show 12 ≠ 10 by omega)]
  exact hd.s10 hA lp lq hg ho
theorem st12 (hA : Ah p) (hsz : 75 < act.tmps.size) (hsel : ∀ cs b, o.op ≠ .select cs b) (hdst : o.dst = none)
    (hrun : ∀ s W, W.heap[p.n3]? = some (.cells #[p.f0, p.rv] 27 (0, 0)) → (∃ a n c, s.v2 = .slice a n c) → (execOp (dk.sets act (ws p s0 b m rc a c j s)).eval o).run Try.prog W = .ok .skip (W.setCell ⟨p.n3, 1, none⟩ s.v2))
    (hdep : ∃ e ∈ o.after, Region.binds .any e = true ∧ e.on = 10) : gh.Step Try.prog (fun s => dk.sets act (ws p s0 b m rc a c j s)) (C p) Q 12 o := by
  refine gh.step_val hsel fun s L W hdp h0 hC => ⟨s, undef, gh.Agree.refl _ _, (fun d hd => by rw [hdst] at hd; cases hd), ?_⟩
  obtain ⟨xp, mp, yp, zp⟩ := hdep
  have lp := hdp xp mp yp
  rw [zp] at lp
  have hd := hC.d
  rw [h0] at hd
  have hv : ∃ a n c, s.v2 = .slice a n c := by
    obtain ⟨_, ⟨e, _⟩ | ⟨g, cap, cur, e, _⟩⟩ := (hd.at10 lp).2.2
    · exact ⟨_, _, _, e⟩
    · exact ⟨_, _, _, e⟩
  rw [hrun s W hd.out hv]
  refine ⟨rfl, ?_⟩
  unfold C
  rw [more_on, more_off L (show 1 ≠ 12 by omega), more_off L (show 2 ≠ 12 by omega), more_off L (show 8 ≠ 12 by omega), more_off L (show 9 ≠ 12 by omega), more_off L (show 10 ≠ 12 by omega)]
  exact hd.s12 hA lp
end
end Go.Proofs.Ytbgkccleiapkmaa.smr

/- The specification's TableMerge: the region of its loop that puts two runs together. -/
namespace Go.Proofs.Ytbgkccleiapkmaa.smc
open Go.ChangeShapes Go.WideShapes Go.ChangeAt Go.RowKit Go.Proofs.Ytbgkccleiapkmaa.fl Go.Proofs.Ytbgkccleiapkmaa.fo Go.Proofs.Ytbgkccleiapkmaa.rn Go.Proofs.Ytbgkccleiapkmaa.sct
set_option linter.unusedVariables false

/-- what is drawn: the new run, the one run's place, the runs' row behind the append -/
structure G where
  v1 : Value
  h : Nat
  v2 : Value
structure D (p : Pm) (g : G) (c1 c19 c20 c21 c23 : Bool) (W : World) : Prop where
  tn : Tn p.W0 W (fun b => (c21 = true ∧ p.rv.ownBlock = some b) ∨ (c23 = true ∧ b = p.n3))
  out : W.heap[p.n3]? = some (.cells #[p.f0, if c23 then g.v2 else p.rv] 27 (0, 0))
  at19 : c19 = true → W.ownsRow p.W0.heap.size 40 3 g.v1 p.n p.xs
  at20 : c20 = true → c19 = true ∧ (c21 = false → W.heap[g.h]? = some (.cells #[g.v1] 24 (0, 0)))
  at21 : c21 = true → c20 = true ∧ c1 = true ∧ W.ownsRow p.B 24 1 g.v2 (p.k + 1) (p.ys ++ [g.v1])
  at23 : c23 = true → c21 = true
section
variable {p : Pm} {g : G} {c1 c19 c20 c21 c23 : Bool} {W W' : World} {v : Value}
theorem no20 (h : D p g c1 false c20 c21 c23 W) : c20 = false := by
  cases c20 with
  | false => rfl
  | true => have := (h.at20 rfl).1; cases this
theorem no21 (h : D p g c1 c19 false c21 c23 W) : c21 = false := by
  cases c21 with
  | false => rfl
  | true => have := (h.at21 rfl).1; cases this
theorem no211 (h : D p g false c19 c20 c21 c23 W) : c21 = false := by
  cases c21 with
  | false => rfl
  | true => have := (h.at21 rfl).2.1; cases this
theorem no23 (h : D p g c1 c19 c20 false c23 W) : c23 = false := by
  cases c23 with
  | false => rfl
  | true => have := h.at23 rfl; cases this
theorem D.below (h : D p g c1 c19 c20 false false W) : Below p.W0.heap.size p.W0 W := h.tn.below (Nat.le_refl _) (fun k hk => by simp at hk)
theorem D.old (h : D p g c1 c19 c20 c21 c23 W) {b : Nat} {o : Obj} (hb : p.W0.heap[b]? = some o) (hne : b ≠ p.n3) (hr : p.rv.ownBlock ≠ some b) : W.heap[b]? = some o := by
  rw [h.tn.block b (Array.getElem?_eq_some_iff.1 hb).1 (fun e => by rcases e with ⟨_, e⟩ | ⟨_, e⟩ <;> contradiction)]
  exact hb
theorem D.s1 (h : D p g false c19 c20 c21 c23 W) : D p g true c19 c20 c21 c23 W := by
  obtain rfl := no211 h
  exact ⟨h.tn, h.out, h.at19, h.at20, fun e => (by cases e), h.at23⟩
theorem D.s19 (h : D p g c1 false c20 c21 c23 W) (hA : Ah p) (hb : Below W.heap.size W W') (ho : W'.ownsRow p.W0.heap.size 40 3 v p.n p.xs) : D p { g with v1 := v } c1 true c20 c21 c23 W' := by
  obtain rfl := no20 h
  obtain rfl := no21 h
  obtain rfl := no23 h
  have hl := hA.lt
  have hs := h.tn.size
  exact ⟨⟨hb.os.trans h.tn.os, hb.tape.trans h.tn.tape, hb.output.trans h.tn.output, Nat.le_trans hs hb.size, fun k hk hS => (hb.block k (by omega)).trans (h.tn.block k hk hS)⟩, (hb.block _ (by omega)).trans h.out, fun _ => ho, fun e => (by cases e), fun e => (by cases e), fun e => (by cases e)⟩
theorem D.s20 (h : D p g c1 c19 false c21 c23 W) (hA : Ah p) (h19 : c19 = true) : D p { g with h := W.heap.size } c1 c19 true c21 c23 (W.alloc (.cells #[g.v1] 24)) := by
  obtain rfl := no21 h
  obtain rfl := no23 h
  exact ⟨tn_grow h.tn (World.grownBy_alloc W _ none) (fun b e => by cases e), bold h.out _, fun a => (h.at19 a).alloc _, fun _ => ⟨h19, fun _ => bnew W _ _⟩, fun e => (by cases e), fun e => (by cases e)⟩
theorem D.s21 (h : D p g c1 c19 c20 false c23 W) (hA : Ah p) (h20 : c20 = true) (h1 : c1 = true) (hg : W.grownBy W' p.rv.ownBlock) (ho : W'.ownsRow p.B 24 1 v (p.k + 1) (p.ys ++ [g.v1])) : D p { g with v2 := v } c1 c19 c20 true c23 W' := by
  obtain rfl := no23 h
  have h19 := (h.at20 h20).1
  have o19 := h.at19 h19
  have hl := hA.lt
  refine ⟨tn_grow (h.tn.wide (fun k hk => by simp at hk)) hg (fun b e hb => .inl ⟨rfl, e⟩), (hg.block _ (by have := h.tn.size; omega) (fun e => hA.ne e.symm)).trans h.out, fun _ => o19.kept hg ?_, fun _ => ⟨h19, fun e => (by cases e)⟩, fun _ => ⟨h20, h1, ho⟩, fun e => (by cases e)⟩
  cases hv : g.v1.ownBlock with
  | none => exact .inl rfl
  | some b =>
    right
    intro e
    have a1 := (o19.lt b hv).1
    have a2 := hA.small (b := b) (by first | exact e | exact e.symm)
    omega
theorem D.s23 (h : D p g c1 c19 c20 c21 false W) (hA : Ah p) (h21 : c21 = true) : D p g c1 c19 c20 c21 true (W.setCell ⟨p.n3, 1, none⟩ g.v2) := by
  obtain ⟨h20, h1, ho⟩ := h.at21 h21
  have h19 := (h.at20 h20).1
  have o19 := h.at19 h19
  have hl := hA.lt
  have hg : W.grownBy (W.setCell ⟨p.n3, 1, none⟩ g.v2) (some p.n3) := ⟨rfl, rfl, rfl, by simp, fun k hk hne => Below.heap_setCell _ _ _ _ (fun e => hne (by rw [e]))⟩
  refine ⟨tn_grow (h.tn.wide (fun k hk => ?_)) hg (fun b e hb => .inr ⟨rfl, (Option.some.inj e).symm⟩), bset h.out 1 g.v2, fun _ => o19.kept hg ?_, fun _ => ⟨h19, fun e => (by rw [h21] at e; cases e)⟩, fun _ => ⟨h20, h1, ho.kept hg ?_⟩, fun _ => h21⟩
  · rcases hk with hk | ⟨hk, _⟩
    · exact .inl hk
    · cases hk
  · right
    intro e
    have a1 := (o19.lt p.n3 e).1
    omega
  · right
    intro e
    obtain ⟨cur, hc⟩ := typed ho e
    rw [h.out] at hc
    simp at hc
end
def C (p : Pm) (g : G) (L : Nat → Bool) (W : World) : Prop := D p g (L 1) (L 19) (L 20) (L 21) (L 23) W
theorem C.d {p : Pm} {g : G} {L : Nat → Bool} {W : World} (h : C p g L W) : D p g (L 1) (L 19) (L 20) (L 21) (L 23) W := h
def ws (p : Pm) (s0 b m rc j : Nat) (a1 a2 : Option Addr) (l1 l2 c1 c2 : Nat) (last : Bool) (g : G) : List (Nat × Value) := [(37, .pointer (some ⟨p.n3, 1, none⟩)), (38, p.rv), (39, .pointer (some ⟨s0, 1, none⟩)), (40, .slice (some ⟨b, 0, none⟩) m rc), (41, .int .i64 j), (42, .pointer (some ⟨b, j, none⟩)), (43, .slice a1 l1 c1), (44, .pointer (some ⟨s0, 1, none⟩)), (45, .slice (some ⟨b, 0, none⟩) m rc), (46, .int .i64 j), (47, .int .i64 ((j : Int) + 1)), (48, .pointer (some ⟨b, j + 1, none⟩)), (49, .slice a2 l2 c2), (50, .int .i64 j), (51, .int .i64 ((j : Int) + 2)), (52, .pointer (some ⟨s0, 1, none⟩)), (53, .slice (some ⟨b, 0, none⟩) m rc), (54, .int .i64 m), (55, .bool last), (56, g.v1), (57, .slice (some ⟨g.h, 0, none⟩) 1 1), (58, g.v2), (59, .pointer (some ⟨p.n3, 1, none⟩))]
section
variable {p : Pm} {s0 b m rc j l1 l2 c1 c2 : Nat} {a1 a2 : Option Addr} {last : Bool} {act : Act} {Q : Exit → Act → World → Prop} {o : Oper}
theorem quiet {i : Nat} (hi : i = 0 ∨ (2 ≤ i ∧ i ≤ 18) ∨ i = 22) (hsel : ∀ cs b, o.op ≠ .select cs b) (u : Value) (hd : ∀ s d, o.dst = some d → (dk.sets act (ws p s0 b m rc j a1 a2 l1 l2 c1 c2 last s)).tmps[d]? = some u)
    (hrun : ∀ s W, (∀ (b : Nat) (o : Obj), p.W0.heap[b]? = some o → b ≠ p.n3 → p.rv.ownBlock ≠ some b → W.heap[b]? = some o) → (execOp (dk.sets act (ws p s0 b m rc j a1 a2 l1 l2 c1 c2 last s)).eval o).run Try.prog W = .ok (.value u) W) : gh.Step Try.prog (fun s => dk.sets act (ws p s0 b m rc j a1 a2 l1 l2 c1 c2 last s)) (C p) Q i o := by
  refine gh.step_val hsel fun s L W hdp h0 hC => ⟨s, u, gh.Agree.refl _ _, hd s, ?_⟩
  rw [hrun s W (fun b o hb hne hr => hC.d.old hb hne hr)]
  refine ⟨rfl, ?_⟩
  unfold C
  rw [more_off L (show 1 ≠ i by omega), more_off L (show 19 ≠ i by omega), more_off L (show 20 ≠ i by omega), more_off L (show 21 ≠ i by omega), more_off L (show 23 ≠ i by omega)]
  exact hC
theorem st1 (hsel : ∀ cs b, o.op ≠ .select cs b) (hd : ∀ s d, o.dst = some d → (dk.sets act (ws p s0 b m rc j a1 a2 l1 l2 c1 c2 last s)).tmps[d]? = some p.rv)
    (hrun : ∀ s W, W.heap[p.n3]? = some (.cells #[p.f0, p.rv] 27 (0, 0)) → (execOp (dk.sets act (ws p s0 b m rc j a1 a2 l1 l2 c1 c2 last s)).eval o).run Try.prog W = .ok (.value p.rv) W) : gh.Step Try.prog (fun s => dk.sets act (ws p s0 b m rc j a1 a2 l1 l2 c1 c2 last s)) (C p) Q 1 o := by
  refine gh.step_val hsel fun s L W hdp h0 hC => ⟨s, p.rv, gh.Agree.refl _ _, hd s, ?_⟩
  have hd := hC.d
  rw [h0] at hd
  have e23 : L 23 = false := by
    have e21 := no211 hd
    rw [e21] at hd
    exact no23 hd
  have ho := hd.out
  rw [e23] at ho
  rw [hrun s W ho]
  refine ⟨rfl, ?_⟩
  unfold C
  rw [more_on, more_off L (show 19 ≠ 1 by omega), more_off L (show 20 ≠ 1 by omega), more_off L (show 21 ≠ 1 by omega), more_off L (show 23 ≠ 1 by omega)]
  exact hd.s1
/-- an operation that enters a function: what comes back is known only behind it -/
theorem step_call {σ : Type} {P : Program} {fin : σ → Act} {C : σ → (Nat → Bool) → World → Prop} {Q : Exit → Act → World → Prop} {i : Nat} {o : Oper} (hsel : ∀ cs b, o.op ≠ .select cs b) (f : FuncId) (args : Array Value)
    (h : ∀ (s : σ) (L : Nat → Bool) (w : World), (∀ e ∈ o.after, Region.binds .any e = true → L e.on = true) → L i = false → C s L w →
      (execOp (fin s).eval o).run P w = .ok (.enter f args) w ∧ Calls P f args w fun e w' => ∃ s' v, e = .returned v ∧ gh.Agree o (fin s) (fin s') ∧ (∀ d, o.dst = some d → (fin s').tmps[d]? = some v) ∧ C s' (dn.more L i) w') : gh.Step P fin C Q i o := by
  intro s L w a ha hd h0 hC K hK
  obtain ⟨hr, hc⟩ := h s L w hd h0 hC
  unfold Oper.wp
  rw [execOp_congr o hsel ha, hr]
  simp only [Oper.upon]
  exact hc.mono fun e w'' ⟨s', v, he, hag, hv, hD⟩ => by subst he; exact hK s' _ _ hag hv hD
theorem st19 (hA : Ah p) (hsz : 59 < act.tmps.size) (hsel : ∀ cs b, o.op ≠ .select cs b) (hdst : o.dst = some 56) (args : Array Value) (fn : FuncId) (hrun : ∀ s W, (execOp (dk.sets act (ws p s0 b m rc j a1 a2 l1 l2 c1 c2 last s)).eval o).run Try.prog W = .ok (.enter fn args) W)
    (hcall : ∀ W, Below p.W0.heap.size p.W0 W → Calls Try.prog fn args W fun r w' => ∃ v, r = .returned v ∧ w'.ownsRow W.heap.size 40 3 v p.n p.xs ∧ Below W.heap.size W w') : gh.Step Try.prog (fun s => dk.sets act (ws p s0 b m rc j a1 a2 l1 l2 c1 c2 last s)) (C p) Q 19 o := by
  refine step_call hsel fn args fun s L W hdp h0 hC => ⟨hrun s W, ?_⟩
  have hd := hC.d
  rw [h0] at hd
  have hbel : Below p.W0.heap.size p.W0 W := by
    have e20 := no20 hd
    rw [e20] at hd
    have e21 := no21 hd
    rw [e21] at hd
    have e23 := no23 hd
    rw [e23] at hd
    exact hd.below
  refine (hcall W hbel).mono ?_
  rintro r w' ⟨v, rfl, ho, hb⟩
  refine ⟨{ s with v1 := v }, v, rfl, dk.agree_sets 19 56 _ hdst rfl rfl, (fun d' hd => by rw [hdst] at hd; cases hd; exact dk.sets_on _ (by omega) _ rfl), ?_⟩
  unfold C
  rw [more_on, more_off L (show 1 ≠ 19 by omega), more_off L (show 20 ≠ 19 by omega), more_off L (show 21 ≠ 19 by omega), more_off L (show 23 ≠ 19 by omega)]
  exact hd.s19 hA hb (own_low ho hbel.size)
theorem slice_of {w : World} {B n s : Nat} {U : TypeId} {v : Value} {xs : List Value} (h : w.ownsRow B U s v n xs) : ∃ a c, v = .slice a n c := by
  obtain ⟨_, ⟨rfl, h0⟩ | ⟨g', cap, cur, rfl, hB, hg, _⟩⟩ := h
  · exact ⟨none, 0, by rw [h0]⟩
  · exact ⟨_, _, rfl⟩
theorem st20 (hA : Ah p) (hsz : 59 < act.tmps.size) (hop : o.op = .buildSlice 25 1 #[(0, .tmp 56)]) (hdst : o.dst = some 57) (hdep : ∃ e ∈ o.after, Region.binds .any e = true ∧ e.on = 19) : gh.Step Try.prog (fun s => dk.sets act (ws p s0 b m rc j a1 a2 l1 l2 c1 c2 last s)) (C p) Q 20 o := by
  refine gh.step_val (by rw [hop]; simp) fun s L W hdp h0 hC => ⟨{ s with h := W.heap.size }, .slice (some ⟨W.heap.size, 0, none⟩) 1 1, dk.agree_sets 20 57 _ hdst rfl rfl, (fun d hd => by rw [hdst] at hd; cases hd; exact dk.sets_on _ (by omega) _ rfl), ?_⟩
  obtain ⟨xp, mp, yp, zp⟩ := hdep
  have lp := hdp xp mp yp
  rw [zp] at lp
  have hd := hC.d
  rw [h0] at hd
  obtain ⟨va, vc, hv⟩ := slice_of (hd.at19 lp)
  have e25 : (dk.sets act (ws p s0 b m rc j a1 a2 l1 l2 c1 c2 last s)).tmps[56]? = some s.v1 := dk.sets_on _ (by omega) _ rfl
  rw [hv] at e25
  have hrun : (execOp (dk.sets act (ws p s0 b m rc j a1 a2 l1 l2 c1 c2 last s)).eval o).run Try.prog W = .ok (.value (.slice (some ⟨W.heap.size, 0, none⟩) 1 1)) (W.alloc (.cells #[s.v1] 24)) := by
    rw [hv]
    simp [execOp, hop, go_sem, e25]
  rw [hrun]
  refine ⟨rfl, ?_⟩
  unfold C
  rw [more_on, more_off L (show 1 ≠ 20 by omega), more_off L (show 19 ≠ 20 by omega), more_off L (show 21 ≠ 20 by omega), more_off L (show 23 ≠ 20 by omega)]
  exact hd.s20 hA lp
variable {i1 : TypeInfo} {z1 : Value}
theorem st21 (hA : Ah p) (hi : Try.prog.info? 24 = some i1) (hz : i1.zero = some z1) (hn : i1.size = 1) (hb : i1.bytes = 24) (hzs : z1.cells.size = 1) (hsz : 59 < act.tmps.size)
    (hop : o.op = .call { callee := .builtin .append, args := #[.tmp 38, .tmp 57], argTypes := #[25, 25] }) (hdst : o.dst = some 58) (hk : p.k ≤ 1048576)
    (hdep : ∃ e ∈ o.after, Region.binds .any e = true ∧ e.on = 20) (hdep1 : ∃ e ∈ o.after, Region.binds .any e = true ∧ e.on = 1) : gh.Step Try.prog (fun s => dk.sets act (ws p s0 b m rc j a1 a2 l1 l2 c1 c2 last s)) (C p) Q 21 o := by
  refine gh.step_val (by rw [hop]; simp) fun s L W hdp h0 hC => ?_
  obtain ⟨xp, mp, yp, zp⟩ := hdep
  have lp := hdp xp mp yp
  rw [zp] at lp
  obtain ⟨xq, mq, yq, zq⟩ := hdep1
  have lq := hdp xq mq yq
  rw [zq] at lq
  have hd := hC.d
  rw [h0] at hd
  have hbel : Below p.W0.heap.size p.W0 W := by
    have e23 := no23 hd
    rw [e23] at hd
    exact hd.below
  obtain ⟨h19, hc⟩ := hd.at20 lp
  have hcell := hc rfl
  obtain ⟨va, vc, hv⟩ := slice_of (hd.at19 h19)
  have hold : W.ownsRow p.B 24 1 p.rv p.k p.ys := hA.runs.kept (row := none) ⟨hbel.os, hbel.tape, hbel.output, hbel.size, fun k hk _ => hbel.block k hk⟩ (by cases p.rv.ownBlock <;> simp)
  have hnews : ∀ j u, [s.v1][j]? = some u → W.cell? ((⟨s.h, 0, none⟩ : Addr).add j) = some u := fun j u hu => by
    rw [add0]
    exact bcell hcell (by simpa using hu)
  obtain ⟨v', w', hr, ho, hg, _, hat⟩ := run_append_own_at (P := Try.prog) W p.B 25 o.type 24 i1 z1 1 24 Try.underlying25 hi hz hn hb hzs (by omega) _ p.k p.ys hold ⟨s.h, 0, none⟩ 1 1 [s.v1] rfl hnews (by intro u hu; simp at hu; subst hu; rw [hv]; rfl) (by unfold maxLen; omega) (by omega) (Nat.le_trans hA.sz hd.tn.size)
  refine ⟨{ s with v2 := v' }, v', dk.agree_sets 21 58 _ hdst rfl rfl, (fun d' hd => by rw [hdst] at hd; cases hd; exact dk.sets_on _ (by omega) _ rfl), ?_⟩
  rw [app_run hop (dk.eval_on _ _ (by omega) rfl) (dk.eval_on _ _ (by omega) rfl) hr]
  refine ⟨rfl, ?_⟩
  unfold C
  rw [more_on, more_off L (show 1 ≠ 21 by omega), more_off L (show 19 ≠ 21 by omega), more_off L (show 20 ≠ 21 by omega), more_off L (show 23 ≠ 21 by omega)]
  exact hd.s21 hA lp lq hg ho
theorem st23 (hA : Ah p) (hsz : 59 < act.tmps.size) (hsel : ∀ cs b, o.op ≠ .select cs b) (hdst : o.dst = none)
    (hrun : ∀ s W, W.heap[p.n3]? = some (.cells #[p.f0, p.rv] 27 (0, 0)) → (∃ a n c, s.v2 = .slice a n c) → (execOp (dk.sets act (ws p s0 b m rc j a1 a2 l1 l2 c1 c2 last s)).eval o).run Try.prog W = .ok .skip (W.setCell ⟨p.n3, 1, none⟩ s.v2))
    (hdep : ∃ e ∈ o.after, Region.binds .any e = true ∧ e.on = 21) : gh.Step Try.prog (fun s => dk.sets act (ws p s0 b m rc j a1 a2 l1 l2 c1 c2 last s)) (C p) Q 23 o := by
  refine gh.step_val hsel fun s L W hdp h0 hC => ⟨s, undef, gh.Agree.refl _ _, (fun d hd => by rw [hdst] at hd; cases hd), ?_⟩
  obtain ⟨xp, mp, yp, zp⟩ := hdep
  have lp := hdp xp mp yp
  rw [zp] at lp
  have hd := hC.d
  rw [h0] at hd
  obtain ⟨va, vc, hv⟩ := slice_of (hd.at21 lp).2.2
  rw [hrun s W hd.out ⟨_, _, _, hv⟩]
  refine ⟨rfl, ?_⟩
  unfold C
  rw [more_on, more_off L (show 1 ≠ 23 by omega), more_off L (show 19 ≠ 23 by omega), more_off L (show 20 ≠ 23 by omega), more_off L (show 21 ≠ 23 by omega)]
  exact hd.s23 hA lp
/-- nothing is done yet -/
theorem start (p : Pm) (g : G) (hA : Ah p) : C p g (fun _ => false) p.W0.drew :=
  ⟨Tn.of _ (Below.refl _ _).drew, hA.out, fun e => (by cases e), fun e => (by cases e), fun e => (by cases e), fun e => (by cases e)⟩
/-- when all is done -/
theorem done {p : Pm} {g : G} {L : Nat → Bool} {W : World} (hC : C p g L W) (hL : ∀ i, i < 24 → L i = true) :
    Tn p.W0 W (fun b => p.rv.ownBlock = some b ∨ b = p.n3) ∧ W.heap[p.n3]? = some (.cells #[p.f0, g.v2] 27 (0, 0)) ∧ W.ownsRow p.W0.heap.size 40 3 g.v1 p.n p.xs ∧ W.ownsRow p.B 24 1 g.v2 (p.k + 1) (p.ys ++ [g.v1]) := by
  have hd := hC.d
  rw [hL 19 (by omega), hL 21 (by omega), hL 23 (by omega)] at hd
  refine ⟨hd.tn.wide (fun k hk => ?_), hd.out, hd.at19 rfl, (hd.at21 rfl).2.2⟩
  rcases hk with ⟨_, h⟩ | ⟨_, h⟩
  · exact .inl h
  · exact .inr h
end
end Go.Proofs.Ytbgkccleiapkmaa.smc

/- The specification's TableMerge: what stands in its loop. -/
namespace Go.Proofs.Ytbgkccleiapkmaa.mgk
open Go.ChangeShapes Go.WideShapes Go.ChangeAt Go.RowKit Go.Proofs.Ytbgkccleiapkmaa.fl Go.Proofs.Ytbgkccleiapkmaa.fo Go.Proofs.Ytbgkccleiapkmaa.rn Go.Proofs.Ytbgkccleiapkmaa.tk Go.Proofs.Ytbgkccleiapkmaa.tko Go.Proofs.Ytbgkccleiapkmaa.tan Go.Proofs.Ytbgkccleiapkmaa.mga Go.Proofs.Ytbgkccleiapkmaa.mgd Go.Proofs.Ytbgkccleiapkmaa.sci Go.Proofs.Ytbgkccleiapkmaa.sct
set_option linter.unusedVariables false

/-- what is still to be laid at run j -/
noncomputable def todo (R : List (List flP.Pr)) (i j : Nat) : List (List flP.Pr) := if j ≤ i then (R.take i).drop j ++ merged (R.getD i []) (R.getD (i + 1) []) (decide (i + 2 = R.length)) :: R.drop (i + 2) else R.drop (max j (i + 2))
theorem todo_0 (R : List (List flP.Pr)) (i : Nat) : todo R i 0 = mrg R i := by
  unfold todo mrg
  rw [if_pos (Nat.zero_le _), List.drop_zero]
theorem todo_copy {R : List (List flP.Pr)} {i j : Nat} {l : List flP.Pr} (hl : R[j]? = some l) (h0 : j ≠ i) (h1 : j ≠ i + 1) : todo R i j = l :: todo R i (j + 1) := by
  obtain ⟨hj, rfl⟩ := List.getElem?_eq_some_iff.1 hl
  unfold todo
  by_cases h : j < i
  · rw [if_pos (by omega), if_pos (by omega), List.drop_eq_getElem_cons (show j < (R.take i).length by rw [List.length_take]; omega)]
    simp
  · rw [if_neg (by omega), if_neg (by omega), show max j (i + 2) = j by omega, show max (j + 1) (i + 2) = j + 1 by omega, List.drop_eq_getElem_cons hj]
theorem todo_merge {R : List (List flP.Pr)} {i : Nat} {l1 l2 : List flP.Pr} (h1 : R[i]? = some l1) (h2 : R[i + 1]? = some l2) : todo R i i = merged l1 l2 (decide (i + 2 = R.length)) :: todo R i (i + 1) := by
  unfold todo
  rw [if_pos (Nat.le_refl _), if_neg (by omega), List.drop_eq_nil_of_le (by rw [List.length_take]; omega), List.nil_append, show max (i + 1) (i + 2) = i + 2 by omega, List.getD_eq_getElem?_getD, List.getD_eq_getElem?_getD, h1, h2]
  rfl
theorem todo_skip (R : List (List flP.Pr)) (i : Nat) : todo R i (i + 1) = todo R i (i + 1 + 1) := by
  unfold todo
  rw [if_neg (by omega), if_neg (by omega)]
  congr 1
  omega
theorem todo_end {R : List (List flP.Pr)} {i : Nat} (h : i + 2 ≤ R.length) : todo R i R.length = [] := by
  unfold todo
  rw [if_neg (by omega), List.drop_eq_nil_of_le (by omega)]
/-- what stands in the loop: the box, the answer's place, the new table's place, its pairs, its runs so far, and what is still to come -/
structure StM (w : World) (ys : List flP.Pr) (rs : List Rn) (a0 yc b rc n3 g1 c1 : Nat) (k : Nat) (va : Option Addr) (vc : Nat) (ks : List Rn) (td M : List (List flP.Pr)) (W : World) : Prop where
  bel : Below w.heap.size w W
  box : W.heap[w.heap.size]? = some (.cells #[.slice (some ⟨a0, 0, none⟩) ys.length yc, .slice (some ⟨b, 0, none⟩) rs.length rc] 27 (0, 0))
  res : W.heap[w.heap.size + 1]? = some (.cells #[.slice none 0 0, .slice none 0 0] 27 (0, 0))
  lo : w.heap.size + 2 ≤ n3
  out : W.heap[n3]? = some (.cells #[.slice (some ⟨g1, 0, none⟩) ys.length c1, .slice va k vc] 27 (0, 0))
  fresh : W.ownsRow (w.heap.size + 2) 40 3 (.slice (some ⟨g1, 0, none⟩) ys.length c1) ys.length (ys.flatMap flP.c)
  runs : W.ownsRow (w.heap.size + 2) 24 1 (.slice va k vc) k (ks.flatMap cR)
  same : ks.map (·.l) ++ td = M
  rows : ∀ r ∈ ks, OwnR W (w.heap.size + 2) r
section
variable {w W W' : World} {ys : List flP.Pr} {rs : List Rn} {a0 yc b rc n3 g1 c1 k : Nat} {va : Option Addr} {vc : Nat} {ks : List Rn} {td M : List (List flP.Pr)}
theorem StM.big (h : StM w ys rs a0 yc b rc n3 g1 c1 k va vc ks td M W) : w.heap.size + 2 ≤ W.heap.size := (Array.getElem?_eq_some_iff.1 h.res).1
theorem StM.ah (h : StM w ys rs a0 yc b rc n3 g1 c1 k va vc ks td M W) (n : Nat) (xs : List Value) : Ah ⟨W, w.heap.size + 2, n3, .slice (some ⟨g1, 0, none⟩) ys.length c1, .slice va k vc, k, ks.flatMap cR, n, xs⟩ := ⟨(Array.getElem?_eq_some_iff.1 h.out).1, h.out, h.runs, h.big⟩
theorem StM.on (h : StM w ys rs a0 yc b rc n3 g1 c1 k va vc ks td M W) (hb : Below W.heap.size W W') : StM w ys rs a0 yc b rc n3 g1 c1 k va vc ks td M W' := by
  have hg : W.grownBy W' none := ⟨hb.os, hb.tape, hb.output, hb.size, fun k hk _ => hb.block k hk⟩
  exact ⟨h.bel.trans (hb.mono h.bel.size), bstay h.box hb (Array.getElem?_eq_some_iff.1 h.box).1, bstay h.res hb (Array.getElem?_eq_some_iff.1 h.res).1, h.lo, bstay h.out hb (Array.getElem?_eq_some_iff.1 h.out).1, h.fresh.kept hg (by simp [Value.ownBlock]), h.runs.kept hg (by cases (Value.slice va k vc).ownBlock <;> simp), h.same, fun r hr => (h.rows r hr).kept hg (by cases (Value.slice r.a r.l.length r.c).ownBlock <;> simp)⟩
theorem StM.step (h : StM w ys rs a0 yc b rc n3 g1 c1 k va vc ks td M W) {r : Rn} {td' : List (List flP.Pr)} (hr : td = r.l :: td') {v2 : Value} (ht : Tn W W' (fun x => (Value.slice va k vc).ownBlock = some x ∨ x = n3)) (ho : W'.heap[n3]? = some (.cells #[.slice (some ⟨g1, 0, none⟩) ys.length c1, v2] 27 (0, 0)))
    (o1 : W'.ownsRow W.heap.size 40 3 (.slice r.a r.l.length r.c) r.l.length (r.l.flatMap flP.c)) (o2 : W'.ownsRow (w.heap.size + 2) 24 1 v2 (k + 1) (ks.flatMap cR ++ [.slice r.a r.l.length r.c])) : ∃ va' vc' ks', v2 = .slice va' (k + 1) vc' ∧ StM w ys rs a0 yc b rc n3 g1 c1 (k + 1) va' vc' ks' td' M W' := by
  obtain ⟨va', vc', rfl⟩ : ∃ va' vc', v2 = .slice va' (k + 1) vc' := by
    obtain ⟨_, ⟨e, h0⟩ | ⟨g, cap, cur, e, _⟩⟩ := o2
    · cases h0
    · exact ⟨_, _, e⟩
  have hbig := h.big
  have hlo := h.lo
  have hrb : ∀ x, (Value.slice va k vc).ownBlock = some x → w.heap.size + 2 ≤ x := fun x e => (h.runs.lt x e).1
  have keep : ∀ x, x < w.heap.size + 2 → ¬ ((Value.slice va k vc).ownBlock = some x ∨ x = n3) := fun x hx e => by
    rcases e with e | e
    · have := hrb x e; omega
    · omega
  have kept : ∀ v n xs, W.ownsRow (w.heap.size + 2) 40 3 v n xs → W'.ownsRow (w.heap.size + 2) 40 3 v n xs := fun v n xs hv => own_tn hv ht (fun g e hS => by
    rcases hS with hS | hS
    · exact clash hv h.runs e hS
    · subst hS; exact clash3 hv h.out e)
  refine ⟨va', vc', ks ++ [r], rfl, ⟨⟨ht.os.trans h.bel.os, ht.tape.trans h.bel.tape, ht.output.trans h.bel.output, Nat.le_trans h.bel.size ht.size, fun x hx => (ht.block x (by omega) (keep x (by omega))).trans (h.bel.block x hx)⟩, (ht.block _ (by omega) (keep _ (by omega))).trans h.box, (ht.block _ (by omega) (keep _ (by omega))).trans h.res, h.lo, ho, kept _ _ _ h.fresh, ?_, ?_, ?_⟩⟩
  · rw [List.flatMap_append]
    exact o2
  · rw [← h.same, hr]
    simp
  · intro s hs
    rcases List.mem_append.1 hs with hs | hs
    · exact kept _ _ _ (h.rows s hs)
    · simp at hs
      subst hs
      exact own_low o1 hbig
end
end Go.Proofs.Ytbgkccleiapkmaa.mgk

/- The specification's TableMerge. -/
namespace Go.Proofs.Ytbgkccleiapkmaa.mgc
open Go.ChangeShapes Go.WideShapes Go.ChangeAt Go.RowKit Go.Proofs.Ytbgkccleiapkmaa.fl Go.Proofs.Ytbgkccleiapkmaa.fo Go.Proofs.Ytbgkccleiapkmaa.rn Go.Proofs.Ytbgkccleiapkmaa.tk Go.Proofs.Ytbgkccleiapkmaa.tko Go.Proofs.Ytbgkccleiapkmaa.tan Go.Proofs.Ytbgkccleiapkmaa.mga Go.Proofs.Ytbgkccleiapkmaa.mgd Go.Proofs.Ytbgkccleiapkmaa.sci Go.Proofs.Ytbgkccleiapkmaa.sct Go.Proofs.Ytbgkccleiapkmaa.mgk
set_option linter.unusedVariables false

set_option maxRecDepth 100000 in
set_option maxHeartbeats 8000000 in
theorem spec_merge (ys : List flP.Pr) (rs : List Rn) (a0 yc b rc : Nat) (x : Int) (w : World) (F : tb.Fit ys rs) (hx1 : -9223372036854775808 ≤ x) (hx2 : x ≤ 9223372036854775807) (hY : Row flP.c 3 w w.heap.size (some ⟨a0, 0, none⟩) ys) (hR : VR w w.heap.size (some ⟨b, 0, none⟩) rs) (hrs : ∀ r ∈ rs, ∃ h, r.a = some ⟨h, 0, none⟩) :
    Calls Try.prog 28 #[.agg #[.slice (some ⟨a0, 0, none⟩) ys.length yc, .slice (some ⟨b, 0, none⟩) rs.length rc], .int .i64 x] w fun e w' => ∃ sa sc ta tc ks, e = .returned (.tuple #[.agg #[.slice sa ys.length sc, .slice ta (ansR ys (rs.map (·.l)) x).length tc], .bool (can ys (rs.map (·.l)) x)]) ∧ ks.map (·.l) = ansR ys (rs.map (·.l)) x ∧ Row flP.c 3 w' w'.heap.size sa ys ∧ VR w' w'.heap.size ta ks ∧ Below w.heap.size w w' := by
  obtain ⟨i0, hi, hz0, hz1, hz2⟩ := infoP
  obtain ⟨i1, ki, kz0, kz1, kz2⟩ := ly.infoR
  have hb : Below w.heap.size w ((w.alloc (.cells #[.slice (some ⟨a0, 0, none⟩) ys.length yc, .slice (some ⟨b, 0, none⟩) rs.length rc] 27)).alloc (.cells #[.slice none 0 0, .slice none 0 0] 27)) := ((Below.refl _ _).alloc (Nat.le_refl _) _).alloc (by simp) _
  have hA := bold (bnew w #[.slice (some ⟨a0, 0, none⟩) ys.length yc, .slice (some ⟨b, 0, none⟩) rs.length rc] 27) (.cells #[.slice none 0 0, .slice none 0 0] 27)
  have hRs := bnew (w.alloc (.cells #[.slice (some ⟨a0, 0, none⟩) ys.length yc, .slice (some ⟨b, 0, none⟩) rs.length rc] 27)) #[.slice none 0 0, .slice none 0 0] 27
  rw [World.size_alloc] at hRs
  obtain ⟨W, hW⟩ : ∃ W, ((w.alloc (.cells #[.slice (some ⟨a0, 0, none⟩) ys.length yc, .slice (some ⟨b, 0, none⟩) rs.length rc] 27)).alloc (.cells #[.slice none 0 0, .slice none 0 0] 27)) = W := ⟨_, rfl⟩
  have hsW : W.heap.size = w.heap.size + 2 := by rw [← hW]; simp
  rw [hW] at hb hA hRs
  have hok := spec_okb ys rs (some ⟨a0, 0, none⟩) (some ⟨b, 0, none⟩) yc rc W F (hY.inn hb) (hR.inn hb)
  have HF : Hid (tb.Fit ys rs) := F
  have hrl := F.rl
  have hyl := F.yl
  have HY : Hid (Row flP.c 3 w w.heap.size (some ⟨a0, 0, none⟩) ys) := hY
  have HR : Hid (VR w w.heap.size (some ⟨b, 0, none⟩) rs) := hR
  have HRS : Hid (∀ r ∈ rs, ∃ h, r.a = some ⟨h, 0, none⟩) := hrs
  have HA : Hid (W.heap[w.heap.size]? = some (.cells #[.slice (some ⟨a0, 0, none⟩) ys.length yc, .slice (some ⟨b, 0, none⟩) rs.length rc] 27 (0, 0))) := hA
  have HRES : Hid (W.heap[w.heap.size + 1]? = some (.cells #[.slice none 0 0, .slice none 0 0] 27 (0, 0))) := hRs
  have p0 : W.cell? ⟨w.heap.size, 0, none⟩ = some (.slice (some ⟨a0, 0, none⟩) ys.length yc) := bcell hA rfl
  have p1 : W.cell? ⟨w.heap.size, 1, none⟩ = some (.slice (some ⟨b, 0, none⟩) rs.length rc) := bcell hA rfl
  clear hY hR hA hRs F hrs
  go_enter Try.func28, Try.ntmps28
  go_wp2_with (go_at_call 21; fail)
  clear hW p0 p1
  refine hok.mono ?_
  rintro e w2 ⟨rfl, hb2⟩
  have b2 := bstay HA.out hb2 (by omega)
  have r2 := bstay HRES.out hb2 (by omega)
  have hBw2 : Below w.heap.size w w2 := hb.trans (hb2.mono hb.size)
  have hcp := sct.spec_copy ys rs a0 yc b rc w2 HF.out (HY.out.inn hBw2) ((HR.out.inn hBw2).1) (fun r hr => ⟨HRS.out r hr, (HR.out.inn hBw2).2 r hr⟩)
  have x0 : w2.cell? ⟨w.heap.size, 0, none⟩ = some (.slice (some ⟨a0, 0, none⟩) ys.length yc) := bcell b2 rfl
  have x1 : w2.cell? ⟨w.heap.size, 1, none⟩ = some (.slice (some ⟨b, 0, none⟩) rs.length rc) := bcell b2 rfl
  have HA2 : Hid (w2.heap[w.heap.size]? = some (.cells #[.slice (some ⟨a0, 0, none⟩) ys.length yc, .slice (some ⟨b, 0, none⟩) rs.length rc] 27 (0, 0))) := b2
  have HR2 : Hid (w2.heap[w.heap.size + 1]? = some (.cells #[.slice none 0 0, .slice none 0 0] 27 (0, 0))) := r2
  have hs2 : w.heap.size + 2 ≤ w2.heap.size := by have := hb2.size; omega
  clear hok b2 r2 HA HRES hb2
  have w1 : IntKind.i64.wrap ((rs.length : Int) - 2) = (rs.length : Int) - 2 := by rw [IntKind.wrap_i64]; omega
  have hwi := ky.within x 0 ((rs.length : Int) - 2) w2
  obtain ⟨ob, hob⟩ : ∃ ob, okB ys (rs.map (·.l)) = ob := ⟨_, rfl⟩
  have HOB : Hid (okB ys (rs.map (·.l)) = ob) := hob
  rw [hob]
  clear hob
  cases ob with
  | false =>
    have HC : Hid (can ys (rs.map (·.l)) x = false) := by unfold Hid can; rw [HOB.out]; rfl
    clear hwi
    go_wp2_with (go_at_call 65; fail)
    clear x0 x1
    refine hcp.mono ?_
    rintro e w3 ⟨g1, c1, va, vc, ks, rfl, of3, or3, m3, rows3, hb3⟩
    have l3 : rs.length = ks.length := by have := congrArg List.length m3; simpa using this.symm
    have r3 := bstay HR2.out hb3 (by omega)
    have r0 : w3.cell? ⟨w.heap.size + 1, 0, none⟩ = some (.slice none 0 0) := bcell r3 rfl
    have r1 : w3.cell? ⟨w.heap.size + 1, 1, none⟩ = some (.slice none 0 0) := bcell r3 rfl
    have f0 := bfree r3 0
    have f1 := bfree r3 1
    have HB3 : Hid (Below w.heap.size w w3) := hBw2.trans (hb3.mono hBw2.size)
    have HRW : Hid (Row flP.c 3 ((w3.setCell ⟨w.heap.size + 1, 0, none⟩ (.slice (some ⟨g1, 0, none⟩) ys.length c1)).setCell ⟨w.heap.size + 1, 1, none⟩ (.slice va rs.length vc)) ((w3.setCell ⟨w.heap.size + 1, 0, none⟩ (.slice (some ⟨g1, 0, none⟩) ys.length c1)).setCell ⟨w.heap.size + 1, 1, none⟩ (.slice va rs.length vc)).heap.size (some ⟨g1, 0, none⟩) ys ∧ VR ((w3.setCell ⟨w.heap.size + 1, 0, none⟩ (.slice (some ⟨g1, 0, none⟩) ys.length c1)).setCell ⟨w.heap.size + 1, 1, none⟩ (.slice va rs.length vc)) ((w3.setCell ⟨w.heap.size + 1, 0, none⟩ (.slice (some ⟨g1, 0, none⟩) ys.length c1)).setCell ⟨w.heap.size + 1, 1, none⟩ (.slice va rs.length vc)).heap.size va ks) := fls.rows_of (n := 0) l3 (own_set (own_set of3 (by omega)) (by omega)) (own_set (own_set or3 (by omega)) (by omega)) (fun r hr => own_set (own_set (rows3 r hr) (by omega)) (by omega))
    have HM : Hid (ks.map (·.l) = rs.map (·.l)) := m3
    clear hcp m3 of3 or3 rows3 l3 r3 hb3
    go_wp2
    exact bodyPost_ret (v := .tuple #[.agg #[.slice (some ⟨g1, 0, none⟩) ys.length c1, .slice va rs.length vc], .bool false]) (by simp [results, Try.results28, go_sem, r0, r1]) rfl ⟨some ⟨g1, 0, none⟩, c1, va, vc, ks, by rw [ans_no HC.out, HC.out, List.length_map], by rw [ans_no HC.out]; exact HM.out, HRW.out.1, HRW.out.2, (HB3.out.setCell (Nat.le_succ _) _).setCell (Nat.le_succ _) _⟩
  | true =>
    obtain ⟨ib, hib⟩ : ∃ ib, decide ((0 : Int) ≤ x ∧ x ≤ (rs.length : Int) - 2) = ib := ⟨_, rfl⟩
    have HIB : Hid (decide ((0 : Int) ≤ x ∧ x ≤ (rs.length : Int) - 2) = ib) := hib
    rw [hib] at hwi
    have hin : inB (rs.map (·.l)) x = ib := by
      unfold inB
      rw [← hib, List.length_map]
      congr 1
      apply propext
      omega
    have HIN : Hid (inB (rs.map (·.l)) x = ib) := hin
    clear hib hin
    go_wp2_with (go_at_call 64; fail)
    refine hwi.mono ?_
    rintro e w0 ⟨rfl, hw0⟩
    obtain rfl := hw0
    clear hwi
    cases ib with
    | false =>
      have HC : Hid (can ys (rs.map (·.l)) x = false) := by unfold Hid can; rw [HOB.out, HIN.out]; rfl
      go_wp2_with (go_at_call 65; fail)
      clear x0 x1
      refine hcp.mono ?_
      rintro e w3 ⟨g1, c1, va, vc, ks, rfl, of3, or3, m3, rows3, hb3⟩
      have l3 : rs.length = ks.length := by have := congrArg List.length m3; simpa using this.symm
      have r3 := bstay HR2.out hb3 (by omega)
      have r0 : w3.cell? ⟨w.heap.size + 1, 0, none⟩ = some (.slice none 0 0) := bcell r3 rfl
      have r1 : w3.cell? ⟨w.heap.size + 1, 1, none⟩ = some (.slice none 0 0) := bcell r3 rfl
      have f0 := bfree r3 0
      have f1 := bfree r3 1
      have HB3 : Hid (Below w.heap.size w w3) := hBw2.trans (hb3.mono hBw2.size)
      have HRW : Hid (Row flP.c 3 ((w3.setCell ⟨w.heap.size + 1, 0, none⟩ (.slice (some ⟨g1, 0, none⟩) ys.length c1)).setCell ⟨w.heap.size + 1, 1, none⟩ (.slice va rs.length vc)) ((w3.setCell ⟨w.heap.size + 1, 0, none⟩ (.slice (some ⟨g1, 0, none⟩) ys.length c1)).setCell ⟨w.heap.size + 1, 1, none⟩ (.slice va rs.length vc)).heap.size (some ⟨g1, 0, none⟩) ys ∧ VR ((w3.setCell ⟨w.heap.size + 1, 0, none⟩ (.slice (some ⟨g1, 0, none⟩) ys.length c1)).setCell ⟨w.heap.size + 1, 1, none⟩ (.slice va rs.length vc)) ((w3.setCell ⟨w.heap.size + 1, 0, none⟩ (.slice (some ⟨g1, 0, none⟩) ys.length c1)).setCell ⟨w.heap.size + 1, 1, none⟩ (.slice va rs.length vc)).heap.size va ks) := fls.rows_of (n := 0) l3 (own_set (own_set of3 (by omega)) (by omega)) (own_set (own_set or3 (by omega)) (by omega)) (fun r hr => own_set (own_set (rows3 r hr) (by omega)) (by omega))
      have HM : Hid (ks.map (·.l) = rs.map (·.l)) := m3
      clear hcp m3 of3 or3 rows3 l3 r3 hb3
      go_wp2
      exact bodyPost_ret (v := .tuple #[.agg #[.slice (some ⟨g1, 0, none⟩) ys.length c1, .slice va rs.length vc], .bool false]) (by simp [results, Try.results28, go_sem, r0, r1]) rfl ⟨some ⟨g1, 0, none⟩, c1, va, vc, ks, by rw [ans_no HC.out, HC.out, List.length_map], by rw [ans_no HC.out]; exact HM.out, HRW.out.1, HRW.out.2, (HB3.out.setCell (Nat.le_succ _) _).setCell (Nat.le_succ _) _⟩
    | true =>
      have hrange := HIB.out
      simp at hrange
      obtain ⟨i, rfl⟩ : ∃ i : Nat, x = (i : Int) := ⟨x.toNat, by omega⟩
      have hii : i + 2 ≤ rs.length := by omega
      have HOK : Hid (OkT ys (rs.map (·.l))) := okB_true.1 HOB.out
      have h8 : rs.length ≤ 8 := by have := HOK.out.rl; simpa using this
      have hmade : (w2.alloc (.cells #[] 40)).ownsRow w2.heap.size 40 3 (.slice (some ⟨w2.heap.size, 0, none⟩) 0 0) 0 [] := World.ownsRow_made w2 #[] 0 (Nat.le_refl _) (by unfold maxLen; omega) (by simp)
      have hal2 : Below w2.heap.size w2 (w2.alloc (.cells #[] 40)) := (Below.refl _ _).alloc (Nat.le_refl _) _
      have HYW : Hid (Row flP.c 3 (w2.alloc (.cells #[] 40)) (w2.alloc (.cells #[] 40)).heap.size (some ⟨a0, 0, none⟩) ys) := (HY.out.inn hBw2).inn hal2
      have z0 : (w2.alloc (.cells #[] 40)).cell? ⟨w.heap.size, 0, none⟩ = some (.slice (some ⟨a0, 0, none⟩) ys.length yc) := bcell (bold HA2.out _) rfl
      have HMADE : Hid ((w2.alloc (.cells #[] 40)).ownsRow w2.heap.size 40 3 (.slice (some ⟨w2.heap.size, 0, none⟩) 0 0) 0 []) := hmade
      clear hcp hrange hx1 hx2 hmade x0 x1 HIB
      have hsz : (w2.alloc (.cells #[] 40)).heap.size = w2.heap.size + 1 := by simp
      go_wp2_with (at_builtin; refine wpList_append_own _ rfl _ _ 24 rfl w2.heap.size 40 i0 (.agg #[.string ByteArray.empty, .string ByteArray.empty, .bool false]) 3 40 Try.underlying24 hi hz0 hz1 hz2 rfl (by decide) _ 0 [] rfl (by exact HMADE.out) ⟨a0, 0, none⟩ ys.length yc (ys.flatMap flP.c) rfl (flat_len flP.c_len ys) (by exact newsP HYW.out) (oneP ys) (by unfold maxLen; omega) (by omega) (by omega) ?_)
      intro v1 w1' hown1 hgrow1 hnil1
      obtain ⟨g1, c1, rfl⟩ : ∃ g1 c1, v1 = .slice (some ⟨g1, 0, none⟩) ys.length c1 := by
        obtain ⟨_, ⟨rfl, h0⟩ | ⟨g, cap, cur, e, _⟩⟩ := hown1
        · exfalso
          first | exact hnil1 rfl | (have := hnil1.1 rfl; cases this.1)
        · exact ⟨_, _, by simpa using e⟩
      have hgr1 : (w2.alloc (.cells #[] 40)).grownBy w1' (some w2.heap.size) := hgrow1
      have hs1 := hgr1.size
      have hb1 : Below w.heap.size w w1' := (hBw2.alloc hBw2.size _).grown hgr1 (by omega) (fun b hb => by cases hb; omega)
      have hX : StM w ys rs a0 yc b rc w1'.heap.size g1 c1 0 none 0 [] (todo (rs.map (·.l)) i 0) (mrg (rs.map (·.l)) i) (w1'.alloc (.cells #[.slice (some ⟨g1, 0, none⟩) ys.length c1, .slice none 0 0] 27)) := by
        refine ⟨hb1.alloc hb1.size _, bold ((hgr1.block _ (by omega) (by simp; omega)).trans (bold HA2.out _)) _, bold ((hgr1.block _ (by omega) (by simp; omega)).trans (bold HR2.out _)) _, by omega, bnew w1' _ _, ?_, ⟨by simp, .inl ⟨rfl, rfl⟩⟩, by rw [todo_0]; rfl, fun r hr => by simp at hr⟩
        refine own_low (World.ownsRow.alloc ?_ _) hs2
        simpa using hown1
      have hsw := hX.big
      have HX : Hid (StM w ys rs a0 yc b rc w1'.heap.size g1 c1 0 none 0 [] (todo (rs.map (·.l)) i 0) (mrg (rs.map (·.l)) i) (w1'.alloc (.cells #[.slice (some ⟨g1, 0, none⟩) ys.length c1, .slice none 0 0] 27))) := hX
      clear hX hown1 hgrow1 hnil1 hgr1 HA2 HR2 HMADE HYW z0 hal2 hsz
      go_wp2
      obtain ⟨X, hXe⟩ : ∃ X, w1'.alloc (.cells #[.slice (some ⟨g1, 0, none⟩) ys.length c1, .slice none 0 0] 27) = X := ⟨_, rfl⟩
      rw [hXe] at HX hsw ⊢
      obtain ⟨n3, hn3⟩ : ∃ n3, w1'.heap.size = n3 := ⟨_, rfl⟩
      rw [hn3] at HX ⊢
      clear hXe hn3 hb1 hs1
      go_loopw [7] (fun x wr => ∃ (j k : Nat) (va : Option Addr) (vc : Nat) (ks : List Rn), j ≤ rs.length ∧ x = .int .i64 j ∧ k ≤ j ∧ Hid (StM w ys rs a0 yc b rc n3 g1 c1 k va vc ks (todo (rs.map (·.l)) i j) (mrg (rs.map (·.l)) i) wr)) (fun x _ => rs.length - (intOf x).toNat)
      case atStart => exact ⟨0, 0, none, 0, [], Nat.zero_le _, rfl, Nat.le_refl _, HX⟩
      case round =>
        obtain ⟨j, k, va, vc, ks, hj, rfl, hkj, hinv⟩ := hrel
        clear HX hsw
        by_cases hjl : j < rs.length
        · have y1 : wr.cell? ⟨w.heap.size, 1, none⟩ = some (.slice (some ⟨b, 0, none⟩) rs.length rc) := bcell hinv.out.box rfl
          have i2 : (j : Int) < (rs.length : Int) := by omega
          have hlo := hinv.out.lo
          have hrb : ∀ x, (Value.slice va k vc).ownBlock = some x → w.heap.size + 2 ≤ x := fun x e => (hinv.out.runs.lt x e).1
          have n1 : w.heap.size ≠ n3 := by omega
          have n2 : (Value.slice va k vc).ownBlock ≠ some w.heap.size := fun e => by have := hrb _ e; omega
          have run : ∀ (q : Nat) (hq : q < rs.length), ∃ rh qc ql, rs[q]? = some ⟨some ⟨rh, 0, none⟩, qc, ql⟩ ∧ Row flP.c 3 wr wr.heap.size (some ⟨rh, 0, none⟩) ql ∧ ql.length ≤ 300 ∧ mgp.Asc ql ∧ b < w.heap.size ∧ wr.cell? ⟨b, q, none⟩ = some (.slice (some ⟨rh, 0, none⟩) ql.length qc) := fun q hq => by
            obtain ⟨rh, hra⟩ := HRS.out rs[q] (List.getElem_mem hq)
            have hrow := HR.out.2 rs[q] (List.getElem_mem hq)
            obtain ⟨⟨qa, qc, ql⟩, he⟩ : ∃ e, rs[q] = e := ⟨_, rfl⟩
            rw [he] at hrow hra
            simp only at hra hrow
            subst hra
            have hg : rs[q]? = some ⟨some ⟨rh, 0, none⟩, qc, ql⟩ := by rw [← he]; exact List.getElem?_eq_getElem hq
            have hok := HOK.out.ro q ql (map_at hg)
            refine ⟨rh, qc, ql, hg, hrow.inn hinv.out.bel, hok.ll, mgp.asc_of hok.up, ?_⟩
            rcases HR.out.1 with h0 | ⟨b', off', hh, hlt, hc⟩
            · rw [h0] at hq; simp at hq
            · cases hh
              refine ⟨hlt, ?_⟩
              have := hc q _ hg 0 _ rfl
              rw [World.cell?_of_block (hinv.out.bel.block b hlt)]
              simpa using this
          by_cases hji : j = i
          · subst hji
            obtain ⟨rh, qc, ql, hg, hrow, hql, hasc, hbl, hbc⟩ := run j (by omega)
            obtain ⟨rh2, qc2, ql2, hg2, hrow2, hql2, hasc2, _, hbc2⟩ := run (j + 1) (by omega)
            obtain ⟨last, hlast⟩ : ∃ last : Bool, decide (j + 2 = rs.length) = last := ⟨_, rfl⟩
            have d0 : ((j : Int) + 2 == (rs.length : Int)) = last := by
              rw [← hlast]
              by_cases h : j + 2 = rs.length
              · rw [decide_eq_true h]; simp; omega
              · rw [decide_eq_false h]; simp; omega
            have d1 : ((j : Int) == (j : Int)) = true := by simp
            have w3 : IntKind.i64.wrap ((j : Int) + 1) = (j : Int) + 1 := by rw [IntKind.wrap_i64]; omega
            have w4 : IntKind.i64.wrap ((j : Int) + 2) = (j : Int) + 2 := by rw [IntKind.wrap_i64]; omega
            have i3 : (j : Int) + 1 < (rs.length : Int) := by omega
            have i4 : (0 : Int) ≤ (j : Int) + 1 := by omega
            have i5 : ((j : Int) + 1).toNat = j + 1 := by omega
            have HTD : Hid (todo (rs.map (·.l)) j j = merged ql ql2 last :: todo (rs.map (·.l)) j (j + 1)) := by
              unfold Hid
              rw [todo_merge (map_at hg) (map_at hg2), List.length_map, hlast]
            have HCA : Hid (∀ W, Below wr.heap.size wr W → Calls Try.prog 66 #[.slice (some ⟨rh, 0, none⟩) ql.length qc, .slice (some ⟨rh2, 0, none⟩) ql2.length qc2, .bool last] W fun r w' => ∃ v, r = .returned v ∧ w'.ownsRow W.heap.size 40 3 v (merged ql ql2 last).length ((merged ql ql2 last).flatMap flP.c) ∧ Below W.heap.size W w') := fun W hb =>
              (spec_merged ql ql2 (some ⟨rh, 0, none⟩) ⟨rh2, 0, none⟩ qc qc2 last W (by omega) (by omega) hasc hasc2 (hrow.inn hb) (hrow2.inn hb)).mono fun r w' ⟨v, h1, _, _, h2, h3⟩ => ⟨v, h1, h2, h3⟩
            have hAh := hinv.out.ah (merged ql ql2 last).length ((merged ql ql2 last).flatMap flP.c)
            have n3' : b ≠ n3 := by omega
            have n4 : (Value.slice va k vc).ownBlock ≠ some b := fun e => by have := hrb _ e; omega
            have HAh : Hid (Ah ⟨wr, w.heap.size + 2, n3, .slice (some ⟨g1, 0, none⟩) ys.length c1, .slice va k vc, k, ks.flatMap cR, (merged ql ql2 last).length, (merged ql ql2 last).flatMap flP.c⟩) := hAh
            clear hAh run hrow hrow2 hasc hasc2 hg hg2 hlast
            go_wp2
            refine dk.region_gsets (smc.ws ⟨wr, w.heap.size + 2, n3, .slice (some ⟨g1, 0, none⟩) ys.length c1, .slice va k vc, k, ks.flatMap cR, (merged ql ql2 last).length, (merged ql ql2 last).flatMap flP.c⟩ w.heap.size b rs.length rc j (some ⟨rh, 0, none⟩) (some ⟨rh2, 0, none⟩) ql.length ql2.length qc qc2 last) [37, 38, 39, 40, 41, 42, 43, 44, 45, 46, 47, 48, 49, 50, 51, 52, 53, 54, 55, 56, 57, 58, 59] (smc.C ⟨wr, w.heap.size + 2, n3, .slice (some ⟨g1, 0, none⟩) ys.length c1, .slice va k vc, k, ks.flatMap cR, (merged ql ql2 last).length, (merged ql ql2 last).flatMap flP.c⟩) ⟨.slice none 0 0, 0, .slice none 0 0⟩ (by kernel_rfl) (by kernel_rfl) (fun _ => rfl) (by kernel_rfl) (smc.start _ _ HAh.out) ?each ?fin
            case each =>
              refine ⟨smc.quiet (by decide) (by simp) (.pointer (some ⟨n3, 1, none⟩)) (by rintro s _ ⟨⟩; exact dk.sets_on _ (by simp) _ rfl) (fun s W h => by simp [execOp, go_sem, Act.eval, dk.sets_get, smc.ws, List.lookup]), ?_⟩
              refine ⟨smc.st1 (by simp) (by rintro s _ ⟨⟩; exact dk.sets_on _ (by simp) _ rfl) (fun s W h => by have c : W.cell? ⟨n3, 1, none⟩ = some (.slice va k vc) := bcell h rfl; simp [execOp, go_sem, Act.eval, dk.sets_get, smc.ws, List.lookup, c]), ?_⟩
              refine ⟨smc.quiet (by decide) (by simp) (.pointer (some ⟨w.heap.size, 1, none⟩)) (by rintro s _ ⟨⟩; exact dk.sets_on _ (by simp) _ rfl) (fun s W h => by simp [execOp, go_sem, Act.eval, dk.sets_get, smc.ws, List.lookup]), ?_⟩
              refine ⟨smc.quiet (by decide) (by simp) (.slice (some ⟨b, 0, none⟩) rs.length rc) (by rintro s _ ⟨⟩; exact dk.sets_on _ (by simp) _ rfl) (fun s W h => by have c : W.cell? ⟨w.heap.size, 1, none⟩ = some (.slice (some ⟨b, 0, none⟩) rs.length rc) := old_cell h n1 n2 y1; simp [execOp, go_sem, Act.eval, dk.sets_get, smc.ws, List.lookup, c]), ?_⟩
              refine ⟨smc.quiet (by decide) (by simp) (.int .i64 j) (by rintro s _ ⟨⟩; exact dk.sets_on _ (by simp) _ rfl) (fun s W h => by simp [execOp, go_sem, Act.eval, dk.sets_get, smc.ws, List.lookup]), ?_⟩
              refine ⟨smc.quiet (by decide) (by simp) (.pointer (some ⟨b, j, none⟩)) (by rintro s _ ⟨⟩; exact dk.sets_on _ (by simp) _ rfl) (fun s W h => by simp [execOp, go_sem, Act.eval, dk.sets_get, smc.ws, List.lookup, i2]), ?_⟩
              refine ⟨smc.quiet (by decide) (by simp) (.slice (some ⟨rh, 0, none⟩) ql.length qc) (by rintro s _ ⟨⟩; exact dk.sets_on _ (by simp) _ rfl) (fun s W h => by have c : W.cell? ⟨b, j, none⟩ = some (.slice (some ⟨rh, 0, none⟩) ql.length qc) := old_cell h n3' n4 hbc; simp [execOp, go_sem, Act.eval, dk.sets_get, smc.ws, List.lookup, c]), ?_⟩
              refine ⟨smc.quiet (by decide) (by simp) (.pointer (some ⟨w.heap.size, 1, none⟩)) (by rintro s _ ⟨⟩; exact dk.sets_on _ (by simp) _ rfl) (fun s W h => by simp [execOp, go_sem, Act.eval, dk.sets_get, smc.ws, List.lookup]), ?_⟩
              refine ⟨smc.quiet (by decide) (by simp) (.slice (some ⟨b, 0, none⟩) rs.length rc) (by rintro s _ ⟨⟩; exact dk.sets_on _ (by simp) _ rfl) (fun s W h => by have c : W.cell? ⟨w.heap.size, 1, none⟩ = some (.slice (some ⟨b, 0, none⟩) rs.length rc) := old_cell h n1 n2 y1; simp [execOp, go_sem, Act.eval, dk.sets_get, smc.ws, List.lookup, c]), ?_⟩
              refine ⟨smc.quiet (by decide) (by simp) (.int .i64 j) (by rintro s _ ⟨⟩; exact dk.sets_on _ (by simp) _ rfl) (fun s W h => by simp [execOp, go_sem, Act.eval, dk.sets_get, smc.ws, List.lookup]), ?_⟩
              refine ⟨smc.quiet (by decide) (by simp) (.int .i64 ((j : Int) + 1)) (by rintro s _ ⟨⟩; exact dk.sets_on _ (by simp) _ rfl) (fun s W h => by simp [execOp, go_sem, Act.eval, dk.sets_get, smc.ws, List.lookup, w3]), ?_⟩
              refine ⟨smc.quiet (by decide) (by simp) (.pointer (some ⟨b, j + 1, none⟩)) (by rintro s _ ⟨⟩; exact dk.sets_on _ (by simp) _ rfl) (fun s W h => by simp [execOp, go_sem, Act.eval, dk.sets_get, smc.ws, List.lookup, i3, i4, i5]), ?_⟩
              refine ⟨smc.quiet (by decide) (by simp) (.slice (some ⟨rh2, 0, none⟩) ql2.length qc2) (by rintro s _ ⟨⟩; exact dk.sets_on _ (by simp) _ rfl) (fun s W h => by have c : W.cell? ⟨b, j + 1, none⟩ = some (.slice (some ⟨rh2, 0, none⟩) ql2.length qc2) := old_cell h n3' n4 hbc2; simp [execOp, go_sem, Act.eval, dk.sets_get, smc.ws, List.lookup, c]), ?_⟩
              refine ⟨smc.quiet (by decide) (by simp) (.int .i64 j) (by rintro s _ ⟨⟩; exact dk.sets_on _ (by simp) _ rfl) (fun s W h => by simp [execOp, go_sem, Act.eval, dk.sets_get, smc.ws, List.lookup]), ?_⟩
              refine ⟨smc.quiet (by decide) (by simp) (.int .i64 ((j : Int) + 2)) (by rintro s _ ⟨⟩; exact dk.sets_on _ (by simp) _ rfl) (fun s W h => by simp [execOp, go_sem, Act.eval, dk.sets_get, smc.ws, List.lookup, w4]), ?_⟩
              refine ⟨smc.quiet (by decide) (by simp) (.pointer (some ⟨w.heap.size, 1, none⟩)) (by rintro s _ ⟨⟩; exact dk.sets_on _ (by simp) _ rfl) (fun s W h => by simp [execOp, go_sem, Act.eval, dk.sets_get, smc.ws, List.lookup]), ?_⟩
              refine ⟨smc.quiet (by decide) (by simp) (.slice (some ⟨b, 0, none⟩) rs.length rc) (by rintro s _ ⟨⟩; exact dk.sets_on _ (by simp) _ rfl) (fun s W h => by have c : W.cell? ⟨w.heap.size, 1, none⟩ = some (.slice (some ⟨b, 0, none⟩) rs.length rc) := old_cell h n1 n2 y1; simp [execOp, go_sem, Act.eval, dk.sets_get, smc.ws, List.lookup, c]), ?_⟩
              refine ⟨smc.quiet (by decide) (by simp) (.int .i64 rs.length) (by rintro s _ ⟨⟩; exact dk.sets_on _ (by simp) _ rfl) (fun s W h => by simp [go_sem, Act.eval, dk.sets_get, smc.ws, List.lookup]), ?_⟩
              refine ⟨smc.quiet (by decide) (by simp) (.bool last) (by rintro s _ ⟨⟩; exact dk.sets_on _ (by simp) _ rfl) (fun s W h => by simp [execOp, go_sem, Act.eval, dk.sets_get, smc.ws, List.lookup, d0]), ?_⟩
              refine ⟨smc.st19 HAh.out (by simp) (by simp) rfl #[.slice (some ⟨rh, 0, none⟩) ql.length qc, .slice (some ⟨rh2, 0, none⟩) ql2.length qc2, .bool last] 66 (fun s W => by simp [go_sem, Act.eval, dk.sets_get, smc.ws, List.lookup]) HCA.out, ?_⟩
              refine ⟨smc.st20 HAh.out (by simp) rfl rfl ⟨⟨19, .data⟩, by simp, rfl, rfl⟩, ?_⟩
              refine ⟨smc.st21 HAh.out ki kz0 kz1 kz2 rfl (by simp) rfl rfl (by show k ≤ 1048576; omega) ⟨⟨20, .data⟩, by simp, rfl, rfl⟩ ⟨⟨1, .data⟩, by simp, rfl, rfl⟩, ?_⟩
              refine ⟨smc.quiet (by decide) (by simp) (.pointer (some ⟨n3, 1, none⟩)) (by rintro s _ ⟨⟩; exact dk.sets_on _ (by simp) _ rfl) (fun s W h => by simp [execOp, go_sem, Act.eval, dk.sets_get, smc.ws, List.lookup]), ?_⟩
              exact ⟨smc.st23 HAh.out (by simp) (by simp) rfl (fun s W h hv => by obtain ⟨av, nv, cv, hv⟩ := hv; have c : W.cell? ⟨n3, 1, none⟩ = some (.slice va k vc) := bcell h rfl; have f := bfree h 1; rw [hv]; simp [execOp, go_sem, Act.eval, dk.sets_get, smc.ws, List.lookup, c, f, hv]) ⟨⟨21, .data⟩, by simp, rfl, rfl⟩, trivial⟩
            case fin =>
              intro g L W2 hL hC
              obtain ⟨d1, d2, d3, d4⟩ := smc.done hC hL
              obtain ⟨qa, qq, hqv⟩ := smc.slice_of d3
              rw [hqv] at d3 d4
              obtain ⟨va', vc', ks', hv2, hst⟩ := hinv.out.step (r := ⟨qa, qq, merged ql ql2 last⟩) HTD.out d1 d2 d3 d4
              have HN : Hid (StM w ys rs a0 yc b rc n3 g1 c1 (k + 1) va' vc' ks' (todo (rs.map (·.l)) j (j + 1)) (mrg (rs.map (·.l)) j) W2) := hst
              simp only [dk.sets, smc.ws, hv2, hqv]
              clear hC hL d1 d2 d3 d4 hst
              go_wp2
              go_roundw
              all_goals first | exact ⟨j + 1, k + 1, va', vc', ks', by omega, by go_num, by omega, HN⟩ | (simp [intOf]; omega)
          · by_cases hji1 : j = i + 1
            · have d1 : ((j : Int) == (i : Int)) = false := by simp; omega
              have d2 : ((j : Int) != (i : Int) + 1) = false := by simp; omega
              have w3 : IntKind.i64.wrap ((i : Int) + 1) = (i : Int) + 1 := by rw [IntKind.wrap_i64]; omega
              have HN : Hid (StM w ys rs a0 yc b rc n3 g1 c1 k va vc ks (todo (rs.map (·.l)) i (j + 1)) (mrg (rs.map (·.l)) i) wr) := by
                unfold Hid
                have := hinv.out
                rw [hji1, todo_skip, ← hji1] at this
                exact this
              clear hinv run hji hji1
              go_wp2
              go_roundw
              all_goals first | exact ⟨j + 1, k, va, vc, ks, by omega, by go_num, by omega, HN⟩ | (simp [intOf]; omega)
            · obtain ⟨rh, qc, ql, hg, hrow, hql, hasc, hbl, hbc⟩ := run j (by omega)
              have d1 : ((j : Int) == (i : Int)) = false := by simp; omega
              have d2 : ((j : Int) != (i : Int) + 1) = true := by simp; omega
              have w3 : IntKind.i64.wrap ((i : Int) + 1) = (i : Int) + 1 := by rw [IntKind.wrap_i64]; omega
              have HTD : Hid (todo (rs.map (·.l)) i j = ql :: todo (rs.map (·.l)) i (j + 1)) := todo_copy (map_at hg) hji hji1
              have HQ : Hid (Row flP.c 3 wr wr.heap.size (some ⟨rh, 0, none⟩) ql) := hrow
              have hAh := hinv.out.ah ql.length (ql.flatMap flP.c)
              have n3' : b ≠ n3 := by omega
              have n4 : (Value.slice va k vc).ownBlock ≠ some b := fun e => by have := hrb _ e; omega
              have HAh : Hid (Ah ⟨wr, w.heap.size + 2, n3, .slice (some ⟨g1, 0, none⟩) ys.length c1, .slice va k vc, k, ks.flatMap cR, ql.length, ql.flatMap flP.c⟩) := hAh
              clear hAh run hji hji1 hrow hasc hg
              go_wp2
              refine dk.region_gsets (smr.ws ⟨wr, w.heap.size + 2, n3, .slice (some ⟨g1, 0, none⟩) ys.length c1, .slice va k vc, k, ks.flatMap cR, ql.length, ql.flatMap flP.c⟩ w.heap.size b rs.length rc rh qc j) [64, 65, 66, 67, 68, 69, 70, 71, 72, 73, 74, 75] (sct.C ⟨wr, w.heap.size + 2, n3, .slice (some ⟨g1, 0, none⟩) ys.length c1, .slice va k vc, k, ks.flatMap cR, ql.length, ql.flatMap flP.c⟩) ⟨0, 0, 0, 0, .slice none 0 0⟩ (by kernel_rfl) (by kernel_rfl) (fun _ => rfl) (by kernel_rfl) (sct.start _ _ HAh.out) ?each ?fin
              case each =>
                refine ⟨smr.quiet (by decide) (by simp) (.pointer (some ⟨n3, 1, none⟩)) (by rintro s _ ⟨⟩; exact dk.sets_on _ (by simp) _ rfl) (fun s W h => by simp [execOp, go_sem, Act.eval, dk.sets_get, smr.ws, List.lookup]), ?_⟩
                refine ⟨smr.st1 (by simp) (by rintro s _ ⟨⟩; exact dk.sets_on _ (by simp) _ rfl) (fun s W h => by have c : W.cell? ⟨n3, 1, none⟩ = some (.slice va k vc) := bcell h rfl; simp [execOp, go_sem, Act.eval, dk.sets_get, smr.ws, List.lookup, c]), ?_⟩
                refine ⟨smr.st2 HAh.out (by simp) rfl rfl, ?_⟩
                refine ⟨smr.quiet (by decide) (by simp) (.pointer (some ⟨w.heap.size, 1, none⟩)) (by rintro s _ ⟨⟩; exact dk.sets_on _ (by simp) _ rfl) (fun s W h => by simp [execOp, go_sem, Act.eval, dk.sets_get, smr.ws, List.lookup]), ?_⟩
                refine ⟨smr.quiet (by decide) (by simp) (.slice (some ⟨b, 0, none⟩) rs.length rc) (by rintro s _ ⟨⟩; exact dk.sets_on _ (by simp) _ rfl) (fun s W h => by have c : W.cell? ⟨w.heap.size, 1, none⟩ = some (.slice (some ⟨b, 0, none⟩) rs.length rc) := old_cell h n1 n2 y1; simp [execOp, go_sem, Act.eval, dk.sets_get, smr.ws, List.lookup, c]), ?_⟩
                refine ⟨smr.quiet (by decide) (by simp) (.int .i64 j) (by rintro s _ ⟨⟩; exact dk.sets_on _ (by simp) _ rfl) (fun s W h => by simp [execOp, go_sem, Act.eval, dk.sets_get, smr.ws, List.lookup]), ?_⟩
                refine ⟨smr.quiet (by decide) (by simp) (.pointer (some ⟨b, j, none⟩)) (by rintro s _ ⟨⟩; exact dk.sets_on _ (by simp) _ rfl) (fun s W h => by simp [execOp, go_sem, Act.eval, dk.sets_get, smr.ws, List.lookup, i2]), ?_⟩
                refine ⟨smr.quiet (by decide) (by simp) (.slice (some ⟨rh, 0, none⟩) ql.length qc) (by rintro s _ ⟨⟩; exact dk.sets_on _ (by simp) _ rfl) (fun s W h => by have c : W.cell? ⟨b, j, none⟩ = some (.slice (some ⟨rh, 0, none⟩) ql.length qc) := old_cell h n3' n4 hbc; simp [execOp, go_sem, Act.eval, dk.sets_get, smr.ws, List.lookup, c]), ?_⟩
                refine ⟨smr.st8 HAh.out hi hz0 hz1 hz2 rfl (by simp) rfl rfl (flat_len flP.c_len ql) (fun W hb => newsP (HQ.out.inn hb)) (oneP ql) (by show ql.length ≤ 1048576; omega) ⟨⟨2, .data⟩, by simp, rfl, rfl⟩, ?_⟩
                refine ⟨smr.st9 HAh.out (by simp) rfl rfl ⟨⟨8, .data⟩, by simp, rfl, rfl⟩, ?_⟩
                refine ⟨smr.st10 HAh.out ki kz0 kz1 kz2 rfl (by simp) rfl rfl (by show k ≤ 1048576; omega) ⟨⟨9, .data⟩, by simp, rfl, rfl⟩ ⟨⟨1, .data⟩, by simp, rfl, rfl⟩, ?_⟩
                refine ⟨smr.quiet (by decide) (by simp) (.pointer (some ⟨n3, 1, none⟩)) (by rintro s _ ⟨⟩; exact dk.sets_on _ (by simp) _ rfl) (fun s W h => by simp [execOp, go_sem, Act.eval, dk.sets_get, smr.ws, List.lookup]), ?_⟩
                exact ⟨smr.st12 HAh.out (by simp) (by simp) rfl (fun s W h hv => by obtain ⟨av, nv, cv, hv⟩ := hv; have c : W.cell? ⟨n3, 1, none⟩ = some (.slice va k vc) := bcell h rfl; have f := bfree h 1; rw [hv]; simp [execOp, go_sem, Act.eval, dk.sets_get, smr.ws, List.lookup, c, f, hv]) ⟨⟨10, .data⟩, by simp, rfl, rfl⟩, trivial⟩
              case fin =>
                intro g L W2 hL hC
                obtain ⟨d1, d2, d3, d4⟩ := sct.done hC hL
                obtain ⟨va', vc', ks', hv2, hst⟩ := hinv.out.step (r := ⟨some ⟨g.b1, 0, none⟩, g.q1, ql⟩) HTD.out d1 d2 d3 d4
                have HN : Hid (StM w ys rs a0 yc b rc n3 g1 c1 (k + 1) va' vc' ks' (todo (rs.map (·.l)) i (j + 1)) (mrg (rs.map (·.l)) i) W2) := hst
                simp only [dk.sets, smr.ws, hv2]
                clear hC hL d1 d2 d3 d4 hst
                go_wp2
                go_roundw
                all_goals first | exact ⟨j + 1, k + 1, va', vc', ks', by omega, by go_num, by omega, HN⟩ | (simp [intOf]; omega)
        · obtain rfl : j = rs.length := by omega
          have y1 : wr.cell? ⟨w.heap.size, 1, none⟩ = some (.slice (some ⟨b, 0, none⟩) rs.length rc) := bcell hinv.out.box rfl
          have u0 : wr.cell? ⟨n3, 0, none⟩ = some (.slice (some ⟨g1, 0, none⟩) ys.length c1) := bcell hinv.out.out rfl
          have u1 : wr.cell? ⟨n3, 1, none⟩ = some (.slice va k vc) := bcell hinv.out.out rfl
          have hmi : i + 2 ≤ (rs.map (·.l)).length := by rw [List.length_map]; exact hii
          have hkm : ks.map (·.l) = mrg (rs.map (·.l)) i := by
            have := hinv.out.same
            rw [show todo (rs.map (·.l)) i rs.length = [] by have := todo_end hmi; rwa [List.length_map] at this, List.append_nil] at this
            exact this
          have hkl : k = ks.length := by
            have h1 := hinv.out.runs.1
            rw [flat_len cR_len] at h1
            omega
          have hk1 : ks.length = rs.length - 1 := by rw [← List.length_map (f := fun r : Rn => r.l), hkm, mrg_len hmi, List.length_map]
          have hvr : Row flP.c 3 wr wr.heap.size (some ⟨g1, 0, none⟩) ys ∧ VR wr wr.heap.size va ks := fls.rows_of (n := 0) hkl hinv.out.fresh hinv.out.runs hinv.out.rows
          have hfit : tb.Fit ys ks := by
            refine ⟨hyl, by omega, HF.out.yo, fun r hr => ?_⟩
            have hold : ∀ l ∈ rs.map (·.l), l.length ≤ 1048576 ∧ ∀ e ∈ l, e.k.size ≤ 1048576 ∧ e.v.size ≤ 1048576 := fun l hl => by
              obtain ⟨q, hq, e⟩ := List.mem_map.1 hl
              rw [← e]
              exact HF.out.ro q hq
            have hm : r.l ∈ mrg (rs.map (·.l)) i := by rw [← hkm]; exact List.mem_map.2 ⟨r, hr, rfl⟩
            exact mrg_fit HOK.out hmi hold _ hm
          have hok2 := spec_okb ys ks (some ⟨g1, 0, none⟩) va c1 vc wr hfit hvr.1 hvr.2
          rw [← hkl, hkm] at hok2
          have HKM : Hid (ks.map (·.l) = mrg (rs.map (·.l)) i) := hkm
          have HKL : Hid (k = ks.length) := hkl
          clear hjl hj hkm hvr hfit hk1 hkl hkj
          go_wp2_with (go_at_call 21; fail)
          clear y1 u0 u1
          refine hok2.mono ?_
          rintro e w8 ⟨rfl, hb8⟩
          have HX8 : Hid (StM w ys rs a0 yc b rc n3 g1 c1 k va vc ks (todo (rs.map (·.l)) i rs.length) (mrg (rs.map (·.l)) i) w8) := hinv.out.on hb8
          clear hok2 hb8 hinv
          cases hob2 : okB ys (mrg (rs.map (·.l)) i) with
          | true =>
            have HC : Hid (can ys (rs.map (·.l)) (i : Int) = true) := by unfold Hid can; rw [HOB.out, HIN.out, Int.toNat_natCast, hob2]; rfl
            have HQ : Hid (ansR ys (rs.map (·.l)) (i : Int) = mrg (rs.map (·.l)) i) := by unfold Hid; rw [ans_yes HC.out, Int.toNat_natCast]
            have y0 : w8.cell? ⟨n3, 0, none⟩ = some (.slice (some ⟨g1, 0, none⟩) ys.length c1) := bcell HX8.out.out rfl
            have y1 : w8.cell? ⟨n3, 1, none⟩ = some (.slice va k vc) := bcell HX8.out.out rfl
            have r0 : w8.cell? ⟨w.heap.size + 1, 0, none⟩ = some (.slice none 0 0) := bcell HX8.out.res rfl
            have r1 : w8.cell? ⟨w.heap.size + 1, 1, none⟩ = some (.slice none 0 0) := bcell HX8.out.res rfl
            have f0 := bfree HX8.out.res 0
            have f1 := bfree HX8.out.res 1
            clear hob2
            go_wp2
            have hrw := fls.rows_of (n := 0) HKL.out (own_set (j := 1) (u := .slice va k vc) (own_set (j := 0) (u := .slice (some ⟨g1, 0, none⟩) ys.length c1) HX8.out.fresh (show w.heap.size + 1 < w.heap.size + 2 by omega)) (show w.heap.size + 1 < w.heap.size + 2 by omega)) (own_set (j := 1) (u := .slice va k vc) (own_set (j := 0) (u := .slice (some ⟨g1, 0, none⟩) ys.length c1) HX8.out.runs (show w.heap.size + 1 < w.heap.size + 2 by omega)) (show w.heap.size + 1 < w.heap.size + 2 by omega)) (fun r hr => own_set (j := 1) (u := .slice va k vc) (own_set (j := 0) (u := .slice (some ⟨g1, 0, none⟩) ys.length c1) (HX8.out.rows r hr) (show w.heap.size + 1 < w.heap.size + 2 by omega)) (show w.heap.size + 1 < w.heap.size + 2 by omega))
            exact bodyPost_ret (v := .tuple #[.agg #[.slice (some ⟨g1, 0, none⟩) ys.length c1, .slice va k vc], .bool true]) (by simp [results, Try.results28, go_sem, r0, r1]) rfl ⟨some ⟨g1, 0, none⟩, c1, va, vc, ks, by rw [HQ.out, HC.out, ← HKM.out, List.length_map, ← HKL.out], by rw [HQ.out]; exact HKM.out, hrw.1, hrw.2, (HX8.out.bel.setCell (Nat.le_succ _) _).setCell (Nat.le_succ _) _⟩
          | false =>
            have HC : Hid (can ys (rs.map (·.l)) (i : Int) = false) := by unfold Hid can; rw [HOB.out, HIN.out, Int.toNat_natCast, hob2]; rfl
            have x0 : w8.cell? ⟨w.heap.size, 0, none⟩ = some (.slice (some ⟨a0, 0, none⟩) ys.length yc) := bcell HX8.out.box rfl
            have x1 : w8.cell? ⟨w.heap.size, 1, none⟩ = some (.slice (some ⟨b, 0, none⟩) rs.length rc) := bcell HX8.out.box rfl
            have hcp := sct.spec_copy ys rs a0 yc b rc w8 HF.out (HY.out.inn HX8.out.bel) ((HR.out.inn HX8.out.bel).1) (fun r hr => ⟨HRS.out r hr, (HR.out.inn HX8.out.bel).2 r hr⟩)
            have hs8 : w.heap.size + 1 < w8.heap.size := (Array.getElem?_eq_some_iff.1 HX8.out.res).1
            have hbel8 := HX8.out.bel
            clear hob2
            go_wp2_with (go_at_call 65; fail)
            clear x0 x1
            refine hcp.mono ?_
            rintro e w3 ⟨g9, c9, va9, vc9, ks, rfl, of3, or3, m3, rows3, hb3⟩
            have l3 : rs.length = ks.length := by have := congrArg List.length m3; simpa using this.symm
            have r3 := bstay HX8.out.res hb3 (by omega)
            have r0 : w3.cell? ⟨w.heap.size + 1, 0, none⟩ = some (.slice none 0 0) := bcell r3 rfl
            have r1 : w3.cell? ⟨w.heap.size + 1, 1, none⟩ = some (.slice none 0 0) := bcell r3 rfl
            have f0 := bfree r3 0
            have f1 := bfree r3 1
            have HB3 : Hid (Below w.heap.size w w3) := hbel8.trans (hb3.mono hbel8.size)
            have HRW : Hid (Row flP.c 3 ((w3.setCell ⟨w.heap.size + 1, 0, none⟩ (.slice (some ⟨g9, 0, none⟩) ys.length c9)).setCell ⟨w.heap.size + 1, 1, none⟩ (.slice va9 rs.length vc9)) ((w3.setCell ⟨w.heap.size + 1, 0, none⟩ (.slice (some ⟨g9, 0, none⟩) ys.length c9)).setCell ⟨w.heap.size + 1, 1, none⟩ (.slice va9 rs.length vc9)).heap.size (some ⟨g9, 0, none⟩) ys ∧ VR ((w3.setCell ⟨w.heap.size + 1, 0, none⟩ (.slice (some ⟨g9, 0, none⟩) ys.length c9)).setCell ⟨w.heap.size + 1, 1, none⟩ (.slice va9 rs.length vc9)) ((w3.setCell ⟨w.heap.size + 1, 0, none⟩ (.slice (some ⟨g9, 0, none⟩) ys.length c9)).setCell ⟨w.heap.size + 1, 1, none⟩ (.slice va9 rs.length vc9)).heap.size va9 ks) := fls.rows_of (n := 0) l3 (own_set (own_set of3 (by omega)) (by omega)) (own_set (own_set or3 (by omega)) (by omega)) (fun r hr => own_set (own_set (rows3 r hr) (by omega)) (by omega))
            have HM : Hid (ks.map (·.l) = rs.map (·.l)) := m3
            clear hcp m3 of3 or3 rows3 l3 r3 hb3
            go_wp2
            exact bodyPost_ret (v := .tuple #[.agg #[.slice (some ⟨g9, 0, none⟩) ys.length c9, .slice va9 rs.length vc9], .bool false]) (by simp [results, Try.results28, go_sem, r0, r1]) rfl ⟨some ⟨g9, 0, none⟩, c9, va9, vc9, ks, by rw [ans_no HC.out, HC.out, List.length_map], by rw [ans_no HC.out]; exact HM.out, HRW.out.1, HRW.out.2, (HB3.out.setCell (Nat.le_succ _) _).setCell (Nat.le_succ _) _⟩
end Go.Proofs.Ytbgkccleiapkmaa.mgc

/- slices.Insert of one run into a row of runs that has no room: the same row with it in its place, in a row of its own. -/
namespace Go.Proofs.Ytbgkccleiapkmaa.insr
open Go.ChangeShapes Go.WideShapes Go.ChangeAt Go.RowKit Go.Proofs.Ytbgkccleiapkmaa.rn Go.Proofs.Ytbgkccleiapkmaa.fl
set_option linter.unusedVariables false

theorem infoX : ∃ i0, Try.prog.info? 24 = some i0 ∧ i0.zero = some (.slice none 0 0) ∧ i0.size = 1 ∧ i0.bytes = 24 := by
  have h := rn.info
  cases hh : Try.prog.info? 24 with
  | none => rw [hh] at h; cases h
  | some i => rw [hh] at h; simp at h; exact ⟨i, rfl, h.1, h.2.1, h.2.2⟩
theorem own_form {w : World} {B n : Nat} {U : TypeId} {s : Nat} {v : Value} {xs : List Value} (h : w.ownsRow B U s v (n + 1) xs) : ∃ g cap, v = .slice (some ⟨g, 0, none⟩) (n + 1) cap := by
  obtain ⟨_, ⟨rfl, h0⟩ | ⟨g, cap, cur, rfl, _⟩⟩ := h
  · omega
  · exact ⟨g, cap, rfl⟩
theorem owns_at {w : World} {B n s g c : Nat} {U : TypeId} {xs : List Value} (h : w.ownsRow B U s (.slice (some ⟨g, 0, none⟩) n c) n xs) : B ≤ g ∧ ∃ cur, w.heap[g]? = some (.cells cur U (0, 0)) := by
  obtain ⟨_, ⟨h1, _⟩ | ⟨g', cap', cur, h1, h2, h3, _⟩⟩ := h
  · cases h1
  cases h1
  exact ⟨h2, cur, h3⟩
theorem add_at (g o j : Nat) : (⟨g, o, none⟩ : Addr).add j = ⟨g, o + j, none⟩ := by unfold Addr.add; split <;> simp_all
theorem oneX (ms : List Rn) : ∀ u ∈ ms.flatMap cR, u.oneCell' = true := fun u hu => by
  obtain ⟨e, _, he⟩ := List.mem_flatMap.1 hu
  simp [cR] at he
  rw [he]; rfl
/-- the cells of an owned row -/
theorem owns_cells {α : Type} {c : α → List Value} {n B g cap : Nat} {U : TypeId} {l : List α} {w : World} (hn : ∀ e, (c e).length = n) (h : w.ownsRow B U n (.slice (some ⟨g, 0, none⟩) l.length cap) l.length (l.flatMap c)) : ∀ (j : Nat) (u : Value), (l.flatMap c)[j]? = some u → w.cell? ⟨g, j, none⟩ = some u := fun j u hu => by
  obtain ⟨_, ⟨h1, _⟩ | ⟨g', cap', cur, h1, h2, h3, h4, h5, h6, h7⟩⟩ := h
  · cases h1
  cases h1
  rw [← h7] at hu
  have hlt := (List.getElem?_eq_some_iff.1 hu).1
  rw [List.length_take] at hlt
  rw [List.getElem?_take_of_lt (by omega)] at hu
  exact bcell h3 (by simpa using hu)
theorem flat_take {α : Type} {c : α → List Value} (l : List α) (i : Nat) : (l.take i).flatMap c ++ (l.drop i).flatMap c = l.flatMap c := by rw [← List.flatMap_append, List.take_append_drop]
/-- two copies into a row: what was ahead, what is put in, what stood from there on -/
theorem two_copies {xs v cs rest : List Value} {o1 o2 : Nat} (h1 : xs.length = o1) (h2 : o1 + v.length = o2) (hr : v.length + cs.length ≤ rest.length) :
    (((xs ++ rest).take o1 ++ v ++ (xs ++ rest).drop (o1 + v.length)).take o2 ++ cs ++ ((xs ++ rest).take o1 ++ v ++ (xs ++ rest).drop (o1 + v.length)).drop (o2 + cs.length)) = xs ++ v ++ cs ++ rest.drop (v.length + cs.length) := by
  subst h1
  subst h2
  rw [List.take_left, List.drop_append, List.drop_eq_nil_of_le (by omega), List.nil_append, show xs.length + v.length - xs.length = v.length by omega]
  have e1 : (xs ++ v).length = xs.length + v.length := List.length_append
  rw [← e1, List.take_left, List.drop_append, List.drop_eq_nil_of_le (by omega), List.nil_append, List.drop_drop]
  congr 2
  omega
/-- the row behind it is owned -/
theorem owns_new {B g cap n : Nat} {U : TypeId} {w : World} {cur : Array Value} {ys tl : List Value} (hg : w.heap[g]? = some (.cells cur U (0, 0))) (hB : B ≤ g) (hc : cur.toList = ys ++ tl) (hy : ys.length = n * 1) (hn : n ≤ cap) (hm : cap ≤ maxLen) (hs : cur.size = cap * 1) : w.ownsRow B U 1 (.slice (some ⟨g, 0, none⟩) n cap) n ys :=
  ⟨hy, .inr ⟨g, cap, cur, rfl, hB, hg, hn, hm, hs, by rw [hc, ← hy, List.take_left]⟩⟩

def ws (b g i n G : Nat) : List (Nat × Value) := [(46, .slice (some ⟨b, 0, none⟩) (n + 1) G), (47, .int .i64 i), (48, .int .i64 1), (49, .int .i64 ((i : Int) + 1)), (50, .slice (some ⟨b, (i + 1), none⟩) (n - i) (G - (i + 1))), (51, .slice (some ⟨g, 0, none⟩) n n), (52, .int .i64 i), (53, .slice (some ⟨g, i, none⟩) (n - i) (n - i)), (54, .int .i64 ((n - i : Nat) : Int))]

set_option maxRecDepth 100000 in
set_option maxHeartbeats 4000000 in
theorem insert_mid (l : List Rn) (g i B : Nat) (xa : Option Addr) (xc : Nat) (xl : List flP.Pr) (ga : Nat) (w : World) (hi : i < l.length) (hl : l.length ≤ 1048576) (hB : B ≤ w.heap.size) (ho : w.ownsRow B 24 1 (.slice (some ⟨g, 0, none⟩) l.length l.length) l.length (l.flatMap cR)) (ha : w.heap[ga]? = some (.cells #[.slice xa xl.length xc] 24 (0, 0))) :
    Calls Try.prog 67 #[.slice (some ⟨g, 0, none⟩) l.length l.length, .int .i64 i, .slice (some ⟨ga, 0, none⟩) 1 1] w fun r w' => ∃ g2 c2, r = .returned (.slice (some ⟨g2, 0, none⟩) (l.length + 1) c2) ∧ w'.ownsRow B 24 1 (.slice (some ⟨g2, 0, none⟩) (l.length + 1) c2) (l.length + 1) ((l.take i ++ ⟨xa, xc, xl⟩ :: l.drop i).flatMap cR) ∧ Below w.heap.size w w' := by
  obtain ⟨i1, ki, kz0, kz1, kz2⟩ := infoX
  have hcells := owns_cells cR_len ho
  have hgl : g < w.heap.size := by obtain ⟨_, cur, hcur⟩ := owns_at ho; exact (Array.getElem?_eq_some_iff.1 hcur).1
  have hgal := (Array.getElem?_eq_some_iff.1 ha).1
  obtain ⟨n, hn⟩ : ∃ n, l.length = n := ⟨_, rfl⟩
  have hxl : ((l.take i).flatMap cR).length = i * 1 := by rw [flat_len cR_len, List.length_take]; congr 1; omega
  have hdl : ((l.drop i).flatMap cR).length = (n - i) * 1 := by rw [flat_len cR_len, List.length_drop, hn]
  have hxc : ∀ (j : Nat) (u : Value), ((l.take i).flatMap cR)[j]? = some u → w.cell? ((⟨g, 0, none⟩ : Addr).add j) = some u := fun j u hu => by
    rw [add_at, Nat.zero_add]
    refine hcells j u ?_
    rw [← flat_take l i, List.getElem?_append_left (List.getElem?_eq_some_iff.1 hu).1]
    exact hu
  have hdc : ∀ (j : Nat) (u : Value), ((l.drop i).flatMap cR)[j]? = some u → w.cell? ((⟨g, i * 1, none⟩ : Addr).add j) = some u := fun j u hu => by
    rw [add_at]
    refine hcells (i * 1 + j) u ?_
    rw [← flat_take l i, List.getElem?_append_right (by rw [hxl]; omega), hxl, show i * 1 + j - i * 1 = j by omega]
    exact hu
  rw [hn] at hi hl
  simp only [hn]
  have hz := fun ty => az.run_append_zeros (P := Try.prog) w 25 3 ty 24 i1 _ Try.underlying25 Try.underlying3 ki kz0 ⟨g, 0, none⟩ i n ((l.take i).flatMap cR) (by rw [hxl, kz1]) hxc (n + 1 - i) (by rw [kz1]; omega) (by omega) (by omega) (by rw [kz2]; omega) (by rw [kz2]; exact growslice_fits_wide (by omega) (by omega))
  rw [show i + (n + 1 - i) = n + 1 by omega] at hz
  have hG1 := grownCap_ge w (n + 1) n 24
  have hG2 := grownCap_le_maxLen w (n + 1) n 24 (by unfold maxLen; omega)
  obtain ⟨G, hG⟩ : ∃ G, grownCap w (n + 1) n 24 = G := ⟨_, rfl⟩
  rw [hG] at hz hG1 hG2
  obtain ⟨rest, hrest⟩ : ∃ rest : List Value, rest.length = (G - i) * 1 ∧ ∀ zc : Array Value, zc = (Value.slice none 0 0).cells → (((l.take i).flatMap cR).toArray ++ Builtin.zeroCells zc (n + 1 - i) ++ Builtin.zeroCells zc (G - (n + 1))) = (((l.take i).flatMap cR) ++ rest).toArray := by
    refine ⟨(Builtin.zeroCells (Value.slice none 0 0).cells (n + 1 - i) ++ Builtin.zeroCells (Value.slice none 0 0).cells (G - (n + 1))).toList, ?_, ?_⟩
    · simp [size_zeroCells, Value.cells]; omega
    · rintro zc rfl; simp
  have hrow := hrest.2 _ rfl
  rw [hrow] at hz
  have hk : (n : Int) + 1 - (i : Int) = ((n + 1 - i : Nat) : Int) := by omega
  rw [← hk] at hz
  obtain ⟨xs, hxs⟩ : ∃ xs, (l.take i).flatMap cR = xs := ⟨_, rfl⟩
  obtain ⟨cs, hcs⟩ : ∃ cs, (l.drop i).flatMap cR = cs := ⟨_, rfl⟩
  rw [hxs] at hz hxl
  rw [hcs] at hdl hdc
  have hfl : (l.take i ++ ⟨xa, xc, xl⟩ :: l.drop i).flatMap cR = xs ++ [Value.slice xa xl.length xc] ++ cs := by rw [← hxs, ← hcs]; simp [cR]
  rw [hfl]
  have hone : ∀ u ∈ cs, u.oneCell' = true := by rw [← hcs]; exact oneX _
  have hg1 : (w.drew.alloc (.cells (xs ++ rest).toArray 24)).heap[w.heap.size]? = some (.cells (xs ++ rest).toArray 24 (0, 0)) := bnew w.drew _ _
  have hb1 : Below w.heap.size w (w.drew.alloc (.cells (xs ++ rest).toArray 24)) := (Below.refl _ w).drew.alloc (Nat.le_refl _) _
  obtain ⟨W1, hW1⟩ : ∃ W1, w.drew.alloc (.cells (xs ++ rest).toArray 24) = W1 := ⟨_, rfl⟩
  rw [hW1] at hz hg1 hb1
  have hav := bstay ha hb1 hgal
  have hrl := hrest.1
  have hmin1 : Nat.min 1 (n + 1 - i) = 1 := Nat.min_eq_left (by omega)
  have hmin2 : Nat.min (n - i) (n - i) = n - i := Nat.min_self _
  have hc1 := fun ty => cpr.run_copy_rows (P := Try.prog) W1 25 25 ty 24 i1 w.heap.size (i * 1) (n + 1 - i) (G - i) ⟨ga, 0, none⟩ 1 1 (xs ++ rest).toArray 24 [Value.slice xa xl.length xc] Try.underlying25 ki hg1 (by rw [kz1, hmin1]; rfl) (fun j u hu => by
    rw [add_at, Nat.zero_add]
    match j, hu with
    | 0, hu => cases hu; exact bcell hav rfl
    | j + 1, hu => simp at hu) (by simp; omega) (by simp [Value.oneCell'])
  rw [hmin1] at hc1
  simp only [show ([Value.slice xa xl.length xc] : List Value).length = 1 from rfl] at hc1
  obtain ⟨A1, hA1⟩ : ∃ A1 : List Value, (xs ++ rest).take (i * 1) ++ [Value.slice xa xl.length xc] ++ (xs ++ rest).drop (i * 1 + 1) = A1 := ⟨_, rfl⟩
  rw [hA1] at hc1
  have hA1l : A1.length = i * 1 + (G - i) * 1 := by rw [← hA1]; simp; omega
  have hg2 : (W1.setRow w.heap.size A1.toArray).heap[w.heap.size]? = some (.cells A1.toArray 24 (0, 0)) := setRow_heap W1 w.heap.size _ _ 24 _ hg1
  have hb2 : Below w.heap.size w (W1.setRow w.heap.size A1.toArray) := below_setRow hb1 (Nat.le_refl _) _
  obtain ⟨W2, hW2⟩ : ∃ W2, W1.setRow w.heap.size A1.toArray = W2 := ⟨_, rfl⟩
  rw [hW2] at hc1 hg2 hb2
  have hc2 := fun ty => cpr.run_copy_rows (P := Try.prog) W2.drew 25 25 ty 24 i1 w.heap.size ((i + 1) * 1) (n - i) (G - (i + 1)) ⟨g, i * 1, none⟩ (n - i) (n - i) A1.toArray 24 cs Try.underlying25 ki hg2 (by rw [kz1, hmin2, hdl]) (fun j u hu => by
    have := hdc j u hu
    rw [add_at] at this ⊢
    exact (hb2.drew.cell (p := ⟨g, i * 1 + j, none⟩) hgl).trans this) (by rw [hdl]; simp; omega) hone
  rw [hmin2] at hc2
  have hc2 := fun ty => (hc2 ty).trans rfl
  have htwo : A1.take ((i + 1) * 1) ++ cs ++ A1.drop ((i + 1) * 1 + cs.length) = xs ++ [Value.slice xa xl.length xc] ++ cs ++ rest.drop (1 + cs.length) := by
    rw [← hA1]
    exact two_copies (v := [Value.slice xa xl.length xc]) hxl (by show i * 1 + 1 = (i + 1) * 1; omega) (by show 1 + cs.length ≤ rest.length; omega)
  rw [htwo] at hc2
  have hg3 : (W2.drew.setRow w.heap.size (xs ++ [Value.slice xa xl.length xc] ++ cs ++ rest.drop (1 + cs.length)).toArray).heap[w.heap.size]? = some (.cells (xs ++ [Value.slice xa xl.length xc] ++ cs ++ rest.drop (1 + cs.length)).toArray 24 (0, 0)) := setRow_heap W2.drew w.heap.size _ _ 24 _ hg2
  have hb3 : Below w.heap.size w (W2.drew.setRow w.heap.size (xs ++ [Value.slice xa xl.length xc] ++ cs ++ rest.drop (1 + cs.length)).toArray) := below_setRow hb2.drew (Nat.le_refl _) _
  have hown : (W2.drew.setRow w.heap.size (xs ++ [Value.slice xa xl.length xc] ++ cs ++ rest.drop (1 + cs.length)).toArray).ownsRow B 24 1 (.slice (some ⟨w.heap.size, 0, none⟩) (n + 1) G) (n + 1) (xs ++ [Value.slice xa xl.length xc] ++ cs) :=
    owns_new (tl := rest.drop (1 + cs.length)) hg3 hB (by simp) (by simp; omega) hG1 hG2 (by simp; omega)
  obtain ⟨W3, hW3⟩ : ∃ W3, W2.drew.setRow w.heap.size (xs ++ [Value.slice xa xl.length xc] ++ cs ++ rest.drop (1 + cs.length)).toArray = W3 := ⟨_, rfl⟩
  rw [hW3] at hc2 hb3 hown
  have HB3 : Hid (Below w.heap.size w W3) := hb3
  have HOWN : Hid (W3.ownsRow B 24 1 (.slice (some ⟨w.heap.size, 0, none⟩) (n + 1) G) (n + 1) (xs ++ [Value.slice xa xl.length xc] ++ cs)) := hown
  have i9 : IntKind.i64.wrap ((i : Int) + 1) = (i : Int) + 1 := by rw [IntKind.wrap_i64]; omega
  have r1 : i ≤ n := by omega
  have r2 : (0 : Int) ≤ (i : Int) + 1 := by omega
  have r3 : ¬ G = i + 1 := by omega
  have r4 : ¬ n = i := by omega
  have q1 : ¬ (i : Int) = (n : Int) := by omega
  have q2 : i < G := by omega
  have q3 : i + 1 < G := by omega
  have q4 : (n : Int) < (n : Int) + 1 := by omega
  have q5 : n - i ≠ 0 := by omega
  simp only [Nat.mul_one] at hc1 hc2
  clear hcells hxc hdc ho ha hrest hrow hav hg1 hg2 hg3 hb1 hb2 hb3 hown hA1 htwo hW1 hW2 hW3 hone hfl hxs hcs hk hG
  go_enter Try.func67, Try.ntmps67
  go_wp2_with (at_builtin; first | refine cpr.wpList_append_run rfl _ _ 25 3 rfl _ _ _ rfl rfl (hz _) ?_ | refine cpr.wpList_copy_run rfl _ _ 25 25 rfl _ _ _ rfl rfl (hc1 _) ?_)
  refine dk.region_sets (ws w.heap.size g i n G) [46, 47, 48, 49, 50, 51, 52, 53, 54] (dk.Cl (fun b W => W = if b then W3 else W2.drew) 8) (by kernel_rfl) (by kernel_rfl) rfl (by kernel_rfl) rfl ?each ?fin
  case each =>
    refine ⟨dk.q (by decide) (.slice (some ⟨w.heap.size, 0, none⟩) (n + 1) G) (by rintro _ ⟨⟩; exact dk.sets_on _ (by simp) _ rfl) (fun b W h => by simp [execOp, go_sem, Act.eval, dk.sets_get, ws, List.lookup]), ?_⟩
    refine ⟨dk.q (by decide) (.int .i64 i) (by rintro _ ⟨⟩; exact dk.sets_on _ (by simp) _ rfl) (fun b W h => by simp [execOp, go_sem, Act.eval, dk.sets_get, ws, List.lookup]), ?_⟩
    refine ⟨dk.q (by decide) (.int .i64 1) (by rintro _ ⟨⟩; exact dk.sets_on _ (by simp) _ rfl) (fun b W h => by simp [execOp, go_sem, Act.eval, dk.sets_get, ws, List.lookup]), ?_⟩
    refine ⟨dk.q (by decide) (.int .i64 ((i : Int) + 1)) (by rintro _ ⟨⟩; exact dk.sets_on _ (by simp) _ rfl) (fun b W h => by simp [execOp, go_sem, Act.eval, dk.sets_get, ws, List.lookup, i9]), ?_⟩
    refine ⟨dk.q (by decide) (.slice (some ⟨w.heap.size, (i + 1), none⟩) (n - i) (G - (i + 1))) (by rintro _ ⟨⟩; exact dk.sets_on _ (by simp) _ rfl) (fun b W h => by simp [execOp, go_sem, Act.eval, dk.sets_get, ws, List.lookup, r1, r2, r3]), ?_⟩
    refine ⟨dk.q (by decide) (.slice (some ⟨g, 0, none⟩) n n) (by rintro _ ⟨⟩; exact dk.sets_on _ (by simp) _ rfl) (fun b W h => by simp [execOp, go_sem, Act.eval, dk.sets_get, ws, List.lookup]), ?_⟩
    refine ⟨dk.q (by decide) (.int .i64 i) (by rintro _ ⟨⟩; exact dk.sets_on _ (by simp) _ rfl) (fun b W h => by simp [execOp, go_sem, Act.eval, dk.sets_get, ws, List.lookup]), ?_⟩
    refine ⟨dk.q (by decide) (.slice (some ⟨g, i, none⟩) (n - i) (n - i)) (by rintro _ ⟨⟩; exact dk.sets_on _ (by simp) _ rfl) (fun b W h => by simp [execOp, go_sem, Act.eval, dk.sets_get, ws, List.lookup, r1, r4]), ?_⟩
    refine ⟨cpr.lastv (.int .i64 ((n - i : Nat) : Int)) (by rintro _ ⟨⟩; exact dk.sets_on _ (by simp) _ rfl) (fun W h => ?_), trivial⟩
    obtain rfl : W = W2.drew := h
    refine ⟨W3, ?_, rfl⟩
    simp [execOp, resolve, invoke, builtin, Act.eval, dk.sets_get, ws, List.lookup, hc2]
    rfl
  case fin =>
    intro L W hL hC
    obtain rfl : W = W3 := by
      have h8 := hL 8 (by decide)
      unfold dk.Cl at hC
      rw [h8] at hC
      exact hC
    simp only [dk.sets, ws]
    go_wp2
    go_ret
    exact ⟨_, _, rfl, HOWN.out, HB3.out⟩
set_option maxRecDepth 100000 in
set_option maxHeartbeats 4000000 in
theorem insert_end (l : List Rn) (g B : Nat) (xa : Option Addr) (xc : Nat) (xl : List flP.Pr) (ga : Nat) (w : World) (hl : l.length ≤ 1048576) (hB : B ≤ w.heap.size) (ho : w.ownsRow B 24 1 (.slice (some ⟨g, 0, none⟩) l.length l.length) l.length (l.flatMap cR)) (ha : w.heap[ga]? = some (.cells #[.slice xa xl.length xc] 24 (0, 0))) :
    Calls Try.prog 67 #[.slice (some ⟨g, 0, none⟩) l.length l.length, .int .i64 l.length, .slice (some ⟨ga, 0, none⟩) 1 1] w fun r w' => ∃ g2 c2, r = .returned (.slice (some ⟨g2, 0, none⟩) (l.length + 1) c2) ∧ w'.ownsRow B 24 1 (.slice (some ⟨g2, 0, none⟩) (l.length + 1) c2) (l.length + 1) ((l ++ [(⟨xa, xc, xl⟩ : Rn)]).flatMap cR) ∧ w.grownBy w' (some g) := by
  obtain ⟨i1, ki, kz0, kz1, kz2⟩ := infoX
  have hfl : (l ++ [(⟨xa, xc, xl⟩ : Rn)]).flatMap cR = l.flatMap cR ++ [Value.slice xa xl.length xc] := by rw [List.flatMap_append]; simp [cR]
  rw [hfl]
  have hnw : ∀ (j : Nat) (u : Value), [Value.slice xa xl.length xc][j]? = some u → w.cell? ((⟨ga, 0, none⟩ : Addr).add j) = some u := fun j u hu => by
    rw [add_at, Nat.zero_add]
    match j, hu with
    | 0, hu => cases hu; exact bcell ha rfl
    | j + 1, hu => simp at hu
  clear hfl ha
  go_enter Try.func67, Try.ntmps67
  go_wp2_with (at_builtin; refine wpList_append_own _ rfl _ _ 25 rfl B 24 i1 (.slice none 0 0) 1 24 Try.underlying25 ki kz0 kz1 kz2 rfl (by decide) _ _ _ rfl ho ⟨ga, 0, none⟩ 1 1 [Value.slice xa xl.length xc] rfl rfl hnw (by simp [Value.oneCell']) (by unfold maxLen; omega) (by omega) hB ?_)
  intro v' w' hown hgrow _
  obtain ⟨g2, c2, rfl⟩ := own_form hown
  have HO : Hid (w'.ownsRow B 24 1 (.slice (some ⟨g2, 0, none⟩) (l.length + 1) c2) (l.length + 1) (l.flatMap cR ++ [Value.slice xa xl.length xc])) := hown
  have HG : Hid (w.grownBy w' (some g)) := hgrow
  clear hown hgrow ho hnw
  go_wp2
  go_ret
  exact ⟨_, _, rfl, HO.out, HG.out⟩
/-- either way -/
theorem insert_run (l : List Rn) (g i B : Nat) (xa : Option Addr) (xc : Nat) (xl : List flP.Pr) (ga : Nat) (w : World) (hi : i ≤ l.length) (hl : l.length ≤ 1048576) (hB : B ≤ w.heap.size) (ho : w.ownsRow B 24 1 (.slice (some ⟨g, 0, none⟩) l.length l.length) l.length (l.flatMap cR)) (ha : w.heap[ga]? = some (.cells #[.slice xa xl.length xc] 24 (0, 0))) :
    Calls Try.prog 67 #[.slice (some ⟨g, 0, none⟩) l.length l.length, .int .i64 i, .slice (some ⟨ga, 0, none⟩) 1 1] w fun r w' => ∃ g2 c2, r = .returned (.slice (some ⟨g2, 0, none⟩) (l.length + 1) c2) ∧ w'.ownsRow B 24 1 (.slice (some ⟨g2, 0, none⟩) (l.length + 1) c2) (l.length + 1) ((l.take i ++ ⟨xa, xc, xl⟩ :: l.drop i).flatMap cR) ∧ w.grownBy w' (some g) := by
  by_cases h : i < l.length
  · exact (insert_mid l g i B xa xc xl ga w h hl hB ho ha).mono fun r w' ⟨g2, c2, h1, h2, h3⟩ => ⟨g2, c2, h1, h2, ⟨h3.os, h3.tape, h3.output, h3.size, fun k hk _ => h3.block k hk⟩⟩
  · obtain rfl : i = l.length := by omega
    rw [List.take_length, List.drop_length]
    exact insert_end l g B xa xc xl ga w hl hB ho ha
end Go.Proofs.Ytbgkccleiapkmaa.insr

/- slices.Replace of two neighbours by one run, in a row of runs that has no spare room. -/
namespace Go.Proofs.Ytbgkccleiapkmaa.rpl
open Go.ChangeShapes Go.WideShapes Go.ChangeAt Go.RowKit Go.Proofs.Ytbgkccleiapkmaa.rn Go.Proofs.Ytbgkccleiapkmaa.fl Go.Proofs.Ytbgkccleiapkmaa.insr
set_option linter.unusedVariables false

/-- clear of one run's place -/
theorem run_clear (W : World) (g c o : Nat) (cur : Array Value) (ty : TypeId) (hg : W.heap[g]? = some (.cells cur 24 (0, 0))) (ho : o < cur.size) :
    (Builtin.clear_ #[25] ty #[.slice (some ⟨g, o, none⟩) 1 c]).run Try.prog W = .ok (.tuple #[]) (W.setRow g (cur.toList.take o ++ [Value.slice none 0 0] ++ cur.toList.drop (o + 1)).toArray) := by
  have hst := run_storeCells_at Try.prog g o 24 [Value.slice none 0 0] 0 cur W hg (by simp; omega) (by simp [Value.oneCell'])
  simp only [Nat.add_zero] at hst
  have hz := Try.zeroValue24
  simp only [Builtin.clear_]
  simp [run_underlying Try.underlying25, hz]
  rw [show (Builtin.zeroCells (Value.slice none 0 0).cells 1).toList = [Value.slice none 0 0] from by simp [Builtin.zeroCells, Value.cells], hst]
  simp
/-- what an owned row with no spare room is -/
theorem whole {w : World} {B n g : Nat} {U : TypeId} {xs : List Value} (h : w.ownsRow B U 1 (.slice (some ⟨g, 0, none⟩) n n) n xs) : B ≤ g ∧ n ≤ maxLen ∧ xs.length = n ∧ w.heap[g]? = some (.cells xs.toArray U (0, 0)) := by
  obtain ⟨h0, ⟨h1, _⟩ | ⟨g', cap', cur, h1, h2, h3, h4, h5, h6, h7⟩⟩ := h
  · cases h1
  cases h1
  have e : cur.toList = xs := by rw [← h7, List.take_of_length_le (by simp [h6])]
  refine ⟨h2, h5, by omega, ?_⟩
  rw [h3, ← e]
theorem gb_row {w w1 : World} {g : Nat} (h : w.grownBy w1 (some g)) (cs : Array Value) : w.grownBy (w1.setRow g cs) (some g) := h.trans ⟨rfl, rfl, rfl, by simp, fun k _ hk => setRow_other w1 g k _ (fun e => hk (by rw [e]))⟩

set_option maxRecDepth 100000 in
set_option maxHeartbeats 4000000 in
theorem replace_end (l : List Rn) (g i B : Nat) (xa : Option Addr) (xc : Nat) (xl : List flP.Pr) (ga : Nat) (w : World) (hi : i + 2 = l.length) (hl : l.length ≤ 1048576) (ho : w.ownsRow B 24 1 (.slice (some ⟨g, 0, none⟩) l.length l.length) l.length (l.flatMap cR)) (ha : w.heap[ga]? = some (.cells #[.slice xa xl.length xc] 24 (0, 0))) :
    Calls Try.prog 63 #[.slice (some ⟨g, 0, none⟩) l.length l.length, .int .i64 i, .int .i64 (i + 2 : Nat), .slice (some ⟨ga, 0, none⟩) 1 1] w fun r w' => r = .returned (.slice (some ⟨g, 0, none⟩) (i + 1) l.length) ∧ w'.ownsRow B 24 1 (.slice (some ⟨g, 0, none⟩) (i + 1) l.length) (i + 1) ((l.take i ++ [(⟨xa, xc, xl⟩ : Rn)]).flatMap cR) ∧ w.grownBy w' (some g) := by
  obtain ⟨i1, ki, kz0, kz1, kz2⟩ := infoX
  obtain ⟨hBg, hmx, hxl, hcur⟩ := whole ho
  have hnw : ∀ (j : Nat) (u : Value), [Value.slice xa xl.length xc][j]? = some u → w.cell? ((⟨ga, 0, none⟩ : Addr).add j) = some u := fun j u hu => by
    rw [add_at, Nat.zero_add]
    match j, hu with
    | 0, hu => cases hu; exact bcell ha rfl
    | j + 1, hu => simp at hu
  have hap := fun ty => run_append_room (P := Try.prog) w 25 ty 24 i1 Try.underlying25 ki g i l.length _ hcur ⟨ga, 0, none⟩ 1 1 [Value.slice xa xl.length xc] (by rw [kz1]; rfl) hnw (by simp [Value.oneCell']) (by omega) (by rw [kz1]; show i * 1 + 1 ≤ (l.flatMap cR).toArray.size; rw [List.size_toArray, hxl]; omega)
  rw [kz1] at hap
  simp only [Nat.mul_one, List.length_singleton] at hap
  obtain ⟨xs, hxs⟩ : ∃ xs, l.flatMap cR = xs := ⟨_, rfl⟩
  have htk : (l.take i).flatMap cR = xs.take i := by
    rw [← hxs, ← flat_take l i]
    have : ((l.take i).flatMap cR).length = i := by rw [flat_len cR_len, List.length_take]; omega
    rw [List.take_append_of_le_length (Nat.le_of_eq this.symm), List.take_of_length_le (Nat.le_of_eq this)]
  rw [hxs] at hap hxl hcur
  obtain ⟨n, hn⟩ : ∃ n, l.length = n := ⟨_, rfl⟩
  rw [hn] at hap hxl hi hl hmx
  simp only [hn]
  have hg1 := setRow_heap w g _ (xs.take i ++ [Value.slice xa xl.length xc] ++ xs.drop (i + 1)).toArray 24 _ hcur
  obtain ⟨W1, hW1⟩ : ∃ W1, w.setRow g (xs.take i ++ [Value.slice xa xl.length xc] ++ xs.drop (i + 1)).toArray = W1 := ⟨_, rfl⟩
  have hgr1 : w.grownBy W1 (some g) := by rw [← hW1]; exact gb_row (World.grownBy.refl _ _) _
  rw [hW1] at hap hg1
  have hcl := fun ty => run_clear W1 g 1 (i + 1) _ ty hg1 (by simp; omega)
  have hg2 := setRow_heap W1 g _ ((xs.take i ++ [Value.slice xa xl.length xc] ++ xs.drop (i + 1)).toArray.toList.take (i + 1) ++ [Value.slice none 0 0] ++ (xs.take i ++ [Value.slice xa xl.length xc] ++ xs.drop (i + 1)).toArray.toList.drop (i + 1 + 1)).toArray 24 _ hg1
  have hown : (W1.setRow g ((xs.take i ++ [Value.slice xa xl.length xc] ++ xs.drop (i + 1)).toArray.toList.take (i + 1) ++ [Value.slice none 0 0] ++ (xs.take i ++ [Value.slice xa xl.length xc] ++ xs.drop (i + 1)).toArray.toList.drop (i + 1 + 1)).toArray).ownsRow B 24 1 (.slice (some ⟨g, 0, none⟩) (i + 1) n) (i + 1) (xs.take i ++ [Value.slice xa xl.length xc]) := by
    refine owns_new (tl := [.slice none 0 0]) hg2 hBg ?_ (by simp; omega) (by omega) hmx (by simp; omega)
    have h1 : (xs.take i ++ [Value.slice xa xl.length xc]).length = i + 1 := by simp; omega
    show ((xs.take i ++ [Value.slice xa xl.length xc] ++ xs.drop (i + 1)).take (i + 1) ++ [Value.slice none 0 0] ++ (xs.take i ++ [Value.slice xa xl.length xc] ++ xs.drop (i + 1)).drop (i + 1 + 1)) = _
    rw [← h1, List.take_left, List.drop_eq_nil_of_le (by simp; omega), List.append_nil]
  have hgr2 := gb_row hgr1 ((xs.take i ++ [Value.slice xa xl.length xc] ++ xs.drop (i + 1)).toArray.toList.take (i + 1) ++ [Value.slice none 0 0] ++ (xs.take i ++ [Value.slice xa xl.length xc] ++ xs.drop (i + 1)).toArray.toList.drop (i + 1 + 1)).toArray
  obtain ⟨W2, hW2⟩ : ∃ W2, W1.setRow g ((xs.take i ++ [Value.slice xa xl.length xc] ++ xs.drop (i + 1)).toArray.toList.take (i + 1) ++ [Value.slice none 0 0] ++ (xs.take i ++ [Value.slice xa xl.length xc] ++ xs.drop (i + 1)).toArray.toList.drop (i + 1 + 1)).toArray = W2 := ⟨_, rfl⟩
  rw [hW2] at hcl hown hgr2
  have HFN : Hid (W2.ownsRow B 24 1 (.slice (some ⟨g, 0, none⟩) (i + 1) n) (i + 1) ((l.take i ++ [(⟨xa, xc, xl⟩ : Rn)]).flatMap cR) ∧ w.grownBy W2 (some g)) := by
    unfold Hid
    rw [List.flatMap_append, htk]
    exact ⟨by simpa [cR] using hown, hgr2⟩
  subst hi
  have hcl0 := hcl 0
  clear hown hgr2 hgr1 hg1 hg2 hW1 hW2 hcl htk hnw ho ha hcur
  go_enter Try.func63, Try.ntmps63
  go_wp2_with (at_builtin; refine cpr.wpList_append_run rfl _ _ 25 25 rfl _ _ _ rfl rfl (hap _) ?_)
  go_ret
  exact ⟨rfl, HFN.out⟩
end Go.Proofs.Ytbgkccleiapkmaa.rpl

/- slices.Replace of two neighbours by one run that are not the last ones, in a row of runs that has no spare room. -/
namespace Go.Proofs.Ytbgkccleiapkmaa.rpl
open Go.ChangeShapes Go.WideShapes Go.ChangeAt Go.RowKit Go.Proofs.Ytbgkccleiapkmaa.rn Go.Proofs.Ytbgkccleiapkmaa.fl Go.Proofs.Ytbgkccleiapkmaa.insr
set_option linter.unusedVariables false

theorem gb_drew {w w1 : World} {g : Nat} (h : w.grownBy w1 (some g)) : w.grownBy w1.drew (some g) := by
  have hb : Below w1.heap.size w1 w1.drew := (Below.refl _ _).drew
  exact h.trans ⟨hb.os, hb.tape, hb.output, hb.size, fun k hk _ => hb.block k hk⟩
theorem gb_drewN {w : World} (g n : Nat) : w.grownBy (w.drewN n) (some g) := ⟨rfl, rfl, rfl, Nat.le_refl _, fun _ _ _ => rfl⟩
/-- the two copies and the clear, one behind the other -/
structure Mid (n i g ga : Nat) (xa : Option Addr) (xm xc B : Nat) (v : List Value) (w W0 W1 W2 W3 : World) : Prop where
  c1 : ∀ ty, (Builtin.copy_ #[25, 25] ty #[.slice (some ⟨g, i, none⟩) (n - 1 - i) (n - i), .slice (some ⟨ga, 0, none⟩) 1 1]).run Try.prog W0 = .ok (goInt 1) W1
  c2 : ∀ ty, (Builtin.copy_ #[25, 25] ty #[.slice (some ⟨g, i + 1, none⟩) (n - 1 - (i + 1)) (n - (i + 1)), .slice (some ⟨g, i + 2, none⟩) (n - (i + 2)) (n - (i + 2))]).run Try.prog W1.drew = .ok (goInt ((n - i - 2 : Nat) : Int)) W2
  c3 : ∀ ty, (Builtin.clear_ #[25] ty #[.slice (some ⟨g, n - 1, none⟩) 1 1]).run Try.prog W2 = .ok (.tuple #[]) W3
  own : W3.ownsRow B 24 1 (.slice (some ⟨g, 0, none⟩) (n - 1) n) (n - 1) v
  gr : w.grownBy W3 (some g)
set_option maxRecDepth 100000 in
set_option maxHeartbeats 4000000 in
theorem mid_way (l : List Rn) (g i B : Nat) (xa : Option Addr) (xc : Nat) (xl : List flP.Pr) (ga : Nat) (w W0 : World) (h0 : W0.heap = w.heap) (hgr0 : w.grownBy W0 (some g)) (hi : i + 2 < l.length) (hl : l.length ≤ 1048576) (hga : ga ≠ g) (ho : w.ownsRow B 24 1 (.slice (some ⟨g, 0, none⟩) l.length l.length) l.length (l.flatMap cR)) (ha : w.heap[ga]? = some (.cells #[.slice xa xl.length xc] 24 (0, 0))) :
    ∃ W1 W2 W3, Mid l.length i g ga xa xl.length xc B ((l.take i ++ (⟨xa, xc, xl⟩ : Rn) :: l.drop (i + 2)).flatMap cR) w W0 W1 W2 W3 := by
  obtain ⟨i1, ki, kz0, kz1, kz2⟩ := infoX
  obtain ⟨hBg, hmx, hxl, hcur⟩ := whole ho
  have hnw : ∀ (j : Nat) (u : Value), [Value.slice xa xl.length xc][j]? = some u → W0.cell? ((⟨ga, 0, none⟩ : Addr).add j) = some u := fun j u hu => by
    rw [add_at, Nat.zero_add]
    match j, hu with
    | 0, hu => cases hu; exact bcell (by rw [h0]; exact ha) rfl
    | j + 1, hu => simp at hu
  obtain ⟨n, hn⟩ : ∃ n, l.length = n := ⟨_, rfl⟩
  have hx1l : ((l.take i).flatMap cR).length = i := by rw [flat_len cR_len, List.length_take]; omega
  have hrl : ((l.drop i).flatMap cR).length = n - i := by rw [flat_len cR_len, List.length_drop]; omega
  have hcl : ((l.drop (i + 2)).flatMap cR).length = n - i - 2 := by rw [flat_len cR_len, List.length_drop]; omega
  have hrd : ((l.drop i).flatMap cR).drop 2 = (l.drop (i + 2)).flatMap cR := by
    have h1 : l.drop i = l[i]'(by omega) :: l[i + 1]'(by omega) :: l.drop (i + 2) := by
      rw [List.drop_eq_getElem_cons (show i < l.length by omega), List.drop_eq_getElem_cons (show i + 1 < l.length by omega)]
    have h2 : (l.drop i).flatMap cR = (l[i]'(by omega) :: l[i + 1]'(by omega) :: l.drop (i + 2)).flatMap cR := congrArg (List.flatMap cR) h1
    rw [h2, List.flatMap_cons, List.flatMap_cons]
    rfl
  have hone : ∀ u ∈ (l.drop (i + 2)).flatMap cR, u.oneCell' = true := oneX _
  rw [← flat_take l i] at hcur
  have hfl : (l.take i ++ (⟨xa, xc, xl⟩ : Rn) :: l.drop (i + 2)).flatMap cR = (l.take i).flatMap cR ++ [Value.slice xa xl.length xc] ++ (l.drop (i + 2)).flatMap cR := by simp [cR]
  rw [hfl]
  obtain ⟨xs, hxs⟩ : ∃ xs, (l.take i).flatMap cR = xs := ⟨_, rfl⟩
  obtain ⟨rest, hrest⟩ : ∃ rest, (l.drop i).flatMap cR = rest := ⟨_, rfl⟩
  obtain ⟨cs, hcs⟩ : ∃ cs, (l.drop (i + 2)).flatMap cR = cs := ⟨_, rfl⟩
  rw [hxs] at hx1l hcur ⊢
  rw [hrest] at hrl hcur hrd
  rw [hcs] at hcl hrd hone ⊢
  rw [hn] at hi hl hmx
  simp only [hn]
  have hmin1 : Nat.min 1 (n - 1 - i) = 1 := Nat.min_eq_left (by omega)
  have hmin2 : Nat.min (n - (i + 2)) (n - 1 - (i + 1)) = n - i - 2 := by rw [show n - 1 - (i + 1) = n - (i + 2) by omega]; exact (Nat.min_self _).trans (by omega)
  have hcurd : W0.heap[g]? = some (.cells (xs ++ rest).toArray 24 (0, 0)) := by rw [h0]; exact hcur
  have hc1 := fun ty => cpr.run_copy_rows (P := Try.prog) W0 25 25 ty 24 i1 g i (n - 1 - i) (n - i) ⟨ga, 0, none⟩ 1 1 (xs ++ rest).toArray 24 [Value.slice xa xl.length xc] Try.underlying25 ki hcurd (by rw [kz1, hmin1]; rfl) hnw (by simp; omega) (by simp [Value.oneCell'])
  rw [hmin1] at hc1
  simp only [show ([Value.slice xa xl.length xc] : List Value).length = 1 from rfl] at hc1
  obtain ⟨A1, hA1⟩ : ∃ A1 : List Value, (xs ++ rest).take i ++ [Value.slice xa xl.length xc] ++ (xs ++ rest).drop (i + 1) = A1 := ⟨_, rfl⟩
  have hc1 : ∀ ty, (Builtin.copy_ #[25, 25] ty #[.slice (some ⟨g, i, none⟩) (n - 1 - i) (n - i), .slice (some ⟨ga, 0, none⟩) 1 1]).run Try.prog W0 = .ok (goInt 1) (W0.setRow g A1.toArray) := fun ty => by rw [← hA1]; exact hc1 ty
  have hA1l : A1.length = n := by rw [← hA1]; simp; omega
  have hg1 := setRow_heap W0 g _ A1.toArray 24 _ hcurd
  have hgr1 : w.grownBy (W0.setRow g A1.toArray) (some g) := gb_row hgr0 _
  obtain ⟨W1, hW1⟩ : ∃ W1, W0.setRow g A1.toArray = W1 := ⟨_, rfl⟩
  rw [hW1] at hc1 hg1 hgr1
  have hA1d : A1.drop (i + 2) = cs := by
    rw [← hA1, ← hrd]
    have h1 : (xs ++ rest).take i = xs := by rw [← hx1l, List.take_left]
    have h2 : (xs ++ rest).drop (i + 1) = rest.drop 1 := by rw [← hx1l, List.drop_append, List.drop_eq_nil_of_le (by omega), List.nil_append]; congr 1; omega
    rw [h1, h2, List.drop_append, List.drop_eq_nil_of_le (by simp; omega), List.nil_append, List.drop_drop]
    congr 1
    simp
    omega
  have hc2 := fun ty => cpr.run_copy_rows (P := Try.prog) W1.drew 25 25 ty 24 i1 g (i + 1) (n - 1 - (i + 1)) (n - (i + 1)) ⟨g, i + 2, none⟩ (n - (i + 2)) (n - (i + 2)) A1.toArray 24 cs Try.underlying25 ki hg1 (by rw [kz1, hmin2, hcl]; omega) (fun j u hu => by
    rw [add_at]
    have hg1' : W1.drew.heap[g]? = some (.cells A1.toArray 24 (0, 0)) := hg1
    refine bcell hg1' ?_
    rw [← hA1d, List.getElem?_drop] at hu
    simpa using hu) (by simp; omega) hone
  rw [hmin2] at hc2
  have htwo : A1.take (i + 1) ++ cs ++ A1.drop (i + 1 + cs.length) = xs ++ [Value.slice xa xl.length xc] ++ cs ++ rest.drop (1 + cs.length) := by
    rw [← hA1]
    exact two_copies (v := [Value.slice xa xl.length xc]) hx1l rfl (by show 1 + cs.length ≤ rest.length; omega)
  obtain ⟨A2, hA2⟩ : ∃ A2 : List Value, xs ++ [Value.slice xa xl.length xc] ++ cs ++ rest.drop (1 + cs.length) = A2 := ⟨_, rfl⟩
  have hc2 : ∀ ty, (Builtin.copy_ #[25, 25] ty #[.slice (some ⟨g, i + 1, none⟩) (n - 1 - (i + 1)) (n - (i + 1)), .slice (some ⟨g, i + 2, none⟩) (n - (i + 2)) (n - (i + 2))]).run Try.prog W1.drew = .ok (goInt ((n - i - 2 : Nat) : Int)) (W1.drew.setRow g A2.toArray) := fun ty => by rw [← hA2, ← htwo]; exact hc2 ty
  have hA2l : A2.length = n := by rw [← hA2]; simp; omega
  have hg2 := setRow_heap W1.drew g _ A2.toArray 24 _ hg1
  have hgr2 : w.grownBy (W1.drew.setRow g A2.toArray) (some g) := gb_row (gb_drew hgr1) _
  obtain ⟨W2, hW2⟩ : ∃ W2, W1.drew.setRow g A2.toArray = W2 := ⟨_, rfl⟩
  rw [hW2] at hc2 hg2 hgr2
  have hcr := fun ty => run_clear W2 g 1 (n - 1) _ ty hg2 (by simp; omega)
  have hg3 := setRow_heap W2 g _ (A2.take (n - 1) ++ [Value.slice none 0 0] ++ A2.drop (n - 1 + 1)).toArray 24 _ hg2
  have hgr3 := gb_row hgr2 (A2.take (n - 1) ++ [Value.slice none 0 0] ++ A2.drop (n - 1 + 1)).toArray
  refine ⟨W1, W2, _, hc1, hc2, hcr, ?_, hgr3⟩
  refine owns_new (tl := [Value.slice none 0 0]) hg3 hBg ?_ (by simp; omega) (by omega) hmx (by simp; omega)
  have h1 : (xs ++ [Value.slice xa xl.length xc] ++ cs).length = n - 1 := by simp; omega
  have h2 : A2.take (n - 1) = xs ++ [Value.slice xa xl.length xc] ++ cs := by rw [← hA2, ← h1, List.take_left]
  rw [h2, List.drop_eq_nil_of_le (by omega), List.append_nil]
def wsM (g ga i n : Nat) : List (Nat × Value) := [(98, .slice (some ⟨g, 0, none⟩) (n - 1) n), (99, .int .i64 i), (100, .slice (some ⟨ga, 0, none⟩) 1 1), (101, .int .i64 1), (102, .int .i64 ((i : Int) + 1)), (103, .slice (some ⟨g, i + 1, none⟩) (n - 1 - (i + 1)) (n - (i + 1))), (104, .slice (some ⟨g, 0, none⟩) n n), (105, .int .i64 ((i : Int) + 2)), (106, .slice (some ⟨g, i + 2, none⟩) (n - (i + 2)) (n - (i + 2))), (107, .int .i64 ((n - i - 2 : Nat) : Int))]
set_option maxRecDepth 100000 in
set_option maxHeartbeats 4000000 in
theorem replace_mid (l : List Rn) (g i B : Nat) (xa : Option Addr) (xc : Nat) (xl : List flP.Pr) (ga : Nat) (w : World) (hi : i + 2 < l.length) (hl : l.length ≤ 1048576) (hga : ga ≠ g) (ho : w.ownsRow B 24 1 (.slice (some ⟨g, 0, none⟩) l.length l.length) l.length (l.flatMap cR)) (ha : w.heap[ga]? = some (.cells #[.slice xa xl.length xc] 24 (0, 0))) :
    Calls Try.prog 63 #[.slice (some ⟨g, 0, none⟩) l.length l.length, .int .i64 i, .int .i64 (i + 2 : Nat), .slice (some ⟨ga, 0, none⟩) 1 1] w fun r w' => r = .returned (.slice (some ⟨g, 0, none⟩) (l.length - 1) l.length) ∧ w'.ownsRow B 24 1 (.slice (some ⟨g, 0, none⟩) (l.length - 1) l.length) (l.length - 1) ((l.take i ++ (⟨xa, xc, xl⟩ : Rn) :: l.drop (i + 2)).flatMap cR) ∧ w.grownBy w' (some g) := by
  have hmid := fun nq => mid_way l g i B xa xc xl ga w (w.drewN nq) rfl (gb_drewN g nq) hi hl hga ho ha
  have HM : Hid (∀ nq, ∃ W1 W2 W3, Mid l.length i g ga xa xl.length xc B ((l.take i ++ (⟨xa, xc, xl⟩ : Rn) :: l.drop (i + 2)).flatMap cR) w (w.drewN nq) W1 W2 W3) := hmid
  obtain ⟨n, hn⟩ : ∃ n, l.length = n := ⟨_, rfl⟩
  rw [hn] at HM hi hl
  simp only [hn]
  clear hmid ho ha hn hga
  go_enter Try.func63, Try.ntmps63
  go_wp2
  go_quiet (fail)
  obtain ⟨W1, W2, W3, hm⟩ := HM.out nq
  have etot : (i : Int) + 1 + ((n - (i + 2) : Nat) : Int) = ((n - 1 : Nat) : Int) := by omega
  rw [etot]
  obtain ⟨W0, hW0⟩ : ∃ W0, w.drewN nq = W0 := ⟨_, rfl⟩
  rw [hW0] at hm ⊢
  have hc1 := hm.c1
  have hc3 : (Builtin.clear_ #[25] 0 #[.slice (some ⟨g, n - 1, none⟩) (n - (n - 1)) (n - (n - 1))]).run Try.prog W2 = .ok (.tuple #[]) W3 := by rw [show n - (n - 1) = 1 by omega]; exact hm.c3 0
  have r6 : ¬ n = n - 1 := by omega
  have HMM : Hid (Mid n i g ga xa xl.length xc B (List.flatMap cR (List.take i l ++ { a := xa, c := xc, l := xl } :: List.drop (i + 2) l)) w W0 W1 W2 W3) := hm
  have r1 : n - 1 ≤ n := by omega
  have r2 : i ≤ n - 1 := by omega
  have r3 : ¬ n = i := by omega
  have r4 : ¬ ((n : Int) < ((n - 1 : Nat) : Int)) := by omega
  have r5 : (i : Int) + 1 ≤ (i : Int) + 2 := by omega
  clear hW0 HM hm etot
  go_wp2_with (at_builtin; refine cpr.wpList_copy_run rfl _ _ 25 25 rfl _ _ _ rfl rfl (hc1 _) ?_)
  have i9 : IntKind.i64.wrap ((i : Int) + 1) = (i : Int) + 1 := by rw [IntKind.wrap_i64]; omega
  have s1 : (0 : Int) ≤ (i : Int) + 1 := by omega
  have s2 : i + 1 ≤ n - 1 := by omega
  have s3 : ¬ n = i + 1 := by omega
  have s4 : (0 : Int) ≤ (i : Int) + 2 := by omega
  have s9 : (i : Int) + 2 ≤ (n : Int) := by omega
  have s5 : i + 2 ≤ n := by omega
  have s6 : ¬ n = i + 2 := by omega
  have s7 : ((i : Int) + 1).toNat = i + 1 := by omega
  have s8 : ((i : Int) + 2).toNat = i + 2 := by omega
  have hc2 := HMM.out.c2
  refine dk.region_sets (wsM g ga i n) [98, 99, 100, 101, 102, 103, 104, 105, 106, 107] (dk.Cl (fun b W => W = if b then W2 else W1.drew) 9) (by kernel_rfl) (by kernel_rfl) rfl (by kernel_rfl) rfl ?each ?fin
  case each =>
    refine ⟨dk.q (by decide) (.slice (some ⟨g, 0, none⟩) (n - 1) n) (by rintro _ ⟨⟩; exact dk.sets_on _ (by simp) _ rfl) (fun b W h => by simp [execOp, go_sem, Act.eval, dk.sets_get, wsM, List.lookup]), ?_⟩
    refine ⟨dk.q (by decide) (.int .i64 i) (by rintro _ ⟨⟩; exact dk.sets_on _ (by simp) _ rfl) (fun b W h => by simp [execOp, go_sem, Act.eval, dk.sets_get, wsM, List.lookup]), ?_⟩
    refine ⟨dk.q (by decide) (.slice (some ⟨ga, 0, none⟩) 1 1) (by rintro _ ⟨⟩; exact dk.sets_on _ (by simp) _ rfl) (fun b W h => by simp [execOp, go_sem, Act.eval, dk.sets_get, wsM, List.lookup]), ?_⟩
    refine ⟨dk.q (by decide) (.int .i64 1) (by rintro _ ⟨⟩; exact dk.sets_on _ (by simp) _ rfl) (fun b W h => by simp [go_sem, Act.eval, dk.sets_get, wsM, List.lookup]), ?_⟩
    refine ⟨dk.q (by decide) (.int .i64 ((i : Int) + 1)) (by rintro _ ⟨⟩; exact dk.sets_on _ (by simp) _ rfl) (fun b W h => by simp [execOp, go_sem, Act.eval, dk.sets_get, wsM, List.lookup, i9]), ?_⟩
    refine ⟨dk.q (by decide) (.slice (some ⟨g, i + 1, none⟩) (n - 1 - (i + 1)) (n - (i + 1))) (by rintro _ ⟨⟩; exact dk.sets_on _ (by simp) _ rfl) (fun b W h => by simp [execOp, go_sem, Act.eval, dk.sets_get, wsM, List.lookup, s1, s3]; intro h'; omega), ?_⟩
    refine ⟨dk.q (by decide) (.slice (some ⟨g, 0, none⟩) n n) (by rintro _ ⟨⟩; exact dk.sets_on _ (by simp) _ rfl) (fun b W h => by simp [execOp, go_sem, Act.eval, dk.sets_get, wsM, List.lookup]), ?_⟩
    refine ⟨dk.q (by decide) (.int .i64 ((i : Int) + 2)) (by rintro _ ⟨⟩; exact dk.sets_on _ (by simp) _ rfl) (fun b W h => by simp [execOp, go_sem, Act.eval, dk.sets_get, wsM, List.lookup]), ?_⟩
    refine ⟨dk.q (by decide) (.slice (some ⟨g, i + 2, none⟩) (n - (i + 2)) (n - (i + 2))) (by rintro _ ⟨⟩; exact dk.sets_on _ (by simp) _ rfl) (fun b W h => by simp [execOp, go_sem, Act.eval, dk.sets_get, wsM, List.lookup, s9, s4, s8, s6]), ?_⟩
    refine ⟨cpr.lastv (.int .i64 ((n - i - 2 : Nat) : Int)) (by rintro _ ⟨⟩; exact dk.sets_on _ (by simp) _ rfl) (fun W h => ?_), trivial⟩
    obtain rfl : W = W1.drew := h
    refine ⟨W2, ?_, rfl⟩
    simp [execOp, resolve, invoke, builtin, Act.eval, dk.sets_get, wsM, List.lookup, hc2]
    rfl
  case fin =>
    intro L W hL hC
    obtain rfl : W = W2 := by
      have h9 := hL 9 (by decide)
      unfold dk.Cl at hC
      rw [h9] at hC
      exact hC
    simp only [dk.sets, wsM]
    clear hc2 hC hL i9 s1 s2 s3 s4 s9 s5 s6 s7 s8
    go_wp2
    go_ret
    exact ⟨rfl, HMM.out.own, HMM.out.gr⟩
/-- either way -/
theorem replace_run (l : List Rn) (g i B : Nat) (xa : Option Addr) (xc : Nat) (xl : List flP.Pr) (ga : Nat) (w : World) (hi : i + 2 ≤ l.length) (hl : l.length ≤ 1048576) (hga : ga ≠ g) (ho : w.ownsRow B 24 1 (.slice (some ⟨g, 0, none⟩) l.length l.length) l.length (l.flatMap cR)) (ha : w.heap[ga]? = some (.cells #[.slice xa xl.length xc] 24 (0, 0))) :
    Calls Try.prog 63 #[.slice (some ⟨g, 0, none⟩) l.length l.length, .int .i64 i, .int .i64 (i + 2 : Nat), .slice (some ⟨ga, 0, none⟩) 1 1] w fun r w' => r = .returned (.slice (some ⟨g, 0, none⟩) (l.length - 1) l.length) ∧ w'.ownsRow B 24 1 (.slice (some ⟨g, 0, none⟩) (l.length - 1) l.length) (l.length - 1) ((l.take i ++ (⟨xa, xc, xl⟩ : Rn) :: l.drop (i + 2)).flatMap cR) ∧ w.grownBy w' (some g) := by
  by_cases h : i + 2 < l.length
  · exact replace_mid l g i B xa xc xl ga w h hl hga ho ha
  · have h2 : i + 2 = l.length := by omega
    rw [List.drop_eq_nil_of_le (by omega), show l.length - 1 = i + 1 by omega]
    exact replace_end l g i B xa xc xl ga w h2 hl ho ha
end Go.Proofs.Ytbgkccleiapkmaa.rpl

/- slices.DeleteFunc and slices.IndexFunc at a row of pairs, asked by isGone: the pairs that are Gone are struck. -/
namespace Go.Proofs.Ytbgkccleiapkmaa.dg
open Go.ChangeShapes Go.WideShapes Go.ChangeAt Go.RowKit Go.Proofs.Ytbgkccleiapkmaa.fl Go.Proofs.Ytbgkccleiapkmaa.fo
set_option linter.unusedVariables false

theorem closure (b : flP.Pr) (w : World) : Calls Try.prog 62 #[.agg #[.string b.k, .string b.v, .bool b.g]] w fun e w' => e = .returned (.bool b.g) ∧ Below w.heap.size w w' := by
  obtain ⟨k, v, gn⟩ := b
  have hb := (Below.refl w.heap.size w).alloc (Nat.le_refl _) (.cells #[.string k, .string v, .bool gn] 40)
  go_enter Try.func62, Try.ntmps62
  go_wp2
  go_ret
  exact ⟨rfl, hb⟩

/-- a row of pairs on the way: kept is what is left of the first j, the others still lie where they lay -/
def DR (W : World) (g : Nat) (bs kept : List flP.Pr) (j : Nat) : Prop := ∃ cur, W.heap[g]? = some (.cells cur 40 (0, 0)) ∧ bs.length * 3 ≤ cur.size ∧
  (∀ (i : Nat) (e : flP.Pr), kept[i]? = some e → cur[i * 3]? = some (.string e.k) ∧ cur[i * 3 + 1]? = some (.string e.v) ∧ cur[i * 3 + 2]? = some (.bool e.g)) ∧
  (∀ (i : Nat) (e : flP.Pr), j ≤ i → bs[i]? = some e → cur[i * 3]? = some (.string e.k) ∧ cur[i * 3 + 1]? = some (.string e.v) ∧ cur[i * 3 + 2]? = some (.bool e.g))
section
variable {W W' : World} {g B : Nat} {bs kept : List flP.Pr} {j : Nat}
theorem DR.lt (h : DR W g bs kept j) : g < W.heap.size := by
  obtain ⟨cur, h1, _⟩ := h
  exact (Array.getElem?_eq_some_iff.1 h1).1
theorem DR.below (h : DR W g bs kept j) (hb : Below B W W') (hg : g < B) : DR W' g bs kept j := by
  obtain ⟨cur, h1, h2⟩ := h
  exact ⟨cur, by rw [hb.block g hg]; exact h1, h2⟩
theorem DR.at (h : DR W g bs kept j) (o : Nat) (ho : o < bs.length * 3) : ∃ v, W.cell? ⟨g, o, none⟩ = some v := by
  obtain ⟨cur, hg, hs, _⟩ := h
  exact ⟨cur[o]'(by omega), by simp [World.cell?, hg, Array.getElem?_eq_getElem (show o < cur.size by omega)]⟩
theorem DR.free (h : DR W g bs kept j) (o : Nat) : W.frozen? ⟨g, o, none⟩ = false := by
  obtain ⟨cur, hg, _⟩ := h
  simp [World.frozen?, hg]
theorem DR.old (h : DR W g bs kept j) {i : Nat} {e : flP.Pr} (hi : j ≤ i) (he : bs[i]? = some e) : W.cell? ⟨g, i * 3, none⟩ = some (.string e.k) ∧ W.cell? ⟨g, i * 3 + 1, none⟩ = some (.string e.v) ∧ W.cell? ⟨g, i * 3 + 2, none⟩ = some (.bool e.g) := by
  obtain ⟨cur, hg, _, _, hc⟩ := h
  obtain ⟨h1, h2, h3⟩ := hc i e hi he
  exact ⟨bcell hg h1, bcell hg h2, bcell hg h3⟩
theorem DR.skip (h : DR W g bs kept j) : DR W g bs kept (j + 1) := by
  obtain ⟨cur, h1, h2, h3, h4⟩ := h
  exact ⟨cur, h1, h2, h3, fun i e hi => h4 i e (by omega)⟩
theorem DR.keep (h : DR W g bs kept j) (hk : kept.length ≤ j) (hj : j < bs.length) (x k : ByteArray) (q : Bool) : DR (((W.setCell ⟨g, kept.length * 3, none⟩ (.string x)).setCell ⟨g, kept.length * 3 + 1, none⟩ (.string k)).setCell ⟨g, kept.length * 3 + 2, none⟩ (.bool q)) g bs (kept ++ [⟨x, k, q⟩]) (j + 1) := by
  obtain ⟨cur, h1, h2, h3, h4⟩ := h
  refine ⟨_, bset (bset (bset h1 _ _) _ _) _ _, by simpa using h2, fun i e he => ?_, fun i e hi he => ?_⟩
  · rcases Nat.lt_trichotomy i kept.length with hi | rfl | hi
    · rw [List.getElem?_append_left hi] at he
      have hold := h3 i e he
      simp only [Array.getElem?_setIfInBounds]
      repeat rw [if_neg (by omega)]
      exact hold
    · rw [List.getElem?_append_right (Nat.le_refl _)] at he
      simp at he
      subst he
      simp [Array.getElem?_setIfInBounds]
      omega
    · rw [List.getElem?_append_right (by omega)] at he
      have := (List.getElem?_eq_some_iff.1 he).1
      simp at this
      omega
  · have hold := h4 i e (by omega) he
    simp only [Array.getElem?_setIfInBounds]
    repeat rw [if_neg (by omega)]
    exact hold
theorem three {cur : Array Value} {i : Nat} {e : flP.Pr} (h : ∀ (j : Nat) (v : Value), (flP.c e)[j]? = some v → cur[0 + i * 3 + j]? = some v) : cur[i * 3]? = some (.string e.k) ∧ cur[i * 3 + 1]? = some (.string e.v) ∧ cur[i * 3 + 2]? = some (.bool e.g) := by
  have h0 := h 0 _ rfl
  have h1 := h 1 _ rfl
  have h2 := h 2 _ rfl
  rw [Nat.zero_add] at h0 h1 h2
  exact ⟨h0, h1, h2⟩
theorem DR.of (h : OwnO flP.c 3 40 W g 0 bs bs.length) : DR W g bs (bs.take j) j := by
  obtain ⟨cur, h1, h2, h3⟩ := h
  refine ⟨cur, h1, by omega, fun i e he => ?_, fun i e hi he => three (h3 i e (List.getElem?_eq_some_iff.1 he).1 he)⟩
  have hi := (List.getElem?_eq_some_iff.1 he).1
  rw [List.length_take] at hi
  rw [List.getElem?_take_of_lt (by omega)] at he
  exact three (h3 i e (by omega) he)
/-- what is left when the rest of the row has been cleared -/
theorem DR.cleared (h : DR W g bs kept j) (hk : kept.length ≤ bs.length) (vs : List Value) : OwnO flP.c 3 40 (W.setCells g (kept.length * 3) vs) g 0 kept kept.length := by
  obtain ⟨cur, h1, h2, h3, _⟩ := h
  have e : ∀ (vs : List Value) (W : World) (o : Nat), W.setCells g o vs = fl.setRow W g o vs := by
    intro vs
    induction vs with
    | nil => intros; rfl
    | cons v r ih => intro W o; simp only [World.setCells, fl.setRow]; exact ih _ _
  rw [e]
  refine ⟨_, fl.setRow_heap vs W _ cur h1, by rw [fl.setArr_size]; omega, fun i f hi hf j v hv => ?_⟩
  obtain ⟨a, b, c⟩ := h3 i f hf
  match j, hv with
  | 0, hv => cases hv; rw [fl.setArr_off _ _ _ _ (.inl (by omega)), Nat.zero_add]; exact a
  | 1, hv => cases hv; rw [fl.setArr_off _ _ _ _ (.inl (by omega)), Nat.zero_add]; exact b
  | 2, hv => cases hv; rw [fl.setArr_off _ _ _ _ (.inl (by omega)), Nat.zero_add]; exact c
theorem setCells_below : ∀ (vs : List Value) (W : World) (o : Nat), B ≤ g → Below B W (W.setCells g o vs)
  | [], W, o, _ => Below.refl _ _
  | v :: r, W, o, h => ((Below.refl _ _).setCell h _).trans (setCells_below r _ _ h)
end

section
variable {w w1 w2 : World} {r : Option Nat} {g : Nat}
theorem gb_refl (w : World) (r : Option Nat) : w.grownBy w r := ⟨rfl, rfl, rfl, Nat.le_refl _, fun _ _ _ => rfl⟩
theorem gb_below (h : w.grownBy w1 r) (hb : Below w1.heap.size w1 w2) : w.grownBy w2 r := h.trans ⟨hb.os, hb.tape, hb.output, hb.size, fun k hk _ => hb.block k hk⟩
theorem gb_set (h : w.grownBy w1 (some g)) (o : Nat) (v : Value) : w.grownBy (w1.setCell ⟨g, o, none⟩ v) (some g) := by
  have hb : Below 0 w1 (w1.setCell ⟨g, o, none⟩ v) := (Below.refl 0 w1).setCell (Nat.zero_le _) v
  exact h.trans ⟨hb.os, hb.tape, hb.output, hb.size, fun k hk hne => RowKit.Below.heap_setCell _ _ _ _ (by intro e; exact hne (by rw [e]))⟩
theorem gb_sets : ∀ (vs : List Value) (w1 : World) (o : Nat), w.grownBy w1 (some g) → w.grownBy (w1.setCells g o vs) (some g)
  | [], w1, o, h => h
  | v :: r, w1, o, h => gb_sets r _ _ (gb_set h o v)
end
/-- what is left of the first j -/
def K (bs : List flP.Pr) (j : Nat) : List flP.Pr := (bs.take j).filter fun b => !b.g
theorem K_len (bs : List flP.Pr) (j : Nat) : (K bs j).length ≤ j := Nat.le_trans (List.length_filter_le _ _) (by rw [List.length_take]; omega)
theorem K_next {bs : List flP.Pr} {j : Nat} {b : flP.Pr} (h : bs[j]? = some b) : K bs (j + 1) = if b.g then K bs j else K bs j ++ [b] := by
  unfold K
  obtain ⟨hj, he⟩ := List.getElem?_eq_some_iff.1 h
  rw [List.take_succ_eq_append_getElem hj, List.filter_append, he]
  cases hm : b.g <;> simp [hm]
theorem K_first {bs : List flP.Pr} {k : Nat} (h : ∀ i b, i < k → bs[i]? = some b → b.g = false) : K bs k = bs.take k := by
  unfold K
  rw [List.filter_eq_self]
  intro b hb
  obtain ⟨i, hi⟩ := List.getElem?_of_mem hb
  have hl := (List.getElem?_eq_some_iff.1 hi).1
  rw [List.length_take] at hl
  rw [List.getElem?_take_of_lt (by omega)] at hi
  simp [h i b (by omega) hi]
theorem K_all (bs : List flP.Pr) : K bs bs.length = bs.filter fun b => !b.g := by
  unfold K
  rw [List.take_length]
theorem K_lt {bs : List flP.Pr} {k : Nat} {b : flP.Pr} (h : bs[k]? = some b) (hm : b.g = true) : ∀ m, (K bs (k + 1 + m)).length ≤ k + m
  | 0 => by
    rw [Nat.add_zero, K_next h, hm, if_pos rfl]
    have := K_len bs k
    omega
  | m + 1 => by
    have ih := K_lt h hm m
    rw [show k + 1 + (m + 1) = k + 1 + m + 1 by omega]
    cases hx : bs[k + 1 + m]? with
    | none =>
      have hle : bs.length ≤ k + 1 + m := by simpa using hx
      have : K bs (k + 1 + m + 1) = K bs (k + 1 + m) := by
        unfold K
        rw [List.take_of_length_le (by omega), List.take_of_length_le hle]
      rw [this]
      omega
    | some c =>
      rw [K_next hx]
      split
      · omega
      · simp; omega

/-- clear: the rest of the row -/
theorem run_clear (W : World) (g n c o : Nat) (ty : TypeId) (hn : 0 < n) (hc : ∀ j, j < n * 3 → (W.cell? ⟨g, o + j, none⟩).isSome = true) (hf : ∀ j, W.frozen? ⟨g, j, none⟩ = false) :
    ∃ vs, (Builtin.clear_ #[24] ty #[.slice (some ⟨g, o, none⟩) n c]).run Try.prog W = .ok (.tuple #[]) (W.setCells g o vs) := by
  have hzl : (Builtin.zeroCells #[.string ByteArray.empty, .string ByteArray.empty, .bool false] n).toList.length = n * 3 := by simp [Builtin.zeroCells]
  have hz1 : ∀ v ∈ (Builtin.zeroCells #[.string ByteArray.empty, .string ByteArray.empty, .bool false] n).toList, v.oneCell' = true := by
    intro v hv
    simp [Builtin.zeroCells] at hv
    obtain ⟨a, _, rfl⟩ := hv
    have : a % 3 < 3 := Nat.mod_lt _ (by omega)
    generalize a % 3 = r at this ⊢
    match r, this with
    | 0, _ => rfl
    | 1, _ => rfl
    | 2, _ => rfl
  have hst := run_storeCells_cells (P := Try.prog) g o (Builtin.zeroCells #[.string ByteArray.empty, .string ByteArray.empty, .bool false] n).toList 0 W (by rw [hzl]; simpa using hc) (by rw [hzl]; intro j _; exact hf _) hz1
  simp only [Nat.add_zero] at hst
  refine ⟨(Builtin.zeroCells #[.string ByteArray.empty, .string ByteArray.empty, .bool false] n).toList, ?_⟩
  obtain ⟨m, rfl⟩ : ∃ m, n = m + 1 := ⟨n - 1, by omega⟩
  have hz := Try.zeroValue40
  simp only [Builtin.clear_]
  simp [run_underlying Try.underlying24, hz]
  rw [show (Value.agg #[.string ⟨#[]⟩, .string ⟨#[]⟩, .bool false]).cells = #[.string ByteArray.empty, .string ByteArray.empty, .bool false] from rfl, hst]
  rfl

set_option maxRecDepth 100000 in
set_option maxHeartbeats 1000000 in
theorem index_func (bs : List flP.Pr) (g cap : Nat) (w : World) (hl : bs.length ≤ 1048576) (hR : Row flP.c 3 w w.heap.size (some ⟨g, 0, none⟩) bs) :
    Calls Try.prog 94 #[.slice (some ⟨g, 0, none⟩) bs.length cap, .func (.func 62) #[] #[]] w fun e w' => ∃ k : Nat, ((k = bs.length ∧ e = .returned (.int .i64 (-1))) ∨ (k < bs.length ∧ e = .returned (.int .i64 k) ∧ ∃ b, bs[k]? = some b ∧ b.g = true)) ∧ (∀ i b, i < k → bs[i]? = some b → b.g = false) ∧ Below w.heap.size w w' := by
  have HR : Hid (Row flP.c 3 w w.heap.size (some ⟨g, 0, none⟩) bs) := hR
  clear hR
  go_enter Try.func94, Try.ntmps94
  go_wp2
  go_loopw [8] (fun x wr => ∃ k : Nat, k ≤ bs.length ∧ x = .int .i64 k ∧ Hid (∀ i b, i < k → bs[i]? = some b → b.g = false) ∧ Below w.heap.size w wr) (fun x _ => bs.length - (intOf x).toNat)
  case atStart => exact ⟨0, Nat.zero_le _, rfl, fun i b hi => by omega, Below.refl _ _⟩
  case round =>
    obtain ⟨k, hk, rfl, hno, hbel⟩ := hrel
    by_cases hkl : k < bs.length
    · have HG : Hid (bs[k]? = some bs[k]) := List.getElem?_eq_getElem hkl
      obtain ⟨b', off', hbo, hglt, hcc⟩ := HR.out.resolve_left (by rintro rfl; simp at hkl)
      cases hbo
      have cc : ∀ (j : Nat) (v : Value), (flP.c bs[k])[j]? = some v → wr.cell? ⟨g, k * 3 + j, none⟩ = some v := fun j v hv => by have h1 := hcc k _ HG.out j v hv; rw [Nat.zero_add] at h1; exact (hbel.cell (p := ⟨g, k * 3 + j, none⟩) hglt).trans h1
      have c0 := cc 0 _ rfl
      have c1 := cc 1 _ rfl
      have c2 := cc 2 _ rfl
      clear cc hcc
      have hcl := closure bs[k] wr
      obtain ⟨⟨x, y, z⟩, he⟩ : ∃ e, bs[k] = e := ⟨_, rfl⟩
      rw [he] at c0 c1 c2 HG hcl
      have c0 : wr.cell? ⟨g, k * 3, none⟩ = some (.string x) := c0
      have c1 : wr.cell? ⟨g, k * 3 + 1, none⟩ = some (.string y) := c1
      have c2 : wr.cell? ⟨g, k * 3 + 2, none⟩ = some (.bool z) := c2
      have hbs := hbel.size
      clear he
      cases z with
      | true =>
        go_wp2_with (go_at_call 62; refine hcl.mono ?_; rintro e w1 ⟨rfl, hb1⟩)
        go_ret
        exact ⟨k, .inr ⟨hkl, rfl, _, HG.out, rfl⟩, hno.out, hbel.trans (hb1.mono hbs)⟩
      | false =>
        go_wp2_with (go_at_call 62; refine hcl.mono ?_; rintro e w1 ⟨rfl, hb1⟩)
        go_roundw
        case rel =>
          refine ⟨k + 1, by omega, by go_num, fun i b hi hb => ?_, hbel.trans (hb1.mono hbs)⟩
          by_cases e : i = k
          · subst e
            rw [HG.out] at hb
            cases hb
            exact rfl
          · exact hno.out i b (by omega) hb
        case measure => simp [intOf]; omega
    · obtain rfl : k = bs.length := by omega
      go_wp2
      go_ret
      exact ⟨bs.length, .inl ⟨rfl, rfl⟩, hno.out, hbel⟩

set_option maxRecDepth 100000 in
set_option maxHeartbeats 2000000 in
theorem delete_func (bs : List flP.Pr) (g cap : Nat) (w : World) (hl : bs.length ≤ 1048576) (hcap : bs.length ≤ cap) (hR : OwnO flP.c 3 40 w g 0 bs bs.length) :
    Calls Try.prog 61 #[.slice (some ⟨g, 0, none⟩) bs.length cap, .func (.func 62) #[] #[]] w fun e w' => e = .returned (.slice (some ⟨g, 0, none⟩) (bs.filter fun b => !b.g).length cap) ∧ OwnO flP.c 3 40 w' g 0 (bs.filter fun b => !b.g) (bs.filter fun b => !b.g).length ∧ w.grownBy w' (some g) := by
  have hix := index_func bs g cap w hl hR.row
  have HR : Hid (OwnO flP.c 3 40 w g 0 bs bs.length) := hR
  have hglt := hR.lt
  clear hR
  go_enter Try.func61, Try.ntmps61
  go_wp2_with (go_at_call 94; fail)
  refine hix.mono ?_
  rintro e w1 ⟨k0, hcase, hno, hb1⟩
  clear hix
  rcases hcase with ⟨rfl, rfl⟩ | ⟨hk0, rfl, hit⟩
  · have hf : (bs.filter fun b => !b.g) = bs := by
      rw [List.filter_eq_self]
      intro b hb
      obtain ⟨i, hi⟩ := List.getElem?_of_mem hb
      simp [hno i b (List.getElem?_eq_some_iff.1 hi).1 hi]
    have HF : Hid ((bs.filter fun b => !b.g) = bs) := hf
    clear hf hno
    go_wp2
    go_ret
    rw [HF.out]
    exact ⟨rfl, HR.out.below hb1 hglt, gb_below (gb_refl _ _) hb1⟩
  · have HNO : Hid (∀ i b, i < k0 → bs[i]? = some b → b.g = false) := hno
    obtain ⟨b0, hit0, hit1⟩ := hit
    have HIT : Hid (bs[k0]? = some b0 ∧ b0.g = true) := ⟨hit0, hit1⟩
    have HD0 : Hid (DR w1 g bs (K bs (k0 + 1)) (k0 + 1)) := by
      have h1 := (DR.of (j := k0) (HR.out.below hb1 hglt)).skip
      rw [← K_first hno] at h1
      have h2 := K_next hit0
      rw [hit1, if_pos rfl] at h2
      unfold Hid
      rw [h2]
      exact h1
    have HL0 : Hid ((K bs (k0 + 1)).length = k0) := by
      have h2 := K_next hit0
      rw [hit1, if_pos rfl] at h2
      unfold Hid
      rw [h2, K_first hno, List.length_take]
      omega
    have hg1 : w.grownBy w1 (some g) := gb_below (gb_refl _ _) hb1
    have HLT : Hid (∀ j, k0 + 1 ≤ j → (K bs j).length ≤ j - 1) := fun j hj => by
      have := K_lt hit0 hit1 (j - (k0 + 1))
      rw [show k0 + 1 + (j - (k0 + 1)) = j by omega] at this
      omega
    have hk1 : ((k0 : Int) == -1) = false := by simp
    clear hno hit0 hit1
    go_wp2
    clear hk1
    go_loopw [5, 6] (fun y x wr => ∃ j : Nat, k0 + 1 ≤ j ∧ j ≤ bs.length ∧ x = .int .i64 j ∧ y = .int .i64 ((K bs j).length : Nat) ∧ Hid (DR wr g bs (K bs j) j) ∧ w.grownBy wr (some g)) (fun _ x _ => bs.length - (intOf x).toNat)
    case atStart => exact ⟨k0 + 1, by omega, by omega, by go_num, by rw [HL0.out], HD0, hg1⟩
    case round =>
      obtain ⟨j, hj0, hj, rfl, rfl, hdr, hgr⟩ := hrel
      have hkl := HLT.out j hj0
      by_cases hjl : j < bs.length
      · have HG : Hid (bs[j]? = some bs[j]) := List.getElem?_eq_getElem hjl
        obtain ⟨c0, c1, c2⟩ := hdr.out.old (Nat.le_refl _) HG.out
        have HK := fun b h => K_next (bs := bs) (j := j) (b := b) h
        obtain ⟨⟨x, y, z⟩, he⟩ : ∃ e, bs[j] = e := ⟨_, rfl⟩
        rw [he] at c0 c1 c2 HG
        have HKN : Hid (K bs (j + 1) = if z then K bs j else K bs j ++ [⟨x, y, z⟩]) := HK _ HG.out
        have c0 : wr.cell? ⟨g, j * 3, none⟩ = some (.string x) := c0
        have c1 : wr.cell? ⟨g, j * 3 + 1, none⟩ = some (.string y) := c1
        have c2 : wr.cell? ⟨g, j * 3 + 2, none⟩ = some (.bool z) := c2
        have hba : Below wr.heap.size wr (wr.alloc (.cells #[.string x, .string y, .bool z] 40)) := (Below.refl _ _).alloc (Nat.le_refl _) _
        have hcl := closure ⟨x, y, z⟩ (wr.alloc (.cells #[.string x, .string y, .bool z] 40))
        have hgl := hdr.out.lt
        have HV := bnew wr #[.string x, .string y, .bool z] 40
        obtain ⟨i, hi⟩ : ∃ i, (K bs j).length = i := ⟨_, rfl⟩
        have HI : Hid ((K bs j).length = i) := hi
        rw [hi] at hkl ⊢
        have hin : (i : Int) < (bs.length : Int) := by omega
        have HVH : Hid ((wr.alloc (.cells #[.string x, .string y, .bool z] 40)).heap[wr.heap.size]? = some (.cells #[.string x, .string y, .bool z] 40 (0, 0))) := HV
        clear he hi HK HV
        cases z with
        | true =>
          go_wp2_with (go_at_call 62; refine hcl.mono ?_; rintro e w2 ⟨rfl, hb2⟩)
          go_roundw
          case rel =>
            have hx : K bs (j + 1) = K bs j := by simpa using HKN.out
            refine ⟨j + 1, by omega, by omega, by go_num, by rw [hx, HI.out], ?_, gb_below (gb_below hgr hba) hb2⟩
            unfold Hid
            rw [hx]
            exact (DR.below (DR.below hdr.out hba hgl) hb2 (by simp; omega)).skip
          case measure => simp [intOf]; omega
        | false =>
          go_wp2_with (go_at_call 62; refine hcl.mono ?_; rintro e w2 ⟨rfl, hb2⟩; have hv2 := bstay HVH.out hb2 (by simp); have d0 : w2.cell? ⟨wr.heap.size, 0, none⟩ = some (.string x) := bcell hv2 rfl; have d1 : w2.cell? ⟨wr.heap.size, 1, none⟩ = some (.string y) := bcell hv2 rfl; have d2 : w2.cell? ⟨wr.heap.size, 2, none⟩ = some (.bool false) := bcell hv2 rfl; have hd2 := DR.below (DR.below hdr.out hba hgl) hb2 (by simp; omega); obtain ⟨o0, p0⟩ := hd2.at (i * 3) (by omega); obtain ⟨o1, p1⟩ := hd2.at (i * 3 + 1) (by omega); obtain ⟨o2, p2⟩ := hd2.at (i * 3 + 2) (by omega); have z0 := hd2.free (i * 3); have z1 := hd2.free (i * 3 + 1); have z2 := hd2.free (i * 3 + 2); have HD2 : Hid (DR w2 g bs (K bs j) j) := hd2; clear hd2 hv2)
          go_roundw
          case rel =>
            have hx : K bs (j + 1) = K bs j ++ [⟨x, y, false⟩] := by simpa using HKN.out
            have hkk := HI.out
            refine ⟨j + 1, by omega, by omega, by go_num, by rw [hx]; simp [hkk], ?_, gb_set (gb_set (gb_set (gb_below (gb_below hgr hba) hb2) _ _) _ _) _ _⟩
            unfold Hid
            rw [hx]
            have := DR.keep HD2.out (by omega) hjl x y false
            rw [hkk] at this
            exact this
          case measure => simp [intOf]; omega
      · obtain rfl : j = bs.length := by omega
        obtain ⟨i, hi⟩ : ∃ i, (K bs bs.length).length = i := ⟨_, rfl⟩
        rw [hi] at hkl ⊢
        have hcd := run_clear wr g (bs.length - i) (cap - i) (i * 3)
        have HI : Hid ((K bs bs.length).length = i) := hi
        have HCL : Hid (∀ ty, ∃ vs, (Builtin.clear_ #[24] ty #[.slice (some ⟨g, i * 3, none⟩) (bs.length - i) (cap - i)]).run Try.prog wr = .ok (.tuple #[]) (wr.setCells g (i * 3) vs)) := fun ty => hcd ty (by omega) (fun t ht => by obtain ⟨v, hv⟩ := hdr.out.at (i * 3 + t) (by omega); rw [hv]; rfl) (fun t => hdr.out.free t)
        have hin : i ≤ bs.length := by omega
        obtain ⟨vs, hvs⟩ := HCL.out 0
        have HV : Hid (OwnO flP.c 3 40 (wr.setCells g (i * 3) vs) g 0 (K bs bs.length) (K bs bs.length).length) := by
          have := hdr.out.cleared (by omega) vs
          rw [hi] at this
          unfold Hid
          rw [hi]
          exact this
        have hgf : w.grownBy (wr.setCells g (i * 3) vs) (some g) := gb_sets vs wr _ hgr
        obtain ⟨WF, hWF⟩ : ∃ WF, wr.setCells g (i * 3) vs = WF := ⟨_, rfl⟩
        rw [hWF] at hvs HV hgf
        have HWF : Hid (wr.setCells g (i * 3) vs = WF) := hWF
        clear hcd hi hWF HCL
        go_wp2
        refine bodyPost_ret (v := .slice (some ⟨g, 0, none⟩) i cap) (by simp [results, Try.results61, go_sem]) rfl ?_
        rw [← K_all]
        exact ⟨by rw [HI.out], HV.out, hgf⟩
end Go.Proofs.Ytbgkccleiapkmaa.dg

/- copyTable: the same table, its pairs and runs in rows of their own; new memory alone. -/
namespace Go.Proofs.Ytbgkccleiapkmaa.cpt
open Go.ChangeShapes Go.WideShapes Go.ChangeAt Go.RowKit Go.Proofs.Ytbgkccleiapkmaa.fl Go.Proofs.Ytbgkccleiapkmaa.rn
set_option linter.unusedVariables false

/-- where the rows and the answer come to lie, and what the answer is built of -/
structure G where
  gy : Nat
  gr : Nat
  gn : Nat
  xy : Nat
  xr : Nat
def ws (s n m : Nat) (ya ra : Option Addr) (yc rc : Nat) (g : G) : List (Nat × Value) := [(6, .pointer (some ⟨s, 0, none⟩)), (7, .slice ya n yc), (8, .slice (some ⟨g.gy, 0, none⟩) n n), (9, .pointer (some ⟨s, 1, none⟩)), (10, .slice ra m rc), (11, .int .i64 m), (12, .slice (some ⟨g.gr, 0, none⟩) m m), (13, .agg #[.slice (some ⟨g.xy, 0, none⟩) n n, .slice (some ⟨g.xr, 0, none⟩) m m]), (3, .pointer (some ⟨g.gn, 0, none⟩))]
structure D (w : World) (ys : List flP.Pr) (rs : List Rn) (ya ra : Option Addr) (yc rc : Nat) (g : G) (b2 b6 b7 b8 b9 : Bool) (W : World) : Prop where
  bel : Below w.heap.size w W
  box : W.heap[w.heap.size]? = some (.cells #[.slice ya ys.length yc, .slice ra rs.length rc] 27 (0, 0))
  res : W.heap[w.heap.size + 1]? = some (.cells #[.slice none 0 0, .slice none 0 0] 27 (0, 0))
  row2 : b2 = true → Own flP.c 3 40 W g.gy ys ys.length ∧ w.heap.size + 2 ≤ g.gy
  row6 : b6 = true → OR W (w.heap.size + 2) g.gr rs.length [] ∧ w.heap.size + 2 ≤ g.gr
  at7 : b7 = true → b2 = true ∧ b6 = true ∧ g.xy = g.gy ∧ g.xr = g.gr
  at8 : b8 = true → W.heap[g.gn]? = some (.cells (if b9 then #[.slice (some ⟨g.xy, 0, none⟩) ys.length ys.length, .slice (some ⟨g.xr, 0, none⟩) rs.length rs.length] else #[.slice none 0 0, .slice none 0 0]) 27 (0, 0)) ∧ w.heap.size + 2 ≤ g.gn
  at9 : b9 = true → b7 = true ∧ b8 = true
def C (w : World) (ys : List flP.Pr) (rs : List Rn) (ya ra : Option Addr) (yc rc : Nat) (g : G) (L : Nat → Bool) (W : World) : Prop := D w ys rs ya ra yc rc g (L 2) (L 6) (L 7) (L 8) (L 9) W
section
variable {w : World} {ys : List flP.Pr} {rs : List Rn} {ya ra : Option Addr} {yc rc : Nat} {g : G} {b2 b6 b7 b8 b9 : Bool} {W W' : World}
theorem D.on (h : D w ys rs ya ra yc rc g b2 b6 b7 b8 b9 W) (hb : Below W.heap.size W W') : D w ys rs ya ra yc rc g b2 b6 b7 b8 b9 W' :=
  ⟨h.bel.trans (hb.mono h.bel.size), bstay h.box hb (Array.getElem?_eq_some_iff.1 h.box).1, bstay h.res hb (Array.getElem?_eq_some_iff.1 h.res).1, fun e => ⟨(h.row2 e).1.below hb (h.row2 e).1.lt, (h.row2 e).2⟩, fun e => ⟨(h.row6 e).1.on hb, (h.row6 e).2⟩, h.at7, fun e => ⟨bstay (h.at8 e).1 hb (Array.getElem?_eq_some_iff.1 (h.at8 e).1).1, (h.at8 e).2⟩, h.at9⟩
theorem D.size (h : D w ys rs ya ra yc rc g b2 b6 b7 b8 b9 W) : w.heap.size + 2 ≤ W.heap.size := (Array.getElem?_eq_some_iff.1 h.res).1
theorem no72 (h : D w ys rs ya ra yc rc g false b6 b7 b8 b9 W) : b7 = false := by
  cases b7 with
  | false => rfl
  | true => have := (h.at7 rfl).1; cases this
theorem no76 (h : D w ys rs ya ra yc rc g b2 false b7 b8 b9 W) : b7 = false := by
  cases b7 with
  | false => rfl
  | true => have := (h.at7 rfl).2.1; cases this
theorem no97 (h : D w ys rs ya ra yc rc g b2 b6 false b8 b9 W) : b9 = false := by
  cases b9 with
  | false => rfl
  | true => have := (h.at9 rfl).1; cases this
theorem no98 (h : D w ys rs ya ra yc rc g b2 b6 b7 false b9 W) : b9 = false := by
  cases b9 with
  | false => rfl
  | true => have := (h.at9 rfl).2; cases this
end
section
variable {w : World} {ys : List flP.Pr} {rs : List Rn} {ya ra : Option Addr} {yc rc : Nat} {act : Act} {Q : Exit → Act → World → Prop}
theorem more_on (L : Nat → Bool) (i : Nat) : dn.more L i i = true := by unfold dn.more; rw [if_pos rfl]
theorem more_off (L : Nat → Bool) {i j : Nat} (h : j ≠ i) : dn.more L i j = L j := by unfold dn.more; rw [if_neg h]
theorem quiet {i : Nat} {o : Oper} (hi : i < 2 ∨ i = 3 ∨ i = 4 ∨ i = 5) (hsel : ∀ cs b, o.op ≠ .select cs b) (v : Value) (hd : ∀ s d, o.dst = some d → (dk.sets act (ws w.heap.size ys.length rs.length ya ra yc rc s)).tmps[d]? = some v)
    (hrun : ∀ s W, W.heap[w.heap.size]? = some (.cells #[.slice ya ys.length yc, .slice ra rs.length rc] 27 (0, 0)) → (execOp (dk.sets act (ws w.heap.size ys.length rs.length ya ra yc rc s)).eval o).run Try.prog W = .ok (.value v) W) : gh.Step Try.prog (fun s => dk.sets act (ws w.heap.size ys.length rs.length ya ra yc rc s)) (C w ys rs ya ra yc rc) Q i o := by
  refine gh.step_val hsel fun s L W hdp h0 hC => ⟨s, v, gh.Agree.refl _ _, hd s, ?_⟩
  rw [hrun s W hC.box]
  refine ⟨rfl, ?_⟩
  unfold C
  rw [more_off L (show 2 ≠ i by omega), more_off L (show 6 ≠ i by omega), more_off L (show 7 ≠ i by omega), more_off L (show 8 ≠ i by omega), more_off L (show 9 ≠ i by omega)]
  exact hC
theorem st2 {o : Oper} (F : tb.Fit ys rs) (hY : Row flP.c 3 w w.heap.size ya ys) (hsz : 13 < act.tmps.size) (hsel : ∀ cs b, o.op ≠ .select cs b) (hdst : o.dst = some 8) (hrun : ∀ s W, (execOp (dk.sets act (ws w.heap.size ys.length rs.length ya ra yc rc s)).eval o).run Try.prog W = .ok (.enter 93 #[.slice ya ys.length yc]) W) : gh.Step Try.prog (fun s => dk.sets act (ws w.heap.size ys.length rs.length ya ra yc rc s)) (C w ys rs ya ra yc rc) Q 2 o := by
  refine gh.step_val hsel fun s L W hdp h0 hC => ⟨{ s with gy := W.heap.size }, .slice (some ⟨W.heap.size, 0, none⟩) ys.length ys.length, dk.agree_sets 2 8 _ hdst rfl rfl, (fun d hd => by rw [hdst] at hd; cases hd; exact dk.sets_on _ (by omega) _ rfl), ?_⟩
  rw [hrun s W]
  have hC : D w ys rs ya ra yc rc s (L 2) (L 6) (L 7) (L 8) (L 9) W := hC
  rw [h0] at hC
  refine (cpp.copy_pairs ys ya yc W F.yl F.yo (hY.inn hC.bel)).mono ?_
  rintro e w' ⟨rfl, ho, hb⟩
  refine ⟨rfl, ?_⟩
  show D w ys rs ya ra yc rc _ true (L 6) (L 7) (L 8) (L 9) _
  have h7 := no72 hC
  rw [h7] at hC
  have h9 := no97 hC
  rw [h9] at hC
  rw [h7, h9]
  have h1 := hC.on hb
  exact ⟨h1.bel, h1.box, h1.res, fun _ => ⟨ho, hC.size⟩, h1.row6, fun e => (by cases e), h1.at8, fun e => (by cases e)⟩
theorem make_R (W : World) (hl : rs.length ≤ 1048576) : (Instr.makeSlice 25 (.int .i64 (rs.length : Int)) (.int .i64 (rs.length : Int))).run Try.prog W = .ok (.slice (some ⟨W.heap.size, 0, none⟩) rs.length rs.length) (W.alloc (.cells (madeCells #[.slice none 0 0] (rs.length * 1)) 24)) := by
  obtain ⟨i0, hi, hz0, hz1, hz2⟩ := ly.infoR
  have hmk := run_makeSlice (P := Try.prog) W 25 24 i0 _ Try.underlying25 hi hz0 .i64 .i64 (rs.length : Int) (rs.length : Int) (by omega) (Int.le_refl _) (by rw [hz1]; simp; omega) (by rw [hz2]; omega) (by omega)
  rw [hz1, show ((rs.length : Int)).toNat = rs.length by omega] at hmk
  exact hmk
theorem made_R (W : World) (B : Nat) : OR (W.alloc (.cells (madeCells #[.slice none 0 0] (rs.length * 1)) 24)) B W.heap.size rs.length [] := ⟨⟨_, bnew W _ _, by rw [size_madeCells, Nat.mul_one], fun i r hr => by simp at hr⟩, fun i r hr => by simp at hr, fun i j r s _ hr => by simp at hr⟩
theorem st6 {o : Oper} (F : tb.Fit ys rs) (hsz : 13 < act.tmps.size) (hop : o.op = .makeSlice 25 (.tmp 11) (.tmp 11)) (hdst : o.dst = some 12) : gh.Step Try.prog (fun s => dk.sets act (ws w.heap.size ys.length rs.length ya ra yc rc s)) (C w ys rs ya ra yc rc) Q 6 o := by
  refine gh.step_val (by rw [hop]; simp) fun s L W hdp h0 hC => ⟨{ s with gr := W.heap.size }, .slice (some ⟨W.heap.size, 0, none⟩) rs.length rs.length, dk.agree_sets 6 12 _ hdst rfl rfl, (fun d hd => by rw [hdst] at hd; cases hd; exact dk.sets_on _ (by omega) _ rfl), ?_⟩
  have e11 : (dk.sets act (ws w.heap.size ys.length rs.length ya ra yc rc s)).tmps[11]? = some (.int .i64 rs.length) := dk.sets_on _ (by omega) _ rfl
  have hm := make_R (rs := rs) W F.rl
  have hrun : (execOp (dk.sets act (ws w.heap.size ys.length rs.length ya ra yc rc s)).eval o).run Try.prog W = .ok (.value (.slice (some ⟨W.heap.size, 0, none⟩) rs.length rs.length)) (W.alloc (.cells (madeCells #[.slice none 0 0] (rs.length * 1)) 24)) := by
    simp [execOp, hop, Act.eval, e11, hm, Result.andThen]
  rw [hrun]
  refine ⟨rfl, ?_⟩
  have hC : D w ys rs ya ra yc rc s (L 2) (L 6) (L 7) (L 8) (L 9) W := hC
  rw [h0] at hC
  show D w ys rs ya ra yc rc _ (L 2) true (L 7) (L 8) (L 9) _
  have h7 := no76 hC
  rw [h7] at hC
  have h9 := no97 hC
  rw [h9] at hC
  rw [h7, h9]
  have h1 := hC.on ((Below.refl _ _).alloc (Nat.le_refl _) (.cells (madeCells #[.slice none 0 0] (rs.length * 1)) 24))
  exact ⟨h1.bel, h1.box, h1.res, h1.row2, fun _ => ⟨made_R W _, hC.size⟩, fun e => (by cases e), h1.at8, fun e => (by cases e)⟩
theorem st7 {o : Oper} (hsz : 13 < act.tmps.size) (hop : o.op = .build 27 #[(0, .tmp 8), (1, .tmp 12)]) (hdst : o.dst = some 13) (hd2 : ∃ e ∈ o.after, Region.binds .any e = true ∧ e.on = 2) (hd6 : ∃ e ∈ o.after, Region.binds .any e = true ∧ e.on = 6) : gh.Step Try.prog (fun s => dk.sets act (ws w.heap.size ys.length rs.length ya ra yc rc s)) (C w ys rs ya ra yc rc) Q 7 o := by
  refine gh.step_val (by rw [hop]; simp) fun s L W hdp h0 hC => ⟨{ s with xy := s.gy, xr := s.gr }, .agg #[.slice (some ⟨s.gy, 0, none⟩) ys.length ys.length, .slice (some ⟨s.gr, 0, none⟩) rs.length rs.length], dk.agree_sets 7 13 _ hdst rfl rfl, (fun d hd => by rw [hdst] at hd; cases hd; exact dk.sets_on _ (by omega) _ rfl), ?_⟩
  obtain ⟨x2, m2, y2, z2⟩ := hd2
  have l2 := hdp x2 m2 y2
  rw [z2] at l2
  obtain ⟨x6, m6, y6, z6⟩ := hd6
  have l6 := hdp x6 m6 y6
  rw [z6] at l6
  have e8 : (dk.sets act (ws w.heap.size ys.length rs.length ya ra yc rc s)).tmps[8]? = some (.slice (some ⟨s.gy, 0, none⟩) ys.length ys.length) := dk.sets_on _ (by omega) _ rfl
  have e12 : (dk.sets act (ws w.heap.size ys.length rs.length ya ra yc rc s)).tmps[12]? = some (.slice (some ⟨s.gr, 0, none⟩) rs.length rs.length) := dk.sets_on _ (by omega) _ rfl
  have hrun : (execOp (dk.sets act (ws w.heap.size ys.length rs.length ya ra yc rc s)).eval o).run Try.prog W = .ok (.value (.agg #[.slice (some ⟨s.gy, 0, none⟩) ys.length ys.length, .slice (some ⟨s.gr, 0, none⟩) rs.length rs.length])) W := by
    simp [execOp, hop, e8, e12, go_sem]
  rw [hrun]
  refine ⟨rfl, ?_⟩
  have hC : D w ys rs ya ra yc rc s (L 2) (L 6) (L 7) (L 8) (L 9) W := hC
  rw [h0] at hC
  show D w ys rs ya ra yc rc _ (L 2) (L 6) true (L 8) (L 9) _
  have h9 := no97 hC
  rw [h9] at hC ⊢
  exact ⟨hC.bel, hC.box, hC.res, hC.row2, hC.row6, fun _ => ⟨l2, l6, rfl, rfl⟩, hC.at8, fun e => (by cases e)⟩
theorem st8 {o : Oper} (hsz : 13 < act.tmps.size) (hop : o.op = .alloc 27) (hdst : o.dst = some 3) (hrun : ∀ s W, (execOp (dk.sets act (ws w.heap.size ys.length rs.length ya ra yc rc s)).eval o).run Try.prog W = .ok (.value (.pointer (some ⟨W.heap.size, 0, none⟩))) (W.alloc (.cells #[.slice none 0 0, .slice none 0 0] 27))) : gh.Step Try.prog (fun s => dk.sets act (ws w.heap.size ys.length rs.length ya ra yc rc s)) (C w ys rs ya ra yc rc) Q 8 o := by
  refine gh.step_val (by rw [hop]; simp) fun s L W hdp h0 hC => ⟨{ s with gn := W.heap.size }, .pointer (some ⟨W.heap.size, 0, none⟩), dk.agree_sets 8 3 _ hdst rfl rfl, (fun d hd => by rw [hdst] at hd; cases hd; exact dk.sets_on _ (by omega) _ rfl), ?_⟩
  rw [hrun]
  refine ⟨rfl, ?_⟩
  have hC : D w ys rs ya ra yc rc s (L 2) (L 6) (L 7) (L 8) (L 9) W := hC
  rw [h0] at hC
  show D w ys rs ya ra yc rc _ (L 2) (L 6) (L 7) true (L 9) _
  have h9 := no98 hC
  rw [h9] at hC ⊢
  have h1 := hC.on ((Below.refl _ _).alloc (Nat.le_refl _) (.cells #[.slice none 0 0, .slice none 0 0] 27))
  exact ⟨h1.bel, h1.box, h1.res, h1.row2, h1.row6, h1.at7, fun _ => ⟨bnew W _ _, hC.size⟩, fun e => (by cases e)⟩
theorem st9 {o : Oper} (hsz : 13 < act.tmps.size) (hop : o.op = .store 27 (.tmp 3) (.tmp 13)) (hdst : o.dst = none) (hd7 : ∃ e ∈ o.after, Region.binds .any e = true ∧ e.on = 7) (hd8 : ∃ e ∈ o.after, Region.binds .any e = true ∧ e.on = 8) : gh.Step Try.prog (fun s => dk.sets act (ws w.heap.size ys.length rs.length ya ra yc rc s)) (C w ys rs ya ra yc rc) Q 9 o := by
  refine gh.step_val (by rw [hop]; simp) fun s L W hdp h0 hC => ⟨s, undef, gh.Agree.refl _ _, (fun d hd => by rw [hdst] at hd; cases hd), ?_⟩
  obtain ⟨x7, m7, y7, z7⟩ := hd7
  have l7 := hdp x7 m7 y7
  rw [z7] at l7
  obtain ⟨x8, m8, y8, z8⟩ := hd8
  have l8 := hdp x8 m8 y8
  rw [z8] at l8
  have hC : D w ys rs ya ra yc rc s (L 2) (L 6) (L 7) (L 8) (L 9) W := hC
  rw [h0] at hC
  obtain ⟨l2, l6, hxy, hxr⟩ := hC.at7 l7
  obtain ⟨hb8, hg8⟩ := hC.at8 l8
  have e3 : (dk.sets act (ws w.heap.size ys.length rs.length ya ra yc rc s)).tmps[3]? = some (.pointer (some ⟨s.gn, 0, none⟩)) := dk.sets_on _ (by omega) _ rfl
  have e13 : (dk.sets act (ws w.heap.size ys.length rs.length ya ra yc rc s)).tmps[13]? = some (.agg #[.slice (some ⟨s.xy, 0, none⟩) ys.length ys.length, .slice (some ⟨s.xr, 0, none⟩) rs.length rs.length]) := dk.sets_on _ (by omega) _ rfl
  have c0 : W.cell? ⟨s.gn, 0, none⟩ = some (.slice none 0 0) := bcell hb8 rfl
  have c1 : W.cell? ⟨s.gn, 1, none⟩ = some (.slice none 0 0) := bcell hb8 rfl
  have f0 := bfree hb8 0
  have f1 := bfree hb8 1
  have hrun : (execOp (dk.sets act (ws w.heap.size ys.length rs.length ya ra yc rc s)).eval o).run Try.prog W = .ok .skip ((W.setCell ⟨s.gn, 0, none⟩ (.slice (some ⟨s.xy, 0, none⟩) ys.length ys.length)).setCell ⟨s.gn, 1, none⟩ (.slice (some ⟨s.xr, 0, none⟩) rs.length rs.length)) := by
    simp [execOp, hop, e3, e13, go_sem, c0, c1, f0, f1]
  rw [hrun]
  refine ⟨rfl, ?_⟩
  show D w ys rs ya ra yc rc _ (L 2) (L 6) (L 7) (L 8) true _
  have hny : s.gy ≠ s.gn := own_ne (by decide) (hC.row2 l2).1 hb8
  have hnr : s.gr ≠ s.gn := by
    rintro e
    obtain ⟨cur, hcur, _⟩ := (hC.row6 l6).1.blk
    rw [e, hb8] at hcur
    simp at hcur
  refine ⟨(hC.bel.setCell (by show w.heap.size ≤ s.gn; omega) _).setCell (by show w.heap.size ≤ s.gn; omega) _, boff (boff hC.box _ _ _ (by omega)) _ _ _ (by omega), boff (boff hC.res _ _ _ (by omega)) _ _ _ (by omega), fun e => ⟨((hC.row2 e).1.kept (Below.heap_setCell _ _ _ _ hny)).kept (Below.heap_setCell _ _ _ _ hny), (hC.row2 e).2⟩, fun e => ⟨?_, (hC.row6 e).2⟩, hC.at7, fun _ => ⟨bset (bset hb8 0 _) 1 _, hg8⟩, fun _ => ⟨l7, l8⟩⟩
  obtain ⟨cur, h1, h2⟩ := (hC.row6 e).1.blk
  exact ⟨⟨cur, boff (boff h1 _ _ _ hnr) _ _ _ hnr, h2⟩, fun i r hr => by simp at hr, fun i j r s _ hr => by simp at hr⟩
end
/-- what stands in the loop: the first k runs are laid -/
structure I (w : World) (ys : List flP.Pr) (rs : List Rn) (ya ra : Option Addr) (yc rc : Nat) (gy gr gn k : Nat) (ks : List Rn) (W : World) : Prop where
  bel : Below w.heap.size w W
  box : W.heap[w.heap.size]? = some (.cells #[.slice ya ys.length yc, .slice ra rs.length rc] 27 (0, 0))
  res : W.heap[w.heap.size + 1]? = some (.cells #[.slice none 0 0, .slice none 0 0] 27 (0, 0))
  gnb : W.heap[gn]? = some (.cells #[.slice (some ⟨gy, 0, none⟩) ys.length ys.length, .slice (some ⟨gr, 0, none⟩) rs.length rs.length] 27 (0, 0))
  own : Own flP.c 3 40 W gy ys ys.length
  orr : OR W (w.heap.size + 2) gr rs.length ks
  map : ks.map (·.l) = (rs.take k).map (·.l)
  ne : ∀ (i : Nat) r, ks[i]? = some r → r.a ≠ some ⟨gy, 0, none⟩
  hy : w.heap.size + 2 ≤ gy
  hr : w.heap.size + 2 ≤ gr
  hn : w.heap.size + 2 ≤ gn
section
variable {w : World} {ys : List flP.Pr} {rs : List Rn} {ya ra : Option Addr} {yc rc : Nat} {gy gr gn k : Nat} {ks : List Rn} {W W' : World}
theorem I.on (h : I w ys rs ya ra yc rc gy gr gn k ks W) (hb : Below W.heap.size W W') : I w ys rs ya ra yc rc gy gr gn k ks W' :=
  ⟨h.bel.trans (hb.mono h.bel.size), bstay h.box hb (Array.getElem?_eq_some_iff.1 h.box).1, bstay h.res hb (Array.getElem?_eq_some_iff.1 h.res).1, bstay h.gnb hb (Array.getElem?_eq_some_iff.1 h.gnb).1, h.own.below hb h.own.lt, h.orr.on hb, h.map, h.ne, h.hy, h.hr, h.hn⟩
theorem I.gr_ne (h : I w ys rs ya ra yc rc gy gr gn k ks W) : gr ≠ gn ∧ gr ≠ gy ∧ gr < W.heap.size := by
  obtain ⟨cur, hc, _⟩ := h.orr.blk
  refine ⟨?_, ?_, (Array.getElem?_eq_some_iff.1 hc).1⟩
  · rintro rfl
    rw [h.gnb] at hc
    simp at hc
  · rintro rfl
    exact own_ne (by decide) h.own hc rfl
/-- one run more -/
theorem I.more {r : Rn} {W0 : World} (h0 : I w ys rs ya ra yc rc gy gr gn k ks W0) (hb : Below W0.heap.size W0 W) (hk : rs[k]? = some r) (ho : Own flP.c 3 40 W W0.heap.size r.l r.l.length) : I w ys rs ya ra yc rc gy gr gn (k + 1) (ks ++ [⟨some ⟨W0.heap.size, 0, none⟩, r.l.length, r.l⟩]) (W.setCell ⟨gr, k, none⟩ (.slice (some ⟨W0.heap.size, 0, none⟩) r.l.length r.l.length)) := by
  have h := h0.on hb
  obtain ⟨n1, n2, _⟩ := h.gr_ne
  have hlen : ks.length = k := by have h1 := congrArg List.length h.map; have := (List.getElem?_eq_some_iff.1 hk).1; simp at h1; omega
  have hsz : w.heap.size + 2 ≤ W0.heap.size := (Array.getElem?_eq_some_iff.1 h0.res).1
  have hyl := h0.own.lt
  have hr := h.hr
  have hmore := h.orr.more ho hsz (fun i r2 k2 hr2 ha => by
    obtain ⟨h3, e1, _, _, e4⟩ := h0.orr.own i r2 hr2
    rw [e1] at ha
    have := Addr.mk.inj (Option.some.inj ha)
    have := e4.lt
    omega) (by rw [hlen]; exact (List.getElem?_eq_some_iff.1 hk).1)
  rw [hlen] at hmore
  refine ⟨h.bel.setCell (by show w.heap.size ≤ gr; omega) _, boff h.box _ _ _ (by omega), boff h.res _ _ _ (by omega), boff h.gnb _ _ _ (Ne.symm n1), h.own.kept (Below.heap_setCell _ _ _ _ (Ne.symm n2)), hmore, ?_, fun i r2 hr2 => ?_, h.hy, h.hr, h.hn⟩
  · rw [List.map_append, h.map, List.take_add_one, hk]
    simp
  · by_cases e : i < ks.length
    · rw [List.getElem?_append_left e] at hr2
      exact h.ne i r2 hr2
    · have hlt := (List.getElem?_eq_some_iff.1 hr2).1
      rw [List.length_append, List.length_singleton] at hlt
      obtain rfl : i = ks.length := by omega
      rw [List.getElem?_append_right (Nat.le_refl _)] at hr2
      simp at hr2
      subst hr2
      intro e2
      have := Addr.mk.inj (Option.some.inj e2)
      omega
end

set_option maxRecDepth 100000 in
set_option maxHeartbeats 2000000 in
theorem copy_table (ys : List flP.Pr) (rs : List Rn) (ya ra : Option Addr) (yc rc : Nat) (w : World) (F : tb.Fit ys rs) (hY : Row flP.c 3 w w.heap.size ya ys) (hR : VR w w.heap.size ra rs) :
    Calls Try.prog 60 #[.agg #[.slice ya ys.length yc, .slice ra rs.length rc]] w fun e w' => ∃ g h ks, e = .returned (.agg #[.slice (some ⟨g, 0, none⟩) ys.length ys.length, .slice (some ⟨h, 0, none⟩) rs.length rs.length]) ∧ ks.map (·.l) = rs.map (·.l) ∧ w.heap.size + 2 ≤ g ∧ w.heap.size + 2 ≤ h ∧
      Own flP.c 3 40 w' g ys ys.length ∧ OR w' (w.heap.size + 2) h rs.length ks ∧ (∀ (i : Nat) r, ks[i]? = some r → r.a ≠ some ⟨g, 0, none⟩) ∧ Below w.heap.size w w' := by
  have h0 : D w ys rs ya ra yc rc ⟨0, 0, 0, 0, 0⟩ false false false false false ((w.alloc (.cells #[.slice ya ys.length yc, .slice ra rs.length rc] 27)).alloc (.cells #[.slice none 0 0, .slice none 0 0] 27)).drew := by
    refine ⟨(((Below.refl _ _).alloc (Nat.le_refl _) _).alloc (by simp) _).drew, bold (bnew w _ _) _, ?_, by simp, by simp, by simp, by simp, by simp⟩
    have := bnew (w.alloc (.cells #[.slice ya ys.length yc, .slice ra rs.length rc] 27)) #[.slice none 0 0, .slice none 0 0] 27
    rw [World.size_alloc] at this
    exact this
  have HY : Hid (Row flP.c 3 w w.heap.size ya ys) := hY
  have HR : Hid (VR w w.heap.size ra rs) := hR
  have HF : Hid (tb.Fit ys rs) := F
  have hrl := F.rl
  clear hY hR F
  go_enter Try.func60, Try.ntmps60
  go_wp2
  refine dk.region_gsets (ws w.heap.size ys.length rs.length ya ra yc rc) [6, 7, 8, 9, 10, 11, 12, 13, 3] (C w ys rs ya ra yc rc) ⟨0, 0, 0, 0, 0⟩ (by kernel_rfl) (by kernel_rfl) (fun _ => rfl) (by kernel_rfl) h0 ?each ?fin
  case each =>
    refine ⟨quiet (by decide) (by simp) (.pointer (some ⟨w.heap.size, 0, none⟩)) (by rintro s _ ⟨⟩; exact dk.sets_on _ (by simp) _ rfl) (fun s W h => by simp [execOp, go_sem, Act.eval, dk.sets_get, ws, List.lookup]), ?_⟩
    refine ⟨quiet (by decide) (by simp) (.slice ya ys.length yc) (by rintro s _ ⟨⟩; exact dk.sets_on _ (by simp) _ rfl) (fun s W h => by have c : W.cell? ⟨w.heap.size, 0, none⟩ = some (.slice ya ys.length yc) := bcell h rfl; simp [execOp, go_sem, Act.eval, dk.sets_get, ws, List.lookup, c]), ?_⟩
    refine ⟨st2 HF.out HY.out (by simp) (by simp) rfl (fun s W => by simp [go_sem, Act.eval, dk.sets_get, ws, List.lookup]), ?_⟩
    refine ⟨quiet (by decide) (by simp) (.pointer (some ⟨w.heap.size, 1, none⟩)) (by rintro s _ ⟨⟩; exact dk.sets_on _ (by simp) _ rfl) (fun s W h => by simp [execOp, go_sem, Act.eval, dk.sets_get, ws, List.lookup]), ?_⟩
    refine ⟨quiet (by decide) (by simp) (.slice ra rs.length rc) (by rintro s _ ⟨⟩; exact dk.sets_on _ (by simp) _ rfl) (fun s W h => by have c : W.cell? ⟨w.heap.size, 1, none⟩ = some (.slice ra rs.length rc) := bcell h rfl; simp [execOp, go_sem, Act.eval, dk.sets_get, ws, List.lookup, c]), ?_⟩
    refine ⟨quiet (by decide) (by simp) (.int .i64 rs.length) (by rintro s _ ⟨⟩; exact dk.sets_on _ (by simp) _ rfl) (fun s W h => by simp [go_sem, Act.eval, dk.sets_get, ws, List.lookup]), ?_⟩
    exact ⟨st6 HF.out (by simp) rfl rfl, st7 (by simp) rfl rfl ⟨⟨2, .data⟩, by simp, rfl, rfl⟩ ⟨⟨6, .data⟩, by simp, rfl, rfl⟩, st8 (by simp) rfl rfl (fun s W => by simp [execOp, go_sem]), st9 (by simp) rfl rfl ⟨⟨7, .data⟩, by simp, rfl, rfl⟩ ⟨⟨8, .data⟩, by simp, rfl, rfl⟩, trivial⟩
  case fin =>
    intro g L W hL hC
    have hD : D w ys rs ya ra yc rc g true true true true true W := by
      have h : D w ys rs ya ra yc rc g (L 2) (L 6) (L 7) (L 8) (L 9) W := hC
      rw [hL 2 (by decide), hL 6 (by decide), hL 7 (by decide), hL 8 (by decide), hL 9 (by decide)] at h
      exact h
    obtain ⟨_, _, hxy, hxr⟩ := hD.at7 rfl
    obtain ⟨hb8, hg8⟩ := hD.at8 rfl
    obtain ⟨gy, gr, gn, xy, xr⟩ := g
    simp only at hxy hxr
    have hxy' := hxy.symm
    have hxr' := hxr.symm
    subst hxy' hxr'
    have hI : I w ys rs ya ra yc rc gy gr gn 0 [] W := ⟨hD.bel, hD.box, hD.res, hb8, (hD.row2 rfl).1, (hD.row6 rfl).1, by simp, fun i r hr => by simp at hr, (hD.row2 rfl).2, (hD.row6 rfl).2, hg8⟩
    have HI : Hid (I w ys rs ya ra yc rc gy gr gn 0 [] W) := hI
    have x1 : W.cell? ⟨w.heap.size, 1, none⟩ = some (.slice ra rs.length rc) := bcell hI.box rfl
    simp only [dk.sets, ws]
    clear hD hC hL h0 hb8 hg8 hI
    go_wp2
    go_loopw [4, 5, 17] (fun _ _ x wr => ∃ (k : Nat) (ks : List Rn), k ≤ rs.length ∧ x = .int .i64 k ∧ Hid (I w ys rs ya ra yc rc gy gr gn k ks wr)) (fun _ _ x _ => rs.length - (intOf x).toNat)
    case atStart => exact ⟨0, [], Nat.zero_le _, rfl, HI⟩
    case round =>
      obtain ⟨k, ks, hk, rfl, hinv⟩ := hrel
      clear HI x1
      by_cases hkl : k < rs.length
      · have hvr := HR.out.inn hinv.out.bel
        rcases hvr.1 with h0 | ⟨b, off, hra, hlt, hc⟩
        · rw [h0] at hkl; simp at hkl
        subst hra
        have HG : Hid (rs[k]? = some rs[k]) := List.getElem?_eq_getElem hkl
        have hrow := hvr.2 rs[k] (List.getElem_mem hkl)
        have hfr := HF.out.ro rs[k] (List.getElem_mem hkl)
        obtain ⟨⟨qa, qc, ql⟩, he⟩ : ∃ e, rs[k] = e := ⟨_, rfl⟩
        rw [he] at HG hrow hfr
        have c0 : wr.cell? ⟨b, off + k, none⟩ = some (.slice qa ql.length qc) := by have := hc k _ HG.out 0 _ rfl; simpa using this
        have n1 : wr.cell? ⟨gn, 1, none⟩ = some (.slice (some ⟨gr, 0, none⟩) rs.length rs.length) := bcell hinv.out.gnb rfl
        have hone := cpp.copy_pairs ql qa qc wr.drew hfr.1 hfr.2 (hrow.inn (Below.refl _ _).drew)
        have i2 : (k : Int) < (rs.length : Int) := by omega
        clear hvr hc he hrow hfr
        go_wp2
        go_region_with (go_at_call 93; refine hone.mono ?_; rintro e w1 ⟨rfl, ho1, hb1⟩; have hb1' : Below wr.heap.size wr w1 := (Below.refl _ _).drew.trans hb1; have hm := hinv.out.more hb1' HG.out ho1; have n2 : w1.cell? ⟨gn, 1, none⟩ = some (.slice (some ⟨gr, 0, none⟩) rs.length rs.length) := bcell (hinv.out.on hb1').gnb rfl; obtain ⟨cur, a1, a2, _⟩ := (hinv.out.on hb1').orr.blk; have g0 : ∃ v, w1.cell? ⟨gr, k, none⟩ = some v := ⟨_, bcell a1 (Array.getElem?_eq_getElem (by omega))⟩; obtain ⟨v0, g0⟩ := g0; have z0 := bfree a1 k; have HN : Hid (I w ys rs ya (some ⟨b, off, none⟩) yc rc gy gr gn (k + 1) (ks ++ [⟨some ⟨wr.heap.size, 0, none⟩, ql.length, ql⟩]) (w1.setCell ⟨gr, k, none⟩ (.slice (some ⟨wr.heap.size, 0, none⟩) ql.length ql.length))) := hm; clear hm a1 a2 ho1)
        all_goals go_wp2
        all_goals go_roundw
        all_goals first | exact ⟨k + 1, _, by omega, by go_num, HN⟩ | (simp [intOf]; omega)
      · obtain rfl : k = rs.length := by omega
        have u0 : wr.cell? ⟨gn, 0, none⟩ = some (.slice (some ⟨gy, 0, none⟩) ys.length ys.length) := bcell hinv.out.gnb rfl
        have u1 : wr.cell? ⟨gn, 1, none⟩ = some (.slice (some ⟨gr, 0, none⟩) rs.length rs.length) := bcell hinv.out.gnb rfl
        have r0 : wr.cell? ⟨w.heap.size + 1, 0, none⟩ = some (.slice none 0 0) := bcell hinv.out.res rfl
        have r1 : wr.cell? ⟨w.heap.size + 1, 1, none⟩ = some (.slice none 0 0) := bcell hinv.out.res rfl
        have f0 := bfree hinv.out.res 0
        have f1 := bfree hinv.out.res 1
        have hy2 := hinv.out.hy
        have hr2 := hinv.out.hr
        clear hkl hk
        go_wp2
        refine bodyPost_ret (v := .agg #[.slice (some ⟨gy, 0, none⟩) ys.length ys.length, .slice (some ⟨gr, 0, none⟩) rs.length rs.length]) (by simp [results, Try.results60, go_sem, r0, r1]) rfl ⟨gy, gr, ks, rfl, by rw [hinv.out.map, List.take_length], hy2, hr2, ?_, ?_, hinv.out.ne, ?_⟩
        · exact (hinv.out.own.kept (Below.heap_setCell _ _ _ _ (show gy ≠ w.heap.size + 1 by omega))).kept (Below.heap_setCell _ _ _ _ (show gy ≠ w.heap.size + 1 by omega))
        · exact (hinv.out.orr.set (show w.heap.size + 1 < w.heap.size + 2 by omega) (by omega) _ _).set (show w.heap.size + 1 < w.heap.size + 2 by omega) (by omega) _ _
        · exact (hinv.out.bel.setCell (Nat.le_succ _) _).setCell (Nat.le_succ _) _
end Go.Proofs.Ytbgkccleiapkmaa.cpt

/- The program's TableMerge: what it stands on. -/
namespace Go.Proofs.Ytbgkccleiapkmaa.mgi
open Go.ChangeShapes Go.WideShapes Go.ChangeAt Go.RowKit Go.Proofs.Ytbgkccleiapkmaa.fl Go.Proofs.Ytbgkccleiapkmaa.fo Go.Proofs.Ytbgkccleiapkmaa.rn Go.Proofs.Ytbgkccleiapkmaa.tk Go.Proofs.Ytbgkccleiapkmaa.tko Go.Proofs.Ytbgkccleiapkmaa.tan Go.Proofs.Ytbgkccleiapkmaa.mga Go.Proofs.Ytbgkccleiapkmaa.mgd Go.Proofs.Ytbgkccleiapkmaa.sci
set_option linter.unusedVariables false

theorem as_rv {w : World} {B : Nat} {v : Value} {l : List flP.Pr} (h : w.ownsRow B 40 3 v l.length (l.flatMap flP.c)) : ∃ qa qc, v = .slice qa l.length qc ∧ RV w B ⟨qa, qc, l⟩ := by
  have h' := h
  obtain ⟨h0, ⟨rfl, h1⟩ | ⟨g, cap, cur, rfl, hB, hg, h4⟩⟩ := h
  · obtain rfl : l = [] := List.eq_nil_of_length_eq_zero h1
    exact ⟨none, 0, rfl, .inl rfl⟩
  · exact ⟨_, cap, rfl, .inr ⟨g, rfl, hB, owns_ownO flP.c_len h'⟩⟩
set_option maxRecDepth 100000 in
theorem index_nil (w : World) :
    Calls Try.prog 94 #[.slice none 0 0, .func (.func 62) #[] #[]] w fun e w' => e = .returned (.int .i64 (-1)) ∧ w' = w := by
  go_enter Try.func94, Try.ntmps94
  go_wp2
  go_loopw [8] (fun x wr => x = .int .i64 0 ∧ wr = w) (fun _ _ => 0)
  case atStart => exact ⟨rfl, rfl⟩
  case round =>
    obtain ⟨rfl, hw⟩ := hrel
    obtain rfl := hw.symm
    go_wp2
    go_ret
    exact ⟨rfl, rfl⟩
set_option maxRecDepth 100000 in
theorem delete_nil (w : World) :
    Calls Try.prog 61 #[.slice none 0 0, .func (.func 62) #[] #[]] w fun e w' => e = .returned (.slice none 0 0) ∧ w' = w := by
  have hix := index_nil w
  go_enter Try.func61, Try.ntmps61
  go_wp2_with (go_at_call 94; fail)
  refine hix.mono ?_
  rintro e w0 ⟨rfl, hw0⟩
  obtain rfl := hw0.symm
  go_wp2
  go_ret
  exact ⟨rfl, rfl⟩
theorem delete_any (bs : List flP.Pr) (v : Value) (B : Nat) (w : World) (hl : bs.length ≤ 1048576) (ho : w.ownsRow B 40 3 v bs.length (bs.flatMap flP.c)) :
    Calls Try.prog 61 #[v, .func (.func 62) #[] #[]] w fun e w' => ∃ qa qc, e = .returned (.slice qa (bs.filter fun b => !b.g).length qc) ∧ RV w' B ⟨qa, qc, bs.filter fun b => !b.g⟩ ∧ Below B w w' := by
  have h' := ho
  obtain ⟨h0, ⟨rfl, h1⟩ | ⟨g, cap, cur, rfl, hB, hg, h4, h5⟩⟩ := ho
  · obtain rfl : bs = [] := List.eq_nil_of_length_eq_zero h1
    refine (delete_nil w).mono ?_
    rintro e w' ⟨rfl, rfl⟩
    exact ⟨none, 0, rfl, .inl rfl, Below.refl _ _⟩
  · refine (dg.delete_func bs g cap w hl h4 (owns_ownO flP.c_len h')).mono ?_
    rintro e w' ⟨rfl, ho', hgr⟩
    exact ⟨_, cap, rfl, .inr ⟨g, rfl, hB, ho'⟩, ⟨hgr.os, hgr.tape, hgr.output, hgr.size, fun k hk => hgr.block k (Nat.lt_of_lt_of_le hk (Nat.le_trans hB (Nat.le_of_lt (Array.getElem?_eq_some_iff.1 hg).1))) (fun e => by have := Option.some.inj e; omega)⟩⟩

theorem at_new {ks : List Rn} {x r : Rn} {i j : Nat} (hi : i + 2 ≤ ks.length) (h : (ks.take i ++ x :: ks.drop (i + 2))[j]? = some r) : (j < i ∧ ks[j]? = some r) ∨ (j = i ∧ r = x) ∨ (i < j ∧ ks[j + 1]? = some r) := by
  have hl : (ks.take i).length = i := by rw [List.length_take]; omega
  rcases Nat.lt_trichotomy j i with hj | hj | hj
  · rw [List.getElem?_append_left (by omega), List.getElem?_take, if_pos hj] at h
    exact .inl ⟨hj, h⟩
  · subst hj
    rw [List.getElem?_append_right (by omega), hl, Nat.sub_self] at h
    simp at h
    exact .inr (.inl ⟨rfl, h.symm⟩)
  · rw [List.getElem?_append_right (by omega), hl, show j - i = (j - i - 1) + 1 by omega, List.getElem?_cons_succ, List.getElem?_drop] at h
    refine .inr (.inr ⟨hj, ?_⟩)
    rw [← h]
    congr 1
    omega
/-- what stands when the two runs are one -/
structure NM (w : World) (BX : Array Value) (B n4 g h n : Nat) (ys : List flP.Pr) (ks : List Rn) (X : World) : Prop where
  bel : Below w.heap.size w X
  box : X.heap[w.heap.size]? = some (.cells BX 27 (0, 0))
  res : X.heap[w.heap.size + 1]? = some (.cells #[.slice none 0 0, .slice none 0 0] 27 (0, 0))
  out : X.heap[n4]? = some (.cells #[.slice (some ⟨g, 0, none⟩) ys.length ys.length, .slice (some ⟨h, 0, none⟩) (n - 1) n] 27 (0, 0))
  ta : TA X B (some ⟨g, 0, none⟩) (some ⟨h, 0, none⟩) ys ks
theorem NM.on {w X X' : World} {BX : Array Value} {B n4 g h n : Nat} {ys : List flP.Pr} {ks : List Rn} (hx : NM w BX B n4 g h n ys ks X) (hb : Below X.heap.size X X') : NM w BX B n4 g h n ys ks X' :=
  ⟨hx.bel.trans (hb.mono hx.bel.size), bstay hx.box hb (Array.getElem?_eq_some_iff.1 hx.box).1, bstay hx.res hb (Array.getElem?_eq_some_iff.1 hx.res).1, bstay hx.out hb (Array.getElem?_eq_some_iff.1 hx.out).1, hx.ta.on hb⟩
theorem nm_of {w W4 w6 w7 : World} {BX : Array Value} {B n4 g h n i qc : Nat} {qa : Option Addr} {ks : List Rn} {ys m : List flP.Pr} (h0 : Below w.heap.size w W4) (hA : W4.heap[w.heap.size]? = some (.cells BX 27 (0, 0))) (hR : W4.heap[w.heap.size + 1]? = some (.cells #[.slice none 0 0, .slice none 0 0] 27 (0, 0))) (hN : W4.heap[n4]? = some (.cells #[.slice (some ⟨g, 0, none⟩) ys.length ys.length, .slice (some ⟨h, 0, none⟩) n n] 27 (0, 0))) (hO : Own flP.c 3 40 W4 g ys ys.length) (hor : OR W4 B h n ks) (hne : ∀ (i : Nat) (r : Rn), ks[i]? = some r → r.a ≠ some ⟨g, 0, none⟩) (hB : w.heap.size + 2 ≤ B) (hg : B ≤ g) (hh : B ≤ h) (hn4 : w.heap.size + 2 ≤ n4) (hn : n = ks.length) (hi : i + 2 ≤ n)
    (h6 : Below W4.heap.size W4 w6) (hrv : RV w6 W4.heap.size ⟨qa, qc, m⟩) (hown : w7.ownsRow B 24 1 (.slice (some ⟨h, 0, none⟩) (n - 1) n) (n - 1) ((ks.take i ++ (⟨qa, qc, m⟩ : Rn) :: ks.drop (i + 2)).flatMap cR)) (hgr : (w6.alloc (.cells #[.slice qa m.length qc] 24)).grownBy w7 (some h)) : NM w BX B n4 g h n ys (ks.take i ++ (⟨qa, qc, m⟩ : Rn) :: ks.drop (i + 2)) (w7.setCell ⟨n4, 1, none⟩ (.slice (some ⟨h, 0, none⟩) (n - 1) n)) := by
  subst hn
  have hs6 := h6.size
  have hng : n4 ≠ g := fun e => own_ne (by decide) hO hN e.symm
  obtain ⟨cu, hcu, _⟩ := hor.blk
  have hhg : h ≠ g := fun e => own_ne (by decide) hO hcu e.symm
  have hhn : h ≠ n4 := fun e => by subst e; rw [hN] at hcu; simp at hcu
  have up7 : ∀ k, k < w6.heap.size → k ≠ h → w7.heap[k]? = w6.heap[k]? := fun k hk hkh => (hgr.block k (by simp; omega) (fun e => hkh (Option.some.inj e))).trans (Below.heap_alloc w6 _ k hk)
  have blk7 : ∀ k, k < W4.heap.size → k ≠ h → w7.heap[k]? = W4.heap[k]? := fun k hk hkh => (up7 k (by omega) hkh).trans (h6.block k hk)
  have hl := hor.lt
  have lN := (Array.getElem?_eq_some_iff.1 hN).1
  have n7 : w7.heap[n4]? = _ := (blk7 n4 lN (Ne.symm hhn)).trans hN
  have lA := (Array.getElem?_eq_some_iff.1 hA).1
  have lR := (Array.getElem?_eq_some_iff.1 hR).1
  have hs7 := hgr.size
  rw [World.size_alloc] at hs7
  have hb7 : Below w.heap.size w w7 := ⟨hgr.os.trans (h6.os.trans h0.os), hgr.tape.trans (h6.tape.trans h0.tape), hgr.output.trans (h6.output.trans h0.output), by have := h0.size; omega, fun k hk => (blk7 k (by have := h0.size; omega) (by omega)).trans (h0.block k hk)⟩
  have hownX : (w7.setCell ⟨n4, 1, none⟩ (.slice (some ⟨h, 0, none⟩) (ks.length - 1) ks.length)).ownsRow B 24 1 (.slice (some ⟨h, 0, none⟩) (ks.length - 1) ks.length) (ks.length - 1) ((ks.take i ++ (⟨qa, qc, m⟩ : Rn) :: ks.drop (i + 2)).flatMap cR) :=
    hown.kept (row := some n4) ⟨rfl, rfl, rfl, by simp, fun k hk hne => Below.heap_setCell _ _ _ _ (fun e => hne (by rw [e]))⟩ (.inr fun e => hhn (Option.some.inj e))
  obtain ⟨cur, hcur⟩ := sct.typed hownX rfl
  have onX : ∀ k, k < w6.heap.size → k ≠ h → k ≠ n4 → (w7.setCell ⟨n4, 1, none⟩ (.slice (some ⟨h, 0, none⟩) (ks.length - 1) ks.length)).heap[k]? = w6.heap[k]? := fun k hk h1 h2 => (Below.heap_setCell _ _ _ _ h2).trans (up7 k hk h1)
  have run : ∀ (j : Nat) (r : Rn), ks[j]? = some r → ∃ h', r.a = some ⟨h', 0, none⟩ ∧ B ≤ h' ∧ h' < W4.heap.size ∧ OwnO flP.c 3 40 (w7.setCell ⟨n4, 1, none⟩ (.slice (some ⟨h, 0, none⟩) (ks.length - 1) ks.length)) h' 0 r.l r.l.length := fun j r hr => by
    obtain ⟨h', e, _, hB', ho'⟩ := hor.own j r hr
    refine ⟨h', e, hB', ho'.lt, (of_own ho').kept ?_⟩
    exact (onX h' (by have := ho'.lt; omega) (own_ne (by decide) ho' hcu) (own_ne (by decide) ho' hN)).trans (h6.block h' ho'.lt)
  refine ⟨hb7.setCell (show w.heap.size ≤ n4 by omega) _, boff ((blk7 _ lA (by omega)).trans hA) _ _ _ (by omega), boff ((blk7 _ lR (by omega)).trans hR) _ _ _ (by omega), bset n7 1 _, ?_⟩
  refine mga.of_runs (.inr ⟨g, 0, rfl, hg, (of_own hO).kept ?_⟩) hh hcur (fls.row_of cR_len (by simp; omega) hownX) (fun j r hr => ?_) (fun j1 j2 r s hj hr hs n1 n2 => ?_) (fun j r hr n1 k hk => ?_)
  · exact (onX g (by have := hO.lt; omega) (Ne.symm hhg) (Ne.symm hng)).trans (h6.block g hO.lt)
  · rcases at_new hi hr with ⟨_, hr⟩ | ⟨_, rfl⟩ | ⟨_, hr⟩
    · obtain ⟨h', e, hB', _, ho'⟩ := run _ _ hr
      exact .inr ⟨h', e, hB', ho'⟩
    · rcases hrv with h1 | ⟨gq, e, hq, ho⟩
      · exact .inl h1
      · exact .inr ⟨gq, e, by omega, ho.kept (onX gq ho.lt (by omega) (by omega))⟩
    · obtain ⟨h', e, hB', _, ho'⟩ := run _ _ hr
      exact .inr ⟨h', e, hB', ho'⟩
  · have new : ∀ (j : Nat) (r : Rn), ks[j]? = some r → m ≠ [] → r.a ≠ qa := fun j r hr hm e => by
      obtain ⟨h', e', _, hlt, _⟩ := run _ _ hr
      obtain ⟨gq, eq, hq, _⟩ := hrv.resolve_left hm
      simp only at eq
      rw [e', eq] at e
      have := congrArg Addr.block (Option.some.inj e)
      simp only at this
      omega
    rcases at_new hi hr with ⟨a1, hr⟩ | ⟨a1, rfl⟩ | ⟨a1, hr⟩ <;> rcases at_new hi hs with ⟨a2, hs⟩ | ⟨a2, rfl⟩ | ⟨a2, hs⟩
    · exact hor.nd _ _ _ _ hj hr hs
    · exact new _ _ hr n2
    · exact hor.nd _ _ _ _ (by omega) hr hs
    · omega
    · omega
    · exact (new _ _ hs n1).symm
    · omega
    · omega
    · exact hor.nd _ _ _ _ (by omega) hr hs
  · obtain ⟨_, g1, o1', a1, rfl⟩ := hk
    cases a1
    rcases at_new hi hr with ⟨_, hr⟩ | ⟨_, rfl⟩ | ⟨_, hr⟩
    · exact hne _ _ hr
    · obtain ⟨gq, eq, hq, _⟩ := hrv.resolve_left n1
      simp only at eq
      intro e
      rw [eq] at e
      have := congrArg Addr.block (Option.some.inj e)
      simp only at this
      have := hO.lt
      omega
    · exact hne _ _ hr
end Go.Proofs.Ytbgkccleiapkmaa.mgi

/- The program's TableMerge. -/
namespace Go.Proofs.Ytbgkccleiapkmaa.mgi
open Go.ChangeShapes Go.WideShapes Go.ChangeAt Go.RowKit Go.Proofs.Ytbgkccleiapkmaa.fl Go.Proofs.Ytbgkccleiapkmaa.fo Go.Proofs.Ytbgkccleiapkmaa.rn Go.Proofs.Ytbgkccleiapkmaa.tk Go.Proofs.Ytbgkccleiapkmaa.tko Go.Proofs.Ytbgkccleiapkmaa.tan Go.Proofs.Ytbgkccleiapkmaa.mga Go.Proofs.Ytbgkccleiapkmaa.mgd Go.Proofs.Ytbgkccleiapkmaa.sci
set_option linter.unusedVariables false

set_option maxRecDepth 100000 in
set_option maxHeartbeats 4000000 in
theorem impl_merge (ys : List flP.Pr) (rs : List Rn) (ya ra : Option Addr) (yc rc : Nat) (x : Int) (w : World) (F : tb.Fit ys rs) (hx1 : -9223372036854775808 ≤ x) (hx2 : x ≤ 9223372036854775807) (hY : Row flP.c 3 w w.heap.size ya ys) (hR : VR w w.heap.size ra rs) :
    Calls Try.prog 27 #[.agg #[.slice ya ys.length yc, .slice ra rs.length rc], .int .i64 x] w fun e w' => ∃ sa sc ta tc ks, e = .returned (.tuple #[.agg #[.slice sa ys.length sc, .slice ta (ansR ys (rs.map (·.l)) x).length tc], .bool (can ys (rs.map (·.l)) x)]) ∧ ks.map (·.l) = ansR ys (rs.map (·.l)) x ∧ TA w' w.heap.size sa ta ys ks ∧ Below w.heap.size w w' := by
  have hb : Below w.heap.size w ((w.alloc (.cells #[.slice ya ys.length yc, .slice ra rs.length rc] 27)).alloc (.cells #[.slice none 0 0, .slice none 0 0] 27)) := ((Below.refl _ _).alloc (Nat.le_refl _) _).alloc (by simp) _
  have hA := bold (bnew w #[.slice ya ys.length yc, .slice ra rs.length rc] 27) (.cells #[.slice none 0 0, .slice none 0 0] 27)
  have hRs := bnew (w.alloc (.cells #[.slice ya ys.length yc, .slice ra rs.length rc] 27)) #[.slice none 0 0, .slice none 0 0] 27
  rw [World.size_alloc] at hRs
  obtain ⟨W, hW⟩ : ∃ W, ((w.alloc (.cells #[.slice ya ys.length yc, .slice ra rs.length rc] 27)).alloc (.cells #[.slice none 0 0, .slice none 0 0] 27)) = W := ⟨_, rfl⟩
  have hsW : W.heap.size = w.heap.size + 2 := by rw [← hW]; simp
  rw [hW] at hb hA hRs
  have hok := impl_okb ys rs ya ra yc rc W F (hY.inn hb) (hR.inn hb)
  have HF : Hid (tb.Fit ys rs) := F
  have hrl := F.rl
  have hyl := F.yl
  have HY : Hid (Row flP.c 3 w w.heap.size ya ys) := hY
  have HR : Hid (VR w w.heap.size ra rs) := hR
  have HA : Hid (W.heap[w.heap.size]? = some (.cells #[.slice ya ys.length yc, .slice ra rs.length rc] 27 (0, 0))) := hA
  have HRS : Hid (W.heap[w.heap.size + 1]? = some (.cells #[.slice none 0 0, .slice none 0 0] 27 (0, 0))) := hRs
  have p0 : W.cell? ⟨w.heap.size, 0, none⟩ = some (.slice ya ys.length yc) := bcell hA rfl
  have p1 : W.cell? ⟨w.heap.size, 1, none⟩ = some (.slice ra rs.length rc) := bcell hA rfl
  clear hY hR hA hRs F
  go_enter Try.func27, Try.ntmps27
  go_wp2_with (go_at_call 20; fail)
  clear hW p0 p1
  refine hok.mono ?_
  rintro e w2 ⟨rfl, hb2⟩
  have b2 := bstay HA.out hb2 (by omega)
  have r2 := bstay HRS.out hb2 (by omega)
  have hBw2 : Below w.heap.size w w2 := hb.trans (hb2.mono hb.size)
  have hcp := cpt.copy_table ys rs ya ra yc rc w2 HF.out (HY.out.inn hBw2) (HR.out.inn hBw2)
  have x0 : w2.cell? ⟨w.heap.size, 0, none⟩ = some (.slice ya ys.length yc) := bcell b2 rfl
  have x1 : w2.cell? ⟨w.heap.size, 1, none⟩ = some (.slice ra rs.length rc) := bcell b2 rfl
  have HA2 : Hid (w2.heap[w.heap.size]? = some (.cells #[.slice ya ys.length yc, .slice ra rs.length rc] 27 (0, 0))) := b2
  have HR2 : Hid (w2.heap[w.heap.size + 1]? = some (.cells #[.slice none 0 0, .slice none 0 0] 27 (0, 0))) := r2
  have hs2 : w.heap.size + 2 ≤ w2.heap.size := by have := hb2.size; omega
  clear hok b2 r2 HA HRS hb2
  -- the refusals
  have NO : ∀ (w3 : World) (g h : Nat) (ks : List Rn), can ys (rs.map (·.l)) x = false → ks.map (·.l) = rs.map (·.l) → w2.heap.size + 2 ≤ g → w2.heap.size + 2 ≤ h → Own flP.c 3 40 w3 g ys ys.length → OR w3 (w2.heap.size + 2) h rs.length ks → (∀ (i : Nat) (r : Rn), ks[i]? = some r → r.a ≠ some ⟨g, 0, none⟩) → TA ((w3.setCell ⟨w.heap.size + 1, 0, none⟩ (.slice (some ⟨g, 0, none⟩) ys.length ys.length)).setCell ⟨w.heap.size + 1, 1, none⟩ (.slice (some ⟨h, 0, none⟩) rs.length rs.length)) w.heap.size (some ⟨g, 0, none⟩) (some ⟨h, 0, none⟩) ys ks := fun w3 g h ks _ hm hg hh ho hor hne => (ta_set (B := w2.heap.size + 2) (by have := congrArg List.length hm; simpa using this.symm) (by omega) ho hor hg hh hne _ _).wide (by omega)
  have HNO : Hid (∀ (w3 : World) (g h : Nat) (ks : List Rn), can ys (rs.map (·.l)) x = false → ks.map (·.l) = rs.map (·.l) → w2.heap.size + 2 ≤ g → w2.heap.size + 2 ≤ h → Own flP.c 3 40 w3 g ys ys.length → OR w3 (w2.heap.size + 2) h rs.length ks → (∀ (i : Nat) (r : Rn), ks[i]? = some r → r.a ≠ some ⟨g, 0, none⟩) → TA ((w3.setCell ⟨w.heap.size + 1, 0, none⟩ (.slice (some ⟨g, 0, none⟩) ys.length ys.length)).setCell ⟨w.heap.size + 1, 1, none⟩ (.slice (some ⟨h, 0, none⟩) rs.length rs.length)) w.heap.size (some ⟨g, 0, none⟩) (some ⟨h, 0, none⟩) ys ks) := NO
  clear NO
  have w1 : IntKind.i64.wrap ((rs.length : Int) - 1) = (rs.length : Int) - 1 := by rw [IntKind.wrap_i64]; omega
  by_cases hgo : okB ys (rs.map (·.l)) = true ∧ 0 ≤ x ∧ x < (rs.length : Int) - 1
  · obtain ⟨hob, hx0, hxl⟩ := hgo
    obtain ⟨i, rfl⟩ : ∃ i : Nat, x = (i : Int) := ⟨x.toNat, by omega⟩
    have hi : i + 2 ≤ rs.length := by omega
    have HOK : Hid (OkT ys (rs.map (·.l))) := okB_true.1 hob
    have HOB : Hid (okB ys (rs.map (·.l)) = true) := hob
    rw [hob]
    have h8 : rs.length ≤ 8 := by have := HOK.out.rl; simpa using this
    have c1 : ¬ ((i : Int) < 0) := by omega
    have c2 : ¬ ((rs.length : Int) - 1 ≤ (i : Int)) := by omega
    clear hob hx0 hx1 hx2
    go_wp2_with (go_at_call 60; fail)
    clear x0 x1
    refine hcp.mono ?_
    rintro e w3 ⟨g, h, ks, rfl, m3, hg3, hh3, ho3, hor3, hne3, hb3⟩
    have l3 : rs.length = ks.length := by have := congrArg List.length m3; simpa using this.symm
    have hal : Below w3.heap.size w3 (w3.alloc (.cells #[.slice (some ⟨g, 0, none⟩) ys.length ys.length, .slice (some ⟨h, 0, none⟩) rs.length rs.length] 27)) := (Below.refl _ _).alloc (Nat.le_refl _) _
    have hN := bnew w3 #[.slice (some ⟨g, 0, none⟩) ys.length ys.length, .slice (some ⟨h, 0, none⟩) rs.length rs.length] 27
    have of4 := ho3.below hal ho3.lt
    have or4 := hor3.on hal
    have hgl := ho3.lt
    have hs3 := hb3.size
    obtain ⟨W4, hW4⟩ : ∃ W4, w3.alloc (.cells #[.slice (some ⟨g, 0, none⟩) ys.length ys.length, .slice (some ⟨h, 0, none⟩) rs.length rs.length] 27) = W4 := ⟨_, rfl⟩
    have hsW4 : W4.heap.size = w3.heap.size + 1 := by rw [← hW4]; simp
    rw [hW4] at hal hN of4 or4
    have hB24 : Below w2.heap.size w2 W4 := hb3.trans (hal.mono hs3)
    have hBw4 : Below w.heap.size w W4 := hBw2.trans (hB24.mono hBw2.size)
    have hv4 : VR W4 W4.heap.size (some ⟨h, 0, none⟩) ks := OR.vr (by rw [← l3]; exact or4)
    have hi2 : i + 2 ≤ ks.length := by omega
    obtain ⟨k1, hk1⟩ : ∃ k1, ks[i]'(by omega) = k1 := ⟨_, rfl⟩
    obtain ⟨k2, hk2⟩ : ∃ k2, ks[i + 1]'(by omega) = k2 := ⟨_, rfl⟩
    have hv2 := two_runs hi2 hv4
    rw [hk1, hk2] at hv2
    have g1 : ks[i]? = some k1 := by rw [← hk1]; exact List.getElem?_eq_getElem _
    have g2 : ks[i + 1]? = some k2 := by rw [← hk2]; exact List.getElem?_eq_getElem _
    have ok1 : OkL k1.l := HOK.out.ro i _ (by rw [← m3]; exact map_at g1)
    have ok2 : OkL k2.l := HOK.out.ro (i + 1) _ (by rw [← m3]; exact map_at g2)
    have hnw := rnw.newest_run [k1, k2] (some ⟨h, i, none⟩) (rs.length - i) W4 (by simp) (fun r hr => by
      simp at hr
      rcases hr with rfl | rfl
      · obtain ⟨_, _, hc, _⟩ := or4.own i _ g1
        exact ⟨ok1.ll, by omega⟩
      · obtain ⟨_, _, hc, _⟩ := or4.own (i + 1) _ g2
        exact ⟨ok2.ll, by omega⟩) (fun l hl => by
      simp at hl
      rcases hl with rfl | rfl
      · exact mgp.asc_of ok1.up
      · exact mgp.asc_of ok2.up) hv2
    have HA4 : Hid (W4.heap[w.heap.size]? = some (.cells #[.slice ya ys.length yc, .slice ra rs.length rc] 27 (0, 0))) := bstay HA2.out hB24 (by omega)
    have HR4 : Hid (W4.heap[w.heap.size + 1]? = some (.cells #[.slice none 0 0, .slice none 0 0] 27 (0, 0))) := bstay HR2.out hB24 (by omega)
    have HN4 : Hid (W4.heap[w3.heap.size]? = some (.cells #[.slice (some ⟨g, 0, none⟩) ys.length ys.length, .slice (some ⟨h, 0, none⟩) rs.length rs.length] 27 (0, 0))) := hN
    have HOF4 : Hid (Own flP.c 3 40 W4 g ys ys.length) := of4
    have HOR4 : Hid (OR W4 (w2.heap.size + 2) h rs.length ks) := or4
    have HNE : Hid (∀ (i : Nat) (r : Rn), ks[i]? = some r → r.a ≠ some ⟨g, 0, none⟩) := hne3
    have HM : Hid (ks.map (·.l) = rs.map (·.l)) := m3
    have HL : Hid (rs.length = ks.length) := l3
    have HG1 : Hid (ks[i]? = some k1) := g1
    have HG2 : Hid (ks[i + 1]? = some k2) := g2
    have HO1 : Hid (OkL k1.l) := ok1
    have HO2 : Hid (OkL k2.l) := ok2
    have t1 : W4.cell? ⟨w3.heap.size, 1, none⟩ = some (.slice (some ⟨h, 0, none⟩) rs.length rs.length) := bcell hN rfl
    have e2 : IntKind.i64.wrap ((i : Int) + 2) = (i : Int) + 2 := by rw [IntKind.wrap_i64]; omega
    have e3 : (0 : Int) ≤ (i : Int) + 2 := by omega
    have e4 : (i : Int) + 2 ≤ (rs.length : Int) := by omega
    have e5 : ¬ rs.length = i := by omega
    have e6 : (i : Int) ≤ (i : Int) + 2 := by omega
    clear hcp ho3 hor3 hne3 hN of4 or4 m3 l3 hal HA2 HR2 hv4 hv2 hk1 hk2 g1 g2 ok1 ok2 hi2
    go_wp2_with (go_at_call 55; fail)
    refine hnw.mono ?_
    rintro e w5 ⟨v5, out, rfl, his, hlen, hown5, hb5⟩
    have e7 := nwL_eq his
    have hm5 : ∀ last : Bool, merged k1.l k2.l last = if last then out.filter (fun e => !e.g) else out := fun last => by
      cases last with
      | false => rw [merged_no]; exact e7
      | true => rw [merged_yes]; exact congrArg _ e7
    have HM5 : Hid (∀ last : Bool, merged k1.l k2.l last = if last then out.filter (fun e => !e.g) else out) := hm5
    have hB5 : Below W4.heap.size W4 w5 := hb5
    have q1 : w5.cell? ⟨w3.heap.size, 1, none⟩ = some (.slice (some ⟨h, 0, none⟩) rs.length rs.length) := bcell (bstay HN4.out hb5 (by omega)) rfl
    have HB5 : Hid (Below W4.heap.size W4 w5) := hb5
    have hdel := delete_any out v5 W4.heap.size w5 (by omega) hown5
    have HRV : Hid (∃ qa qc, v5 = .slice qa out.length qc ∧ RV w5 W4.heap.size ⟨qa, qc, out⟩) := as_rv hown5
    have REP : ∀ (w6 : World) (qa : Option Addr) (qc : Nat) (m : List flP.Pr), Below W4.heap.size W4 w6 → Calls Try.prog 63 #[.slice (some ⟨h, 0, none⟩) rs.length rs.length, .int .i64 i, .int .i64 ((i : Int) + 2), .slice (some ⟨w6.heap.size, 0, none⟩) 1 1] (w6.alloc (.cells #[.slice qa m.length qc] 24)) fun r w' => r = .returned (.slice (some ⟨h, 0, none⟩) (rs.length - 1) rs.length) ∧ w'.ownsRow (w2.heap.size + 2) 24 1 (.slice (some ⟨h, 0, none⟩) (rs.length - 1) rs.length) (rs.length - 1) ((ks.take i ++ (⟨qa, qc, m⟩ : Rn) :: ks.drop (i + 2)).flatMap cR) ∧ (w6.alloc (.cells #[.slice qa m.length qc] 24)).grownBy w' (some h) := fun w6 qa qc m h6 => by
      have hal : Below W4.heap.size W4 (w6.alloc (.cells #[.slice qa m.length qc] 24)) := h6.alloc h6.size _
      have hox : OR (w6.alloc (.cells #[.slice qa m.length qc] 24)) (w2.heap.size + 2) h ks.length ks := by rw [← HL.out]; exact HOR4.out.on hal
      have := rpl.replace_run ks h i (w2.heap.size + 2) qa qc m w6.heap.size (w6.alloc (.cells #[.slice qa m.length qc] 24)) (by rw [← HL.out]; exact hi) (by rw [← HL.out]; exact hrl) (by have := HOR4.out.lt; have := h6.size; omega) (or_owns hox hh3 (by rw [← HL.out]; unfold maxLen; omega)) (bnew w6 _ _)
      rw [← HL.out] at this
      exact this
    have HREP : Hid (∀ (w6 : World) (qa : Option Addr) (qc : Nat) (m : List flP.Pr), Below W4.heap.size W4 w6 → Calls Try.prog 63 #[.slice (some ⟨h, 0, none⟩) rs.length rs.length, .int .i64 i, .int .i64 ((i : Int) + 2), .slice (some ⟨w6.heap.size, 0, none⟩) 1 1] (w6.alloc (.cells #[.slice qa m.length qc] 24)) fun r w' => r = .returned (.slice (some ⟨h, 0, none⟩) (rs.length - 1) rs.length) ∧ w'.ownsRow (w2.heap.size + 2) 24 1 (.slice (some ⟨h, 0, none⟩) (rs.length - 1) rs.length) (rs.length - 1) ((ks.take i ++ (⟨qa, qc, m⟩ : Rn) :: ks.drop (i + 2)).flatMap cR) ∧ (w6.alloc (.cells #[.slice qa m.length qc] 24)).grownBy w' (some h)) := REP
    have HU : Hid (∀ (w6 : World) (o : Obj), Below W4.heap.size W4 w6 → (w6.alloc o).cell? ⟨w3.heap.size, 1, none⟩ = some (.slice (some ⟨h, 0, none⟩) rs.length rs.length)) := fun w6 o h6 => bcell (bold (bstay HN4.out h6 (by omega)) o) rfl
    clear hnw his e7 hm5 t1 hb5 hB5 hown5 REP
    obtain hl2 | hl2 : i + 2 = rs.length ∨ i + 2 ≠ rs.length := by omega
    case' inl =>
      have HDE : Hid (decide (i + 2 = rs.length) = true) := by unfold Hid; simpa using hl2
      have d1 : ((i : Int) + 2 == (rs.length : Int)) = true := by simp; omega
      clear hl2
      go_wp2_with (go_at_call 61; fail)
      refine hdel.mono ?_
      rintro e w6 ⟨qa, qc, rfl, hrv6, hb6⟩
      obtain ⟨m, hm⟩ : ∃ m, out.filter (fun b => !b.g) = m := ⟨_, rfl⟩
      rw [hm] at hrv6 ⊢
      have HMM : Hid (merged k1.l k2.l (decide (i + 2 = rs.length)) = m) := by unfold Hid; rw [HDE.out, HM5.out]; exact hm
      have HRV6 : Hid (RV w6 W4.heap.size ⟨qa, qc, m⟩) := hrv6
      have HB6 : Hid (Below W4.heap.size W4 w6) := HB5.out.trans hb6
      clear hdel hrv6 hb6 hm q1 HRV HM5 HB5 HDE
    case' inr =>
      have HDE : Hid (decide (i + 2 = rs.length) = false) := by unfold Hid; simpa using hl2
      have d1 : ((i : Int) + 2 == (rs.length : Int)) = false := by simp; omega
      clear hl2
      obtain ⟨qa, qc, rfl, hrv6⟩ := HRV.out
      obtain ⟨m, hm⟩ : ∃ m, m = out := ⟨_, rfl⟩
      subst hm
      have HMM : Hid (merged k1.l k2.l (decide (i + 2 = rs.length)) = m) := by unfold Hid; rw [HDE.out, HM5.out]; rfl
      obtain ⟨w6, hw6⟩ : ∃ w6, w6 = w5 := ⟨_, rfl⟩
      subst hw6
      have HRV6 : Hid (RV w6 W4.heap.size ⟨qa, qc, m⟩) := hrv6
      have HB6 : Hid (Below W4.heap.size W4 w6) := HB5.out
      clear hdel hrv6 HRV HM5 HB5 HDE
    all_goals
      have hrep := HREP.out w6 qa qc m HB6.out
      have u1 := HU.out w6 (.cells #[.slice qa m.length qc] 24) HB6.out
      have u2 : w6.cell? ⟨w3.heap.size, 1, none⟩ = some (.slice (some ⟨h, 0, none⟩) rs.length rs.length) := bcell (bstay HN4.out HB6.out (by omega)) rfl
      go_wp2_with (go_at_call 63; fail)
      clear u1 u2
      refine hrep.mono ?_
      rintro e w7 ⟨rfl, hown7, hgr7⟩
      have hnm := nm_of hBw4 HA4.out HR4.out HN4.out HOF4.out HOR4.out HNE.out (by omega) hg3 hh3 (by omega) HL.out hi HB6.out HRV6.out hown7 hgr7
      have n7 : w7.heap[w3.heap.size]? = some (.cells #[.slice (some ⟨g, 0, none⟩) ys.length ys.length, .slice (some ⟨h, 0, none⟩) rs.length rs.length] 27 (0, 0)) := by
        refine ((hgr7.block _ (by have := HB6.out.size; simp; omega) (fun e => ?_)).trans (Below.heap_alloc w6 _ _ (by have := HB6.out.size; omega))).trans ((HB6.out.block _ (by omega)).trans HN4.out)
        obtain ⟨cu, hcu, _⟩ := HOR4.out.blk
        have e2 := Option.some.inj e
        rw [← e2, HN4.out] at hcu
        simp at hcu
      have y1 : w7.cell? ⟨w3.heap.size, 1, none⟩ = some (.slice (some ⟨h, 0, none⟩) rs.length rs.length) := bcell n7 rfl
      have yf := bfree n7 1
      obtain ⟨X, hX⟩ : ∃ X, w7.setCell ⟨w3.heap.size, 1, none⟩ (.slice (some ⟨h, 0, none⟩) (rs.length - 1) rs.length) = X := ⟨_, rfl⟩
      rw [hX] at hnm
      obtain ⟨ks', hks'⟩ : ∃ ks', ks.take i ++ (⟨qa, qc, m⟩ : Rn) :: ks.drop (i + 2) = ks' := ⟨_, rfl⟩
      rw [hks'] at hnm
      have hkm : ks'.map (·.l) = mrg (rs.map (·.l)) i := by
        have hmi : i + 2 ≤ (rs.map (·.l)).length := by rw [List.length_map]; exact hi
        have hg1 : (rs.map (·.l))[i]? = some k1.l := by rw [← HM.out]; exact map_at HG1.out
        have hg2 : (rs.map (·.l))[i + 1]? = some k2.l := by rw [← HM.out]; exact map_at HG2.out
        rw [mrg_at hmi, (List.getElem?_eq_some_iff.1 hg1).2, (List.getElem?_eq_some_iff.1 hg2).2, ← hks', List.map_append, List.map_cons, List.map_take, List.map_drop, HM.out, List.length_map, HMM.out]
      have hkl : ks'.length = rs.length - 1 := by rw [← hks', List.length_append, List.length_cons, List.length_take, List.length_drop, ← HL.out]; omega
      have hfit : tb.Fit ys ks' := by
        refine ⟨hyl, by omega, HF.out.yo, fun r hr => ?_⟩
        have hold : ∀ k ∈ ks, k.l.length ≤ 1048576 ∧ ∀ e ∈ k.l, e.k.size ≤ 1048576 ∧ e.v.size ≤ 1048576 := fun k hk => by
          obtain ⟨q, hq, e⟩ := List.mem_map.1 (show k.l ∈ rs.map (·.l) by rw [← HM.out]; exact List.mem_map.2 ⟨k, hk, rfl⟩)
          rw [← e]
          exact HF.out.ro q hq
        have hk1 := List.mem_of_getElem? HG1.out
        have hk2 := List.mem_of_getElem? HG2.out
        have ha1 := mgp.asc_of HO1.out.up
        have ha2 := mgp.asc_of HO2.out.up
        rw [← hks'] at hr
        rcases List.mem_append.1 hr with hr | hr
        · exact hold r (List.mem_of_mem_take hr)
        · rcases List.mem_cons.1 hr with rfl | hr
          · rw [← HMM.out]
            refine ⟨?_, fun e he => ?_⟩
            · have := merged_le ha1 ha2 (decide (i + 2 = rs.length))
              have := HO1.out.ll
              have := HO2.out.ll
              show (merged k1.l k2.l (decide (i + 2 = rs.length))).length ≤ _
              omega
            · rcases merged_mem ha1 ha2 he with h | h
              · exact (hold k1 hk1).2 e h
              · exact (hold k2 hk2).2 e h
          · exact hold r (List.mem_of_mem_drop hr)
      have HNX : Hid (NM w #[.slice ya ys.length yc, .slice ra rs.length rc] (w2.heap.size + 2) w3.heap.size g h rs.length ys ks' X) := hnm
      have hok2 := impl_okb ys ks' (some ⟨g, 0, none⟩) (some ⟨h, 0, none⟩) ys.length rs.length X hfit hnm.ta.rows.1 hnm.ta.rows.2
      rw [hkl, hkm] at hok2
      have t0 : X.cell? ⟨w3.heap.size, 0, none⟩ = some (.slice (some ⟨g, 0, none⟩) ys.length ys.length) := bcell hnm.out rfl
      have t1 : X.cell? ⟨w3.heap.size, 1, none⟩ = some (.slice (some ⟨h, 0, none⟩) (rs.length - 1) rs.length) := bcell hnm.out rfl
      have HKM : Hid (ks'.map (·.l) = mrg (rs.map (·.l)) i) := hkm
      have HKL : Hid (ks'.length = rs.length - 1) := hkl
      clear hnm hown7 hgr7 hrep n7 hkm hkl hfit hks' HRV6 HB6 HMM
      go_wp2_with (go_at_call 20; fail)
      clear hX t0 t1 y1 yf
      refine hok2.mono ?_
      rintro e w8 ⟨rfl, hb8⟩
      have HX8 : Hid (NM w #[.slice ya ys.length yc, .slice ra rs.length rc] (w2.heap.size + 2) w3.heap.size g h rs.length ys ks' w8) := HNX.out.on hb8
      clear hok2 hb8 HNX
      have hin : inB (rs.map (·.l)) (i : Int) = true := by unfold inB; simp; omega
      cases hob2 : okB ys (mrg (rs.map (·.l)) i) with
      | true =>
        have HC : Hid (can ys (rs.map (·.l)) (i : Int) = true) := by unfold Hid can; rw [HOB.out, hin, Int.toNat_natCast, hob2]; rfl
        have HQ : Hid (ansR ys (rs.map (·.l)) (i : Int) = mrg (rs.map (·.l)) i) := by unfold Hid; rw [ans_yes HC.out, Int.toNat_natCast]
        have y0 : w8.cell? ⟨w3.heap.size, 0, none⟩ = some (.slice (some ⟨g, 0, none⟩) ys.length ys.length) := bcell HX8.out.out rfl
        have y1 : w8.cell? ⟨w3.heap.size, 1, none⟩ = some (.slice (some ⟨h, 0, none⟩) (rs.length - 1) rs.length) := bcell HX8.out.out rfl
        have r0 : w8.cell? ⟨w.heap.size + 1, 0, none⟩ = some (.slice none 0 0) := bcell HX8.out.res rfl
        have r1 : w8.cell? ⟨w.heap.size + 1, 1, none⟩ = some (.slice none 0 0) := bcell HX8.out.res rfl
        have f0 := bfree HX8.out.res 0
        have f1 := bfree HX8.out.res 1
        clear hob2 hin
        go_wp2
        have htn : Tn w8 ((w8.setCell ⟨w.heap.size + 1, 0, none⟩ (.slice (some ⟨g, 0, none⟩) ys.length ys.length)).setCell ⟨w.heap.size + 1, 1, none⟩ (.slice (some ⟨h, 0, none⟩) (rs.length - 1) rs.length)) (fun k => k = w.heap.size + 1) := Tn.set (Tn.set (Tn.refl w8 (fun k => k = w.heap.size + 1)) (S := fun k => k = w.heap.size + 1) rfl 0 _) rfl 1 _
        exact bodyPost_ret (v := .tuple #[.agg #[.slice (some ⟨g, 0, none⟩) ys.length ys.length, .slice (some ⟨h, 0, none⟩) (rs.length - 1) rs.length], .bool true]) (by simp [results, Try.results27, go_sem, r0, r1]) rfl ⟨some ⟨g, 0, none⟩, ys.length, some ⟨h, 0, none⟩, rs.length, ks', by rw [HQ.out, HC.out, ← HKM.out, List.length_map, HKL.out], by rw [HQ.out]; exact HKM.out, (HX8.out.ta.turn htn (fun k hk => by omega)).wide (by omega), (HX8.out.bel.setCell (Nat.le_succ _) _).setCell (Nat.le_succ _) _⟩
      | false =>
        have HC : Hid (can ys (rs.map (·.l)) (i : Int) = false) := by unfold Hid can; rw [HOB.out, hin, Int.toNat_natCast, hob2]; rfl
        have y0 : w8.cell? ⟨w.heap.size, 0, none⟩ = some (.slice ya ys.length yc) := bcell HX8.out.box rfl
        have y1 : w8.cell? ⟨w.heap.size, 1, none⟩ = some (.slice ra rs.length rc) := bcell HX8.out.box rfl
        have hcp := cpt.copy_table ys rs ya ra yc rc w8 HF.out (HY.out.inn HX8.out.bel) (HR.out.inn HX8.out.bel)
        have hs8 : w.heap.size + 1 < w8.heap.size := (Array.getElem?_eq_some_iff.1 HX8.out.res).1
        clear hob2 hin
        go_wp2_with (go_at_call 60; fail)
        clear y0 y1
        refine hcp.mono ?_
        rintro e w9 ⟨g9, h9, k9, rfl, m9, hg9, hh9, ho9, hor9, hne9, hb9⟩
        have l9 : rs.length = k9.length := by have := congrArg List.length m9; simpa using this.symm
        have r9 := bstay HX8.out.res hb9 hs8
        have r0 : w9.cell? ⟨w.heap.size + 1, 0, none⟩ = some (.slice none 0 0) := bcell r9 rfl
        have r1 : w9.cell? ⟨w.heap.size + 1, 1, none⟩ = some (.slice none 0 0) := bcell r9 rfl
        have f0 := bfree r9 0
        have f1 := bfree r9 1
        have HTA : Hid (TA ((w9.setCell ⟨w.heap.size + 1, 0, none⟩ (.slice (some ⟨g9, 0, none⟩) ys.length ys.length)).setCell ⟨w.heap.size + 1, 1, none⟩ (.slice (some ⟨h9, 0, none⟩) rs.length rs.length)) w.heap.size (some ⟨g9, 0, none⟩) (some ⟨h9, 0, none⟩) ys k9) := (ta_set (B := w8.heap.size + 2) l9 (by omega) ho9 hor9 hg9 hh9 hne9 _ _).wide (by omega)
        have HM9 : Hid (k9.map (·.l) = rs.map (·.l)) := m9
        have HB9 : Hid (Below w.heap.size w w9) := HX8.out.bel.trans (hb9.mono HX8.out.bel.size)
        clear hcp m9 ho9 hor9 hne9 l9 r9 hb9
        go_wp2
        exact bodyPost_ret (v := .tuple #[.agg #[.slice (some ⟨g9, 0, none⟩) ys.length ys.length, .slice (some ⟨h9, 0, none⟩) rs.length rs.length], .bool false]) (by simp [results, Try.results27, go_sem, r0, r1]) rfl ⟨some ⟨g9, 0, none⟩, ys.length, some ⟨h9, 0, none⟩, rs.length, k9, by rw [ans_no HC.out, HC.out, List.length_map], by rw [ans_no HC.out]; exact HM9.out, HTA.out, (HB9.out.setCell (Nat.le_succ _) _).setCell (Nat.le_succ _) _⟩
  · have HC : Hid (can ys (rs.map (·.l)) x = false) := by
      unfold Hid can
      cases h1 : okB ys (rs.map (·.l)) with
      | false => rfl
      | true =>
        have : inB (rs.map (·.l)) x = false := by
          unfold inB
          simp only [List.length_map, decide_eq_false_iff_not]
          exact fun h => hgo ⟨h1, h.1, by omega⟩
        rw [this]
        rfl
    obtain ⟨ob, hob⟩ : ∃ ob, okB ys (rs.map (·.l)) = ob := ⟨_, rfl⟩
    have hgo2 : ob = false ∨ (ob = true ∧ x < 0) ∨ (ob = true ∧ ¬ x < 0 ∧ (rs.length : Int) - 1 ≤ x) := by
      rw [hob] at hgo
      cases ob with
      | false => exact .inl rfl
      | true =>
        by_cases h : x < 0
        · exact .inr (.inl ⟨rfl, h⟩)
        · exact .inr (.inr ⟨rfl, h, by
            by_cases h2 : (rs.length : Int) - 1 ≤ x
            · exact h2
            · exact absurd ⟨rfl, by omega, by omega⟩ hgo⟩)
    rw [hob]
    clear hob hgo
    rcases hgo2 with rfl | ⟨rfl, h⟩ | ⟨rfl, h, h2⟩
    all_goals
      go_wp2_with (go_at_call 60; fail)
      clear x0 x1
      refine hcp.mono ?_
      rintro e w3 ⟨g, h, ks, rfl, m3, hg3, hh3, ho3, hor3, hne3, hb3⟩
      have r3 := bstay HR2.out hb3 (by omega)
      have r0 : w3.cell? ⟨w.heap.size + 1, 0, none⟩ = some (.slice none 0 0) := bcell r3 rfl
      have r1 : w3.cell? ⟨w.heap.size + 1, 1, none⟩ = some (.slice none 0 0) := bcell r3 rfl
      have f0 := bfree r3 0
      have f1 := bfree r3 1
      have HTA := HNO.out w3 g h ks HC.out m3 hg3 hh3 ho3 hor3 hne3
      have HTA : Hid (TA ((w3.setCell ⟨w.heap.size + 1, 0, none⟩ (.slice (some ⟨g, 0, none⟩) ys.length ys.length)).setCell ⟨w.heap.size + 1, 1, none⟩ (.slice (some ⟨h, 0, none⟩) rs.length rs.length)) w.heap.size (some ⟨g, 0, none⟩) (some ⟨h, 0, none⟩) ys ks) := HTA
      have HM : Hid (ks.map (·.l) = rs.map (·.l)) := m3
      have HB3 : Hid (Below w.heap.size w w3) := hBw2.trans (hb3.mono hBw2.size)
      clear hcp m3 ho3 hor3 hne3 r3 hb3
      go_wp2
      exact bodyPost_ret (v := .tuple #[.agg #[.slice (some ⟨g, 0, none⟩) ys.length ys.length, .slice (some ⟨h, 0, none⟩) rs.length rs.length], .bool false]) (by simp [results, Try.results27, go_sem, r0, r1]) rfl ⟨some ⟨g, 0, none⟩, ys.length, some ⟨h, 0, none⟩, rs.length, ks, by rw [ans_no HC.out, HC.out, List.length_map], by rw [ans_no HC.out]; exact HM.out, HTA.out, (HB3.out.setCell (Nat.le_succ _) _).setCell (Nat.le_succ _) _⟩
end Go.Proofs.Ytbgkccleiapkmaa.mgi

/- TableMerge: the specification and the program in the words of the law's walk. -/
namespace Go.Proofs.Ytbgkccleiapkmaa.mgb
open Go.ChangeShapes Go.WideShapes Go.ChangeAt Go.RowKit Go.Proofs.Ytbgkccleiapkmaa.fl Go.Proofs.Ytbgkccleiapkmaa.fo Go.Proofs.Ytbgkccleiapkmaa.rn Go.Proofs.Ytbgkccleiapkmaa.tan Go.Proofs.Ytbgkccleiapkmaa.mga
set_option linter.unusedVariables false

theorem spec_merge (ys : List flP.Pr) (rs : List Rn) (a0 yc b rc : Nat) (x : Int) (w : World) (F : tb.Fit ys rs) (hx1 : -9223372036854775808 ≤ x) (hx2 : x ≤ 9223372036854775807) (hY : Row flP.c 3 w w.heap.size (some ⟨a0, 0, none⟩) ys) (hR : VR w w.heap.size (some ⟨b, 0, none⟩) rs) (hrs : ∀ r ∈ rs, ∃ h, r.a = some ⟨h, 0, none⟩) :
    Calls Try.prog 28 #[.agg #[.slice (some ⟨a0, 0, none⟩) ys.length yc, .slice (some ⟨b, 0, none⟩) rs.length rc], .int .i64 x] w fun e w' => ∃ sa sc ta tc ks, e = .returned (.tuple #[.agg #[.slice sa (ansY ys (rs.map (·.l)) x).length sc, .slice ta (ansR ys (rs.map (·.l)) x).length tc], .bool (can ys (rs.map (·.l)) x)]) ∧ ks.map (·.l) = ansR ys (rs.map (·.l)) x ∧ Row flP.c 3 w' w'.heap.size sa (ansY ys (rs.map (·.l)) x) ∧ VR w' w'.heap.size ta ks ∧ Below w.heap.size w w' :=
  mgc.spec_merge ys rs a0 yc b rc x w F hx1 hx2 hY hR hrs
theorem impl_merge (ys : List flP.Pr) (rs : List Rn) (ya ra : Option Addr) (yc rc : Nat) (x : Int) (w : World) (F : tb.Fit ys rs) (hx1 : -9223372036854775808 ≤ x) (hx2 : x ≤ 9223372036854775807) (hY : Row flP.c 3 w w.heap.size ya ys) (hR : VR w w.heap.size ra rs) :
    Calls Try.prog 27 #[.agg #[.slice ya ys.length yc, .slice ra rs.length rc], .int .i64 x] w fun e w' => ∃ sa sc ta tc ks, e = .returned (.tuple #[.agg #[.slice sa (ansY ys (rs.map (·.l)) x).length sc, .slice ta (ansR ys (rs.map (·.l)) x).length tc], .bool (can ys (rs.map (·.l)) x)]) ∧ ks.map (·.l) = ansR ys (rs.map (·.l)) x ∧ TA w' w.heap.size sa ta (ansY ys (rs.map (·.l)) x) ks ∧ Below w.heap.size w w' :=
  mgi.impl_merge ys rs ya ra yc rc x w F hx1 hx2 hY hR
theorem range {x : Int} (h : (Lit.int .i64 x).wf = true) : -9223372036854775808 ≤ x ∧ x ≤ 9223372036854775807 := by
  have h2 : IntKind.i64.min = -9223372036854775808 := by kernel_rfl
  have h3 : IntKind.i64.max = 9223372036854775807 := by kernel_rfl
  simp [Lit.wf] at h
  rw [h2] at h
  omega
end Go.Proofs.Ytbgkccleiapkmaa.mgb
