/- The specification's TableMerge: the region of its loop that copies one run. -/
import Derived.Test.YtoemkbooomgieaaGreatDoorDw04
import Derived.Test.YtoemkbooomgieaaGreatDoorDw02
import Derived.Test.YtoemkbooomgieaaGreatDoorDw08
import Derived.Test.YtoemkbooomgieaaGreatDoorAppendAny
import Derived.Test.YtoemkbooomgieaaGreatDoorDw07
import Derived.Test.YtoemkbooomgieaaGreatDoorDw03

/- The specification's l07Set, beside the tables' own texts. -/


/- The specification's TableScan. -/
namespace Go.Proofs.YtoemkbooomgieaaGreatDoor.scs
open Go.ChangeShapes Go.WideShapes Go.ChangeAt Go.RowKit Go.Proofs.YtoemkbooomgieaaGreatDoor.fl Go.Proofs.YtoemkbooomgieaaGreatDoor.rn Go.Proofs.YtoemkbooomgieaaGreatDoor.rc Go.Proofs.YtoemkbooomgieaaGreatDoor.ro Go.Proofs.YtoemkbooomgieaaGreatDoor.tk Go.Proofs.YtoemkbooomgieaaGreatDoor.tko Go.Proofs.YtoemkbooomgieaaGreatDoor.sci
set_option linter.unusedVariables false

/-- a growing list of pairs, never nil -/
def Al (B : Nat) (v : Value) (all : List flP.Pr) (w : World) : Prop := ∃ g c, v = .slice (some ⟨g, 0, none⟩) all.length c ∧ w.ownsRow B 61 3 v all.length (all.flatMap flP.c)

theorem Al.on {B : Nat} {v : Value} {all : List flP.Pr} {w w' : World} (h : Al B v all w) (hb : Below w.heap.size w w') : Al B v all w' := by
  obtain ⟨g, c, h1, h2⟩ := h
  exact ⟨g, c, h1, own_stay h2 hb⟩
theorem Al.row {B g c : Nat} {all : List flP.Pr} {w : World} (h : Al B (.slice (some ⟨g, 0, none⟩) all.length c) all w) : Row flP.c 3 w w.heap.size (some ⟨g, 0, none⟩) all ∧ all.length ≤ c := by
  obtain ⟨_, _, _, h2⟩ := h
  obtain ⟨a, cap, h3, h4⟩ := own_row flP.c_len h2
  cases h3
  refine ⟨h4, ?_⟩
  rcases h2.2 with ⟨h5, _⟩ | ⟨g', cap', cur, h5, _, _, h6, _⟩
  · cases h5
  · cases h5; exact h6
/-- what stands: the list, and what it is -/
structure Sp (w1 : World) (L : List (List flP.Pr)) (m : Nat) (v : Value) (all : List flP.Pr) (wr : World) : Prop where
  al : Al w1.heap.size v all wr
  bel : Below w1.heap.size w1 wr
  is : mgp.Is L all
  len : all.length ≤ m
theorem Sp.on {w1 : World} {L : List (List flP.Pr)} {m : Nat} {v : Value} {all : List flP.Pr} {wr w' : World} (h : Sp w1 L m v all wr) (hb : Below wr.heap.size wr w') : Sp w1 L m v all w' := ⟨h.al.on hb, h.bel.trans (hb.mono h.bel.size), h.is, h.len⟩
end Go.Proofs.YtoemkbooomgieaaGreatDoor.scs

/- The specification's l07Merged: two runs as one. -/
namespace Go.Proofs.YtoemkbooomgieaaGreatDoor.mgd
open Go.ChangeShapes Go.WideShapes Go.ChangeAt Go.RowKit Go.Proofs.YtoemkbooomgieaaGreatDoor.fl Go.Proofs.YtoemkbooomgieaaGreatDoor.rn Go.Proofs.YtoemkbooomgieaaGreatDoor.rc Go.Proofs.YtoemkbooomgieaaGreatDoor.ro Go.Proofs.YtoemkbooomgieaaGreatDoor.tk Go.Proofs.YtoemkbooomgieaaGreatDoor.tko Go.Proofs.YtoemkbooomgieaaGreatDoor.sci Go.Proofs.YtoemkbooomgieaaGreatDoor.scs
set_option linter.unusedVariables false

/-- what stays of a merged run -/
def kp (last : Bool) (e : flP.Pr) : Bool := !e.g || !last
noncomputable def merged (a b : List flP.Pr) (last : Bool) : List flP.Pr := (nwL [a, b]).filter (kp last)
theorem is_start {b : List flP.Pr} (h : mgp.Asc b) : mgp.Is [[], b] b := ⟨h, fun x => by
  have := mgs.new_app (L := [[]]) (m := b) (x := x)
  rw [show [[], b] = [[]] ++ [b] from rfl, this]
  constructor
  · intro hx
    exact .inr ⟨hx, fun j q hq y hy => by
      cases j with
      | zero => simp at hq; subst hq; cases hy
      | succ j => simp at hq⟩
  · rintro (⟨i, q, h1, h2, _⟩ | ⟨h1, _⟩)
    · cases i with
      | zero => simp at h1; subst h1; cases h2
      | succ i => simp at h1
    · exact h1⟩
end Go.Proofs.YtoemkbooomgieaaGreatDoor.mgd

/- TableMerge: what it answers, on lists; and a table's memory where a run may be nothing. -/
namespace Go.Proofs.YtoemkbooomgieaaGreatDoor.mga
open Go.ChangeShapes Go.WideShapes Go.ChangeAt Go.RowKit Go.Proofs.YtoemkbooomgieaaGreatDoor.fl Go.Proofs.YtoemkbooomgieaaGreatDoor.fo Go.Proofs.YtoemkbooomgieaaGreatDoor.rn Go.Proofs.YtoemkbooomgieaaGreatDoor.mrR Go.Proofs.YtoemkbooomgieaaGreatDoor.mrT Go.Proofs.YtoemkbooomgieaaGreatDoor.tan Go.Proofs.YtoemkbooomgieaaGreatDoor.tk Go.Proofs.YtoemkbooomgieaaGreatDoor.tko Go.Proofs.YtoemkbooomgieaaGreatDoor.mgd Go.Proofs.YtoemkbooomgieaaGreatDoor.sci
set_option linter.unusedVariables false

theorem is_ex {a b : List flP.Pr} (ha : mgp.Asc a) (hb : mgp.Asc b) : ∀ k, k ≤ a.length → ∃ out, mgp.Is [a.take k, b] out ∧ out.length ≤ b.length + k
  | 0, _ => ⟨b, by rw [List.take_zero]; exact is_start hb, by omega⟩
  | k + 1, h => by
    obtain ⟨out, h1, h2⟩ := is_ex ha hb k (by omega)
    exact ⟨ptp.setP out a[k], mgs.is_over h1 ha (List.getElem?_eq_getElem (by omega)), by have := ptp.setP_le out a[k]; omega⟩
theorem is_nw {a b : List flP.Pr} (ha : mgp.Asc a) (hb : mgp.Asc b) : mgp.Is [a, b] (nwL [a, b]) ∧ (nwL [a, b]).length ≤ a.length + b.length := by
  obtain ⟨out, h1, h2⟩ := is_ex ha hb a.length (Nat.le_refl _)
  rw [List.take_length] at h1
  rw [nwL_eq h1]
  exact ⟨h1, by omega⟩
theorem merged_le {a b : List flP.Pr} (ha : mgp.Asc a) (hb : mgp.Asc b) (last : Bool) : (merged a b last).length ≤ a.length + b.length := Nat.le_trans (List.length_filter_le _ _) (is_nw ha hb).2
theorem merged_no (a b : List flP.Pr) : merged a b false = nwL [a, b] := by
  unfold merged
  rw [List.filter_eq_self]
  intro e _
  simp [kp]
theorem merged_yes (a b : List flP.Pr) : merged a b true = (nwL [a, b]).filter (fun e => !e.g) := by
  unfold merged
  congr 1
  funext e
  simp [kp]
theorem merged_mem {a b : List flP.Pr} (ha : mgp.Asc a) (hb : mgp.Asc b) {last : Bool} {e : flP.Pr} (h : e ∈ merged a b last) : e ∈ a ∨ e ∈ b := by
  have h1 := (List.mem_filter.1 h).1
  obtain ⟨i, l, h2, h3, _⟩ := ((is_nw ha hb).1.2 e).1 h1
  match i, h2 with
  | 0, h2 => simp at h2; subst h2; exact .inl h3
  | 1, h2 => simp at h2; subst h2; exact .inr h3
  | i + 2, h2 => simp at h2
/-- the runs number i and i + 1 as one -/
noncomputable def mrg (R : List (List flP.Pr)) (i : Nat) : List (List flP.Pr) := R.take i ++ merged (R.getD i []) (R.getD (i + 1) []) (decide (i + 2 = R.length)) :: R.drop (i + 2)
noncomputable def inB (R : List (List flP.Pr)) (x : Int) : Bool := decide (0 ≤ x ∧ x + 2 ≤ R.length)
noncomputable def can (ys : List flP.Pr) (R : List (List flP.Pr)) (x : Int) : Bool := okB ys R && (inB R x && okB ys (mrg R x.toNat))
noncomputable def ansR (ys : List flP.Pr) (R : List (List flP.Pr)) (x : Int) : List (List flP.Pr) := if can ys R x then mrg R x.toNat else R
theorem tot_app : ∀ (A B : List (List flP.Pr)), tot (A ++ B) = tot A + tot B
  | [], B => by simp [tot, bulk]
  | a :: A, B => by
    have := tot_app A B
    simp only [tot, List.cons_append, bulk] at this ⊢
    omega
theorem tot_cons (a : List flP.Pr) (A : List (List flP.Pr)) : tot (a :: A) = a.length + tot A := rfl
theorem parts {α : Type} {R : List α} {i : Nat} (h : i + 2 ≤ R.length) : R = R.take i ++ R[i]'(by omega) :: R[i + 1]'(by omega) :: R.drop (i + 2) := by
  conv => lhs; rw [← List.take_append_drop i R]
  rw [List.drop_eq_getElem_cons (show i < R.length by omega), List.drop_eq_getElem_cons (show i + 1 < R.length by omega)]
theorem mrg_at {R : List (List flP.Pr)} {i : Nat} (h : i + 2 ≤ R.length) : mrg R i = R.take i ++ merged (R[i]'(by omega)) (R[i + 1]'(by omega)) (decide (i + 2 = R.length)) :: R.drop (i + 2) := by
  unfold mrg
  rw [List.getD_eq_getElem?_getD, List.getD_eq_getElem?_getD, List.getElem?_eq_getElem (show i < R.length by omega), List.getElem?_eq_getElem (show i + 1 < R.length by omega)]
  rfl
theorem mrg_len {R : List (List flP.Pr)} {i : Nat} (h : i + 2 ≤ R.length) : (mrg R i).length = R.length - 1 := by
  rw [mrg_at h]
  simp
  omega
theorem asc_at {ys : List flP.Pr} {R : List (List flP.Pr)} (h : OkT ys R) {i : Nat} {l : List flP.Pr} (hl : R[i]? = some l) : mgp.Asc l := mgp.asc_of (h.ro i l hl).up
theorem mrg_tot {ys : List flP.Pr} {R : List (List flP.Pr)} {i : Nat} (hok : OkT ys R) (h : i + 2 ≤ R.length) : tot (mrg R i) ≤ tot R := by
  have h1 := merged_le (asc_at hok (List.getElem?_eq_getElem (show i < R.length by omega))) (asc_at hok (List.getElem?_eq_getElem (show i + 1 < R.length by omega))) (decide (i + 2 = R.length))
  have h2 := congrArg tot (parts h)
  rw [tot_app, tot_cons, tot_cons] at h2
  rw [mrg_at h, tot_app, tot_cons]
  omega
theorem mrg_fit {ys : List flP.Pr} {R : List (List flP.Pr)} {i : Nat} (hok : OkT ys R) (h : i + 2 ≤ R.length) (hold : ∀ l ∈ R, l.length ≤ 1048576 ∧ ∀ e ∈ l, e.k.size ≤ 1048576 ∧ e.v.size ≤ 1048576) : ∀ l ∈ mrg R i, l.length ≤ 1048576 ∧ ∀ e ∈ l, e.k.size ≤ 1048576 ∧ e.v.size ≤ 1048576 := fun l hl => by
  have g1 := List.getElem?_eq_getElem (show i < R.length by omega)
  have g2 := List.getElem?_eq_getElem (show i + 1 < R.length by omega)
  have ha1 := asc_at hok g1
  have ha2 := asc_at hok g2
  rw [mrg_at h] at hl
  rcases List.mem_append.1 hl with hl | hl
  · exact hold l (List.mem_of_mem_take hl)
  · rcases List.mem_cons.1 hl with rfl | hl
    · refine ⟨?_, fun e he => ?_⟩
      · have := merged_le ha1 ha2 (decide (i + 2 = R.length))
        have := (hok.ro _ _ g1).ll
        have := (hok.ro _ _ g2).ll
        omega
      · rcases merged_mem ha1 ha2 he with h | h
        · exact (hold _ (List.getElem_mem _)).2 e h
        · exact (hold _ (List.getElem_mem _)).2 e h
    · exact hold l (List.mem_of_mem_drop hl)
theorem ans_no {ys : List flP.Pr} {R : List (List flP.Pr)} {x : Int} (h : can ys R x = false) : ansR ys R x = R := by
  unfold ansR
  rw [h]
  rfl
theorem ans_yes {ys : List flP.Pr} {R : List (List flP.Pr)} {x : Int} (h : can ys R x = true) : ansR ys R x = mrg R x.toNat := by
  unfold ansR
  rw [h]
  rfl
/-- a run in memory: nothing, or a row of its own at or above B -/
def RV (w : World) (B : Nat) (r : Rn) : Prop := r.l = [] ∨ ∃ h, r.a = some ⟨h, 0, none⟩ ∧ B ≤ h ∧ OwnO flP.c 3 61 w h 0 r.l r.l.length
/-- a table is its own where its runs are, and no two of them lie in one place -/
theorem of_runs {w : World} {B : Nat} {fa : Option Addr} {l : List flP.Pr} {rs : List Rn} {g2 : Nat} {cur : Array Value} (hf : MP w B fa l) (hg2 : B ≤ g2) (hty : w.heap[g2]? = some (.cells cur 28 (0, 0))) (hrow : Row cR 1 w w.heap.size (some ⟨g2, 0, none⟩) rs) (hown : ∀ (i : Nat) (r : Rn), rs[i]? = some r → RV w B r) (hnd : ∀ (i j : Nat) (r s : Rn), i < j → rs[i]? = some r → rs[j]? = some s → r.l ≠ [] → s.l ≠ [] → r.a ≠ s.a) (hne : ∀ (i : Nat) (r : Rn), rs[i]? = some r → r.l ≠ [] → ∀ k, blk fa l k → r.a ≠ some ⟨k, 0, none⟩) : TA w B fa (some ⟨g2, 0, none⟩) l rs := by
  have clash : ∀ (h : Nat) (m : Nat × List flP.Pr), OwnO flP.c 3 61 w h m.1 m.2 m.2.length → h ≠ g2 := fun h m ho e => by
    subst e
    obtain ⟨c, hc, _⟩ := ho
    rw [hty] at hc
    simp at hc
  refine ⟨⟨hf, hrow, fun r hr => ?_, fun i j r s hr hs hij k hk1 hk2 => ?_, fun g' o e hn => ?_, fun k hk hb => ?_⟩, fun g' o e => by cases e; exact hg2⟩
  · obtain ⟨i, hi⟩ := List.getElem?_of_mem hr
    rcases hown i r hi with h0 | ⟨h', e, hB', ho'⟩
    · exact .inl h0
    · exact .inr ⟨h', 0, e, hB', ho'⟩
  · obtain ⟨n1, g1, o1, a1, rfl⟩ := hk1
    obtain ⟨n2, g2, o2, a2, b2⟩ := hk2
    obtain ⟨h1, e1, _⟩ := (hown i r hr).resolve_left n1
    obtain ⟨h2, e2, _⟩ := (hown j s hs).resolve_left n2
    rw [e1] at a1
    rw [e2] at a2
    have p1 := congrArg Addr.block (Option.some.inj a1)
    have p2 := congrArg Addr.block (Option.some.inj a2)
    simp only at p1 p2
    have hh : h1 = h2 := by omega
    subst hh
    rcases Nat.lt_or_gt_of_ne hij with hij | hij
    · exact hnd i j r s hij hr hs n1 n2 (by rw [e1, e2])
    · exact hnd j i s r hij hs hr n2 n1 (by rw [e1, e2])
  · cases e
    refine ⟨fun hb => ?_, fun hb => ?_⟩
    · obtain ⟨r, hr, n1, g1, o1, a1, b1⟩ := hb
      obtain ⟨i, hi⟩ := List.getElem?_of_mem hr
      obtain ⟨h', e, hB', ho'⟩ := (hown i r hi).resolve_left n1
      rw [e] at a1
      have p1 := congrArg Addr.block (Option.some.inj a1)
      simp only at p1
      exact clash h' (0, r.l) ho' (by omega)
    · obtain ⟨hl, g1, o1, a1, b1⟩ := hb
      rcases hf with hf | ⟨g3, o3, e3, _, ho3⟩
      · exact hl hf
      · rw [e3] at a1
        have p1 := congrArg Addr.block (Option.some.inj a1)
        simp only at p1
        exact clash g3 (o3, l) ho3 (by omega)
  · obtain ⟨r, hr, n2, g2, o2, a2, b2⟩ := hb
    obtain ⟨i, hi⟩ := List.getElem?_of_mem hr
    obtain ⟨h', e, hB', ho'⟩ := (hown i r hi).resolve_left n2
    rw [e] at a2
    have p2 := congrArg Addr.block (Option.some.inj a2)
    simp only at p2
    exact hne i r hi n2 k hk (by rw [e]; congr 2; omega)
/-- two neighbours of a row of runs -/
theorem two_runs {w : World} {h : Nat} {ks : List Rn} {i : Nat} (hi : i + 2 ≤ ks.length) (hv : VR w w.heap.size (some ⟨h, 0, none⟩) ks) : VR w w.heap.size (some ⟨h, i, none⟩) [ks[i]'(by omega), ks[i + 1]'(by omega)] := by
  refine ⟨?_, fun r hr => ?_⟩
  · rcases hv.1 with h0 | ⟨b, off, hb, hlt, hc⟩
    · rw [h0] at hi; simp at hi
    · cases hb
      refine .inr ⟨h, i, rfl, hlt, fun j e he q v hq => ?_⟩
      have : ks[i + j]? = some e := by
        match j, he with
        | 0, he => simp at he; subst he; exact List.getElem?_eq_getElem (by omega)
        | 1, he => simp at he; subst he; exact List.getElem?_eq_getElem (by omega)
        | j + 2, he => simp at he
      have h2 := hc (i + j) e this q v hq
      rw [show i + j * 1 + q = 0 + (i + j) * 1 + q by omega]
      exact h2
  · simp at hr
    rcases hr with rfl | rfl
    · exact hv.2 _ (List.getElem_mem _)
    · exact hv.2 _ (List.getElem_mem _)
theorem owns_ownO {α : Type} {c : α → List Value} {n B g cap : Nat} {U : TypeId} {l : List α} {w : World} (hn : ∀ e, (c e).length = n) (ho : w.ownsRow B U n (.slice (some ⟨g, 0, none⟩) l.length cap) l.length (l.flatMap c)) : OwnO c n U w g 0 l l.length := by
  obtain ⟨_, ⟨h1, _⟩ | ⟨g', cap', cur, h1, h2, h3, h4, h5, h6, h7⟩⟩ := ho
  · cases h1
  cases h1
  refine ⟨cur, h3, by rw [h6, Nat.zero_add]; exact Nat.mul_le_mul_right n h4, fun i e hi he j v hv => ?_⟩
  have hf := flat_at hn l i e he j v hv
  rw [← h7] at hf
  have hlt := (List.getElem?_eq_some_iff.1 hf).1
  rw [List.length_take] at hlt
  rw [List.getElem?_take_of_lt (by omega)] at hf
  rw [Nat.zero_add]
  simpa using hf
/-- a copy given back as it is -/
theorem ta_set {w' : World} {B r n g h : Nat} {ys : List flP.Pr} {ks : List Rn} (hn : n = ks.length) (hr : r < B) (ho : Own flP.c 3 61 w' g ys ys.length) (hor : OR w' B h n ks) (hg : B ≤ g) (hh : B ≤ h) (hne : ∀ (i : Nat) (r : Rn), ks[i]? = some r → r.a ≠ some ⟨g, 0, none⟩) (u v : Value) : TA ((w'.setCell ⟨r, 0, none⟩ u).setCell ⟨r, 1, none⟩ v) B (some ⟨g, 0, none⟩) (some ⟨h, 0, none⟩) ys ks := by
  subst hn
  exact of_own_runs (B' := B) ((ho.kept (Below.heap_setCell _ _ _ _ (show g ≠ r by omega))).kept (Below.heap_setCell _ _ _ _ (show g ≠ r by omega))) ((hor.set hr (by omega) _ _).set hr (by omega) _ _) hg hh (Nat.le_refl _) hne
end Go.Proofs.YtoemkbooomgieaaGreatDoor.mga

/- The specification's TableMerge: the region of its loop that copies one run. -/
namespace Go.Proofs.YtoemkbooomgieaaGreatDoor.smr
open Go.ChangeShapes Go.WideShapes Go.ChangeAt Go.RowKit Go.Proofs.YtoemkbooomgieaaGreatDoor.fl Go.Proofs.YtoemkbooomgieaaGreatDoor.fo Go.Proofs.YtoemkbooomgieaaGreatDoor.rn Go.Proofs.YtoemkbooomgieaaGreatDoor.sct
set_option linter.unusedVariables false

section
variable {p : Pm} {s0 b m rc : Nat} {a : Option Addr} {c j : Nat} {act : Act} {Q : Exit → Act → World → Prop} {o : Oper}
variable {i0 i1 : TypeInfo} {z z1 : Value}
end
end Go.Proofs.YtoemkbooomgieaaGreatDoor.smr
