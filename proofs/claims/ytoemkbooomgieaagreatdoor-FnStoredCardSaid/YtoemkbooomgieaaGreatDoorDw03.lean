/- The specification's TableFlush. -/
import Derived.Test.YtoemkbooomgieaaGreatDoorFlatOff
import Derived.Test.YtoemkbooomgieaaGreatDoorFlPair
import Derived.Test.YtoemkbooomgieaaGreatDoorDw02
import Derived.Deep.RegionWith
import Derived.Test.YtoemkbooomgieaaGreatDoorRunRows
import Derived.Test.YtoemkbooomgieaaGreatDoorTabLib
import Derived.Test.YtoemkbooomgieaaGreatDoorTabOk

/- The laws' marks in rows of pairs of their own, at any offset of their block: laid, and held. -/
namespace Go.Proofs.YtoemkbooomgieaaGreatDoor.mrP
open Go.ChangeShapes Go.WideShapes Go.ChangeAt Go.RowKit Go.Proofs.YtoemkbooomgieaaGreatDoor.fl Go.Proofs.YtoemkbooomgieaaGreatDoor.fo
set_option linter.unusedVariables false

/-- the marks of n pairs from the k0-th on -/
def mks (k0 n : Nat) : List flP.Pr := (List.range n).map fun i => ⟨sm.mt (k0 + 3 * i), sm.mt (k0 + 3 * i + 1), decide ((k0 + 3 * i + 2) % 3 = 0)⟩
theorem mks_len (k0 n : Nat) : (mks k0 n).length = n := by simp [mks]
end Go.Proofs.YtoemkbooomgieaaGreatDoor.mrP

/- The laws' marks in lists of runs: laid, and held. -/
namespace Go.Proofs.YtoemkbooomgieaaGreatDoor.mrR
open Go.ChangeShapes Go.WideShapes Go.ChangeAt Go.RowKit Go.Proofs.YtoemkbooomgieaaGreatDoor.fl Go.Proofs.YtoemkbooomgieaaGreatDoor.fo Go.Proofs.YtoemkbooomgieaaGreatDoor.rn
set_option linter.unusedVariables false

theorem blk_len {α β : Type} {a : Option Addr} {l : List α} {l' : List β} {k : Nat} (h : blk a l k) (hl : l.length = l'.length) : blk a l' k := by
  obtain ⟨h0, h1⟩ := h
  refine ⟨fun e => h0 ?_, h1⟩
  rw [e] at hl
  exact List.length_eq_zero_iff.1 hl
/-- a row of pairs of its own, or none -/
def MP (w : World) (B : Nat) (a : Option Addr) (l : List flP.Pr) : Prop := Mine flP.c 3 61 w B a l

/-- how many pairs -/
def ln (r : Rn) : Nat := r.l.length
/-- the blocks of the runs -/
def bks (rs : List Rn) : Nat → Prop := fun k => ∃ r ∈ rs, blk r.a r.l k
/-- no block is of two runs -/
def Apart (rs : List Rn) : Prop := ∀ (i j : Nat) (r s : Rn), rs[i]? = some r → rs[j]? = some s → i ≠ j → ∀ k, blk r.a r.l k → ¬ blk s.a s.l k
/-- all runs bear their marks -/
def Mkd (w : World) (B k0 : Nat) (rs : List Rn) (n : Nat) : Prop := ∀ (i : Nat) (r : Rn), rs[i]? = some r → i < n → MP w B r.a (mrP.mks (k0 + 3 * bulk ln (rs.take i)) r.l.length)
end Go.Proofs.YtoemkbooomgieaaGreatDoor.mrR

/- The laws' marks in tables: laid, and held. -/
namespace Go.Proofs.YtoemkbooomgieaaGreatDoor.mrT
open Go.ChangeShapes Go.WideShapes Go.ChangeAt Go.RowKit Go.Proofs.YtoemkbooomgieaaGreatDoor.fl Go.Proofs.YtoemkbooomgieaaGreatDoor.fo Go.Proofs.YtoemkbooomgieaaGreatDoor.rn Go.Proofs.YtoemkbooomgieaaGreatDoor.mrR
set_option linter.unusedVariables false

/-- a table of its own: its fresh pairs, its runs, no block of two of them -/
structure MT (w : World) (B : Nat) (fa a : Option Addr) (l : List flP.Pr) (rs : List Rn) : Prop where
  fresh : MP w B fa l
  row : Row cR 1 w w.heap.size a rs
  runs : ∀ r ∈ rs, MP w B r.a r.l
  apart : Apart rs
  off : ∀ g o, a = some ⟨g, o, none⟩ → rs ≠ [] → ¬ bks rs g ∧ ¬ blk fa l g
  two : ∀ k, blk fa l k → ¬ bks rs k
/-- the table's marks are laid -/
structure KT (w : World) (B : Nat) (fa a : Option Addr) (n : Nat) (rs : List Rn) : Prop where
  fresh : MP w B fa (mrP.mks 1 n)
  row : Row cR 1 w w.heap.size a rs
  runs : Mkd w B (1 + 3 * n) rs rs.length
theorem row_kept {w w' : World} {S : Nat → Prop} {a : Option Addr} {rs : List Rn} (h : Row cR 1 w w.heap.size a rs) (ht : Tn w w' S) (hS : ∀ g o, a = some ⟨g, o, none⟩ → rs ≠ [] → ¬ S g) : Row cR 1 w' w'.heap.size a rs := by
  by_cases e : rs = []
  · exact .inl e
  · rcases h with h | ⟨b, off, rfl, hlt, hc⟩
    · exact absurd h e
    · refine .inr ⟨b, off, rfl, Nat.lt_of_lt_of_le hlt ht.size, fun i x hx j v hv => ?_⟩
      have h5 := hc i x hx j v hv
      have h6 := ht.block b hlt (hS b off rfl e)
      simp only [World.cell?, h6] at h5 ⊢
      exact h5
theorem KT.on {w w' : World} {B n : Nat} {fa a : Option Addr} {rs : List Rn} (h : KT w B fa a n rs) (hb : Below w.heap.size w w') : KT w' B fa a n rs :=
  ⟨Mine.below h.fresh hb, h.row.inn hb, fun i r hr hi => Mine.below (h.runs i r hr hi) hb⟩
theorem MT.kept {w w' : World} {B : Nat} {fa a : Option Addr} {l : List flP.Pr} {rs : List Rn} (h : MT w B fa a l rs) (hb : Below w.heap.size w w') : MT w' B fa a l rs :=
  ⟨Mine.below h.fresh hb, h.row.inn hb, fun r hr => Mine.below (h.runs r hr) hb, h.apart, h.off, h.two⟩
/-- behind the marks of the runs -/
theorem MT.fin {w w1 w2 : World} {B : Nat} {fa a : Option Addr} {l : List flP.Pr} {rs : List Rn} (h : MT w B fa a l rs) (hf : MP w1 B fa (mrP.mks 1 l.length)) (hr : Row cR 1 w1 w1.heap.size a rs) (ht : Tn w1 w2 (bks rs)) (hk : Mkd w2 B (1 + 3 * l.length) rs rs.length) : KT w2 B fa a l.length rs :=
  ⟨Mine.kept hf ht (fun k hk => h.two k (blk_len hk (mrP.mks_len _ _))), row_kept hr ht (fun g o e hn => (h.off g o e hn).1), hk⟩
/-- the blocks of a table's pairs -/
def own (fa : Option Addr) (l : List flP.Pr) (rs : List Rn) : Nat → Prop := fun k => blk fa l k ∨ bks rs k

end Go.Proofs.YtoemkbooomgieaaGreatDoor.mrT

/- Answers that are tables: their memory is their own. -/
namespace Go.Proofs.YtoemkbooomgieaaGreatDoor.tan
open Go.ChangeShapes Go.WideShapes Go.ChangeAt Go.RowKit Go.Proofs.YtoemkbooomgieaaGreatDoor.fl Go.Proofs.YtoemkbooomgieaaGreatDoor.fo Go.Proofs.YtoemkbooomgieaaGreatDoor.rn Go.Proofs.YtoemkbooomgieaaGreatDoor.mrR Go.Proofs.YtoemkbooomgieaaGreatDoor.mrT
set_option linter.unusedVariables false

/-- a table of its own, all of it at or above B -/
structure TA (w : World) (B : Nat) (fa a : Option Addr) (l : List flP.Pr) (rs : List Rn) : Prop where
  mt : MT w B fa a l rs
  low : ∀ g o, a = some ⟨g, o, none⟩ → B ≤ g
section
variable {w w' : World} {B : Nat} {fa a : Option Addr} {l : List flP.Pr} {rs : List Rn}
theorem TA.on (h : TA w B fa a l rs) (hb : Below w.heap.size w w') : TA w' B fa a l rs := ⟨h.mt.kept hb, h.low⟩
theorem TA.rows (h : TA w B fa a l rs) : Row flP.c 3 w w.heap.size fa l ∧ VR w w.heap.size a rs := ⟨Mine.row h.mt.fresh, h.mt.row, fun r hr => Mine.row (h.mt.runs r hr)⟩
theorem TA.turn (h : TA w B fa a l rs) {S : Nat → Prop} (ht : Tn w w' S) (hS : ∀ k, S k → k < B) : TA w' B fa a l rs :=
  ⟨⟨Mine.kept h.mt.fresh ht (fun k hk hs => by have := (Mine.blk_le h.mt.fresh hk).1; have := hS k hs; omega), row_kept h.mt.row ht (fun g o e hn hs => by have := h.low g o e; have := hS g hs; omega), fun r hr => Mine.kept (h.mt.runs r hr) ht (fun k hk hs => by have := (Mine.blk_le (h.mt.runs r hr) hk).1; have := hS k hs; omega), h.mt.apart, h.mt.off, h.mt.two⟩, h.low⟩
theorem TA.wide (h : TA w B fa a l rs) {B' : Nat} (hB : B' ≤ B) : TA w B' fa a l rs :=
  ⟨⟨h.mt.fresh.imp id (fun ⟨g, o, e, hg, ho⟩ => ⟨g, o, e, by omega, ho⟩), h.mt.row, fun r hr => (h.mt.runs r hr).imp id (fun ⟨g, o, e, hg, ho⟩ => ⟨g, o, e, by omega, ho⟩), h.mt.apart, h.mt.off, h.mt.two⟩, fun g o e => Nat.le_trans hB (h.low g o e)⟩
theorem of_runs {g2 : Nat} {cur : Array Value} (hf : MP w B fa l) (hg2 : B ≤ g2) (hty : w.heap[g2]? = some (.cells cur 28 (0, 0))) (hrow : Row cR 1 w w.heap.size (some ⟨g2, 0, none⟩) rs) (hown : ∀ (i : Nat) (r : Rn), rs[i]? = some r → ∃ h, r.a = some ⟨h, 0, none⟩ ∧ B ≤ h ∧ OwnO flP.c 3 61 w h 0 r.l r.l.length) (hnd : ∀ (i j : Nat) (r s : Rn), i < j → rs[i]? = some r → rs[j]? = some s → r.a ≠ s.a) (hne : ∀ (i : Nat) (r : Rn), rs[i]? = some r → ∀ k, blk fa l k → r.a ≠ some ⟨k, 0, none⟩) : TA w B fa (some ⟨g2, 0, none⟩) l rs := by
  have clash : ∀ (h : Nat) (m : Nat × List flP.Pr), OwnO flP.c 3 61 w h m.1 m.2 m.2.length → h ≠ g2 := fun h m ho e => by
    subst e
    obtain ⟨c, hc, _⟩ := ho
    rw [hty] at hc
    simp at hc
  refine ⟨⟨hf, hrow, fun r hr => ?_, fun i j r s hr hs hij k hk1 hk2 => ?_, fun g' o e hn => ?_, fun k hk hb => ?_⟩, fun g' o e => by cases e; exact hg2⟩
  · obtain ⟨i, hi⟩ := List.getElem?_of_mem hr
    obtain ⟨h', e, hB', ho'⟩ := hown i r hi
    exact .inr ⟨h', 0, e, hB', ho'⟩
  · obtain ⟨h1, e1, _⟩ := hown i r hr
    obtain ⟨h2, e2, _⟩ := hown j s hs
    obtain ⟨_, g1, o1, a1, rfl⟩ := hk1
    obtain ⟨_, g2, o2, a2, b2⟩ := hk2
    rw [e1] at a1
    rw [e2] at a2
    have p1 := congrArg Addr.block (Option.some.inj a1)
    have p2 := congrArg Addr.block (Option.some.inj a2)
    simp only at p1 p2
    have hh : h1 = h2 := by omega
    subst hh
    rcases Nat.lt_or_gt_of_ne hij with hij | hij
    · exact hnd i j r s hij hr hs (by rw [e1, e2])
    · exact hnd j i s r hij hs hr (by rw [e1, e2])
  · cases e
    refine ⟨fun hb => ?_, fun hb => ?_⟩
    · obtain ⟨r, hr, _, g1, o1, a1, b1⟩ := hb
      obtain ⟨i, hi⟩ := List.getElem?_of_mem hr
      obtain ⟨h', e, hB', ho'⟩ := hown i r hi
      rw [e] at a1
      have p1 := congrArg Addr.block (Option.some.inj a1)
      simp only at p1
      exact clash h' (0, r.l) ho' (by omega)
    · obtain ⟨hl, g1, o1, a1, b1⟩ := hb
      rcases hf with hf | ⟨g3, o3, e3, _, ho3⟩
      · exact hl hf
      · rw [e3] at a1
        have p1 := congrArg Addr.block (Option.some.inj a1)
        simp only at p1
        exact clash g3 (o3, l) ho3 (by omega)
  · obtain ⟨r, hr, _, g2, o2, a2, b2⟩ := hb
    obtain ⟨i, hi⟩ := List.getElem?_of_mem hr
    obtain ⟨h', e, hB', ho'⟩ := hown i r hi
    rw [e] at a2
    have p2 := congrArg Addr.block (Option.some.inj a2)
    simp only at p2
    exact hne i r hi k hk (by rw [e]; congr 2; omega)
theorem of_own_runs {B' g h : Nat} (ho : Own flP.c 3 61 w g l l.length) (hor : OR w B' h rs.length rs) (hBg : B ≤ g) (hBh : B ≤ h) (hB : B ≤ B') (hne : ∀ (i : Nat) r, rs[i]? = some r → r.a ≠ some ⟨g, 0, none⟩) : TA w B (some ⟨g, 0, none⟩) (some ⟨h, 0, none⟩) l rs := by
  obtain ⟨cur, hc, _⟩ := hor.blk
  refine of_runs (.inr ⟨g, 0, rfl, hBg, of_own ho⟩) hBh hc hor.vr.1 (fun i r hr => ?_) hor.nd (fun i r hr k hk => ?_)
  · obtain ⟨h', e, _, hB', ho'⟩ := hor.own i r hr
    exact ⟨h', e, by omega, of_own ho'⟩
  · obtain ⟨_, g1, o1, a1, rfl⟩ := hk
    cases a1
    exact hne i r hr
theorem flat_map (ks : List Rn) : ks.flatMap cR = ks.map (fun r => Value.slice r.a r.l.length r.c) := by
  induction ks with
  | nil => rfl
  | cons r ks ih => rw [List.flatMap_cons, ih]; rfl
/-- the row of runs as an owned row -/
theorem or_owns {B' g : Nat} (h : OR w B' g rs.length rs) (hB : B ≤ g) (hl : rs.length ≤ maxLen) : w.ownsRow B 28 1 (.slice (some ⟨g, 0, none⟩) rs.length rs.length) rs.length (rs.flatMap cR) := by
  obtain ⟨cur, h1, h2, h3⟩ := h.blk
  refine ⟨by rw [flat_map, List.length_map, Nat.mul_one], .inr ⟨g, rs.length, cur, rfl, hB, h1, Nat.le_refl _, hl, by rw [h2, Nat.mul_one], ?_⟩⟩
  rw [flat_map, Nat.mul_one]
  apply List.ext_getElem?
  intro j
  rw [List.getElem?_take, List.getElem?_map]
  split
  · rename_i hj
    rw [List.getElem?_eq_getElem hj]
    have := h3 j _ (List.getElem?_eq_getElem hj)
    simpa using this
  · rename_i hj
    rw [List.getElem?_eq_none (by omega)]
    rfl
end
/-- how many pairs there are in all runs -/
def tot (R : List (List flP.Pr)) : Nat := bulk List.length R
end Go.Proofs.YtoemkbooomgieaaGreatDoor.tan

/- The specification's TableFlush. -/
namespace Go.Proofs.YtoemkbooomgieaaGreatDoor.fls
open Go.ChangeShapes Go.WideShapes Go.ChangeAt Go.RowKit Go.Proofs.YtoemkbooomgieaaGreatDoor.fl Go.Proofs.YtoemkbooomgieaaGreatDoor.fo Go.Proofs.YtoemkbooomgieaaGreatDoor.rn Go.Proofs.YtoemkbooomgieaaGreatDoor.tko
set_option linter.unusedVariables false

theorem row_of {α : Type} {c : α → List Value} {n : Nat} (hn : ∀ e, (c e).length = n) {W : World} {B m : Nat} {T : TypeId} {a : Option Addr} {q : Nat} {l : List α} (hm : m = l.length) (h : W.ownsRow B T n (.slice a m q) m (l.flatMap c)) : Row c n W W.heap.size a l := by
  subst hm
  obtain ⟨a', cap, e, hr⟩ := own_row hn h
  cases e
  exact hr
/-- the copy's rows as rows -/
theorem rows_of {W : World} {B n m : Nat} {g1 c1 : Nat} {va : Option Addr} {vc : Nat} {ys : List flP.Pr} {ks : List Rn} (hm : m = ks.length) (hf : W.ownsRow B 61 3 (.slice (some ⟨g1, 0, none⟩) ys.length c1) ys.length (ys.flatMap flP.c)) (hr : W.ownsRow B 28 1 (.slice va m vc) m (ks.flatMap cR)) (hk : ∀ r ∈ ks, sct.OwnR W B r) :
    Row flP.c 3 W W.heap.size (some ⟨g1, 0, none⟩) ys ∧ VR W W.heap.size va ks :=
  ⟨row_of flP.c_len rfl hf, row_of cR_len hm hr, fun r h => row_of flP.c_len rfl (hk r h)⟩
noncomputable def can (ys : List flP.Pr) (R : List (List flP.Pr)) : Bool := okB ys R && (decide (ys.length ≠ 0) && decide (R.length < 8))
noncomputable def ansY (ys : List flP.Pr) (R : List (List flP.Pr)) : List flP.Pr := if can ys R then [] else ys
noncomputable def ansR (ys : List flP.Pr) (R : List (List flP.Pr)) : List (List flP.Pr) := if can ys R then ys :: R else R
theorem can_true {ys : List flP.Pr} {R : List (List flP.Pr)} (h1 : okB ys R = true) (h2 : ys.length ≠ 0) (h3 : R.length < 8) : can ys R = true := by
  unfold can
  rw [h1, decide_eq_true h2, decide_eq_true h3]
  rfl
theorem can_false {ys : List flP.Pr} {R : List (List flP.Pr)} {ob : Bool} (h : okB ys R = ob) (hc : ¬ (ob = true ∧ ys.length ≠ 0 ∧ R.length < 8)) : can ys R = false := by
  cases hcan : can ys R with
  | false => rfl
  | true =>
    exfalso
    unfold can at hcan
    rw [h] at hcan
    simp only [Bool.and_eq_true, decide_eq_true_eq] at hcan
    exact hc ⟨hcan.1, hcan.2.1, hcan.2.2⟩
theorem ans_no {ys : List flP.Pr} {R : List (List flP.Pr)} (h : can ys R = false) : ansY ys R = ys ∧ ansR ys R = R := by
  unfold ansY ansR
  rw [h]
  exact ⟨rfl, rfl⟩
theorem ans_yes {ys : List flP.Pr} {R : List (List flP.Pr)} (h : can ys R = true) : ansY ys R = [] ∧ ansR ys R = ys :: R := by
  unfold ansY ansR
  rw [h]
  exact ⟨rfl, rfl⟩

end Go.Proofs.YtoemkbooomgieaaGreatDoor.fls
