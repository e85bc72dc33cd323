/- Answers that are tables: their memory is their own. -/
import Derived.Test.YtokaoafbgebelaaMrTable
import Derived.Test.YtokaoafbgebelaaTabLib
namespace Go.Proofs.Ytokaoafbgebelaa.tan
open Go.ChangeShapes Go.WideShapes Go.ChangeAt Go.RowKit Go.Proofs.Ytokaoafbgebelaa.fl Go.Proofs.Ytokaoafbgebelaa.fo Go.Proofs.Ytokaoafbgebelaa.rn Go.Proofs.Ytokaoafbgebelaa.mrR Go.Proofs.Ytokaoafbgebelaa.mrT
set_option linter.unusedVariables false

/-- a table of its own, all of it at or above B -/
structure TA (w : World) (B : Nat) (fa a : Option Addr) (l : List flP.Pr) (rs : List Rn) : Prop where
  mt : MT w B fa a l rs
  low : ∀ g o, a = some ⟨g, o, none⟩ → B ≤ g
section
variable {w w' : World} {B : Nat} {fa a : Option Addr} {l : List flP.Pr} {rs : List Rn}
theorem TA.on (h : TA w B fa a l rs) (hb : Below w.heap.size w w') : TA w' B fa a l rs := ⟨h.mt.kept hb, h.low⟩
theorem TA.rows (h : TA w B fa a l rs) : Row flP.c 3 w w.heap.size fa l ∧ VR w w.heap.size a rs := ⟨Mine.row h.mt.fresh, h.mt.row, fun r hr => Mine.row (h.mt.runs r hr)⟩
theorem TA.turn (h : TA w B fa a l rs) {S : Nat → Prop} (ht : Tn w w' S) (hS : ∀ k, S k → k < B) : TA w' B fa a l rs :=
  ⟨⟨Mine.kept h.mt.fresh ht (fun k hk hs => by have := (Mine.blk_le h.mt.fresh hk).1; have := hS k hs; omega), row_kept h.mt.row ht (fun g o e hn hs => by have := h.low g o e; have := hS g hs; omega), fun r hr => Mine.kept (h.mt.runs r hr) ht (fun k hk hs => by have := (Mine.blk_le (h.mt.runs r hr) hk).1; have := hS k hs; omega), h.mt.apart, h.mt.off, h.mt.two⟩, h.low⟩
theorem TA.wide (h : TA w B fa a l rs) {B' : Nat} (hB : B' ≤ B) : TA w B' fa a l rs :=
  ⟨⟨h.mt.fresh.imp id (fun ⟨g, o, e, hg, ho⟩ => ⟨g, o, e, by omega, ho⟩), h.mt.row, fun r hr => (h.mt.runs r hr).imp id (fun ⟨g, o, e, hg, ho⟩ => ⟨g, o, e, by omega, ho⟩), h.mt.apart, h.mt.off, h.mt.two⟩, fun g o e => Nat.le_trans hB (h.low g o e)⟩
theorem of_runs {g2 : Nat} {cur : Array Value} (hf : MP w B fa l) (hg2 : B ≤ g2) (hty : w.heap[g2]? = some (.cells cur 24 (0, 0))) (hrow : Row cR 1 w w.heap.size (some ⟨g2, 0, none⟩) rs) (hown : ∀ (i : Nat) (r : Rn), rs[i]? = some r → ∃ h, r.a = some ⟨h, 0, none⟩ ∧ B ≤ h ∧ OwnO flP.c 3 40 w h 0 r.l r.l.length) (hnd : ∀ (i j : Nat) (r s : Rn), i < j → rs[i]? = some r → rs[j]? = some s → r.a ≠ s.a) (hne : ∀ (i : Nat) (r : Rn), rs[i]? = some r → ∀ k, blk fa l k → r.a ≠ some ⟨k, 0, none⟩) : TA w B fa (some ⟨g2, 0, none⟩) l rs := by
  have clash : ∀ (h : Nat) (m : Nat × List flP.Pr), OwnO flP.c 3 40 w h m.1 m.2 m.2.length → h ≠ g2 := fun h m ho e => by
    subst e
    obtain ⟨c, hc, _⟩ := ho
    rw [hty] at hc
    simp at hc
  refine ⟨⟨hf, hrow, fun r hr => ?_, fun i j r s hr hs hij k hk1 hk2 => ?_, fun g' o e hn => ?_, fun k hk hb => ?_⟩, fun g' o e => by cases e; exact hg2⟩
  · obtain ⟨i, hi⟩ := List.getElem?_of_mem hr
    obtain ⟨h', e, hB', ho'⟩ := hown i r hi
    exact .inr ⟨h', 0, e, hB', ho'⟩
  · obtain ⟨h1, e1, _⟩ := hown i r hr
    obtain ⟨h2, e2, _⟩ := hown j s hs
    obtain ⟨_, g1, o1, a1, rfl⟩ := hk1
    obtain ⟨_, g2, o2, a2, b2⟩ := hk2
    rw [e1] at a1
    rw [e2] at a2
    have p1 := congrArg Addr.block (Option.some.inj a1)
    have p2 := congrArg Addr.block (Option.some.inj a2)
    simp only at p1 p2
    have hh : h1 = h2 := by omega
    subst hh
    rcases Nat.lt_or_gt_of_ne hij with hij | hij
    · exact hnd i j r s hij hr hs (by rw [e1, e2])
    · exact hnd j i s r hij hs hr (by rw [e1, e2])
  · cases e
    refine ⟨fun hb => ?_, fun hb => ?_⟩
    · obtain ⟨r, hr, _, g1, o1, a1, b1⟩ := hb
      obtain ⟨i, hi⟩ := List.getElem?_of_mem hr
      obtain ⟨h', e, hB', ho'⟩ := hown i r hi
      rw [e] at a1
      have p1 := congrArg Addr.block (Option.some.inj a1)
      simp only at p1
      exact clash h' (0, r.l) ho' (by omega)
    · obtain ⟨hl, g1, o1, a1, b1⟩ := hb
      rcases hf with hf | ⟨g3, o3, e3, _, ho3⟩
      · exact hl hf
      · rw [e3] at a1
        have p1 := congrArg Addr.block (Option.some.inj a1)
        simp only at p1
        exact clash g3 (o3, l) ho3 (by omega)
  · obtain ⟨r, hr, _, g2, o2, a2, b2⟩ := hb
    obtain ⟨i, hi⟩ := List.getElem?_of_mem hr
    obtain ⟨h', e, hB', ho'⟩ := hown i r hi
    rw [e] at a2
    have p2 := congrArg Addr.block (Option.some.inj a2)
    simp only at p2
    exact hne i r hi k hk (by rw [e]; congr 2; omega)
theorem of_own_runs {B' g h : Nat} (ho : Own flP.c 3 40 w g l l.length) (hor : OR w B' h rs.length rs) (hBg : B ≤ g) (hBh : B ≤ h) (hB : B ≤ B') (hne : ∀ (i : Nat) r, rs[i]? = some r → r.a ≠ some ⟨g, 0, none⟩) : TA w B (some ⟨g, 0, none⟩) (some ⟨h, 0, none⟩) l rs := by
  obtain ⟨cur, hc, _⟩ := hor.blk
  refine of_runs (.inr ⟨g, 0, rfl, hBg, of_own ho⟩) hBh hc hor.vr.1 (fun i r hr => ?_) hor.nd (fun i r hr k hk => ?_)
  · obtain ⟨h', e, _, hB', ho'⟩ := hor.own i r hr
    exact ⟨h', e, by omega, of_own ho'⟩
  · obtain ⟨_, g1, o1, a1, rfl⟩ := hk
    cases a1
    exact hne i r hr
theorem flat_map (ks : List Rn) : ks.flatMap cR = ks.map (fun r => Value.slice r.a r.l.length r.c) := by
  induction ks with
  | nil => rfl
  | cons r ks ih => rw [List.flatMap_cons, ih]; rfl
/-- the row of runs as an owned row -/
theorem or_owns {B' g : Nat} (h : OR w B' g rs.length rs) (hB : B ≤ g) (hl : rs.length ≤ maxLen) : w.ownsRow B 24 1 (.slice (some ⟨g, 0, none⟩) rs.length rs.length) rs.length (rs.flatMap cR) := by
  obtain ⟨cur, h1, h2, h3⟩ := h.blk
  refine ⟨by rw [flat_map, List.length_map, Nat.mul_one], .inr ⟨g, rs.length, cur, rfl, hB, h1, Nat.le_refl _, hl, by rw [h2, Nat.mul_one], ?_⟩⟩
  rw [flat_map, Nat.mul_one]
  apply List.ext_getElem?
  intro j
  rw [List.getElem?_take, List.getElem?_map]
  split
  · rename_i hj
    rw [List.getElem?_eq_getElem hj]
    have := h3 j _ (List.getElem?_eq_getElem hj)
    simpa using this
  · rename_i hj
    rw [List.getElem?_eq_none (by omega)]
    rfl
end
/-- how many pairs there are in all runs -/
def tot (R : List (List flP.Pr)) : Nat := bulk List.length R
end Go.Proofs.Ytokaoafbgebelaa.tan
