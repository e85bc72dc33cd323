/- StoreAll: the specification and the program are TableScan of the store's table. -/
import Derived.Test.YtfoajjkcocppeaaScanSpec
import Derived.Test.YtfoajjkcocppeaaStoLib
namespace Go.Proofs.Ytfoajjkcocppeaa.sal
open Go.ChangeShapes Go.WideShapes Go.ChangeAt Go.RowKit Go.Proofs.Ytfoajjkcocppeaa.fl Go.Proofs.Ytfoajjkcocppeaa.rn Go.Proofs.Ytfoajjkcocppeaa.sci
set_option linter.unusedVariables false

set_option maxRecDepth 100000 in
theorem spec_all (ys : List flP.Pr) (rs : List Rn) (yp : Addr) (ra : Option Addr) (yc rc : Nat) (lg : ByteArray) (sf : Int) (w : World) (F : tb.Fit ys rs) (hY : Row flP.c 3 w w.heap.size (some yp) ys) (hR : VR w w.heap.size ra rs) :
    Calls Try.prog 18 #[.agg #[.slice (some yp) ys.length yc, .slice ra rs.length rc, .string lg, .int .i64 sf]] w fun r w' => ∃ v, r = .returned v ∧ w'.ownsRow w.heap.size 63 3 v (scan ys (rs.map (·.l)) ⟨#[]⟩ ⟨#[]⟩).length ((scan ys (rs.map (·.l)) ⟨#[]⟩ ⟨#[]⟩).flatMap flP.c) ∧ Below w.heap.size w w' := by
  have hb : Below w.heap.size w (w.alloc (.cells #[.slice (some yp) ys.length yc, .slice ra rs.length rc, .string lg, .int .i64 sf] 34)) := (Below.refl _ _).alloc (Nat.le_refl _) _
  have hA := bnew w #[.slice (some yp) ys.length yc, .slice ra rs.length rc, .string lg, .int .i64 sf] 34
  obtain ⟨W, hW⟩ : ∃ W, w.alloc (.cells #[.slice (some yp) ys.length yc, .slice ra rs.length rc, .string lg, .int .i64 sf] 34) = W := ⟨_, rfl⟩
  rw [hW] at hb hA
  have hg := scs.spec_scan ys rs yp ra yc rc ⟨#[]⟩ ⟨#[]⟩ W F (hY.inn hb) (hR.inn hb)
  obtain ⟨sc, hsc⟩ : ∃ sc, scan ys (rs.map (·.l)) ⟨#[]⟩ ⟨#[]⟩ = sc := ⟨_, rfl⟩
  rw [hsc] at hg ⊢
  have x0 : W.cell? ⟨w.heap.size, 0, none⟩ = some (.slice (some yp) ys.length yc) := bcell hA rfl
  have x1 : W.cell? ⟨w.heap.size, 1, none⟩ = some (.slice ra rs.length rc) := bcell hA rfl
  clear hY hR hA hsc
  go_enter Try.func18, Try.ntmps18
  go_wp2_with (go_at_call 36; fail)
  refine hg.mono ?_
  rintro e w1 ⟨v, rfl, ho, hb1⟩
  have HO : Hid (w1.ownsRow W.heap.size 63 3 v sc.length (sc.flatMap flP.c)) := ho
  clear hW x0 x1 hg ho
  go_wp2
  go_ret
  exact ⟨_, rfl, sct.own_low HO.out hb.size, hb.trans (hb1.mono hb.size)⟩
set_option maxRecDepth 100000 in
theorem impl_all (ys : List flP.Pr) (rs : List Rn) (ya : Option Addr) (q : Addr) (yc rc : Nat) (lg : ByteArray) (sf : Int) (w : World) (F : tb.Fit ys rs) (hyc : ys.length ≤ yc) (hrc : ∀ r ∈ rs, r.l.length ≤ r.c) (hY : Row flP.c 3 w w.heap.size ya ys) (hR : VR w w.heap.size (some q) rs) :
    Calls Try.prog 19 #[.agg #[.slice ya ys.length yc, .slice (some q) rs.length rc, .string lg, .int .i64 sf]] w fun r w' => ∃ v, r = .returned v ∧ (scan ys (rs.map (·.l)) ⟨#[]⟩ ⟨#[]⟩).length ≤ 6000 ∧ w'.ownsRow w.heap.size 63 3 v (scan ys (rs.map (·.l)) ⟨#[]⟩ ⟨#[]⟩).length ((scan ys (rs.map (·.l)) ⟨#[]⟩ ⟨#[]⟩).flatMap flP.c) ∧ Below w.heap.size w w' := by
  have hb : Below w.heap.size w (w.alloc (.cells #[.slice ya ys.length yc, .slice (some q) rs.length rc, .string lg, .int .i64 sf] 34)) := (Below.refl _ _).alloc (Nat.le_refl _) _
  have hA := bnew w #[.slice ya ys.length yc, .slice (some q) rs.length rc, .string lg, .int .i64 sf] 34
  obtain ⟨W, hW⟩ : ∃ W, w.alloc (.cells #[.slice ya ys.length yc, .slice (some q) rs.length rc, .string lg, .int .i64 sf] 34) = W := ⟨_, rfl⟩
  rw [hW] at hb hA
  have hg := sci.impl_scan ys rs ya q yc rc ⟨#[]⟩ ⟨#[]⟩ W F hyc hrc (hY.inn hb) (hR.inn hb)
  obtain ⟨sc, hsc⟩ : ∃ sc, scan ys (rs.map (·.l)) ⟨#[]⟩ ⟨#[]⟩ = sc := ⟨_, rfl⟩
  rw [hsc] at hg ⊢
  have x0 : W.cell? ⟨w.heap.size, 0, none⟩ = some (.slice ya ys.length yc) := bcell hA rfl
  have x1 : W.cell? ⟨w.heap.size, 1, none⟩ = some (.slice (some q) rs.length rc) := bcell hA rfl
  clear hY hR hA hsc
  go_enter Try.func19, Try.ntmps19
  go_wp2_with (go_at_call 37; fail)
  refine hg.mono ?_
  rintro e w1 ⟨v, rfl, hll, ho, hb1⟩
  have HO : Hid (w1.ownsRow W.heap.size 63 3 v sc.length (sc.flatMap flP.c)) := ho
  clear hW x0 x1 hg ho
  go_wp2
  go_ret
  exact ⟨_, rfl, hll, sct.own_low HO.out hb.size, hb.trans (hb1.mono hb.size)⟩
end Go.Proofs.Ytfoajjkcocppeaa.sal
