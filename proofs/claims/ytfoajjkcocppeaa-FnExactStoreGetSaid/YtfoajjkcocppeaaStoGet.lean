/- StoreGet: the specification and the program are TableGet of the store's table. -/
import Derived.Test.YtfoajjkcocppeaaTabGet
import Derived.Test.YtfoajjkcocppeaaStoLib
namespace Go.Proofs.Ytfoajjkcocppeaa.sge
open Go.ChangeShapes Go.WideShapes Go.ChangeAt Go.RowKit Go.Proofs.Ytfoajjkcocppeaa.fl Go.Proofs.Ytfoajjkcocppeaa.rn Go.Proofs.Ytfoajjkcocppeaa.tgi
set_option linter.unusedVariables false

set_option maxRecDepth 100000 in
theorem spec_get (ys : List flP.Pr) (rs : List Rn) (ya ra : Option Addr) (yc rc : Nat) (lg : ByteArray) (sf : Int) (key : ByteArray) (w : World) (F : tb.Fit ys rs) (hkey : key.size ≤ 1048576) (hY : Row flP.c 3 w w.heap.size ya ys) (hR : VR w w.heap.size ra rs) :
    Calls Try.prog 16 #[.agg #[.slice ya ys.length yc, .slice ra rs.length rc, .string lg, .int .i64 sf], .string key] w fun r w' => r = .returned (.tuple #[.string (getV ys (rs.map (·.l)) key), .bool (getO ys (rs.map (·.l)) key)]) ∧ Below w.heap.size w w' := by
  have hb : Below w.heap.size w (w.alloc (.cells #[.slice ya ys.length yc, .slice ra rs.length rc, .string lg, .int .i64 sf] 34)) := (Below.refl _ _).alloc (Nat.le_refl _) _
  have hA := bnew w #[.slice ya ys.length yc, .slice ra rs.length rc, .string lg, .int .i64 sf] 34
  obtain ⟨W, hW⟩ : ∃ W, w.alloc (.cells #[.slice ya ys.length yc, .slice ra rs.length rc, .string lg, .int .i64 sf] 34) = W := ⟨_, rfl⟩
  rw [hW] at hb hA
  have hg := tgi.spec_get ys rs ya ra yc rc key W F hkey (hY.inn hb) (hR.inn hb)
  obtain ⟨gv, hgv⟩ : ∃ gv, getV ys (rs.map (·.l)) key = gv := ⟨_, rfl⟩
  obtain ⟨go, hgo⟩ : ∃ go, getO ys (rs.map (·.l)) key = go := ⟨_, rfl⟩
  rw [hgv, hgo] at hg ⊢
  have x0 : W.cell? ⟨w.heap.size, 0, none⟩ = some (.slice ya ys.length yc) := bcell hA rfl
  have x1 : W.cell? ⟨w.heap.size, 1, none⟩ = some (.slice ra rs.length rc) := bcell hA rfl
  clear hY hR hA hgv hgo
  go_enter Try.func16, Try.ntmps16
  go_wp2_with (go_at_call 34; fail)
  refine hg.mono ?_
  rintro e w1 ⟨rfl, hb1⟩
  clear hW x0 x1 hg
  go_wp2
  go_ret2
  exact ⟨rfl, hb.trans (hb1.mono hb.size)⟩
set_option maxRecDepth 100000 in
theorem impl_get (ys : List flP.Pr) (rs : List Rn) (ya ra : Option Addr) (yc rc : Nat) (lg : ByteArray) (sf : Int) (key : ByteArray) (w : World) (F : tb.Fit ys rs) (hkey : key.size ≤ 1048576) (hY : Row flP.c 3 w w.heap.size ya ys) (hR : VR w w.heap.size ra rs) (hra : ra.isSome = true := by rfl) :
    Calls Try.prog 17 #[.agg #[.slice ya ys.length yc, .slice ra rs.length rc, .string lg, .int .i64 sf], .string key] w fun r w' => r = .returned (.tuple #[.string (getV ys (rs.map (·.l)) key), .bool (getO ys (rs.map (·.l)) key)]) ∧ Below w.heap.size w w' := by
  have hb : Below w.heap.size w (w.alloc (.cells #[.slice ya ys.length yc, .slice ra rs.length rc, .string lg, .int .i64 sf] 34)) := (Below.refl _ _).alloc (Nat.le_refl _) _
  have hA := bnew w #[.slice ya ys.length yc, .slice ra rs.length rc, .string lg, .int .i64 sf] 34
  obtain ⟨W, hW⟩ : ∃ W, w.alloc (.cells #[.slice ya ys.length yc, .slice ra rs.length rc, .string lg, .int .i64 sf] 34) = W := ⟨_, rfl⟩
  rw [hW] at hb hA
  have hg := tgi.impl_get ys rs ya ra yc rc key W F hkey (hY.inn hb) (hR.inn hb) hra
  obtain ⟨gv, hgv⟩ : ∃ gv, getV ys (rs.map (·.l)) key = gv := ⟨_, rfl⟩
  obtain ⟨go, hgo⟩ : ∃ go, getO ys (rs.map (·.l)) key = go := ⟨_, rfl⟩
  rw [hgv, hgo] at hg ⊢
  have x0 : W.cell? ⟨w.heap.size, 0, none⟩ = some (.slice ya ys.length yc) := bcell hA rfl
  have x1 : W.cell? ⟨w.heap.size, 1, none⟩ = some (.slice ra rs.length rc) := bcell hA rfl
  clear hY hR hA hgv hgo
  go_enter Try.func17, Try.ntmps17
  go_wp2_with (go_at_call 35; fail)
  refine hg.mono ?_
  rintro e w1 ⟨rfl, hb1⟩
  clear hW x0 x1 hg
  go_wp2
  go_ret2
  exact ⟨rfl, hb.trans (hb1.mono hb.size)⟩
end Go.Proofs.Ytfoajjkcocppeaa.sge
