/- isBatchFault: false of nothing, true of a fault of the reader; nothing that was there is turned. -/
import Derived.Test.YtlgcciaebkfnjaaGreatDoorAsHit
namespace Go.Proofs.YtlgcciaebkfnjaaGreatDoor.asf
open Go.RowKit Go.Extern.Stop Go.Stop Go.Extern Go.Proofs.YtlgcciaebkfnjaaGreatDoor.fl
set_option linter.unusedVariables false

/-- the library's variable that errors.As reads -/
def ET (w : World) : Prop := w.cell? ⟨1, 0, none⟩ = some (.iface 246 (.agg #[.pointer (some ⟨2, 173, none⟩)]))
theorem ET.lt {w : World} (h : ET w) : 1 < w.heap.size := by
  rcases Nat.lt_or_ge 1 w.heap.size with h2 | h2
  · exact h2
  · simp [ET, World.cell?, Array.getElem?_eq_none h2] at h

theorem isB (v : Value) (w : World) : (Instr.typeAssert (.iface 211 v) 20 173 true).run Tryz.prog w = .ok (.tuple #[.iface 211 v, .bool true]) w := by kernel_rfl
theorem isN (w : World) : (Instr.typeAssert .nilIface 20 173 true).run Tryz.prog w = .ok (.tuple #[.nilIface, .bool false]) w := by kernel_rfl

set_option maxRecDepth 100000 in
theorem fault_nil (w : World) : Calls Tryz.prog 164 #[.nilIface] w fun e w' => e = .returned (.bool false) ∧ w' = w := by
  have f1 := isN
  go_enter Tryz.func164, Tryz.ntmps164
  go_wp2
  go_ret
  exact ⟨rfl, rfl⟩

set_option maxRecDepth 100000 in
theorem fault_hit (n : Int) (w : World) (hg : ET w) : Calls Tryz.prog 164 #[.iface 211 (.agg #[.int .i64 n])] w fun e w' => e = .returned (.bool true) ∧ Below w.heap.size w w' := by
  have f1 := isB
  have hA := as_hit n ⟨w.heap.size, 0, none⟩ (.int .i64 0) (w.alloc (.cells #[.int .i64 0] 211)) (by rw [World.cell?_alloc_lt _ _ ⟨1, 0, none⟩ hg.lt]; exact hg) (by simp) (by simp)
  go_enter Tryz.func164, Tryz.ntmps164
  go_wp2_with (go_at_call 187; fail)
  refine hA.mono ?_
  rintro e w' ⟨rfl, hw⟩
  have hb : Below w.heap.size w w' := by
    rw [hw]
    exact ((((((Below.refl _ _).alloc (by simp) _).alloc (by simp) _).alloc (by simp; omega) _).alloc (by simp; omega) _).alloc (by simp; omega) _).setCell (by simp) _
  clear hw
  go_wp2
  go_ret
  exact ⟨rfl, hb⟩
end Go.Proofs.YtlgcciaebkfnjaaGreatDoor.asf
