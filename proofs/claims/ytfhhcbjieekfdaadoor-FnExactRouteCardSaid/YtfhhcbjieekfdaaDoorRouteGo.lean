/- The exchange of a name with what is bound to it, and by which of it a message goes: the program's. -/
import Derived.Test.YtfhhcbjieekfdaaDoorRouteKept
import Derived.Test.YtfhhcbjieekfdaaDoorRouteAns
import Derived.Test.YtfhhcbjieekfdaaDoorRouteImpl
import Derived.Test.YtfhhcbjieekfdaaDoorTopicImpl
namespace Go.Proofs.YtfhhcbjieekfdaaDoor.rtg
open Go.ChangeShapes Go.WideShapes Go.ChangeAt Go.RowKit Go.Proofs.YtfhhcbjieekfdaaDoor.fl Go.Proofs.YtfhhcbjieekfdaaDoor.rr Go.Proofs.YtfhhcbjieekfdaaDoor.rc Go.Proofs.YtfhhcbjieekfdaaDoor.ro Go.Proofs.YtfhhcbjieekfdaaDoor.rtp Go.Proofs.YtfhhcbjieekfdaaDoor.rta Go.Proofs.YtfhhcbjieekfdaaDoor.rtk
set_option linter.unusedVariables false

/-- the dynamic type of an exchange by its kind -/
def kt (kind : Int) : TypeId := if kind = 0 then 85 else if kind = 1 then 86 else 87
theorem meth_bound (kind : Int) (v : Value) (w : World) : (method 250 (kt kind) (.agg #[v]) "loop.example/g00227/impl.bound").run Tryd.prog w = .ok (110, v) w := by
  unfold kt
  split
  · kernel_rfl
  · split <;> kernel_rfl
theorem bound (v : Value) (w : World) : Calls Tryd.prog 110 #[v] w fun e w' => e = .returned v ∧ w' = w := by
  go_enter Tryd.func110, Tryd.ntmps110
  go_wp2
  go_ret
  exact ⟨rfl, rfl⟩
set_option maxRecDepth 100000 in
theorem goes_by (kind : Int) (hk : 0 ≤ kind ∧ kind ≤ 2) (v : Value) (b : Bi) (key : ByteArray) (m : Int) (w : World) (hb : b.k.size ≤ 1048576) (hkey : key.size ≤ 1048576) (hm : w.cell? ⟨0, 0, none⟩ = some (.int .i64 m)) :
    Calls Tryd.prog 26 #[.iface (kt kind) (.agg #[v]), .agg #[.string b.x, .string b.k, .string b.q], .string key] w fun e w' => e = .returned (.bool (goes kind b key)) ∧ Below w.heap.size w w' := by
  have hkk : kind = 0 ∨ kind = 1 ∨ kind = 2 := by omega
  rcases hkk with rfl | rfl | rfl
  · rw [show kt 0 = 85 from rfl]
    have t0 : ∀ W : World, (Instr.typeAssert (.iface 85 (.agg #[v])) 53 85 true).run Tryd.prog W = .ok (.tuple #[.agg #[v], .bool true]) W := fun W => by kernel_rfl
    have hg : goes 0 b key = (b.k.toList == key.toList) := by
      rw [← ti.dec_same]
      simp [goes]
    rw [hg]
    go_enter Tryd.func26, Tryd.ntmps26
    go_wp2
    go_ret
    exact ⟨rfl, (Below.refl _ _).alloc (Nat.le_refl _) _⟩
  · rw [show kt 1 = 86 from rfl]
    have t0 : ∀ W : World, (Instr.typeAssert (.iface 86 (.agg #[v])) 53 85 true).run Tryd.prog W = .ok (.tuple #[.agg #[.slice none 0 0], .bool false]) W := fun W => by kernel_rfl
    have t1 : ∀ W : World, (Instr.typeAssert (.iface 86 (.agg #[v])) 53 86 true).run Tryd.prog W = .ok (.tuple #[.agg #[v], .bool true]) W := fun W => by kernel_rfl
    have hg : goes 1 b key = true := by simp [goes]
    rw [hg]
    go_enter Tryd.func26, Tryd.ntmps26
    go_wp2
    go_ret
    exact ⟨rfl, (Below.refl _ _).alloc (Nat.le_refl _) _⟩
  · rw [show kt 2 = 87 from rfl]
    have t0 : ∀ W : World, (Instr.typeAssert (.iface 87 (.agg #[v])) 53 85 true).run Tryd.prog W = .ok (.tuple #[.agg #[.slice none 0 0], .bool false]) W := fun W => by kernel_rfl
    have t1 : ∀ W : World, (Instr.typeAssert (.iface 87 (.agg #[v])) 53 86 true).run Tryd.prog W = .ok (.tuple #[.agg #[.slice none 0 0], .bool false]) W := fun W => by kernel_rfl
    have t2 : ∀ W : World, (Instr.typeAssert (.iface 87 (.agg #[v])) 53 87 true).run Tryd.prog W = .ok (.tuple #[.agg #[v], .bool true]) W := fun W => by kernel_rfl
    have hg : goes 2 b key = tp.topic b.k key := by simp [goes]
    rw [hg]
    have hb0 : Below w.heap.size w (w.alloc (.cells #[.string b.x, .string b.k, .string b.q] 46)) := (Below.refl _ _).alloc (Nat.le_refl _) _
    have ht := ti.impl_topic b.k key m _ hb hkey ((hb0.cell (p := ⟨0, 0, none⟩) (block_lt_of_cell hm)).trans hm)
    clear hm
    go_enter Tryd.func26, Tryd.ntmps26
    go_wp2_with (go_at_call 51; refine ht.mono ?_; rintro e w1 ⟨rfl, hb1⟩)
    go_ret
    exact ⟨rfl, hb0.trans (hb1.mono hb0.size)⟩
end Go.Proofs.YtfhhcbjieekfdaaDoor.rtg
