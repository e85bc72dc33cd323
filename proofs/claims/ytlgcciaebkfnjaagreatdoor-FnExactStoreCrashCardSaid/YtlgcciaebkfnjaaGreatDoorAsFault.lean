/- errors.As of a fault of the reader, at a target of that very type: it is found, and laid into the target; new memory besides. -/
import Derived.Test.YtlgcciaebkfnjaaGreatDoorBatchReader
import Derived.LaidEql
import Derived.Stop.Asserts
import Derived.RowKitTokens
namespace Go.Proofs.YtlgcciaebkfnjaaGreatDoor.asf
open Go.RowKit Go.Extern.Stop Go.Stop Go.Extern Go.Proofs.YtlgcciaebkfnjaaGreatDoor.fl
set_option linter.unusedVariables false

/-- closed facts on what the library asks of these types -/
theorem valP (t : Addr) (w : World) : (ReflectliteValue.unpack (.iface 213 (.pointer (some t)))).run Tryz.prog w = .ok (.agg #[.pointer (some ⟨2, 213, none⟩), .pointer (some ⟨w.heap.size, 0, none⟩), .int .u64 150]) (w.alloc (.cells #[.pointer (some t)] 213)) := by kernel_rfl
theorem typP (a : Addr) (w : World) : (ReflectliteValue.methodAny (ReflectliteValue.valueError "reflectlite.Value.Type" 0) (fun t _ _ _ => ReflectliteType.toType t) #[.agg #[.pointer (some ⟨2, 213, none⟩), .pointer (some a), .int .u64 150]]).run Tryz.prog w = .ok (.iface 246 (.agg #[.pointer (some ⟨2, 213, none⟩)])) w := by kernel_rfl
theorem mKind (h : Value) (w : World) : (Go.method 387 246 (.agg #[h]) "Kind").run Tryz.prog w = .ok (226, h) w := by kernel_rfl
theorem kindP (w : World) : ((ReflectliteType.abiMethod fun t => (fun a : Nat => Value.int IntKind.u8 (a : Int)) <$> Rtype.kind t) #[.pointer (some ⟨2, 213, none⟩)]).run Tryz.prog w = .ok (.int .u8 22) w := by kernel_rfl
theorem kindB (w : World) : ((ReflectliteType.abiMethod fun t => (fun a : Nat => Value.int IntKind.u8 (a : Int)) <$> Rtype.kind t) #[.pointer (some ⟨2, 211, none⟩)]).run Tryz.prog w = .ok (.int .u8 25) w := by kernel_rfl
theorem mElem (h : Value) (w : World) : (Go.method 387 246 (.agg #[h]) "Elem").run Tryz.prog w = .ok (247, .agg #[h]) w := by kernel_rfl
theorem mImpl (h : Value) (w : World) : (Go.method 387 246 (.agg #[h]) "Implements").run Tryz.prog w = .ok (248, .agg #[h]) w := by kernel_rfl
theorem mAsg (h : Value) (w : World) : (Go.method 387 246 (.agg #[h]) "AssignableTo").run Tryz.prog w = .ok (245, .agg #[h]) w := by kernel_rfl
theorem elemP (w : World) : (ReflectliteType.method ReflectliteType.elem #[.agg #[.pointer (some ⟨2, 213, none⟩)]]).run Tryz.prog w = .ok (.iface 246 (.agg #[.pointer (some ⟨2, 211, none⟩)])) w := by kernel_rfl
theorem implB (w : World) : (ReflectliteType.relation "Implements" ReflectliteType.implements_ #[.agg #[.pointer (some ⟨2, 211, none⟩)], .iface 246 (.agg #[.pointer (some ⟨2, 173, none⟩)])]).run Tryz.prog w = .ok (.bool true) w := by kernel_rfl
theorem typeB (v : Value) (w : World) : (ReflectliteType.typeOf #[.iface 211 v]).run Tryz.prog w = .ok (.iface 246 (.agg #[.pointer (some ⟨2, 211, none⟩)])) w := by kernel_rfl
theorem asgB (w : World) : (ReflectliteType.relation "AssignableTo" ReflectliteType.assignableTo #[.agg #[.pointer (some ⟨2, 211, none⟩)], .iface 246 (.agg #[.pointer (some ⟨2, 211, none⟩)])]).run Tryz.prog w = .ok (.bool true) w := by kernel_rfl
theorem valB (n : Int) (w : World) : (ReflectliteValue.unpack (.iface 211 (.agg #[.int .i64 n]))).run Tryz.prog w = .ok (.agg #[.pointer (some ⟨2, 211, none⟩), .pointer (some ⟨w.heap.size, 0, none⟩), .int .u64 153]) (w.alloc (.cells #[.int .i64 n] 211)) := by kernel_rfl
theorem elOf (w : World) : (Rtype.elem? 213).run Tryz.prog w = .ok (some 211) w := by kernel_rfl
theorem mkB (p : Addr) (w : World) : (ReflectliteValue.mk 211 p ReflectliteValue.flagAddr).run Tryz.prog w = .ok (.agg #[.pointer (some ⟨2, 211, none⟩), .pointer (some p), .int .u64 409]) w := by kernel_rfl
theorem parP (a : Addr) (w : World) : (ReflectliteValue.parts (.agg #[.pointer (some ⟨2, 213, none⟩), .pointer (some a), .int .u64 150])).run Tryz.prog w = .ok (some (213, a, 150)) w := by kernel_rfl
theorem parA (a : Addr) (w : World) : (ReflectliteValue.parts (.agg #[.pointer (some ⟨2, 211, none⟩), .pointer (some a), .int .u64 409])).run Tryz.prog w = .ok (some (211, a, 409)) w := by kernel_rfl
theorem parB (a : Addr) (w : World) : (ReflectliteValue.parts (.agg #[.pointer (some ⟨2, 211, none⟩), .pointer (some a), .int .u64 153])).run Tryz.prog w = .ok (some (211, a, 153)) w := by kernel_rfl
theorem dirB (w : World) : (Rtype.directlyAssignable 211 211).run Tryz.prog w = .ok true w := by kernel_rfl
end Go.Proofs.YtlgcciaebkfnjaaGreatDoor.asf
