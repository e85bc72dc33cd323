/- The closure that GetBatch defers: behind a panic with a fault it lays nothing and false; else it does nothing. -/
import Derived.Test.YtlgcciaebkfnjaaGreatDoorSk17
import Derived.Defers
import Derived.Recover

/- errors.As of a fault of the reader, at a target of that very type: it is found, and laid into the target; four new blocks besides. -/
namespace Go.Proofs.YtlgcciaebkfnjaaGreatDoor.asf
open Go.RowKit Go.Extern.Stop Go.Stop Go.Extern Go.Proofs.YtlgcciaebkfnjaaGreatDoor.fl
set_option linter.unusedVariables false

set_option maxHeartbeats 4000000 in
theorem as_hit (n : Int) (t : Addr) (old : Value) (w : World) (hg : w.cell? ⟨1, 0, none⟩ = some (.iface 246 (.agg #[.pointer (some ⟨2, 173, none⟩)]))) (ht0 : w.cell? t = some old) (hf0 : w.frozen? t = false) :
    Calls Tryz.prog 187 #[.iface 211 (.agg #[.int .i64 n]), .iface 213 (.pointer (some t))] w fun ev w' => ev = .returned (.bool true) ∧ w' = ((((w.alloc (.cells #[.pointer (some t)] 213)).alloc (.cells #[.pointer (some ⟨2, 213, none⟩), .pointer (some ⟨w.heap.size, 0, none⟩), .int .u64 150] 232)).alloc (.cells #[.pointer (some ⟨2, 213, none⟩), .pointer (some ⟨w.heap.size, 0, none⟩), .int .u64 150] 232)).alloc (.cells #[.int .i64 n] 211)).setCell t (.int .i64 n) := by
  have h0 := @run_callFunc_extern Tryz.prog 200 _ (fun args => ReflectliteValue.unpack (args.getD 0 (.tuple #[]))) Tryz.func200 (by kernel_rfl) (by kernel_rfl) (by kernel_rfl) (by kernel_rfl)
  have h1 := @run_callFunc_extern Tryz.prog 201 _ (ReflectliteValue.methodAny (ReflectliteValue.valueError "reflectlite.Value.Type" 0) (fun t _ _ _ => ReflectliteType.toType t)) Tryz.func201 (by kernel_rfl) (by kernel_rfl) (by kernel_rfl) (by kernel_rfl)
  have h2 := @run_callFunc_extern Tryz.prog 202 _ (ReflectliteValue.method (ReflectliteValue.valueError "reflectlite.Value.IsNil" 0) ReflectliteValue.isNil) Tryz.func202 (by kernel_rfl) (by kernel_rfl) (by kernel_rfl) (by kernel_rfl)
  have h3 := @run_callFunc_extern Tryz.prog 226 _ (ReflectliteType.abiMethod fun t => do pure (.int .u8 (← Rtype.kind t))) Tryz.func226 (by kernel_rfl) (by kernel_rfl) (by kernel_rfl) (by kernel_rfl)
  have h4 := @run_callFunc_extern Tryz.prog 247 _ (ReflectliteType.method ReflectliteType.elem) Tryz.func247 (by kernel_rfl) (by kernel_rfl) (by kernel_rfl) (by kernel_rfl)
  have h5 := @run_callFunc_extern Tryz.prog 248 _ (ReflectliteType.relation "Implements" ReflectliteType.implements_) Tryz.func248 (by kernel_rfl) (by kernel_rfl) (by kernel_rfl) (by kernel_rfl)
  have h6 := @run_callFunc_extern Tryz.prog 207 _ ReflectliteType.typeOf Tryz.func207 (by kernel_rfl) (by kernel_rfl) (by kernel_rfl) (by kernel_rfl)
  have h7 := @run_callFunc_extern Tryz.prog 245 _ (ReflectliteType.relation "AssignableTo" ReflectliteType.assignableTo) Tryz.func245 (by kernel_rfl) (by kernel_rfl) (by kernel_rfl) (by kernel_rfl)
  have h8 := @run_callFunc_extern Tryz.prog 208 _ (ReflectliteValue.method (ReflectliteValue.valueError "reflectlite.Value.Elem" 0) ReflectliteValue.elem) Tryz.func208 (by kernel_rfl) (by kernel_rfl) (by kernel_rfl) (by kernel_rfl)
  have h9 := @run_callFunc_extern Tryz.prog 209 _ ReflectliteValue.set Tryz.func209 (by kernel_rfl) (by kernel_rfl) (by kernel_rfl) (by kernel_rfl)
  have f_typeB := typeB
  have f_mAsg := mAsg
  have f_asgB := asgB
  have f_valB := valB
  have f_valP := valP
  have f_typP := typP
  have f_mKind := mKind
  have f_mElem := mElem
  have f_mImpl := mImpl
  have f_kindP := kindP
  have f_kindB := kindB
  have f_elemP := elemP
  have f_implB := implB
  have n8 := isNilP ⟨w.heap.size, 0, none⟩ t ((w.alloc (.cells #[.pointer (some t)] 213)).alloc (.cells #[.pointer (some ⟨2, 213, none⟩), .pointer (some ⟨w.heap.size, 0, none⟩), .int .u64 150] 232)) (by simp)
  have hlt : 1 < w.heap.size := by
    rcases Nat.lt_or_ge 1 w.heap.size with h | h
    · exact h
    · simp [World.cell?, Array.getElem?_eq_none h] at hg
  have hg2 : ((w.alloc (.cells #[.pointer (some t)] 213)).alloc (.cells #[.pointer (some ⟨2, 213, none⟩), .pointer (some ⟨w.heap.size, 0, none⟩), .int .u64 150] 232)).cell? ⟨1, 0, none⟩ = some (.iface 246 (.agg #[.pointer (some ⟨2, 173, none⟩)])) := by
    rw [World.cell?_alloc_lt _ _ ⟨1, 0, none⟩ (by simp; omega), World.cell?_alloc_lt _ _ ⟨1, 0, none⟩ hlt]; exact hg
  have htl : t.block < w.heap.size := by
    rcases Nat.lt_or_ge t.block w.heap.size with h | h
    · exact h
    · simp [World.cell?, Array.getElem?_eq_none h] at ht0
  have el := elemVP ⟨w.heap.size, 0, none⟩ t (((w.alloc (.cells #[.pointer (some t)] 213)).alloc (.cells #[.pointer (some ⟨2, 213, none⟩), .pointer (some ⟨w.heap.size, 0, none⟩), .int .u64 150] 232)).alloc (.cells #[.pointer (some ⟨2, 213, none⟩), .pointer (some ⟨w.heap.size, 0, none⟩), .int .u64 150] 232)) (by rw [World.cell?_alloc_lt _ _ ⟨w.heap.size, 0, none⟩ (by simp; omega)]; simp)
  have st := setB t ⟨w.heap.size + 1 + 1 + 1, 0, none⟩ n old ((((w.alloc (.cells #[.pointer (some t)] 213)).alloc (.cells #[.pointer (some ⟨2, 213, none⟩), .pointer (some ⟨w.heap.size, 0, none⟩), .int .u64 150] 232)).alloc (.cells #[.pointer (some ⟨2, 213, none⟩), .pointer (some ⟨w.heap.size, 0, none⟩), .int .u64 150] 232)).alloc (.cells #[.int .i64 n] 211))
    (by rw [World.cell?_alloc_at _ _ _ _ (by simp)]; rfl)
    (by rw [World.cell?_alloc_lt _ _ t (by simp; omega), World.cell?_alloc_lt _ _ t (by simp; omega), World.cell?_alloc_lt _ _ t (by simp; omega), World.cell?_alloc_lt _ _ t htl]; exact ht0)
    (by rw [World.frozen?_alloc_old _ _ t (by simp; omega), World.frozen?_alloc_old _ _ t (by simp; omega), World.frozen?_alloc_old _ _ t (by simp; omega), World.frozen?_alloc_old _ _ t (Nat.ne_of_lt htl)]; exact hf0)
  go_enter Tryz.func187, Tryz.ntmps187
  go_wp2
  refine wp_loop_rounds 1 ?_
  rw [rounds_succ]
  go_wp2
  go_ret
  exact ⟨rfl, rfl⟩
end Go.Proofs.YtlgcciaebkfnjaaGreatDoor.asf

/- isBatchFault: false of nothing, true of a fault of the reader; nothing that was there is turned. -/
namespace Go.Proofs.YtlgcciaebkfnjaaGreatDoor.asf
open Go.RowKit Go.Extern.Stop Go.Stop Go.Extern Go.Proofs.YtlgcciaebkfnjaaGreatDoor.fl
set_option linter.unusedVariables false

/-- the library's variable that errors.As reads -/
def ET (w : World) : Prop := w.cell? ⟨1, 0, none⟩ = some (.iface 246 (.agg #[.pointer (some ⟨2, 173, none⟩)]))
theorem ET.lt {w : World} (h : ET w) : 1 < w.heap.size := by
  rcases Nat.lt_or_ge 1 w.heap.size with h2 | h2
  · exact h2
  · simp [ET, World.cell?, Array.getElem?_eq_none h2] at h

theorem isB (v : Value) (w : World) : (Instr.typeAssert (.iface 211 v) 20 173 true).run Tryz.prog w = .ok (.tuple #[.iface 211 v, .bool true]) w := by kernel_rfl
theorem isN (w : World) : (Instr.typeAssert .nilIface 20 173 true).run Tryz.prog w = .ok (.tuple #[.nilIface, .bool false]) w := by kernel_rfl

set_option maxRecDepth 100000 in
theorem fault_nil (w : World) : Calls Tryz.prog 164 #[.nilIface] w fun e w' => e = .returned (.bool false) ∧ w' = w := by
  have f1 := isN
  go_enter Tryz.func164, Tryz.ntmps164
  go_wp2
  go_ret
  exact ⟨rfl, rfl⟩

set_option maxRecDepth 100000 in
theorem fault_hit (n : Int) (w : World) (hg : ET w) : Calls Tryz.prog 164 #[.iface 211 (.agg #[.int .i64 n])] w fun e w' => e = .returned (.bool true) ∧ Below w.heap.size w w' := by
  have f1 := isB
  have hA := as_hit n ⟨w.heap.size, 0, none⟩ (.int .i64 0) (w.alloc (.cells #[.int .i64 0] 211)) (by rw [World.cell?_alloc_lt _ _ ⟨1, 0, none⟩ hg.lt]; exact hg) (by simp) (by simp)
  go_enter Tryz.func164, Tryz.ntmps164
  go_wp2_with (go_at_call 187; fail)
  refine hA.mono ?_
  rintro e w' ⟨rfl, hw⟩
  have hb : Below w.heap.size w w' := by
    rw [hw]
    exact ((((((Below.refl _ _).alloc (by simp) _).alloc (by simp) _).alloc (by simp; omega) _).alloc (by simp; omega) _).alloc (by simp; omega) _).setCell (by simp) _
  clear hw
  go_wp2
  go_ret
  exact ⟨rfl, hb⟩
end Go.Proofs.YtlgcciaebkfnjaaGreatDoor.asf

/- The closure that GetBatch defers: behind a panic with a fault it lays nothing and false; else it does nothing. -/
namespace Go.Proofs.YtlgcciaebkfnjaaGreatDoor.asf
open Go.RowKit Go.Extern.Stop Go.Stop Go.Extern Go.Proofs.YtlgcciaebkfnjaaGreatDoor.fl
set_option linter.unusedVariables false

set_option maxRecDepth 100000 in
theorem catch_idle (p q : Addr) (w : World) :
    CallsD Tryz.prog 163 #[.pointer (some p), .pointer (some q)] .returning w fun e u' w' => e = .returned (.tuple #[]) ∧ u' = .returning ∧ w' = w := by
  have hN := fault_nil w
  refine callsD_of_wpS Tryz.func163 rfl fun c₀ cs hu => ?_
  apply wpS_seq
  apply wpS_region
  simp [wpOpsS, go_sem, recoverD, hu, Tryz.ntmps163, Exit.thenS]
  refine hN.mono ?_
  rintro e w' ⟨rfl, hw⟩
  obtain rfl := hw.symm
  simp [go_sem]
  refine wpS_cond (t := false) (by simp [Act.eval, Array.replicate]) ?_
  simp only [Bool.false_eq_true, if_false]
  refine wpS_of_wp (wp_skip ?_)
  cases c₀
  simp_all [bodyPostS, results, Tryz.results163]

set_option maxRecDepth 100000 in
theorem catch_hit (p q : Nat) (n : Int) (x y : Value) (w : World) (hg : ET w) (hp : w.cell? ⟨p, 0, none⟩ = some x) (hp2 : w.frozen? ⟨p, 0, none⟩ = false) (hq : w.cell? ⟨q, 0, none⟩ = some y) (hq2 : w.frozen? ⟨q, 0, none⟩ = false) (hpq : p ≠ q) :
    CallsD Tryz.prog 163 #[.pointer (some ⟨p, 0, none⟩), .pointer (some ⟨q, 0, none⟩)] (.panicking [{ v := .iface 211 (.agg #[.int .i64 n]), recovered := false }]) w fun e u' w' =>
      e = .returned (.tuple #[]) ∧ u' = .panicking [{ v := .iface 211 (.agg #[.int .i64 n]), recovered := true }] ∧ ∃ w1, Below w.heap.size w w1 ∧ w' = (w1.setCell ⟨p, 0, none⟩ (.slice none 0 0)).setCell ⟨q, 0, none⟩ (.bool false) := by
  have hN := fault_hit n w hg
  have lp : p < w.heap.size := by
    rcases Nat.lt_or_ge p w.heap.size with h | h
    · exact h
    · simp [World.cell?, Array.getElem?_eq_none h] at hp
  have lq : q < w.heap.size := by
    rcases Nat.lt_or_ge q w.heap.size with h | h
    · exact h
    · simp [World.cell?, Array.getElem?_eq_none h] at hq
  refine callsD_of_wpS Tryz.func163 rfl fun c₀ cs hu => ?_
  apply wpS_seq
  apply wpS_region
  simp [wpOpsS, go_sem, recoverD, hu, Tryz.ntmps163, Exit.thenS]
  refine hN.mono ?_
  rintro e w' ⟨rfl, hb⟩
  have h1 : w'.cell? ⟨p, 0, none⟩ = some x := by rw [hb.cell lp]; exact hp
  have h2 : w'.frozen? ⟨p, 0, none⟩ = false := by rw [hb.frozen lp]; exact hp2
  have h3 : w'.cell? ⟨q, 0, none⟩ = some y := by rw [hb.cell lq]; exact hq
  have h4 : w'.frozen? ⟨q, 0, none⟩ = false := by rw [hb.frozen lq]; exact hq2
  simp [go_sem]
  refine wpS_cond (t := true) (by simp [Act.eval, Array.replicate]) ?_
  simp only [if_true]
  apply wpS_region
  simp [wpOpsS, go_sem, h1, h2, h3, h4, bodyPostS, results, Tryz.results163]
  exact ⟨w', hb, rfl⟩
end Go.Proofs.YtlgcciaebkfnjaaGreatDoor.asf
