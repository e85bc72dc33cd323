/- errors.As of a fault of the reader, at a target of that very type: it is found, and laid into the target; four new blocks besides. -/
import Derived.Test.YtoemkbooomgieaaGreatDoorDw15
import Derived.Test.YtoemkbooomgieaaGreatDoorDw08
import Derived.Test.YtoemkbooomgieaaGreatDoorDw14
import Derived.Test.YtoemkbooomgieaaGreatDoorFlatOff
import Derived.Deep.QuietTactic
import Derived.BigQuiet
import Derived.Deep.RegionWith
import Derived.LaidEql
import Derived.Stop.Asserts
import Derived.RowKitTokens

/- The specification's Replay. -/
namespace Go.Proofs.YtoemkbooomgieaaGreatDoor.rps
open Go.ChangeShapes Go.WideShapes Go.ChangeAt Go.RowKit Go.Proofs.YtoemkbooomgieaaGreatDoor.fl Go.Proofs.YtoemkbooomgieaaGreatDoor.fo Go.Proofs.YtoemkbooomgieaaGreatDoor.rn Go.Proofs.YtoemkbooomgieaaGreatDoor.mrR Go.Proofs.YtoemkbooomgieaaGreatDoor.rcp Go.Proofs.YtoemkbooomgieaaGreatDoor.rcm Go.Proofs.YtoemkbooomgieaaGreatDoor.rpp
set_option linter.unusedVariables false

def kp (e : flP.Pr) : Bool := !e.g
theorem nx_no {p : flP.Pr → Bool} {all : List flP.Pr} {k : Nat} {e : flP.Pr} (h : all[k]? = some e) (hk : p e = false) : (all.take (k + 1)).filter p = (all.take k).filter p := by
  rw [List.take_add_one, List.filter_append, h]
  simp [hk]
theorem nx_yes {p : flP.Pr → Bool} {all : List flP.Pr} {k : Nat} {e : flP.Pr} (h : all[k]? = some e) (hk : p e = true) : (all.take (k + 1)).filter p = (all.take k).filter p ++ [e] := by
  rw [List.take_add_one, List.filter_append, h]
  simp [hk]
/-- all pairs of the first batches, and of the first pairs of the next -/
def upto (R : List (List flP.Pr)) (i k : Nat) : List flP.Pr := (R.take i).flatten ++ (R.getD i []).take k
theorem upto_next {R : List (List flP.Pr)} {i k : Nat} {l : List flP.Pr} {e : flP.Pr} (h : R[i]? = some l) (he : l[k]? = some e) : upto R i (k + 1) = upto R i k ++ [e] := by
  unfold upto
  rw [List.getD_eq_getElem?_getD, h, Option.getD_some, List.take_add_one, he]
  simp
theorem upto_row {R : List (List flP.Pr)} {i : Nat} {l : List flP.Pr} (h : R[i]? = some l) : upto R i l.length = upto R (i + 1) 0 := by
  unfold upto
  rw [List.getD_eq_getElem?_getD, h, Option.getD_some, List.take_add_one, h, List.take_length]
  simp
theorem upto_0 (R : List (List flP.Pr)) : upto R 0 0 = [] := by simp [upto]
theorem upto_all (R : List (List flP.Pr)) : upto R R.length 0 = R.flatten := by simp [upto]
theorem upto_le {R : List (List flP.Pr)} (i k : Nat) : (upto R i k).length ≤ R.flatten.length := by
  by_cases hi : i < R.length
  · have h := List.getElem?_eq_getElem hi
    have e : R.flatten = (R.take i).flatten ++ (R[i] ++ (R.drop (i + 1)).flatten) := by
      have h0 : R = R.take i ++ R[i] :: R.drop (i + 1) := by rw [← List.drop_eq_getElem_cons hi, List.take_append_drop]
      have h1 := congrArg List.flatten h0
      rw [List.flatten_append, List.flatten_cons] at h1
      exact h1
    unfold upto
    rw [e, List.getD_eq_getElem?_getD, h, Option.getD_some]
    simp only [List.length_append, List.length_take]
    omega
  · unfold upto
    rw [List.getD_eq_getElem?_getD, List.getElem?_eq_none (by omega), Option.getD_none, List.take_of_length_le (by omega)]
    simp
end Go.Proofs.YtoemkbooomgieaaGreatDoor.rps

/- The program's reader of a batch: what each of its methods takes, and that it fails by a panic with a fault of its own. -/
namespace Go.Proofs.YtoemkbooomgieaaGreatDoor.brd
open Go.ChangeShapes Go.WideShapes Go.ChangeAt Go.RowKit Go.Proofs.YtoemkbooomgieaaGreatDoor.fl Go.Proofs.YtoemkbooomgieaaGreatDoor.fo Go.Proofs.YtoemkbooomgieaaGreatDoor.gbp
set_option linter.unusedVariables false

/-- the reader in memory: the bytes, and the place that it has come to -/
def RB (w : World) (r : Nat) (s : ByteArray) (i : Int) : Prop := w.heap[r]? = some (.cells #[.string s, .int .i64 i] 124 (0, 0))
/-- a panic with a fault -/
def Pk (e : Ending) : Prop := ∃ j : Int, e = .panicked [{ v := .iface 154 (.agg #[.int .i64 j]), recovered := false }]
/-- nothing but the reader's own block is turned -/
def Tr (r : Nat) (w w' : World) : Prop := Tn w w' (fun k => k = r)
theorem tr_drew (r : Nat) (w : World) : Tr r w w.drew := Tn.of _ (Below.refl _ _).drew
theorem tr_drewN (r n : Nat) (w : World) : Tr r w (w.drewN n) := ⟨rfl, rfl, rfl, Nat.le_refl _, fun _ _ _ => rfl⟩
theorem tr_moved (w : World) (r : Nat) (b : Int) : Tr r w (w.setCell ⟨r, 1, none⟩ (.int .i64 b)) := Tn.set (Tn.refl w (fun k => k = r)) (S := fun k => k = r) rfl 1 _
theorem Tr.trans {r : Nat} {a b c : World} (h : Tr r a b) (h2 : Tr r b c) : Tr r a c := Tn.trans h h2
theorem tr_below {r : Nat} {a b : World} (h : Below a.heap.size a b) : Tr r a b := Tn.of _ h
theorem RB.moved {w : World} {r : Nat} {s : ByteArray} {i : Int} (h : RB w r s i) (b : Int) : RB (w.setCell ⟨r, 1, none⟩ (.int .i64 b)) r s b := bset h 1 _
theorem RB.on {w w' : World} {r : Nat} {s : ByteArray} {i : Int} (h : RB w r s i) (hb : Below w.heap.size w w') : RB w' r s i := bstay h hb (Array.getElem?_eq_some_iff.1 h).1
set_option maxRecDepth 100000 in
theorem fail_run (r : Nat) (s : ByteArray) (i : Int) (w : World) (h : RB w r s i) : Calls Tryz.prog 100 #[.pointer (some ⟨r, 0, none⟩)] w fun e w' => Pk e ∧ w' = w := by
  have c1 : w.cell? ⟨r, 1, none⟩ = some (.int .i64 i) := bcell h rfl
  go_enter Tryz.func100, Tryz.ntmps100
  go_wp2
  exact ⟨rfl, ⟨i, rfl⟩, rfl⟩
set_option maxRecDepth 100000 in
theorem move_bad (r : Nat) (s : ByteArray) (i b : Int) (w : World) (h : RB w r s i) (hb : b < 0) : Calls Tryz.prog 101 #[.pointer (some ⟨r, 0, none⟩), .int .i64 b] w fun e w' => Pk e ∧ w' = w := by
  have hf := fail_run r s i w h
  go_enter Tryz.func101, Tryz.ntmps101
  go_wp2_with (go_at_call 100; fail)
  refine hf.mono ?_
  rintro e w' ⟨⟨j, rfl⟩, hw⟩
  obtain rfl := hw.symm
  go_wp2
  exact ⟨rfl, ⟨j, rfl⟩, rfl⟩
set_option maxRecDepth 100000 in
theorem move_run (r : Nat) (s : ByteArray) (i b : Int) (w : World) (h : RB w r s i) (hb : 0 ≤ b) : Calls Tryz.prog 101 #[.pointer (some ⟨r, 0, none⟩), .int .i64 b] w fun e w' => e = .returned (.tuple #[]) ∧ w' = w.setCell ⟨r, 1, none⟩ (.int .i64 b) := by
  have c1 : w.cell? ⟨r, 1, none⟩ = some (.int .i64 i) := bcell h rfl
  have f1 : w.frozen? ⟨r, 1, none⟩ = false := bfree h 1
  have hb' : ¬ b < 0 := by omega
  clear h
  go_enter Tryz.func101, Tryz.ntmps101
  go_wp2
  go_end0
  exact ⟨rfl, rfl⟩
set_option maxRecDepth 100000 in
set_option maxHeartbeats 1000000 in
theorem number_bad (r : Nat) (s : ByteArray) (i m : Int) (w : World) (hs : s.size ≤ 1048576) (h : RB w r s i) (hi0 : 0 ≤ i) (hi1 : i ≤ s.size) (hm : 0 ≤ m) (hc : (gi.okAt s i 1 && decide (gi.num s i 1 ≤ m)) = false) : Calls Tryz.prog 76 #[.pointer (some ⟨r, 0, none⟩), .int .i64 m] w fun e w' => Pk e ∧ Tr r w w' := by
  have c0 : w.cell? ⟨r, 0, none⟩ = some (.string s) := bcell h rfl
  have c1 : w.cell? ⟨r, 1, none⟩ = some (.int .i64 i) := bcell h rfl
  have hg := gi.impl_get s i 1 w.drew hs (by omega) (by omega)
  have hcase : m < gi.num s i 1 ∨ (¬ m < gi.num s i 1 ∧ gi.stop s i 1 < 0) := by
    cases ha : gi.okAt s i 1 with
    | false => exact .inr (by rw [(stop_no ha).1, (stop_no ha).2]; omega)
    | true =>
      rw [ha, Bool.true_and] at hc
      simp at hc
      exact .inl hc
  obtain ⟨g0, hg0⟩ : ∃ g0, gi.num s i 1 = g0 := ⟨_, rfl⟩
  obtain ⟨p0, hp0⟩ : ∃ p0, gi.stop s i 1 = p0 := ⟨_, rfl⟩
  rw [hg0, hp0] at hg hcase
  have hd : RB w.drew r s i := h
  have hf := fail_run r s i w.drew hd
  have HT : Hid (Tr r w w.drew) := tr_drew r w
  clear hc hg0 hp0
  rcases hcase with h1 | ⟨h1, h2⟩
  · clear h hd
    go_enter Tryz.func76, Tryz.ntmps76
    go_wp2
    go_region_with (go_at_call 48; refine hg.mono ?_; rintro e w0 ⟨rfl, hw0⟩; obtain rfl := hw0.symm)
    all_goals
      go_wp2_with (go_at_call 100; refine hf.mono ?_; rintro e w1 ⟨⟨j, rfl⟩, hw1⟩; obtain rfl := hw1.symm)
      exact ⟨rfl, ⟨j, rfl⟩, HT.out⟩
  · have hmv := move_bad r s i p0 w.drew hd h2
    clear h hd
    go_enter Tryz.func76, Tryz.ntmps76
    go_wp2
    go_region_with (go_at_call 48; refine hg.mono ?_; rintro e w0 ⟨rfl, hw0⟩; obtain rfl := hw0.symm)
    all_goals
      go_wp2_with (go_at_call 101; refine hmv.mono ?_; rintro e w1 ⟨⟨j, rfl⟩, hw1⟩; obtain rfl := hw1.symm)
      exact ⟨rfl, ⟨j, rfl⟩, HT.out⟩
set_option maxRecDepth 100000 in
set_option maxHeartbeats 1000000 in
theorem number_run (r : Nat) (s : ByteArray) (i m : Int) (w : World) (hs : s.size ≤ 1048576) (h : RB w r s i) (hm : 0 ≤ m) (ha : gi.okAt s i 1 = true) (hn : gi.num s i 1 ≤ m) : Calls Tryz.prog 76 #[.pointer (some ⟨r, 0, none⟩), .int .i64 m] w fun e w' => e = .returned (.int .i64 (gi.num s i 1)) ∧ RB w' r s (i + 1) ∧ Tr r w w' := by
  have hai := at_in ha
  have c0 : w.cell? ⟨r, 0, none⟩ = some (.string s) := bcell h rfl
  have c1 : w.cell? ⟨r, 1, none⟩ = some (.int .i64 i) := bcell h rfl
  have hg := gi.impl_get s i 1 w.drew hs (by omega) (by omega)
  rw [stop_at ha] at hg
  have hd : RB w.drew r s i := h
  have hmv := move_run r s i (i + 1) w.drew hd (by omega)
  obtain ⟨g0, hg0⟩ : ∃ g0, gi.num s i 1 = g0 := ⟨_, rfl⟩
  rw [hg0] at hg hn ⊢
  have h1 : ¬ m < g0 := by omega
  have HF : Hid (RB (w.drew.setCell ⟨r, 1, none⟩ (.int .i64 (i + 1))) r s (i + 1) ∧ Tr r w (w.drew.setCell ⟨r, 1, none⟩ (.int .i64 (i + 1)))) := ⟨hd.moved _, (tr_drew r w).trans (tr_moved _ _ _)⟩
  clear ha hai hg0 h hd
  go_enter Tryz.func76, Tryz.ntmps76
  go_wp2
  go_region_with (go_at_call 48; refine hg.mono ?_; rintro e w0 ⟨rfl, hw0⟩; obtain rfl := hw0.symm)
  all_goals
    go_wp2_with (go_at_call 101; refine hmv.mono ?_; rintro e w1 ⟨rfl, hw1⟩; obtain rfl := hw1.symm)
    go_ret
    exact ⟨rfl, HF.out.1, HF.out.2⟩
set_option maxRecDepth 100000 in
theorem end_run (r : Nat) (s : ByteArray) (i : Int) (w : World) (h : RB w r s i) (hi : i = s.size) : Calls Tryz.prog 78 #[.pointer (some ⟨r, 0, none⟩)] w fun e w' => e = .returned (.tuple #[]) ∧ Tr r w w' := by
  subst hi
  have c0 : w.cell? ⟨r, 0, none⟩ = some (.string s) := bcell h rfl
  have c1 : w.cell? ⟨r, 1, none⟩ = some (.int .i64 (s.size : Int)) := bcell h rfl
  have HT : Hid (∀ n, Tr r w (w.drewN n)) := fun n => tr_drewN r n w
  clear h
  go_enter Tryz.func78, Tryz.ntmps78
  go_wp2
  go_quiet (fail)
  go_wp2
  go_end0
  exact ⟨rfl, HT.out _⟩
set_option maxRecDepth 100000 in
theorem end_bad (r : Nat) (s : ByteArray) (i : Int) (w : World) (h : RB w r s i) (hi : i ≠ s.size) : Calls Tryz.prog 78 #[.pointer (some ⟨r, 0, none⟩)] w fun e w' => Pk e ∧ Tr r w w' := by
  have c0 : w.cell? ⟨r, 0, none⟩ = some (.string s) := bcell h rfl
  have c1 : w.cell? ⟨r, 1, none⟩ = some (.int .i64 i) := bcell h rfl
  have HF : Hid (∀ n, Calls Tryz.prog 100 #[.pointer (some ⟨r, 0, none⟩)] (w.drewN n) fun e w' => Pk e ∧ w' = w.drewN n) := fun n => fail_run r s i (w.drewN n) h
  have d1 : (i != (s.size : Int)) = true := by simp [hi]
  have HT : Hid (∀ n, Tr r w (w.drewN n)) := fun n => tr_drewN r n w
  clear h
  go_enter Tryz.func78, Tryz.ntmps78
  go_wp2
  go_quiet (fail)
  have hf := HF.out nq
  obtain ⟨W, hW⟩ : ∃ W, w.drewN nq = W := ⟨_, rfl⟩
  have HT2 := HT.out nq
  rw [hW] at hf HT2 ⊢
  go_wp2_with (go_at_call 100; refine hf.mono ?_; rintro e w1 ⟨⟨j, rfl⟩, hw1⟩; obtain rfl := hw1.symm)
  exact ⟨rfl, ⟨j, rfl⟩, HT2⟩
end Go.Proofs.YtoemkbooomgieaaGreatDoor.brd

/- errors.As of a fault of the reader, at a target of that very type: it is found, and laid into the target; new memory besides. -/
namespace Go.Proofs.YtoemkbooomgieaaGreatDoor.asf
open Go.RowKit Go.Extern.Stop Go.Stop Go.Extern Go.Proofs.YtoemkbooomgieaaGreatDoor.fl
set_option linter.unusedVariables false

/-- closed facts on what the library asks of these types -/
theorem valP (t : Addr) (w : World) : (ReflectliteValue.unpack (.iface 156 (.pointer (some t)))).run Tryz.prog w = .ok (.agg #[.pointer (some ⟨2, 156, none⟩), .pointer (some ⟨w.heap.size, 0, none⟩), .int .u64 150]) (w.alloc (.cells #[.pointer (some t)] 156)) := by kernel_rfl
theorem typP (a : Addr) (w : World) : (ReflectliteValue.methodAny (ReflectliteValue.valueError "reflectlite.Value.Type" 0) (fun t _ _ _ => ReflectliteType.toType t) #[.agg #[.pointer (some ⟨2, 156, none⟩), .pointer (some a), .int .u64 150]]).run Tryz.prog w = .ok (.iface 201 (.agg #[.pointer (some ⟨2, 156, none⟩)])) w := by kernel_rfl
theorem mKind (h : Value) (w : World) : (Go.method 345 201 (.agg #[h]) "Kind").run Tryz.prog w = .ok (155, h) w := by kernel_rfl
theorem kindP (w : World) : ((ReflectliteType.abiMethod fun t => (fun a : Nat => Value.int IntKind.u8 (a : Int)) <$> Rtype.kind t) #[.pointer (some ⟨2, 156, none⟩)]).run Tryz.prog w = .ok (.int .u8 22) w := by kernel_rfl
theorem kindB (w : World) : ((ReflectliteType.abiMethod fun t => (fun a : Nat => Value.int IntKind.u8 (a : Int)) <$> Rtype.kind t) #[.pointer (some ⟨2, 154, none⟩)]).run Tryz.prog w = .ok (.int .u8 25) w := by kernel_rfl
theorem mElem (h : Value) (w : World) : (Go.method 345 201 (.agg #[h]) "Elem").run Tryz.prog w = .ok (176, .agg #[h]) w := by kernel_rfl
theorem mImpl (h : Value) (w : World) : (Go.method 345 201 (.agg #[h]) "Implements").run Tryz.prog w = .ok (177, .agg #[h]) w := by kernel_rfl
theorem mAsg (h : Value) (w : World) : (Go.method 345 201 (.agg #[h]) "AssignableTo").run Tryz.prog w = .ok (174, .agg #[h]) w := by kernel_rfl
theorem elemP (w : World) : (ReflectliteType.method ReflectliteType.elem #[.agg #[.pointer (some ⟨2, 156, none⟩)]]).run Tryz.prog w = .ok (.iface 201 (.agg #[.pointer (some ⟨2, 154, none⟩)])) w := by kernel_rfl
theorem implB (w : World) : (ReflectliteType.relation "Implements" ReflectliteType.implements_ #[.agg #[.pointer (some ⟨2, 154, none⟩)], .iface 201 (.agg #[.pointer (some ⟨2, 137, none⟩)])]).run Tryz.prog w = .ok (.bool true) w := by kernel_rfl
theorem typeB (v : Value) (w : World) : (ReflectliteType.typeOf #[.iface 154 v]).run Tryz.prog w = .ok (.iface 201 (.agg #[.pointer (some ⟨2, 154, none⟩)])) w := by kernel_rfl
theorem asgB (w : World) : (ReflectliteType.relation "AssignableTo" ReflectliteType.assignableTo #[.agg #[.pointer (some ⟨2, 154, none⟩)], .iface 201 (.agg #[.pointer (some ⟨2, 154, none⟩)])]).run Tryz.prog w = .ok (.bool true) w := by kernel_rfl
theorem valB (n : Int) (w : World) : (ReflectliteValue.unpack (.iface 154 (.agg #[.int .i64 n]))).run Tryz.prog w = .ok (.agg #[.pointer (some ⟨2, 154, none⟩), .pointer (some ⟨w.heap.size, 0, none⟩), .int .u64 153]) (w.alloc (.cells #[.int .i64 n] 154)) := by kernel_rfl
theorem elOf (w : World) : (Rtype.elem? 156).run Tryz.prog w = .ok (some 154) w := by kernel_rfl
theorem mkB (p : Addr) (w : World) : (ReflectliteValue.mk 154 p ReflectliteValue.flagAddr).run Tryz.prog w = .ok (.agg #[.pointer (some ⟨2, 154, none⟩), .pointer (some p), .int .u64 409]) w := by kernel_rfl
theorem parP (a : Addr) (w : World) : (ReflectliteValue.parts (.agg #[.pointer (some ⟨2, 156, none⟩), .pointer (some a), .int .u64 150])).run Tryz.prog w = .ok (some (156, a, 150)) w := by kernel_rfl
theorem parA (a : Addr) (w : World) : (ReflectliteValue.parts (.agg #[.pointer (some ⟨2, 154, none⟩), .pointer (some a), .int .u64 409])).run Tryz.prog w = .ok (some (154, a, 409)) w := by kernel_rfl
theorem parB (a : Addr) (w : World) : (ReflectliteValue.parts (.agg #[.pointer (some ⟨2, 154, none⟩), .pointer (some a), .int .u64 153])).run Tryz.prog w = .ok (some (154, a, 153)) w := by kernel_rfl
theorem dirB (w : World) : (Rtype.directlyAssignable 154 154).run Tryz.prog w = .ok true w := by kernel_rfl
end Go.Proofs.YtoemkbooomgieaaGreatDoor.asf

/- Three laws on the library's values that read or write memory, at a fault of the reader: is it nil, what it points to, and laying it down. -/
namespace Go.Proofs.YtoemkbooomgieaaGreatDoor.asf
open Go.RowKit Go.Extern.Stop Go.Stop Go.Extern Go.Proofs.YtoemkbooomgieaaGreatDoor.fl
set_option linter.unusedVariables false

theorem isNilP (a p : Addr) (W : World) (ha : W.cell? a = some (.pointer (some p))) :
    (ReflectliteValue.method (ReflectliteValue.valueError "reflectlite.Value.IsNil" 0) ReflectliteValue.isNil #[.agg #[.pointer (some ⟨2, 156, none⟩), .pointer (some a), .int .u64 150]]).run Tryz.prog W = .ok (.bool false) W := by
  show (ReflectliteValue.parts (.agg #[.pointer (some ⟨2, 156, none⟩), .pointer (some a), .int .u64 150]) >>= _).run _ _ = _
  simp only [Sem.run_bind, parP, Result.andThen]
  simp [ReflectliteValue.isNil, loadVar, isAgg, underlying, Tryz.underlying156, ha, Result.andThen]

theorem elemVP (a p : Addr) (W : World) (ha : W.cell? a = some (.pointer (some p))) :
    (ReflectliteValue.method (ReflectliteValue.valueError "reflectlite.Value.Elem" 0) ReflectliteValue.elem #[.agg #[.pointer (some ⟨2, 156, none⟩), .pointer (some a), .int .u64 150]]).run Tryz.prog W
      = .ok (.agg #[.pointer (some ⟨2, 154, none⟩), .pointer (some p), .int .u64 409]) W := by
  show (ReflectliteValue.parts (.agg #[.pointer (some ⟨2, 156, none⟩), .pointer (some a), .int .u64 150]) >>= _).run _ _ = _
  simp only [Sem.run_bind, parP, Result.andThen]
  simp [ReflectliteValue.elem, loadVar, isAgg, underlying, Tryz.underlying156, ha, Result.andThen, elOf, mkB]

theorem setB (ta b : Addr) (n : Int) (old : Value) (W : World) (hb : W.cell? b = some (.int .i64 n)) (ht : W.cell? ta = some old) (hf : W.frozen? ta = false) :
    (ReflectliteValue.set #[.agg #[.pointer (some ⟨2, 154, none⟩), .pointer (some ta), .int .u64 409], .agg #[.pointer (some ⟨2, 154, none⟩), .pointer (some b), .int .u64 153]]).run Tryz.prog W
      = .ok (.tuple #[]) (W.setCell ta (.int .i64 n)) := by
  show (ReflectliteValue.parts (.agg #[.pointer (some ⟨2, 154, none⟩), .pointer (some ta), .int .u64 409]) >>= fun p => ReflectliteValue.parts (.agg #[.pointer (some ⟨2, 154, none⟩), .pointer (some b), .int .u64 153]) >>= _).run _ _ = _
  simp only [Sem.run_bind, parA, parB, Result.andThen]
  have lc : (loadCells b 1).run Tryz.prog W = .ok #[.int .i64 n] W := by
    simp [loadCells, loadCellsFrom, Addr.add, hb, Result.andThen]
  have lv : (loadVar 154 b).run Tryz.prog W = .ok (.agg #[.int .i64 n]) W := by
    simp [loadVar, isAgg, underlying, Tryz.underlying154, lc, Result.andThen]
  have sv : (storeVar 154 ta (.agg #[.int .i64 n])).run Tryz.prog W = .ok () (W.setCell ta (.int .i64 n)) := by
    simp [storeVar, Value.cells, storeCells, Addr.add, Result.andThen]
    rw [run_store Tryz.prog W ta _ _ (by rfl)]
    simp [ht, hf]
  simp [ReflectliteValue.flagAddr, lv, sv, Result.andThen, dirB]
end Go.Proofs.YtoemkbooomgieaaGreatDoor.asf

/- errors.As of a fault of the reader, at a target of that very type: it is found, and laid into the target; four new blocks besides. -/
namespace Go.Proofs.YtoemkbooomgieaaGreatDoor.asf
open Go.RowKit Go.Extern.Stop Go.Stop Go.Extern Go.Proofs.YtoemkbooomgieaaGreatDoor.fl
set_option linter.unusedVariables false

set_option maxHeartbeats 4000000 in
theorem as_hit (n : Int) (t : Addr) (old : Value) (w : World) (hg : w.cell? ⟨1, 0, none⟩ = some (.iface 201 (.agg #[.pointer (some ⟨2, 137, none⟩)]))) (ht0 : w.cell? t = some old) (hf0 : w.frozen? t = false) :
    Calls Tryz.prog 99 #[.iface 154 (.agg #[.int .i64 n]), .iface 156 (.pointer (some t))] w fun ev w' => ev = .returned (.bool true) ∧ w' = ((((w.alloc (.cells #[.pointer (some t)] 156)).alloc (.cells #[.pointer (some ⟨2, 156, none⟩), .pointer (some ⟨w.heap.size, 0, none⟩), .int .u64 150] 180)).alloc (.cells #[.pointer (some ⟨2, 156, none⟩), .pointer (some ⟨w.heap.size, 0, none⟩), .int .u64 150] 180)).alloc (.cells #[.int .i64 n] 154)).setCell t (.int .i64 n) := by
  have h0 := @run_callFunc_extern Tryz.prog 120 _ (fun args => ReflectliteValue.unpack (args.getD 0 (.tuple #[]))) Tryz.func120 (by kernel_rfl) (by kernel_rfl) (by kernel_rfl) (by kernel_rfl)
  have h1 := @run_callFunc_extern Tryz.prog 121 _ (ReflectliteValue.methodAny (ReflectliteValue.valueError "reflectlite.Value.Type" 0) (fun t _ _ _ => ReflectliteType.toType t)) Tryz.func121 (by kernel_rfl) (by kernel_rfl) (by kernel_rfl) (by kernel_rfl)
  have h2 := @run_callFunc_extern Tryz.prog 122 _ (ReflectliteValue.method (ReflectliteValue.valueError "reflectlite.Value.IsNil" 0) ReflectliteValue.isNil) Tryz.func122 (by kernel_rfl) (by kernel_rfl) (by kernel_rfl) (by kernel_rfl)
  have h3 := @run_callFunc_extern Tryz.prog 155 _ (ReflectliteType.abiMethod fun t => do pure (.int .u8 (← Rtype.kind t))) Tryz.func155 (by kernel_rfl) (by kernel_rfl) (by kernel_rfl) (by kernel_rfl)
  have h4 := @run_callFunc_extern Tryz.prog 176 _ (ReflectliteType.method ReflectliteType.elem) Tryz.func176 (by kernel_rfl) (by kernel_rfl) (by kernel_rfl) (by kernel_rfl)
  have h5 := @run_callFunc_extern Tryz.prog 177 _ (ReflectliteType.relation "Implements" ReflectliteType.implements_) Tryz.func177 (by kernel_rfl) (by kernel_rfl) (by kernel_rfl) (by kernel_rfl)
  have h6 := @run_callFunc_extern Tryz.prog 133 _ ReflectliteType.typeOf Tryz.func133 (by kernel_rfl) (by kernel_rfl) (by kernel_rfl) (by kernel_rfl)
  have h7 := @run_callFunc_extern Tryz.prog 174 _ (ReflectliteType.relation "AssignableTo" ReflectliteType.assignableTo) Tryz.func174 (by kernel_rfl) (by kernel_rfl) (by kernel_rfl) (by kernel_rfl)
  have h8 := @run_callFunc_extern Tryz.prog 134 _ (ReflectliteValue.method (ReflectliteValue.valueError "reflectlite.Value.Elem" 0) ReflectliteValue.elem) Tryz.func134 (by kernel_rfl) (by kernel_rfl) (by kernel_rfl) (by kernel_rfl)
  have h9 := @run_callFunc_extern Tryz.prog 135 _ ReflectliteValue.set Tryz.func135 (by kernel_rfl) (by kernel_rfl) (by kernel_rfl) (by kernel_rfl)
  have f_typeB := typeB
  have f_mAsg := mAsg
  have f_asgB := asgB
  have f_valB := valB
  have f_valP := valP
  have f_typP := typP
  have f_mKind := mKind
  have f_mElem := mElem
  have f_mImpl := mImpl
  have f_kindP := kindP
  have f_kindB := kindB
  have f_elemP := elemP
  have f_implB := implB
  have n8 := isNilP ⟨w.heap.size, 0, none⟩ t ((w.alloc (.cells #[.pointer (some t)] 156)).alloc (.cells #[.pointer (some ⟨2, 156, none⟩), .pointer (some ⟨w.heap.size, 0, none⟩), .int .u64 150] 180)) (by simp)
  have hlt : 1 < w.heap.size := by
    rcases Nat.lt_or_ge 1 w.heap.size with h | h
    · exact h
    · simp [World.cell?, Array.getElem?_eq_none h] at hg
  have hg2 : ((w.alloc (.cells #[.pointer (some t)] 156)).alloc (.cells #[.pointer (some ⟨2, 156, none⟩), .pointer (some ⟨w.heap.size, 0, none⟩), .int .u64 150] 180)).cell? ⟨1, 0, none⟩ = some (.iface 201 (.agg #[.pointer (some ⟨2, 137, none⟩)])) := by
    rw [World.cell?_alloc_lt _ _ ⟨1, 0, none⟩ (by simp; omega), World.cell?_alloc_lt _ _ ⟨1, 0, none⟩ hlt]; exact hg
  have htl : t.block < w.heap.size := by
    rcases Nat.lt_or_ge t.block w.heap.size with h | h
    · exact h
    · simp [World.cell?, Array.getElem?_eq_none h] at ht0
  have el := elemVP ⟨w.heap.size, 0, none⟩ t (((w.alloc (.cells #[.pointer (some t)] 156)).alloc (.cells #[.pointer (some ⟨2, 156, none⟩), .pointer (some ⟨w.heap.size, 0, none⟩), .int .u64 150] 180)).alloc (.cells #[.pointer (some ⟨2, 156, none⟩), .pointer (some ⟨w.heap.size, 0, none⟩), .int .u64 150] 180)) (by rw [World.cell?_alloc_lt _ _ ⟨w.heap.size, 0, none⟩ (by simp; omega)]; simp)
  have st := setB t ⟨w.heap.size + 1 + 1 + 1, 0, none⟩ n old ((((w.alloc (.cells #[.pointer (some t)] 156)).alloc (.cells #[.pointer (some ⟨2, 156, none⟩), .pointer (some ⟨w.heap.size, 0, none⟩), .int .u64 150] 180)).alloc (.cells #[.pointer (some ⟨2, 156, none⟩), .pointer (some ⟨w.heap.size, 0, none⟩), .int .u64 150] 180)).alloc (.cells #[.int .i64 n] 154))
    (by rw [World.cell?_alloc_at _ _ _ _ (by simp)]; rfl)
    (by rw [World.cell?_alloc_lt _ _ t (by simp; omega), World.cell?_alloc_lt _ _ t (by simp; omega), World.cell?_alloc_lt _ _ t (by simp; omega), World.cell?_alloc_lt _ _ t htl]; exact ht0)
    (by rw [World.frozen?_alloc_old _ _ t (by simp; omega), World.frozen?_alloc_old _ _ t (by simp; omega), World.frozen?_alloc_old _ _ t (by simp; omega), World.frozen?_alloc_old _ _ t (Nat.ne_of_lt htl)]; exact hf0)
  go_enter Tryz.func99, Tryz.ntmps99
  go_wp2
  refine wp_loop_rounds 1 ?_
  rw [rounds_succ]
  go_wp2
  go_ret
  exact ⟨rfl, rfl⟩
end Go.Proofs.YtoemkbooomgieaaGreatDoor.asf
