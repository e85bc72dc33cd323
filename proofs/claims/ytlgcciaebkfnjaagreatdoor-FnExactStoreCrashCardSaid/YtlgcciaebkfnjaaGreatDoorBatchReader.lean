/- The program's reader of a batch: what each of its methods takes, and that it fails by a panic with a fault of its own. -/
import Derived.Test.YtlgcciaebkfnjaaGreatDoorGotBatchPure
import Derived.Test.YtlgcciaebkfnjaaGreatDoorFlatOff
import Derived.Deep.QuietTactic
import Derived.BigQuiet
import Derived.Deep.RegionWith
namespace Go.Proofs.YtlgcciaebkfnjaaGreatDoor.brd
open Go.ChangeShapes Go.WideShapes Go.ChangeAt Go.RowKit Go.Proofs.YtlgcciaebkfnjaaGreatDoor.fl Go.Proofs.YtlgcciaebkfnjaaGreatDoor.fo Go.Proofs.YtlgcciaebkfnjaaGreatDoor.gbp
set_option linter.unusedVariables false

/-- the reader in memory: the bytes, and the place that it has come to -/
def RB (w : World) (r : Nat) (s : ByteArray) (i : Int) : Prop := w.heap[r]? = some (.cells #[.string s, .int .i64 i] 190 (0, 0))
/-- a panic with a fault -/
def Pk (e : Ending) : Prop := ∃ j : Int, e = .panicked [{ v := .iface 211 (.agg #[.int .i64 j]), recovered := false }]
/-- nothing but the reader's own block is turned -/
def Tr (r : Nat) (w w' : World) : Prop := Tn w w' (fun k => k = r)
theorem tr_drew (r : Nat) (w : World) : Tr r w w.drew := Tn.of _ (Below.refl _ _).drew
theorem tr_drewN (r n : Nat) (w : World) : Tr r w (w.drewN n) := ⟨rfl, rfl, rfl, Nat.le_refl _, fun _ _ _ => rfl⟩
theorem tr_moved (w : World) (r : Nat) (b : Int) : Tr r w (w.setCell ⟨r, 1, none⟩ (.int .i64 b)) := Tn.set (Tn.refl w (fun k => k = r)) (S := fun k => k = r) rfl 1 _
theorem Tr.trans {r : Nat} {a b c : World} (h : Tr r a b) (h2 : Tr r b c) : Tr r a c := Tn.trans h h2
theorem tr_below {r : Nat} {a b : World} (h : Below a.heap.size a b) : Tr r a b := Tn.of _ h
theorem RB.moved {w : World} {r : Nat} {s : ByteArray} {i : Int} (h : RB w r s i) (b : Int) : RB (w.setCell ⟨r, 1, none⟩ (.int .i64 b)) r s b := bset h 1 _
theorem RB.on {w w' : World} {r : Nat} {s : ByteArray} {i : Int} (h : RB w r s i) (hb : Below w.heap.size w w') : RB w' r s i := bstay h hb (Array.getElem?_eq_some_iff.1 h).1
set_option maxRecDepth 100000 in
theorem fail_run (r : Nat) (s : ByteArray) (i : Int) (w : World) (h : RB w r s i) : Calls Tryz.prog 188 #[.pointer (some ⟨r, 0, none⟩)] w fun e w' => Pk e ∧ w' = w := by
  have c1 : w.cell? ⟨r, 1, none⟩ = some (.int .i64 i) := bcell h rfl
  go_enter Tryz.func188, Tryz.ntmps188
  go_wp2
  exact ⟨rfl, ⟨i, rfl⟩, rfl⟩
set_option maxRecDepth 100000 in
theorem move_bad (r : Nat) (s : ByteArray) (i b : Int) (w : World) (h : RB w r s i) (hb : b < 0) : Calls Tryz.prog 189 #[.pointer (some ⟨r, 0, none⟩), .int .i64 b] w fun e w' => Pk e ∧ w' = w := by
  have hf := fail_run r s i w h
  go_enter Tryz.func189, Tryz.ntmps189
  go_wp2_with (go_at_call 188; fail)
  refine hf.mono ?_
  rintro e w' ⟨⟨j, rfl⟩, hw⟩
  obtain rfl := hw.symm
  go_wp2
  exact ⟨rfl, ⟨j, rfl⟩, rfl⟩
set_option maxRecDepth 100000 in
theorem move_run (r : Nat) (s : ByteArray) (i b : Int) (w : World) (h : RB w r s i) (hb : 0 ≤ b) : Calls Tryz.prog 189 #[.pointer (some ⟨r, 0, none⟩), .int .i64 b] w fun e w' => e = .returned (.tuple #[]) ∧ w' = w.setCell ⟨r, 1, none⟩ (.int .i64 b) := by
  have c1 : w.cell? ⟨r, 1, none⟩ = some (.int .i64 i) := bcell h rfl
  have f1 : w.frozen? ⟨r, 1, none⟩ = false := bfree h 1
  have hb' : ¬ b < 0 := by omega
  clear h
  go_enter Tryz.func189, Tryz.ntmps189
  go_wp2
  go_end0
  exact ⟨rfl, rfl⟩
set_option maxRecDepth 100000 in
set_option maxHeartbeats 1000000 in
theorem number_bad (r : Nat) (s : ByteArray) (i m : Int) (w : World) (hs : s.size ≤ 1048576) (h : RB w r s i) (hi0 : 0 ≤ i) (hi1 : i ≤ s.size) (hm : 0 ≤ m) (hc : (gi.okAt s i 1 && decide (gi.num s i 1 ≤ m)) = false) : Calls Tryz.prog 165 #[.pointer (some ⟨r, 0, none⟩), .int .i64 m] w fun e w' => Pk e ∧ Tr r w w' := by
  have c0 : w.cell? ⟨r, 0, none⟩ = some (.string s) := bcell h rfl
  have c1 : w.cell? ⟨r, 1, none⟩ = some (.int .i64 i) := bcell h rfl
  have hg := gi.impl_get s i 1 w.drew hs (by omega) (by omega)
  have hcase : m < gi.num s i 1 ∨ (¬ m < gi.num s i 1 ∧ gi.stop s i 1 < 0) := by
    cases ha : gi.okAt s i 1 with
    | false => exact .inr (by rw [(stop_no ha).1, (stop_no ha).2]; omega)
    | true =>
      rw [ha, Bool.true_and] at hc
      simp at hc
      exact .inl hc
  obtain ⟨g0, hg0⟩ : ∃ g0, gi.num s i 1 = g0 := ⟨_, rfl⟩
  obtain ⟨p0, hp0⟩ : ∃ p0, gi.stop s i 1 = p0 := ⟨_, rfl⟩
  rw [hg0, hp0] at hg hcase
  have hd : RB w.drew r s i := h
  have hf := fail_run r s i w.drew hd
  have HT : Hid (Tr r w w.drew) := tr_drew r w
  clear hc hg0 hp0
  rcases hcase with h1 | ⟨h1, h2⟩
  · clear h hd
    go_enter Tryz.func165, Tryz.ntmps165
    go_wp2
    go_region_with (go_at_call 128; refine hg.mono ?_; rintro e w0 ⟨rfl, hw0⟩; obtain rfl := hw0.symm)
    all_goals
      go_wp2_with (go_at_call 188; refine hf.mono ?_; rintro e w1 ⟨⟨j, rfl⟩, hw1⟩; obtain rfl := hw1.symm)
      exact ⟨rfl, ⟨j, rfl⟩, HT.out⟩
  · have hmv := move_bad r s i p0 w.drew hd h2
    clear h hd
    go_enter Tryz.func165, Tryz.ntmps165
    go_wp2
    go_region_with (go_at_call 128; refine hg.mono ?_; rintro e w0 ⟨rfl, hw0⟩; obtain rfl := hw0.symm)
    all_goals
      go_wp2_with (go_at_call 189; refine hmv.mono ?_; rintro e w1 ⟨⟨j, rfl⟩, hw1⟩; obtain rfl := hw1.symm)
      exact ⟨rfl, ⟨j, rfl⟩, HT.out⟩
set_option maxRecDepth 100000 in
set_option maxHeartbeats 1000000 in
theorem number_run (r : Nat) (s : ByteArray) (i m : Int) (w : World) (hs : s.size ≤ 1048576) (h : RB w r s i) (hm : 0 ≤ m) (ha : gi.okAt s i 1 = true) (hn : gi.num s i 1 ≤ m) : Calls Tryz.prog 165 #[.pointer (some ⟨r, 0, none⟩), .int .i64 m] w fun e w' => e = .returned (.int .i64 (gi.num s i 1)) ∧ RB w' r s (i + 1) ∧ Tr r w w' := by
  have hai := at_in ha
  have c0 : w.cell? ⟨r, 0, none⟩ = some (.string s) := bcell h rfl
  have c1 : w.cell? ⟨r, 1, none⟩ = some (.int .i64 i) := bcell h rfl
  have hg := gi.impl_get s i 1 w.drew hs (by omega) (by omega)
  rw [stop_at ha] at hg
  have hd : RB w.drew r s i := h
  have hmv := move_run r s i (i + 1) w.drew hd (by omega)
  obtain ⟨g0, hg0⟩ : ∃ g0, gi.num s i 1 = g0 := ⟨_, rfl⟩
  rw [hg0] at hg hn ⊢
  have h1 : ¬ m < g0 := by omega
  have HF : Hid (RB (w.drew.setCell ⟨r, 1, none⟩ (.int .i64 (i + 1))) r s (i + 1) ∧ Tr r w (w.drew.setCell ⟨r, 1, none⟩ (.int .i64 (i + 1)))) := ⟨hd.moved _, (tr_drew r w).trans (tr_moved _ _ _)⟩
  clear ha hai hg0 h hd
  go_enter Tryz.func165, Tryz.ntmps165
  go_wp2
  go_region_with (go_at_call 128; refine hg.mono ?_; rintro e w0 ⟨rfl, hw0⟩; obtain rfl := hw0.symm)
  all_goals
    go_wp2_with (go_at_call 189; refine hmv.mono ?_; rintro e w1 ⟨rfl, hw1⟩; obtain rfl := hw1.symm)
    go_ret
    exact ⟨rfl, HF.out.1, HF.out.2⟩
set_option maxRecDepth 100000 in
theorem end_run (r : Nat) (s : ByteArray) (i : Int) (w : World) (h : RB w r s i) (hi : i = s.size) : Calls Tryz.prog 167 #[.pointer (some ⟨r, 0, none⟩)] w fun e w' => e = .returned (.tuple #[]) ∧ Tr r w w' := by
  subst hi
  have c0 : w.cell? ⟨r, 0, none⟩ = some (.string s) := bcell h rfl
  have c1 : w.cell? ⟨r, 1, none⟩ = some (.int .i64 (s.size : Int)) := bcell h rfl
  have HT : Hid (∀ n, Tr r w (w.drewN n)) := fun n => tr_drewN r n w
  clear h
  go_enter Tryz.func167, Tryz.ntmps167
  go_wp2
  go_quiet (fail)
  go_wp2
  go_end0
  exact ⟨rfl, HT.out _⟩
set_option maxRecDepth 100000 in
theorem end_bad (r : Nat) (s : ByteArray) (i : Int) (w : World) (h : RB w r s i) (hi : i ≠ s.size) : Calls Tryz.prog 167 #[.pointer (some ⟨r, 0, none⟩)] w fun e w' => Pk e ∧ Tr r w w' := by
  have c0 : w.cell? ⟨r, 0, none⟩ = some (.string s) := bcell h rfl
  have c1 : w.cell? ⟨r, 1, none⟩ = some (.int .i64 i) := bcell h rfl
  have HF : Hid (∀ n, Calls Tryz.prog 188 #[.pointer (some ⟨r, 0, none⟩)] (w.drewN n) fun e w' => Pk e ∧ w' = w.drewN n) := fun n => fail_run r s i (w.drewN n) h
  have d1 : (i != (s.size : Int)) = true := by simp [hi]
  have HT : Hid (∀ n, Tr r w (w.drewN n)) := fun n => tr_drewN r n w
  clear h
  go_enter Tryz.func167, Tryz.ntmps167
  go_wp2
  go_quiet (fail)
  have hf := HF.out nq
  obtain ⟨W, hW⟩ : ∃ W, w.drewN nq = W := ⟨_, rfl⟩
  have HT2 := HT.out nq
  rw [hW] at hf HT2 ⊢
  go_wp2_with (go_at_call 188; refine hf.mono ?_; rintro e w1 ⟨⟨j, rfl⟩, hw1⟩; obtain rfl := hw1.symm)
  exact ⟨rfl, ⟨j, rfl⟩, HT2⟩
end Go.Proofs.YtlgcciaebkfnjaaGreatDoor.brd
