/- Append, of the specification and of the program: a log with a record behind it, where there is one and room for it; new memory alone. -/
import Derived.Test.YtoemkbooomgieaaGreatDoorDw21
import Derived.Test.YtoemkbooomgieaaGreatDoorBuilderLaid
import Derived.WalkKit
import Derived.WalkLawsBesides
import Derived.WalkSpells
import Derived.ProofKit
import Derived.Below
import Derived.OwnWalk
import Derived.Lib.Builder
import Derived.Lib.AppendStr
import Derived.Laws.Externs
import Derived.Test.YtoemkbooomgieaaGreatDoorDw14
import Derived.Test.YtoemkbooomgieaaGreatDoorCloneLaid

/- The specification's PutBatch answers the bytes of a batch; new memory alone. -/
namespace Go.Proofs.YtoemkbooomgieaaGreatDoor.pbs
open Go.ChangeShapes Go.WideShapes Go.ChangeAt Go.RowKit Go.Proofs.YtoemkbooomgieaaGreatDoor.fl Go.Proofs.YtoemkbooomgieaaGreatDoor.bo Go.Proofs.YtoemkbooomgieaaGreatDoor.pb
set_option linter.unusedVariables false

end Go.Proofs.YtoemkbooomgieaaGreatDoor.pbs

/- A builder of the library, step by step, where the shelf's contracts do not lay: its check, a first text written into a new one, a text written behind what it has, its text. -/
namespace Go.Proofs.YtoemkbooomgieaaGreatDoor.jb
set_option linter.unusedVariables false
open Go.ChangeShapes Go.WideShapes Go.ChangeAt Go.RowKit

theorem sizeBuilder : (Tryz.prog.info? 135).map (·.size) = some 2 := by kernel_rfl

set_option maxHeartbeats 1000000 in
set_option maxRecDepth 100000 in
theorem fresh (b : Nat) (w : World) (h0 : w.cell? ⟨b, 0, none⟩ = some (.pointer none)) (hsh : w.shape? b = some (135, 2)) (hfz : w.frozen? ⟨b, 0, none⟩ = false) :
    Calls Tryz.prog 104 #[.pointer (some ⟨b, 0, none⟩)] w fun e w' => e = .returned (.tuple #[]) ∧ w' = w.setCell ⟨b, 0, none⟩ (.pointer (some ⟨b, 0, none⟩)) := by
  obtain ⟨j, hj, hjs⟩ := Option.map_eq_some_iff.1 sizeBuilder
  go_enter Tryz.func104, Tryz.ntmps104
  go_wp2
  rw [Lib.run_to_unsafe w ⟨b, 0, none⟩ Tryz.underlying133 Tryz.underlying177 hj (by rw [hjs]; decide) hsh (Nat.zero_lt_succ 1)]
  simp only [Result.andThen]
  rw [Oper.upon_value]
  go_wp2
  rw [run_callFunc_extern Tryz.func124 (by kernel_rfl) (by kernel_rfl) (by kernel_rfl) (e := Extern.AbiNoEscape.same) (by kernel_rfl), Lib.run_noEscape]
  simp only [Result.andThen]
  rw [Oper.upon_value]
  go_wp2
  rw [Lib.run_from_unsafe w ⟨b, 0, none⟩ Tryz.underlying177 Tryz.underlying133 hj hsh (by kernel_rfl)]
  simp only [Result.andThen]
  rw [Oper.upon_value]
  go_wp2
  go_end0
  exact ⟨rfl, rfl⟩

theorem infoByte : (Tryz.prog.info? 5).map (fun i => (i.zero, i.size, i.bytes)) = some (some (.int .u8 0), 1, 1) := by kernel_rfl


set_option maxRecDepth 100000 in
theorem used (b : Nat) (w : World) (h0 : w.cell? ⟨b, 0, none⟩ = some (.pointer (some ⟨b, 0, none⟩))) :
    Calls Tryz.prog 104 #[.pointer (some ⟨b, 0, none⟩)] w fun e w' => e = .returned (.tuple #[]) ∧ w' = w := by
  obtain ⟨j, hj, hjs⟩ := Option.map_eq_some_iff.1 sizeBuilder
  go_enter Tryz.func104, Tryz.ntmps104
  go_wp2
  rw [Lib.run_neq_ptr_same w _ Tryz.underlying133 hj]
  simp only [Result.andThen]
  rw [Oper.upon_value]
  go_wp2
  go_end0
  exact ⟨rfl, rfl⟩

set_option maxHeartbeats 1000000 in
set_option maxRecDepth 100000 in
theorem writeS (b B : Nat) (bs : List Value) (s : ByteArray) (w : World) (h : Lib.BuilderAt 135 5 B b (.pointer (some ⟨b, 0, none⟩)) bs w) (hl : bs.length + s.size ≤ 1048576) (hBw : B ≤ w.heap.size) :
    Calls Tryz.prog 84 #[.pointer (some ⟨b, 0, none⟩), .string s] w fun e w' => e = .returned (.tuple #[.int .i64 s.size, .nilIface]) ∧ Lib.BuilderAt 135 5 B b (.pointer (some ⟨b, 0, none⟩)) (bs ++ Lib.strCells s) w' ∧ Below B w w' := by
  obtain ⟨i0, hi, hz0, hz1, hz2⟩ := info_parts infoByte
  obtain ⟨hB, v, hbk, hown, hne⟩ := h
  have hlt : b < w.heap.size := (Array.getElem?_eq_some_iff.1 hbk).1
  have c0 : w.cell? ⟨b, 0, none⟩ = some (.pointer (some ⟨b, 0, none⟩)) := by simp [World.cell?, hbk]
  have c1 : w.cell? ⟨b, 1, none⟩ = some v := by simp [World.cell?, hbk]
  have hcc := used b w c0
  have HB : Hid (w.heap[b]? = some (.cells #[.pointer (some ⟨b, 0, none⟩), v] 135 (0, 0))) := hbk
  clear hbk
  go_enter Tryz.func84, Tryz.ntmps84
  go_wp2_with (first | (go_at_call 104; refine hcc.mono ?_; rintro e w0 ⟨rfl, hw0⟩; obtain rfl := hw0.symm; clear hcc) | (at_builtin; refine Lib.wpList_append_own_string _ rfl _ _ 22 9 rfl B 5 i0 Tryz.underlying22 Tryz.underlying9 hi hz0 hz1 hz2 _ _ _ rfl hown s rfl ?c3 ?c4 ?c5 ?_))
  case c3 => unfold maxLen; omega
  case c4 => omega
  case c5 => omega
  intro v' w2 hown' hgrow _
  have hb2 : w2.heap[b]? = some (.cells #[.pointer (some ⟨b, 0, none⟩), v] 135 (0, 0)) := by
    rw [hgrow.block b hlt (Ne.symm hne)]
    exact HB.out
  have d1 : w2.cell? ⟨b, 1, none⟩ = some v := by simp [World.cell?, hb2]
  have f1 : w2.frozen? ⟨b, 1, none⟩ = false := by simp [World.frozen?, hb2]
  obtain ⟨ao, n', cap, rfl⟩ : ∃ ao n' cap, v' = .slice ao n' cap := by
    rcases hown'.2 with ⟨hv, _⟩ | ⟨g, cap, cur, hv, _⟩
    · exact ⟨_, _, _, hv⟩
    · exact ⟨_, _, _, hv⟩
  have hT : (135 : TypeId) ≠ 5 := by decide
  have hput := Lib.BuilderAt.put (T := 135) (e := 5) hB hb2 (bs' := bs ++ Lib.strCells s) (by simpa [Lib.strCells_length] using hown') hT
  have hend : Below B w (w2.setCell ⟨b, 1, none⟩ (.slice ao n' cap)) := ((Below.refl B w).grown hgrow hBw (fun k hk => (hown.lt k hk).1)).setCell (p := ⟨b, 1, none⟩) hB _
  have HP : Hid (Lib.BuilderAt 135 5 B b (.pointer (some ⟨b, 0, none⟩)) (bs ++ Lib.strCells s) (w2.setCell ⟨b, 1, none⟩ (.slice ao n' cap))) := hput
  clear hput hb2 hgrow hown' hown HB
  go_wp2
  go_ret2
  exact ⟨rfl, HP.out, hend⟩

set_option maxHeartbeats 1000000 in
set_option maxRecDepth 100000 in
theorem write0 (b B : Nat) (s : ByteArray) (w : World) (hbk : w.heap[b]? = some (.cells #[.pointer none, .slice none 0 0] 135 (0, 0))) (hB : B ≤ b) (hl : s.size ≤ 1048576) (hBw : B ≤ w.heap.size) :
    Calls Tryz.prog 84 #[.pointer (some ⟨b, 0, none⟩), .string s] w fun e w' => e = .returned (.tuple #[.int .i64 s.size, .nilIface]) ∧ Lib.BuilderAt 135 5 B b (.pointer (some ⟨b, 0, none⟩)) (Lib.strCells s) w' ∧ Below B w w' := by
  obtain ⟨i0, hi, hz0, hz1, hz2⟩ := info_parts infoByte
  have hcc := fresh b w (by simp [World.cell?, hbk]) (by simp [World.shape?, hbk]) (by simp [World.frozen?, hbk])
  have hbk1 := heap_setCell_same w b 0 _ _ (.pointer (some ⟨b, 0, none⟩)) hbk
  have hb1 : Below B w (w.setCell ⟨b, 0, none⟩ (.pointer (some ⟨b, 0, none⟩))) := (Below.refl _ _).setCell (p := ⟨b, 0, none⟩) hB _
  have hlt1 : b < (w.setCell ⟨b, 0, none⟩ (.pointer (some ⟨b, 0, none⟩))).heap.size := (Array.getElem?_eq_some_iff.1 hbk1).1
  generalize w.setCell ⟨b, 0, none⟩ (.pointer (some ⟨b, 0, none⟩)) = w1 at hcc hbk1 hb1 hlt1
  have hbk2 : w1.heap[b]? = some (.cells #[.pointer (some ⟨b, 0, none⟩), .slice none 0 0] 135 (0, 0)) := hbk1
  have c1 : w1.cell? ⟨b, 1, none⟩ = some (.slice none 0 0) := by simp [World.cell?, hbk2]
  have hown : w1.ownsRow B 5 1 (.slice none 0 0) 0 [] := ⟨rfl, .inl ⟨rfl, rfl⟩⟩
  have HB : Hid (w1.heap[b]? = some (.cells #[.pointer (some ⟨b, 0, none⟩), .slice none 0 0] 135 (0, 0))) := hbk2
  have hs1 := hb1.size
  clear hbk hbk1 hbk2
  go_enter Tryz.func84, Tryz.ntmps84
  go_wp2_with (first | (go_at_call 104; refine hcc.mono ?_; rintro e w0 ⟨rfl, hw0⟩; obtain rfl := hw0.symm; clear hcc) | (at_builtin; refine Lib.wpList_append_own_string _ rfl _ _ 22 9 rfl B 5 i0 Tryz.underlying22 Tryz.underlying9 hi hz0 hz1 hz2 _ _ _ rfl hown s rfl ?c3 ?c4 ?c5 ?_))
  case c3 => unfold maxLen; omega
  case c4 => omega
  case c5 => omega
  intro v' w2 hown' hgrow _
  have hb2 : w2.heap[b]? = some (.cells #[.pointer (some ⟨b, 0, none⟩), .slice none 0 0] 135 (0, 0)) := by
    rw [hgrow.block b hlt1 (fun e => by cases e)]
    exact HB.out
  have d1 : w2.cell? ⟨b, 1, none⟩ = some (.slice none 0 0) := by simp [World.cell?, hb2]
  have f1 : w2.frozen? ⟨b, 1, none⟩ = false := by simp [World.frozen?, hb2]
  obtain ⟨ao, n', cap, rfl⟩ : ∃ ao n' cap, v' = .slice ao n' cap := by
    rcases hown'.2 with ⟨hv, _⟩ | ⟨g, cap, cur, hv, _⟩
    · exact ⟨_, _, _, hv⟩
    · exact ⟨_, _, _, hv⟩
  have hT : (135 : TypeId) ≠ 5 := by decide
  have hput := Lib.BuilderAt.put (T := 135) (e := 5) hB hb2 (bs' := Lib.strCells s) (by simpa [Lib.strCells_length] using hown') hT
  have hrow : ∀ k : Nat, (Value.slice none 0 0).ownBlock = some k → B ≤ k := fun k hk => by cases hk
  have hend : Below B w (w2.setCell ⟨b, 1, none⟩ (.slice ao n' cap)) := (hb1.grown hgrow (by omega) hrow).setCell (p := ⟨b, 1, none⟩) hB _
  have HP : Hid (Lib.BuilderAt 135 5 B b (.pointer (some ⟨b, 0, none⟩)) (Lib.strCells s) (w2.setCell ⟨b, 1, none⟩ (.slice ao n' cap))) := hput
  clear hput hb2 hgrow hown' hown HB hrow
  go_wp2
  go_ret2
  exact ⟨rfl, HP.out, hend⟩
theorem cells_app (a b : ByteArray) : Lib.strCells a ++ Lib.strCells b = Lib.strCells (a ++ b) := by simp [Lib.strCells]
theorem cells_byte (a : ByteArray) : Lib.strCells a = Lib.byteCells a.data.toList := rfl
end Go.Proofs.YtoemkbooomgieaaGreatDoor.jb

/- The program's PutBatch answers the bytes of a batch; new memory alone. -/
namespace Go.Proofs.YtoemkbooomgieaaGreatDoor.pbi
open Go.ChangeShapes Go.WideShapes Go.ChangeAt Go.RowKit Go.Proofs.YtoemkbooomgieaaGreatDoor.fl Go.Proofs.YtoemkbooomgieaaGreatDoor.bo Go.Proofs.YtoemkbooomgieaaGreatDoor.pb
set_option linter.unusedVariables false

set_option maxRecDepth 100000 in
theorem put_pair (e : flP.Pr) (w : World) (hok : okP e) : Calls Tryz.prog 85 #[.agg #[.string e.k, .string e.v, .bool e.g]] w fun r w' => r = .returned (.string (pb.one e)) ∧ Below w.heap.size w w' := by
  obtain ⟨pk, pv, pg⟩ := e
  obtain ⟨hk1, hk2, hv1, _⟩ := hok
  have hk2 : pk.size ≤ 100 := hk2
  have hv1 : pv.size ≤ 4000 := hv1
  have hp1 := short_size (k := pk) (by omega)
  have hp2 := long_size (v := pv) (by omega)
  have hal : Below w.heap.size w (w.alloc (.cells #[.string pk, .string pv, .bool pg] 61)) := (Below.refl _ _).alloc (Nat.le_refl _) _
  have hA := bnew w #[.string pk, .string pv, .bool pg] 61
  obtain ⟨X, hX⟩ : ∃ X, w.alloc (.cells #[.string pk, .string pv, .bool pg] 61) = X := ⟨_, rfl⟩
  rw [hX] at hal hA
  have hlt := (Array.getElem?_eq_some_iff.1 hA).1
  have HA : Hid (X.heap[w.heap.size]? = some (.cells #[.string pk, .string pv, .bool pg] 61 (0, 0))) := hA
  have x2 : X.cell? ⟨w.heap.size, 2, none⟩ = some (.bool pg) := bcell hA rfl
  clear hA
  have x0 := fun N : qi.Cls X => (Below.cell N.h (p := ⟨w.heap.size, 0, none⟩) hlt).trans (bcell HA.out (show _ = some (.string pk) from rfl))
  have x1 := fun N : qi.Cls X => (Below.cell N.h (p := ⟨w.heap.size, 1, none⟩) hlt).trans (bcell HA.out (show _ = some (.string pv) from rfl))
  have cS : ∀ N : qi.Cls X, Calls Tryz.prog 105 #[.string pk] N.x fun e w' => e = .returned (.string (ps.out pk)) ∧ qi.T X w' := fun N => (ps.impl_putShort pk N.x (by omega)).mono fun _ _ h => ⟨h.1, N.h.next h.2⟩
  have cL : ∀ N : qi.Cls X, Calls Tryz.prog 58 #[.string pv] N.x fun e w' => e = .returned (.string (pl.out pv)) ∧ qi.T X w' := fun N => (pl.impl_putLong pv N.x (by omega)).mono fun _ _ h => ⟨h.1, N.h.next h.2⟩
  cases pg with
  | true =>
    have hon : pb.one ⟨pk, pv, true⟩ = ⟨#[1]⟩ ++ ps.out pk := rfl
    rw [hon]
    have cI : ∀ N : qi.Cls X, Calls Tryz.prog 59 #[.int .i64 1, .int .i64 1] N.x fun e w' => e = .returned (.string ⟨#[1]⟩) ∧ qi.T X w' := fun N => (pi.impl_put 1 1 N.x (by omega)).mono fun _ _ h => ⟨by rw [h.1, text1], N.h.next h.2⟩
    clear hon cL x1
    go_enter Tryz.func85, Tryz.ntmps85
    go_wp2_with (go_at_call 59; fail)
    clear hX HA x2
    refine qi.region_in X (qi.T.refl X) (by kernel_rfl) (by kernel_rfl) ?_
    repeat (go_big_quiet_step (first | (go_at_call 59; refine (cI _).mono ?_; rintro e wx ⟨rfl, hTx⟩; exact ⟨rfl, ⟨wx, hTx⟩, rfl⟩) | (go_at_call 105; refine (cS _).mono ?_; rintro e wx ⟨rfl, hTx⟩; exact ⟨rfl, ⟨wx, hTx⟩, rfl⟩)))
    refine wpQuiet_nil ?_
    rintro _ ⟨N, rfl⟩
    have hN := N.h
    generalize N.x = wN at hN ⊢
    clear N cI cS x0
    have hbN : Below w.heap.size w wN := hal.trans (Below.mono hN hal.size)
    go_wp2
    go_ret
    exact ⟨rfl, hbN⟩
  | false =>
    have hon : pb.one ⟨pk, pv, false⟩ = ⟨#[0]⟩ ++ ps.out pk ++ pl.out pv := rfl
    rw [hon]
    have cI : ∀ N : qi.Cls X, Calls Tryz.prog 59 #[.int .i64 0, .int .i64 1] N.x fun e w' => e = .returned (.string ⟨#[0]⟩) ∧ qi.T X w' := fun N => (pi.impl_put 0 1 N.x (by omega)).mono fun _ _ h => ⟨by rw [h.1, text0], N.h.next h.2⟩
    clear hon
    go_enter Tryz.func85, Tryz.ntmps85
    go_wp2_with (go_at_call 59; fail)
    clear hX HA x2
    refine qi.region_in X (qi.T.refl X) (by kernel_rfl) (by kernel_rfl) ?_
    repeat (go_big_quiet_step (first | (go_at_call 59; refine (cI _).mono ?_; rintro e wx ⟨rfl, hTx⟩; exact ⟨rfl, ⟨wx, hTx⟩, rfl⟩) | (go_at_call 105; refine (cS _).mono ?_; rintro e wx ⟨rfl, hTx⟩; exact ⟨rfl, ⟨wx, hTx⟩, rfl⟩) | (go_at_call 58; refine (cL _).mono ?_; rintro e wx ⟨rfl, hTx⟩; exact ⟨rfl, ⟨wx, hTx⟩, rfl⟩)))
    refine wpQuiet_nil ?_
    rintro _ ⟨N, rfl⟩
    have hN := N.h
    generalize N.x = wN at hN ⊢
    clear N cI cS cL x0 x1
    have hbN : Below w.heap.size w wN := hal.trans (Below.mono hN hal.size)
    go_wp2
    go_ret
    exact ⟨rfl, hbN⟩

theorem builder_below {T e : TypeId} {B b : Nat} {v : Value} {l : List Value} {w w' : World} (h : Lib.BuilderAt T e B b v l w) (hb : Below w.heap.size w w') : Lib.BuilderAt T e B b v l w' := by
  obtain ⟨h0, u, h1, h2, h3⟩ := h
  refine ⟨h0, u, (hb.block b (Array.getElem?_eq_some_iff.1 h1).1).trans h1, h2.kept (row := none) ⟨hb.os, hb.tape, hb.output, hb.size, fun i hi _ => hb.block i hi⟩ ?_, h3⟩
  cases hv : u.ownBlock with
  | none => exact .inl rfl
  | some g => right; simp

theorem impl_no (l : List flP.Pr) (a : Option Addr) (cap : Nat) (w : World) (F : bs.Fit l) (hok : okb l = false) (hS : Row flP.c 3 w w.heap.size a l) :
    Calls Tryz.prog 57 #[.slice a l.length cap] w fun e w' => e = .returned (.string (out l)) ∧ Below w.heap.size w w' := by
  have h1 := impl_okb l a cap w F hS
  rw [hok] at h1
  have HO : Hid (out l = ⟨#[]⟩) := by unfold Hid out; rw [hok]; rfl
  clear hok hS
  go_enter Tryz.func57, Tryz.ntmps57
  go_wp2_with (go_at_call 83; refine h1.mono ?_; rintro e w1 ⟨rfl, hb1⟩)
  go_ret
  exact ⟨by rw [HO.out]; rfl, hb1⟩

set_option maxRecDepth 100000 in
set_option maxHeartbeats 1000000 in
theorem impl_yes (l : List flP.Pr) (a : Option Addr) (cap : Nat) (w : World) (F : bs.Fit l) (hok : okb l = true) (hS : Row flP.c 3 w w.heap.size a l) :
    Calls Tryz.prog 57 #[.slice a l.length cap] w fun e w' => e = .returned (.string (out l)) ∧ Below w.heap.size w w' := by
  have h1 := impl_okb l a cap w F hS
  rw [hok] at h1
  have HO : Hid (out l = pi.text l.length 1 ++ all l) := by unfold Hid out; rw [hok]; rfl
  have hlen := ((okb_iff l).1 hok).1
  have HK : Hid (∀ (i : Nat) e, l[i]? = some e → okP e) := ((okb_iff l).1 hok).2
  have HS : Hid (Row flP.c 3 w w.heap.size a l) := hS
  have hts := pi.text_size l.length 1
  clear hok hS F
  go_enter Tryz.func57, Tryz.ntmps57
  go_wp2_with (go_at_call 83; fail)
  refine h1.mono ?_
  rintro e w1 ⟨rfl, hb1⟩
  clear h1
  have hal : Below w1.heap.size w1 (w1.alloc (.cells #[.pointer none, .slice none 0 0] 135)) := (Below.refl _ _).alloc (Nat.le_refl _) _
  have hA := bnew w1 #[.pointer none, .slice none 0 0] 135
  have hput := pi.impl_put (l.length : Int) 1 (w1.alloc (.cells #[.pointer none, .slice none 0 0] 135)) (by omega)
  go_wp2_with (go_at_call 59; fail)
  refine hput.mono ?_
  rintro e w2 ⟨rfl, hb2⟩
  clear hput
  have hlt1 : w1.heap.size < (w1.alloc (.cells #[.pointer none, .slice none 0 0] 135)).heap.size := by simp
  have hB := bstay hA hb2 hlt1
  have hB2 : Below w.heap.size w w2 := hb1.trans ((hal.trans (hb2.mono hal.size)).mono hb1.size)
  have hw0 := jb.write0 w1.heap.size w1.heap.size (pi.text l.length 1) w2 hB (Nat.le_refl _) (by omega) (by have := hb2.size; omega)
  clear hA hal hb2 hlt1
  go_wp2_with fail
  refine hw0.mono ?_
  rintro e w3 ⟨rfl, hB3, hb3⟩
  clear hw0 hB
  have hbs1 := hb1.size
  have hBel3 : Below w.heap.size w w3 := hB2.trans (hb3.mono hbs1)
  have hs3 : w1.heap.size ≤ w3.heap.size := by have := (Array.getElem?_eq_some_iff.1 hB3.2.choose_spec.1).1; omega
  have HB3 : Hid (Lib.BuilderAt 135 5 w1.heap.size w1.heap.size (.pointer (some ⟨w1.heap.size, 0, none⟩)) (Lib.strCells (pi.text l.length 1 ++ all (l.take 0))) w3) := by
    unfold Hid
    rw [List.take_zero, all, app_nil]
    exact hB3
  clear hB3 hb3 hB2
  obtain ⟨B, hBe⟩ : ∃ B, w1.heap.size = B := ⟨_, rfl⟩
  rw [hBe] at HB3 hbs1 hs3 ⊢
  clear hb1 hBe
  go_wp2
  go_loopw [5, 15] (fun _ x wr => ∃ k : Nat, k ≤ l.length ∧ x = .int .i64 k ∧ Hid (Lib.BuilderAt 135 5 B B (.pointer (some ⟨B, 0, none⟩)) (Lib.strCells (pi.text l.length 1 ++ all (l.take k))) wr) ∧ Below w.heap.size w wr) (fun _ x _ => l.length - (intOf x).toNat)
  case atStart => exact ⟨0, Nat.zero_le _, rfl, HB3, hBel3⟩
  case round =>
    obtain ⟨k, hk, rfl, hB, hbel⟩ := hrel
    have hbs := hbel.size
    have hsB : B < wr.heap.size := (Array.getElem?_eq_some_iff.1 hB.out.2.choose_spec.1).1
    by_cases hkl : k < l.length
    · rcases HS.out with h0 | ⟨b, off, rfl, hlt, hc⟩
      · rw [h0] at hkl; simp at hkl
      have HG : Hid (l[k]? = some l[k]) := List.getElem?_eq_getElem hkl
      obtain ⟨⟨pk, pv, pg⟩, he⟩ : ∃ e, l[k] = e := ⟨_, rfl⟩
      rw [he] at HG
      have hokp := HK.out k _ HG.out
      have c0 : wr.cell? ⟨b, off + k * 3, none⟩ = some (.string pk) := (hbel.cell (p := ⟨b, off + k * 3, none⟩) hlt).trans (hc k _ HG.out 0 _ rfl)
      have c1 : wr.cell? ⟨b, off + k * 3 + 1, none⟩ = some (.string pv) := (hbel.cell (p := ⟨b, off + k * 3 + 1, none⟩) hlt).trans (hc k _ HG.out 1 _ rfl)
      have c2 : wr.cell? ⟨b, off + k * 3 + 2, none⟩ = some (.bool pg) := (hbel.cell (p := ⟨b, off + k * 3 + 2, none⟩) hlt).trans (hc k _ HG.out 2 _ rfl)
      have HN : Hid (pi.text l.length 1 ++ all (l.take (k + 1)) = (pi.text l.length 1 ++ all (l.take k)) ++ pb.one ⟨pk, pv, pg⟩) := by
        unfold Hid
        rw [all_next HG.out, ByteArray.append_assoc]
      have hsz := all_take HK.out k hk
      have hone := one_size hokp
      have hrs : (pi.text l.length 1 ++ all (l.take k)).size ≤ 8 + 4200 * k := by rw [ByteArray.size_append]; omega
      obtain ⟨so, hso⟩ : ∃ so, pi.text l.length 1 ++ all (l.take k) = so := ⟨_, rfl⟩
      rw [hso] at hB hrs HN
      have hpp := put_pair ⟨pk, pv, pg⟩ (wr.alloc (.cells #[.string pk, .string pv, .bool pg] 61)) hokp
      obtain ⟨on, hon⟩ : ∃ on, pb.one ⟨pk, pv, pg⟩ = on := ⟨_, rfl⟩
      rw [hon] at hone HN hpp
      have hal : Below wr.heap.size wr (wr.alloc (.cells #[.string pk, .string pv, .bool pg] 61)) := (Below.refl _ _).alloc (Nat.le_refl _) _
      have i2 : (k : Int) < (l.length : Int) := by omega
      clear hc he hso hsz hon hokp
      go_wp2_with (go_at_call 85; fail)
      refine hpp.mono ?_
      rintro e w4 ⟨rfl, hb4⟩
      have hb4' : Below wr.heap.size wr w4 := hal.trans (hb4.mono hal.size)
      have hB4 := builder_below hB.out hb4'
      have hw := jb.writeS B B _ on w4 hB4 (by rw [Lib.strCells_length]; omega) (by have := hb4'.size; omega)
      clear hpp hB c0 c1 c2 hal hb4
      go_wp2_with fail
      refine hw.mono ?_
      rintro e w5 ⟨rfl, hB5, hb5⟩
      have HB5 : Hid (Lib.BuilderAt 135 5 B B (.pointer (some ⟨B, 0, none⟩)) (Lib.strCells (pi.text l.length 1 ++ all (l.take (k + 1)))) w5) := by
        unfold Hid
        rw [HN.out, ← jb.cells_app]
        exact hB5
      have hB6 : Below w.heap.size w w5 := (hbel.trans (hb4'.mono hbs)).trans (hb5.mono hbs1)
      clear hw hB4 hB5
      go_wp2
      go_roundw
      case rel => exact ⟨k + 1, by omega, by go_num, HB5, hB6⟩
      case measure => simp [intOf]; omega
    · obtain rfl : k = l.length := by omega
      have HF : Hid (pi.text l.length 1 ++ all (l.take l.length) = out l) := by unfold Hid; rw [List.take_length, HO.out]
      have hB' := hB.out
      rw [HF.out, jb.cells_byte] at hB'
      have hst := shBuilderLaid.Builder_String_any B B (out l).data.toList wr (.inr hB') (by omega)
      clear hB hB'
      go_wp2_with (go_at_call 86; refine hst.mono ?_; rintro e w2 ⟨rfl, hb2⟩)
      go_ret
      exact ⟨rfl, hbel.trans (hb2.mono (by omega))⟩

theorem impl_put (l : List flP.Pr) (a : Option Addr) (cap : Nat) (w : World) (F : bs.Fit l) (hS : Row flP.c 3 w w.heap.size a l) :
    Calls Tryz.prog 57 #[.slice a l.length cap] w fun e w' => e = .returned (.string (out l)) ∧ Below w.heap.size w w' := by
  cases h : okb l with
  | false => exact impl_no l a cap w F h hS
  | true => exact impl_yes l a cap w F h hS
end Go.Proofs.YtoemkbooomgieaaGreatDoor.pbi

/- Record, of the specification and of the program: the sum, the length and the bytes of a batch; new memory alone. -/
namespace Go.Proofs.YtoemkbooomgieaaGreatDoor.rcd
open Go.ChangeShapes Go.WideShapes Go.ChangeAt Go.RowKit Go.Proofs.YtoemkbooomgieaaGreatDoor.fl Go.Proofs.YtoemkbooomgieaaGreatDoor.bo Go.Proofs.YtoemkbooomgieaaGreatDoor.pb
set_option linter.unusedVariables false

noncomputable def out (l : List flP.Pr) : ByteArray := if (pb.out l).size = 0 ∨ 100000 < (pb.out l).size then ⟨#[]⟩ else pi.text (cs.sum (pb.out l) : Int) 4 ++ pl.out (pb.out l)
theorem sum_lt (k : ByteArray) : cs.sum k < 4294967296 := cs.xor_lt (cs.st_lt k _) (by decide)
theorem nil_of {s : ByteArray} (h : s.size = 0) : s = ⟨#[]⟩ := by
  obtain ⟨⟨l⟩⟩ := s
  cases l with
  | nil => rfl
  | cons a r => simp [ByteArray.size] at h
theorem ne_nil {s : ByteArray} (h : s.size ≠ 0) : (s.toList == ([] : List UInt8)) = false := by
  obtain ⟨⟨l⟩⟩ := s
  cases l with
  | nil => exact absurd rfl h
  | cons a r => simp [ByteArray.toList_eq]
theorem long_ne {s : ByteArray} (h0 : s.size ≠ 0) (h : s.size ≤ 100000) : (pl.out s).size ≠ 0 := by
  unfold pl.out
  rw [if_pos h, ByteArray.size_append]
  omega

set_option maxHeartbeats 1000000 in
theorem impl_record (l : List flP.Pr) (a : Option Addr) (cap : Nat) (w : World) (htab : ∀ r, r < 16 → w.cell? ⟨0, r, none⟩ = some (.int .u32 (cs.tab r : Int))) (F : bs.Fit l) (hS : Row flP.c 3 w w.heap.size a l) :
    Calls Tryz.prog 40 #[.slice a l.length cap] w fun e w' => e = .returned (.string (out l)) ∧ Below w.heap.size w w' := by
  have h1 := pbi.impl_put l a cap w F hS
  have hsz := out_size l
  unfold out
  obtain ⟨s, hs⟩ : ∃ s, pb.out l = s := ⟨_, rfl⟩
  rw [hs] at h1 hsz ⊢
  have HT : Hid (∀ r, r < 16 → w.cell? ⟨0, r, none⟩ = some (.int .u32 (cs.tab r : Int))) := htab
  have hgl : 0 < w.heap.size := block_lt_of_cell (htab 0 (by decide))
  have hp := fun W => pl.impl_putLong s W (by omega)
  clear hs hS F htab
  by_cases h0 : s.size = 0
  · obtain rfl := nil_of h0
    rw [if_pos (.inl rfl)]
    go_enter Tryz.func40, Tryz.ntmps40
    go_wp2_with (first | (go_at_call 57; refine h1.mono ?_; rintro e w1 ⟨rfl, hb1⟩; clear h1) | (go_at_call 58; refine (hp _).mono ?_; rintro e w3 ⟨rfl, hb3⟩))
    go_ret
    exact ⟨rfl, hb1.trans (hb3.mono hb1.size)⟩
  have e0 := ne_nil h0
  by_cases hbig : 100000 < s.size
  · rw [if_pos (.inr hbig)]
    have ho : pl.out s = ⟨#[]⟩ := by unfold pl.out; rw [if_neg (by omega)]; rfl
    simp only [ho] at hp
    go_enter Tryz.func40, Tryz.ntmps40
    go_wp2_with (first | (go_at_call 57; refine h1.mono ?_; rintro e w1 ⟨rfl, hb1⟩; clear h1) | (go_at_call 58; refine (hp _).mono ?_; rintro e w3 ⟨rfl, hb3⟩))
    go_ret
    exact ⟨rfl, hb1.trans (hb3.mono hb1.size)⟩
  rw [if_neg (by omega)]
  have e2 := ne_nil (long_ne h0 (show s.size ≤ 100000 by omega))
  have hl := sum_lt s
  have hc : ∀ W, Below w.heap.size w W → Calls Tryz.prog 50 #[.string s] W fun e w' => e = .returned (.int .u32 (cs.sum s)) ∧ W = w' := fun W h => cs.impl_sum s W (by omega) fun r hr => (h.cell (p := ⟨0, r, none⟩) hgl).trans (HT.out r hr)
  have hts := pi.text_size (cs.sum s : Int) 4
  have hps := long_size (v := s) (by omega)
  obtain ⟨m, hm⟩ : ∃ m, cs.sum s = m := ⟨_, rfl⟩
  simp only [hm] at hc hts hl ⊢
  have hi := fun W => pi.impl_put (m : Int) 4 W (by omega)
  have i1 : IntKind.i64.wrap (m : Int) = (m : Int) := by rw [IntKind.wrap_i64]; omega
  obtain ⟨q, hq⟩ : ∃ q, pl.out s = q := ⟨_, rfl⟩
  simp only [hq] at hp e2 hps ⊢
  clear hm hq
  go_enter Tryz.func40, Tryz.ntmps40
  go_wp2_with (first | (go_at_call 57; refine h1.mono ?_; rintro e w1 ⟨rfl, hb1⟩; clear h1) | (go_at_call 58; refine (hp _).mono ?_; rintro e w3 ⟨rfl, hb3⟩; have hB3 : Below w.heap.size w w3 := hb1.trans (hb3.mono hb1.size); have hc3 := hc w3 hB3) | (go_at_call 50; refine hc3.mono ?_; rintro e w0 ⟨rfl, hw0⟩; rw [← hw0]; clear hw0 w0) | (go_at_call 59; refine (hi _).mono ?_; rintro e w2 ⟨rfl, hb2⟩))
  go_ret
  exact ⟨rfl, hB3.trans (hb2.mono hB3.size)⟩

end Go.Proofs.YtoemkbooomgieaaGreatDoor.rcd

/- Append, of the specification and of the program: a log with a record behind it, where there is one and room for it; new memory alone. -/
namespace Go.Proofs.YtoemkbooomgieaaGreatDoor.apd
open Go.ChangeShapes Go.WideShapes Go.ChangeAt Go.RowKit Go.Proofs.YtoemkbooomgieaaGreatDoor.fl Go.Proofs.YtoemkbooomgieaaGreatDoor.bo Go.Proofs.YtoemkbooomgieaaGreatDoor.pb
set_option linter.unusedVariables false

noncomputable def ans (xt : ByteArray) (l : List flP.Pr) : ByteArray := if (rcd.out l).size = 0 ∨ 200000 < xt.size + (rcd.out l).size then xt else xt ++ rcd.out l
noncomputable def can (xt : ByteArray) (l : List flP.Pr) : Bool := !decide ((rcd.out l).size = 0 ∨ 200000 < xt.size + (rcd.out l).size)
theorem rec_size (l : List flP.Pr) : (rcd.out l).size ≤ 100100 := by
  unfold rcd.out
  split
  · show 0 ≤ _; omega
  · rename_i h
    have h1 := pi.text_size (cs.sum (pb.out l) : Int) 4
    have h2 := long_size (v := pb.out l) (by omega)
    rw [ByteArray.size_append]
    omega

set_option maxHeartbeats 1000000 in
theorem impl_append (xt : ByteArray) (l : List flP.Pr) (a : Option Addr) (cap : Nat) (w : World) (htab : ∀ r, r < 16 → w.cell? ⟨0, r, none⟩ = some (.int .u32 (cs.tab r : Int))) (hx : xt.size ≤ 1048576) (F : bs.Fit l) (hS : Row flP.c 3 w w.heap.size a l) :
    Calls Tryz.prog 21 #[.string xt, .slice a l.length cap] w fun e w' => e = .returned (.tuple #[.string (ans xt l), .bool (can xt l)]) ∧ Below w.heap.size w w' := by
  have h1 := rcd.impl_record l a cap w htab F hS
  have hz := rec_size l
  have hcl := fun W => cl.clone xt W (by omega)
  unfold ans can
  obtain ⟨s, hs⟩ : ∃ s, rcd.out l = s := ⟨_, rfl⟩
  rw [hs] at h1 hz ⊢
  clear hs hS F htab
  by_cases h0 : s.size = 0
  · obtain rfl := rcd.nil_of h0
    rw [if_pos (.inl rfl), decide_eq_true (.inl rfl)]
    go_enter Tryz.func21, Tryz.ntmps21
    go_wp2_with (first | (go_at_call 40; refine h1.mono ?_; rintro e w1 ⟨rfl, hb1⟩; clear h1) | (go_at_call 25; refine (hcl _).mono ?_; rintro e w2 ⟨rfl, hb2⟩))
    go_ret2
    exact ⟨rfl, hb1.trans (hb2.mono hb1.size)⟩
  have e0 := rcd.ne_nil h0
  by_cases hbig : 200000 < xt.size + s.size
  · rw [if_pos (.inr hbig), decide_eq_true (.inr hbig)]
    have e1 : (200000 : Int) < (xt.size : Int) + (s.size : Int) := by omega
    go_enter Tryz.func21, Tryz.ntmps21
    go_wp2_with (first | (go_at_call 40; refine h1.mono ?_; rintro e w1 ⟨rfl, hb1⟩; clear h1) | (go_at_call 25; refine (hcl _).mono ?_; rintro e w2 ⟨rfl, hb2⟩))
    go_ret2
    exact ⟨rfl, hb1.trans (hb2.mono hb1.size)⟩
  have e1 : ¬ (200000 : Int) < (xt.size : Int) + (s.size : Int) := by omega
  rw [if_neg (by omega), decide_eq_false (by omega)]
  go_enter Tryz.func21, Tryz.ntmps21
  go_wp2_with (go_at_call 40; refine h1.mono ?_; rintro e w1 ⟨rfl, hb1⟩; clear h1)
  go_ret2
  exact ⟨rfl, hb1⟩
end Go.Proofs.YtoemkbooomgieaaGreatDoor.apd
