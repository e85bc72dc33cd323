/- The two writers of a frame, the specification's and the program's, answer alike at every frame whose payload has at most 1048576 bytes; they lay new memory alone. -/
import Derived.Test.YtnmooolnmhidbaaDoorFrameCore
import Derived.Test.YtnmooolnmhidbaaDoorPutLongSpec
import Derived.Test.YtnmooolnmhidbaaDoorQuietIn
namespace Go.Proofs.YtnmooolnmhidbaaDoor.pf
open Go.ChangeShapes Go.WideShapes Go.ChangeAt Go.RowKit

def bytes (k c : Int) (p : ByteArray) : ByteArray := if fr.ok k c p then pi.text k 1 ++ pi.text c 2 ++ pi.text p.size 4 ++ p ++ pi.text 206 1 else ByteArray.empty

theorem cPutI {w : World} (n z : Int) (W : World) (hT : qi.T w W) (hn : n ≤ 9223372036854775807) :
    Calls Tryd.prog 58 #[.int .i64 n, .int .i64 z] W fun e w' => e = .returned (.string (pi.text n z)) ∧ qi.T w w' :=
  (pi.impl_put n z W hn).mono fun _ _ h => ⟨h.1, hT.next h.2⟩
theorem cPutS {w : World} (n z : Int) (W : World) (hT : qi.T w W) (hn : n ≤ 9223372036854775807) :
    Calls Tryd.prog 36 #[.int .i64 n, .int .i64 z] W fun e w' => e = .returned (.string (pi.text n z)) ∧ qi.T w w' :=
  (pi.spec_put n z W hn).mono fun _ _ h => ⟨h.1, hT.next h.2⟩
theorem cPLS {w : World} (a : ByteArray) (W : World) (hT : qi.T w W) (ha : a.size ≤ 1048576) :
    Calls Tryd.prog 77 #[.string a] W fun e w' => e = .returned (.string (pl.out a)) ∧ qi.T w w' :=
  (pl.spec_putLong a W ha).mono fun _ _ h => ⟨h.1, hT.next h.2⟩

theorem box_cells {k c : Int} {p : ByteArray} {t : TypeId} {w W : World} (h : qi.T (w.alloc (.cells #[.int .i64 k, .int .i64 c, .string p] t)) W) :
    W.cell? ⟨w.heap.size, 0, none⟩ = some (.int .i64 k) ∧ W.cell? ⟨w.heap.size, 1, none⟩ = some (.int .i64 c) ∧ W.cell? ⟨w.heap.size, 2, none⟩ = some (.string p) := by
  have h' : Below (w.heap.size + 1) (w.alloc (.cells #[.int .i64 k, .int .i64 c, .string p] t)) W := by simpa [qi.T] using h
  exact ⟨(h'.cell (p := ⟨w.heap.size, 0, none⟩) (by simp)).trans (by simp [World.cell?_alloc_at]), (h'.cell (p := ⟨w.heap.size, 1, none⟩) (by simp)).trans (by simp [World.cell?_alloc_at]), (h'.cell (p := ⟨w.heap.size, 2, none⟩) (by simp)).trans (by simp [World.cell?_alloc_at])⟩

theorem impl_no (k c : Int) (p : ByteArray) (w : World) (h : fr.ok k c p = false) :
    Calls Tryd.prog 48 #[.agg #[.int .i64 k, .int .i64 c, .string p]] w fun e w' => e = .returned (.string ByteArray.empty) ∧ Below w.heap.size w w' := by
  have h1 := fun W => fr.impl_ok k c p W
  rw [h] at h1
  clear h
  go_enter Tryd.func48, Tryd.ntmps48
  go_wp2_with (go_at_call 69; refine (h1 _).mono ?_; rintro e w1 ⟨rfl, hb1⟩)
  go_ret
  exact ⟨rfl, ((Below.refl _ _).alloc (Nat.le_refl _) _).trans (hb1.mono (by simp))⟩
theorem spec_no (k c : Int) (p : ByteArray) (w : World) (h : fr.ok k c p = false) :
    Calls Tryd.prog 68 #[.agg #[.int .i64 k, .int .i64 c, .string p]] w fun e w' => e = .returned (.string ByteArray.empty) ∧ Below w.heap.size w w' := by
  have h1 := fun W => fr.spec_ok k c p W
  rw [h] at h1
  clear h
  go_enter Tryd.func68, Tryd.ntmps68
  go_wp2_with (go_at_call 76; refine (h1 _).mono ?_; rintro e w1 ⟨rfl, hb1⟩)
  go_ret
  exact ⟨rfl, ((Below.refl _ _).alloc (Nat.le_refl _) _).trans (hb1.mono (by simp))⟩

set_option maxRecDepth 100000 in
theorem impl_yes (k c : Int) (p : ByteArray) (w : World) (h : fr.ok k c p = true) (hk : k ≤ 9223372036854775807) (hc : c ≤ 9223372036854775807) :
    Calls Tryd.prog 48 #[.agg #[.int .i64 k, .int .i64 c, .string p]] w fun e w' => e = .returned (.string (pi.text k 1 ++ pi.text c 2 ++ pi.text p.size 4 ++ p ++ pi.text 206 1)) ∧ Below w.heap.size w w' := by
  have hp : p.size ≤ 4000 := by have := (fr.ok_true.1 h).2.2.2; omega
  have h1 := fun W => fr.impl_ok k c p W
  rw [h] at h1
  clear h
  have s1 := pi.text_size k 1
  have s2 := pi.text_size c 2
  have s4 := pi.text_size p.size 4
  have s6 := pi.text_size 206 1
  go_enter Tryd.func48, Tryd.ntmps48
  go_wp2_with (go_at_call 69; refine (h1 _).mono ?_; rintro e w1 ⟨rfl, hb1⟩)
  have hT1 : qi.T (w.alloc (.cells #[.int .i64 k, .int .i64 c, .string p] 78)) w1 := hb1
  have hg : ∀ N : qi.Cls (w.alloc (.cells #[.int .i64 k, .int .i64 c, .string p] 78)), N.x.cell? ⟨w.heap.size, 0, none⟩ = some (.int .i64 k) ∧ N.x.cell? ⟨w.heap.size, 1, none⟩ = some (.int .i64 c) ∧ N.x.cell? ⟨w.heap.size, 2, none⟩ = some (.string p) := fun N => box_cells N.h
  have hg0 := fun N => (hg N).1
  have hg1 := fun N => (hg N).2.1
  have hg2 := fun N => (hg N).2.2
  clear hg hb1
  refine qi.region_in _ hT1 (by kernel_rfl) (by kernel_rfl) ?_
  repeat (go_big_quiet_step ((go_at_call 58; refine (cPutI _ _ _ (qi.Cls.h _) (by first | assumption | omega)).mono ?_; rintro e wx ⟨rfl, hTx⟩; exact ⟨rfl, ⟨wx, hTx⟩, rfl⟩)))
  refine wpQuiet_nil ?_
  rintro _ ⟨N, rfl⟩
  have hN := N.h
  generalize N.x = wN at hN ⊢
  clear N
  go_wp2
  refine qi.region_in _ hN (by kernel_rfl) (by kernel_rfl) ?_
  repeat (go_big_quiet_step ((go_at_call 58; refine (cPutI _ _ _ (qi.Cls.h _) (by first | assumption | omega)).mono ?_; rintro e wx ⟨rfl, hTx⟩; exact ⟨rfl, ⟨wx, hTx⟩, rfl⟩)))
  refine wpQuiet_nil ?_
  rintro _ ⟨N, rfl⟩
  have hN2 := N.h
  generalize N.x = wM at hN2 ⊢
  clear N
  go_wp2
  go_ret
  exact ⟨rfl, ((Below.refl _ _).alloc (Nat.le_refl _) _).trans (Below.mono hN2 (by simp))⟩

set_option maxRecDepth 100000 in
theorem spec_yes (k c : Int) (p : ByteArray) (w : World) (h : fr.ok k c p = true) (hk : k ≤ 9223372036854775807) (hc : c ≤ 9223372036854775807) :
    Calls Tryd.prog 68 #[.agg #[.int .i64 k, .int .i64 c, .string p]] w fun e w' => e = .returned (.string (pi.text k 1 ++ pi.text c 2 ++ pl.out p ++ pi.text 206 1)) ∧ Below w.heap.size w w' := by
  have hp : p.size ≤ 4000 := by have := (fr.ok_true.1 h).2.2.2; omega
  have h1 := fun W => fr.spec_ok k c p W
  rw [h] at h1
  clear h
  have s1 := pi.text_size k 1
  have s2 := pi.text_size c 2
  have s6 := pi.text_size 206 1
  have s4 : (pl.out p).size ≤ 4008 := by
    unfold pl.out
    rw [if_pos (by omega), ByteArray.size_append]
    have := pi.text_size p.size 4
    omega
  go_enter Tryd.func68, Tryd.ntmps68
  go_wp2_with (go_at_call 76; refine (h1 _).mono ?_; rintro e w1 ⟨rfl, hb1⟩)
  have hT1 : qi.T (w.alloc (.cells #[.int .i64 k, .int .i64 c, .string p] 78)) w1 := hb1
  have hg : ∀ N : qi.Cls (w.alloc (.cells #[.int .i64 k, .int .i64 c, .string p] 78)), N.x.cell? ⟨w.heap.size, 0, none⟩ = some (.int .i64 k) ∧ N.x.cell? ⟨w.heap.size, 1, none⟩ = some (.int .i64 c) ∧ N.x.cell? ⟨w.heap.size, 2, none⟩ = some (.string p) := fun N => box_cells N.h
  have hg0 := fun N => (hg N).1
  have hg1 := fun N => (hg N).2.1
  have hg2 := fun N => (hg N).2.2
  clear hg hb1
  refine qi.region_in _ hT1 (by kernel_rfl) (by kernel_rfl) ?_
  repeat (go_big_quiet_step (first | (go_at_call 36; refine (cPutS _ _ _ (qi.Cls.h _) (by first | assumption | omega)).mono ?_; rintro e wx ⟨rfl, hTx⟩; exact ⟨rfl, ⟨wx, hTx⟩, rfl⟩) | (go_at_call 77; refine (cPLS _ _ (qi.Cls.h _) (by omega)).mono ?_; rintro e wx ⟨rfl, hTx⟩; exact ⟨rfl, ⟨wx, hTx⟩, rfl⟩)))
  refine wpQuiet_nil ?_
  rintro _ ⟨N, rfl⟩
  have hN2 := N.h
  generalize N.x = wM at hN2 ⊢
  clear N
  go_wp2
  go_ret
  exact ⟨rfl, ((Below.refl _ _).alloc (Nat.le_refl _) _).trans (Below.mono hN2 (by simp))⟩

theorem long_bytes (p a b : ByteArray) (h : p.size ≤ 4000) : a ++ pl.out p ++ b = a ++ pi.text p.size 4 ++ p ++ b := by
  unfold pl.out
  rw [if_pos (by omega)]
  apply ByteArray.ext
  apply Array.toList_inj.1
  simp

theorem impl_put (k c : Int) (p : ByteArray) (w : World) (hk : k ≤ 9223372036854775807) (hc : c ≤ 9223372036854775807) :
    Calls Tryd.prog 48 #[.agg #[.int .i64 k, .int .i64 c, .string p]] w fun e w' => e = .returned (.string (bytes k c p)) ∧ Below w.heap.size w w' := by
  cases h : fr.ok k c p with
  | true =>
    simp only [bytes, h, if_true]
    exact impl_yes k c p w h hk hc
  | false =>
    simp only [bytes, h, Bool.false_eq_true, if_false]
    exact impl_no k c p w h
theorem spec_put (k c : Int) (p : ByteArray) (w : World) (hk : k ≤ 9223372036854775807) (hc : c ≤ 9223372036854775807) :
    Calls Tryd.prog 68 #[.agg #[.int .i64 k, .int .i64 c, .string p]] w fun e w' => e = .returned (.string (bytes k c p)) ∧ Below w.heap.size w w' := by
  cases h : fr.ok k c p with
  | true =>
    have hp : p.size ≤ 4000 := by have := (fr.ok_true.1 h).2.2.2; omega
    simp only [bytes, h, if_true]
    rw [← long_bytes p _ _ hp]
    exact spec_yes k c p w h hk hc
  | false =>
    simp only [bytes, h, Bool.false_eq_true, if_false]
    exact spec_no k c p w h
theorem bytes_size (k c : Int) (p : ByteArray) : (bytes k c p).size ≤ 4040 := by
  unfold bytes
  cases h : fr.ok k c p with
  | true =>
    have hp : p.size ≤ 4000 := by have := (fr.ok_true.1 h).2.2.2; omega
    have s1 := pi.text_size k 1
    have s2 := pi.text_size c 2
    have s4 := pi.text_size p.size 4
    have s6 := pi.text_size 206 1
    simp only [if_true, ByteArray.size_append]
    omega
  | false => simp
end Go.Proofs.YtnmooolnmhidbaaDoor.pf
