/- The two readers of a frame, the specification's and the program's, answer alike at every text of at most 1048576 bytes; they lay new memory alone. -/
import Derived.Test.YtkddnennodonhaaFrameWalks
import Derived.Test.YtkddnennodonhaaGetIntWalks
import Derived.Test.YtkddnennodonhaaCloneLaid
import Derived.Lib.IndexBytes
namespace Go.Proofs.Ytkddnennodonhaa.nf
open Go.ChangeShapes Go.WideShapes Go.ChangeAt Go.RowKit
set_option linter.unusedVariables false

theorem num1 {s : ByteArray} (h : 1 ≤ s.size) : gi.num s 0 1 = gi.bt s 0 ∧ gi.stop s 0 1 = 1 := by
  have hok : gi.okAt s 0 1 = true := by simp [gi.okAt, sz.mostOf]; omega
  simp only [gi.num, gi.stop, hok, if_true]
  exact ⟨by simp [gi.gi], by omega⟩
theorem num2 {s : ByteArray} (h : 7 ≤ s.size) : ∃ c : Nat, gi.num s 1 2 = c ∧ c ≤ 65535 ∧ gi.stop s 1 2 = 3 := by
  have hok : gi.okAt s 1 2 = true := by simp [gi.okAt, sz.mostOf]; omega
  have hb := gi.gi_bound s 1 2
  simp only [gi.num, gi.stop, hok, if_true]
  refine ⟨(gi.gi s 1 2).toNat, ?_, by omega, by omega⟩
  show gi.gi s 1 2 = _
  omega
theorem num4 {s : ByteArray} (h : 7 ≤ s.size) : ∃ n : Nat, gi.num s 3 4 = n ∧ n ≤ 4294967295 ∧ gi.stop s 3 4 = 7 := by
  have hok : gi.okAt s 3 4 = true := by simp [gi.okAt, sz.mostOf]; omega
  have hb := gi.gi_bound s 3 4
  simp only [gi.num, gi.stop, hok, if_true]
  refine ⟨(gi.gi s 3 4).toNat, ?_, by omega, by omega⟩
  show gi.gi s 3 4 = _
  omega

theorem box3 {x y z : Value} {t : TypeId} {w W : World} (h : Below (w.alloc (.cells #[x, y, z] t)).heap.size (w.alloc (.cells #[x, y, z] t)) W) :
    (W.cell? ⟨w.heap.size, 0, none⟩ = some x ∧ W.cell? ⟨w.heap.size, 1, none⟩ = some y ∧ W.cell? ⟨w.heap.size, 2, none⟩ = some z) ∧ W.frozen? ⟨w.heap.size, 0, none⟩ = false ∧ W.frozen? ⟨w.heap.size, 1, none⟩ = false ∧ W.frozen? ⟨w.heap.size, 2, none⟩ = false := by
  have hb : W.heap[w.heap.size]? = some (.cells #[x, y, z] t) := by
    rw [h.block w.heap.size (by simp)]
    exact heap_alloc_new w _
  simp [World.cell?, World.frozen?, hb]

def none3 (c : Int) : Value := .tuple #[.agg #[.int .i64 0, .int .i64 0, .string ⟨#[]⟩], .int .i64 0, .int .i64 c]

theorem impl_empty (w : World) : Calls Try.prog 21 #[.string ⟨#[]⟩] w fun e w' => e = .returned (none3 1) ∧ Below w.heap.size w w' := by
  go_enter Try.func21, Try.ntmps21
  go_wp2
  refine bodyPost_ret (v := none3 1) (by simp [none3, results, Try.results21, go_sem]) rfl ⟨rfl, ?_⟩
  exact (Below.refl _ _).alloc (Nat.le_refl _) _
theorem impl_kind (s : ByteArray) (b : Nat) (w : World) (hs : s.size ≤ 1048576) (hl : s.toList.isEmpty = false ∧ (s.toList = []) = False) (h0 : 1 ≤ s.size) (hk : fr.kind b = false) (h1 : gi.num s 0 1 = b ∧ gi.stop s 0 1 = 1) :
    Calls Try.prog 21 #[.string s] w fun e w' => e = .returned (none3 2) ∧ Below w.heap.size w w' := by
  have g1 := fun W => gi.impl_get s 0 1 W hs (by omega) (by omega)
  rw [h1.1, h1.2] at g1
  have hkk := fun W => fr.impl_kind b W
  rw [hk] at hkk
  obtain ⟨hl1, hl2⟩ := hl
  clear hk h1
  go_enter Try.func21, Try.ntmps21
  have t1 : True := trivial
  have t2 : True := trivial
  go_wp2_with (first | (go_at_call 37; have _t := t1; refine (g1 _).mono ?_; rintro e w1 ⟨rfl, rfl⟩; clear t1) | (go_at_call 63; refine (hkk _).mono ?_; rintro e w1 ⟨rfl, rfl⟩))
  refine bodyPost_ret (v := none3 2) (by simp [none3, results, Try.results21, go_sem]) rfl ⟨rfl, ?_⟩
  exact (Below.refl _ _).alloc (Nat.le_refl _) _
theorem impl_short (s : ByteArray) (b : Nat) (w : World) (hs : s.size ≤ 1048576) (hl : s.toList.isEmpty = false ∧ (s.toList = []) = False) (h0 : 1 ≤ s.size) (hk : fr.kind b = true) (h7 : s.size < 7) (h1 : gi.num s 0 1 = b ∧ gi.stop s 0 1 = 1) :
    Calls Try.prog 21 #[.string s] w fun e w' => e = .returned (none3 1) ∧ Below w.heap.size w w' := by
  have g1 := fun W => gi.impl_get s 0 1 W hs (by omega) (by omega)
  rw [h1.1, h1.2] at g1
  have hkk := fun W => fr.impl_kind b W
  rw [hk] at hkk
  obtain ⟨hl1, hl2⟩ := hl
  clear hk h1
  go_enter Try.func21, Try.ntmps21
  have t1 : True := trivial
  have t2 : True := trivial
  go_wp2_with (first | (go_at_call 37; have _t := t1; refine (g1 _).mono ?_; rintro e w1 ⟨rfl, rfl⟩; clear t1) | (go_at_call 63; refine (hkk _).mono ?_; rintro e w1 ⟨rfl, rfl⟩))
  refine bodyPost_ret (v := none3 1) (by simp [none3, results, Try.results21, go_sem]) rfl ⟨rfl, ?_⟩
  exact (Below.refl _ _).alloc (Nat.le_refl _) _
theorem impl_long (s : ByteArray) (b c n : Nat) (w : World) (hs : s.size ≤ 1048576) (hl : s.toList.isEmpty = false ∧ (s.toList = []) = False) (h7 : 7 ≤ s.size) (hk : fr.kind b = true) (hn : 4000 < n) (hn2 : n ≤ 4294967295) (h1 : gi.num s 0 1 = b ∧ gi.stop s 0 1 = 1) (h2 : gi.num s 1 2 = c ∧ gi.stop s 1 2 = 3) (h4 : gi.num s 3 4 = n ∧ gi.stop s 3 4 = 7) :
    Calls Try.prog 21 #[.string s] w fun e w' => e = .returned (none3 3) ∧ Below w.heap.size w w' := by
  have g1 := fun W => gi.impl_get s 0 1 W hs (by omega) (by omega)
  rw [h1.1, h1.2] at g1
  have g2 := fun W => gi.impl_get s 1 2 W hs (by omega) (by omega)
  have g4 := fun W => gi.impl_get s 3 4 W hs (by omega) (by omega)
  rw [h2.1, h2.2] at g2
  rw [h4.1, h4.2] at g4
  have hkk := fun W => fr.impl_kind b W
  rw [hk] at hkk
  obtain ⟨hl1, hl2⟩ := hl
  clear hk h1 h2 h4
  go_enter Try.func21, Try.ntmps21
  have t1 : True := trivial
  have t2 : True := trivial
  go_wp2_with (first | (go_at_call 37; have _t := t1; refine (g1 _).mono ?_; rintro e w1 ⟨rfl, rfl⟩; clear t1) | (go_at_call 63; refine (hkk _).mono ?_; rintro e w1 ⟨rfl, rfl⟩) | (go_at_call 37; have _t := t2; refine (g2 _).mono ?_; rintro e w1 ⟨rfl, rfl⟩; clear t2) | (go_at_call 37; refine (g4 _).mono ?_; rintro e w1 ⟨rfl, rfl⟩))
  refine bodyPost_ret (v := none3 3) (by simp [none3, results, Try.results21, go_sem]) rfl ⟨rfl, ?_⟩
  exact (Below.refl _ _).alloc (Nat.le_refl _) _
theorem impl_cut (s : ByteArray) (b c n : Nat) (w : World) (hs : s.size ≤ 1048576) (hl : s.toList.isEmpty = false ∧ (s.toList = []) = False) (h7 : 7 ≤ s.size) (hk : fr.kind b = true) (hn : n ≤ 4000) (hin : s.size < n + 8) (h1 : gi.num s 0 1 = b ∧ gi.stop s 0 1 = 1) (h2 : gi.num s 1 2 = c ∧ gi.stop s 1 2 = 3) (h4 : gi.num s 3 4 = n ∧ gi.stop s 3 4 = 7) :
    Calls Try.prog 21 #[.string s] w fun e w' => e = .returned (none3 1) ∧ Below w.heap.size w w' := by
  have g1 := fun W => gi.impl_get s 0 1 W hs (by omega) (by omega)
  rw [h1.1, h1.2] at g1
  have g2 := fun W => gi.impl_get s 1 2 W hs (by omega) (by omega)
  have g4 := fun W => gi.impl_get s 3 4 W hs (by omega) (by omega)
  rw [h2.1, h2.2] at g2
  rw [h4.1, h4.2] at g4
  have hkk := fun W => fr.impl_kind b W
  rw [hk] at hkk
  obtain ⟨hl1, hl2⟩ := hl
  clear hk h1 h2 h4
  go_enter Try.func21, Try.ntmps21
  have t1 : True := trivial
  have t2 : True := trivial
  go_wp2_with (first | (go_at_call 37; have _t := t1; refine (g1 _).mono ?_; rintro e w1 ⟨rfl, rfl⟩; clear t1) | (go_at_call 63; refine (hkk _).mono ?_; rintro e w1 ⟨rfl, rfl⟩) | (go_at_call 37; have _t := t2; refine (g2 _).mono ?_; rintro e w1 ⟨rfl, rfl⟩; clear t2) | (go_at_call 37; refine (g4 _).mono ?_; rintro e w1 ⟨rfl, rfl⟩))
  refine bodyPost_ret (v := none3 1) (by simp [none3, results, Try.results21, go_sem]) rfl ⟨rfl, ?_⟩
  exact (Below.refl _ _).alloc (Nat.le_refl _) _
theorem impl_end (s : ByteArray) (b c n : Nat) (w : World) (hs : s.size ≤ 1048576) (hl : s.toList.isEmpty = false ∧ (s.toList = []) = False) (h7 : 7 ≤ s.size) (hk : fr.kind b = true) (hn : n ≤ 4000) (hin : n + 8 ≤ s.size) (he : gi.bt s (n + 7) ≠ 206) (h1 : gi.num s 0 1 = b ∧ gi.stop s 0 1 = 1) (h2 : gi.num s 1 2 = c ∧ gi.stop s 1 2 = 3) (h4 : gi.num s 3 4 = n ∧ gi.stop s 3 4 = 7) :
    Calls Try.prog 21 #[.string s] w fun e w' => e = .returned (none3 4) ∧ Below w.heap.size w w' := by
  have g1 := fun W => gi.impl_get s 0 1 W hs (by omega) (by omega)
  rw [h1.1, h1.2] at g1
  have g2 := fun W => gi.impl_get s 1 2 W hs (by omega) (by omega)
  have g4 := fun W => gi.impl_get s 3 4 W hs (by omega) (by omega)
  rw [h2.1, h2.2] at g2
  rw [h4.1, h4.2] at g4
  have hkk := fun W => fr.impl_kind b W
  rw [hk] at hkk
  have hlt7 : 7 + n < s.size := by omega
  have hx' : (s[7 + n]'hlt7).toNat ≠ 206 := by
    rw [gi.bt_eq s (7 + n) (by omega), Nat.add_comm]; exact he
  have hx : (((s[7 + n]'hlt7).toNat : Int) == 206) = false := by simp only [beq_eq_false_iff_ne]; omega
  clear hx'
  obtain ⟨hl1, hl2⟩ := hl
  clear hk h1 h2 h4 he
  go_enter Try.func21, Try.ntmps21
  have t1 : True := trivial
  have t2 : True := trivial
  go_wp2_with (first | (go_at_call 37; have _t := t1; refine (g1 _).mono ?_; rintro e w1 ⟨rfl, rfl⟩; clear t1) | (go_at_call 63; refine (hkk _).mono ?_; rintro e w1 ⟨rfl, rfl⟩) | (go_at_call 37; have _t := t2; refine (g2 _).mono ?_; rintro e w1 ⟨rfl, rfl⟩; clear t2) | (go_at_call 37; refine (g4 _).mono ?_; rintro e w1 ⟨rfl, rfl⟩))
  refine bodyPost_ret (v := none3 4) (by simp [none3, results, Try.results21, go_sem]) rfl ⟨rfl, ?_⟩
  exact (Below.refl _ _).alloc (Nat.le_refl _) _
theorem impl_ok (s : ByteArray) (b c n : Nat) (w : World) (hs : s.size ≤ 1048576) (hl : s.toList.isEmpty = false ∧ (s.toList = []) = False) (h7 : 7 ≤ s.size) (hk : fr.kind b = true) (hn : n ≤ 4000) (hin : n + 8 ≤ s.size) (he : gi.bt s (n + 7) = 206) (h1 : gi.num s 0 1 = b ∧ gi.stop s 0 1 = 1) (h2 : gi.num s 1 2 = c ∧ gi.stop s 1 2 = 3) (h4 : gi.num s 3 4 = n ∧ gi.stop s 3 4 = 7) :
    Calls Try.prog 21 #[.string s] w fun e w' => e = .returned (.tuple #[.agg #[.int .i64 b, .int .i64 c, .string (s.extract 7 (7 + n))], .int .i64 ((n : Int) + 8), .int .i64 0]) ∧ Below w.heap.size w w' := by
  have g1 := fun W => gi.impl_get s 0 1 W hs (by omega) (by omega)
  rw [h1.1, h1.2] at g1
  have g2 := fun W => gi.impl_get s 1 2 W hs (by omega) (by omega)
  have g4 := fun W => gi.impl_get s 3 4 W hs (by omega) (by omega)
  rw [h2.1, h2.2] at g2
  rw [h4.1, h4.2] at g4
  have hkk := fun W => fr.impl_kind b W
  rw [hk] at hkk
  have hlt7 : 7 + n < s.size := by omega
  have hx : (s[7 + n]'hlt7).toNat = 206 := by
    rw [gi.bt_eq s (7 + n) (by omega), Nat.add_comm]; exact he
  have hsl : ∀ W : World, (Instr.slice 9 (.string s) (some (.int .i64 7)) (some (.int .i64 (7 + (n : Int)))) Option.none).run Try.prog W = .ok (.string (s.extract 7 (7 + n))) W := fun W => by
    rw [run_slice_string (P := Try.prog) W 9 s .i64 .i64 7 (7 + (n : Int)) Try.underlying9 (by omega) (by omega) (by omega)]
    congr 3 <;> omega
  have hxs : (s.extract 7 (7 + n)).size ≤ 281474976710656 := by rw [ByteArray.size_extract]; omega
  have hcl := fun W => cl.clone (s.extract 7 (7 + n)) W hxs
  obtain ⟨p, hp⟩ : ∃ p, s.extract 7 (7 + n) = p := ⟨_, rfl⟩
  rw [hp] at hsl hcl ⊢
  clear hp hxs
  obtain ⟨hl1, hl2⟩ := hl
  clear hk h1 h2 h4 he
  go_enter Try.func21, Try.ntmps21
  have t1 : True := trivial
  have t2 : True := trivial
  go_wp2_with (first | (go_at_call 37; have _t := t1; refine (g1 _).mono ?_; rintro e w1 ⟨rfl, rfl⟩; clear t1) | (go_at_call 63; refine (hkk _).mono ?_; rintro e w1 ⟨rfl, rfl⟩) | (go_at_call 37; have _t := t2; refine (g2 _).mono ?_; rintro e w1 ⟨rfl, rfl⟩; clear t2) | (go_at_call 37; refine (g4 _).mono ?_; rintro e w1 ⟨rfl, rfl⟩) | (go_at_call 64; refine (hcl _).mono ?_; rintro e w1 ⟨rfl, hb1⟩; obtain ⟨⟨q0, q1, q2⟩, f0, f1, f2⟩ := box3 hb1))
  refine bodyPost_ret (v := .tuple #[.agg #[.int .i64 b, .int .i64 c, .string p], .int .i64 ((n : Int) + 8), .int .i64 0]) (by simp [results, Try.results21, go_sem, q0, q1, q2]) rfl ⟨rfl, ?_⟩
  exact (((((Below.refl _ _).alloc (Nat.le_refl _) _).trans (hb1.mono (by simp))).setCell (p := ⟨w.heap.size, 0, none⟩) (Nat.le_refl _) _).setCell (p := ⟨w.heap.size, 1, none⟩) (Nat.le_refl _) _).setCell (p := ⟨w.heap.size, 2, none⟩) (Nat.le_refl _) _
theorem spec_empty (w : World) : Calls Try.prog 22 #[.string ⟨#[]⟩] w fun e w' => e = .returned (none3 1) ∧ Below w.heap.size w w' := by
  go_enter Try.func22, Try.ntmps22
  go_wp2
  refine bodyPost_ret (v := none3 1) (by simp [none3, results, Try.results22, go_sem]) rfl ⟨rfl, ?_⟩
  exact ((Below.refl _ _).alloc (Nat.le_refl _) _).alloc (by simp) _
theorem spec_kind (s : ByteArray) (b : Nat) (w : World) (hs : s.size ≤ 1048576) (hl : s.toList.isEmpty = false ∧ (s.toList = []) = False) (h0 : 1 ≤ s.size) (hk : fr.kind b = false) (hb0 : gi.bt s 0 = b) :
    Calls Try.prog 22 #[.string s] w fun e w' => e = .returned (none3 2) ∧ Below w.heap.size w w' := by
  have hkk := fun W => fr.spec_kind b W
  rw [hk] at hkk
  have hlt0 : 0 < s.size := by omega
  have hx0 : (s[0]'hlt0).toNat = b := by rw [gi.bt_eq s 0 hlt0]; exact hb0
  have hb8 : b ≤ 255 := by rw [← hb0]; exact gi.bt_le s 0
  obtain ⟨hl1, hl2⟩ := hl
  clear hk hb0
  go_enter Try.func22, Try.ntmps22
  have t1 : True := trivial
  have t2 : True := trivial
  go_wp2_with (first | (go_at_call 65; refine (hkk _).mono ?_; rintro e w1 ⟨rfl, rfl⟩))
  refine bodyPost_ret (v := none3 2) (by simp [none3, results, Try.results22, go_sem]) rfl ⟨rfl, ?_⟩
  exact ((Below.refl _ _).alloc (Nat.le_refl _) _).alloc (by simp) _
theorem spec_short (s : ByteArray) (b : Nat) (w : World) (hs : s.size ≤ 1048576) (hl : s.toList.isEmpty = false ∧ (s.toList = []) = False) (h0 : 1 ≤ s.size) (hk : fr.kind b = true) (h7 : s.size < 7) (hb0 : gi.bt s 0 = b) :
    Calls Try.prog 22 #[.string s] w fun e w' => e = .returned (none3 1) ∧ Below w.heap.size w w' := by
  have hkk := fun W => fr.spec_kind b W
  rw [hk] at hkk
  have hlt0 : 0 < s.size := by omega
  have hx0 : (s[0]'hlt0).toNat = b := by rw [gi.bt_eq s 0 hlt0]; exact hb0
  have hb8 : b ≤ 255 := by rw [← hb0]; exact gi.bt_le s 0
  obtain ⟨hl1, hl2⟩ := hl
  clear hk hb0
  go_enter Try.func22, Try.ntmps22
  have t1 : True := trivial
  have t2 : True := trivial
  go_wp2_with (first | (go_at_call 65; refine (hkk _).mono ?_; rintro e w1 ⟨rfl, rfl⟩))
  refine bodyPost_ret (v := none3 1) (by simp [none3, results, Try.results22, go_sem]) rfl ⟨rfl, ?_⟩
  exact ((Below.refl _ _).alloc (Nat.le_refl _) _).alloc (by simp) _
theorem spec_long (s : ByteArray) (b c n : Nat) (w : World) (hs : s.size ≤ 1048576) (hl : s.toList.isEmpty = false ∧ (s.toList = []) = False) (h7 : 7 ≤ s.size) (hk : fr.kind b = true) (hn : 4000 < n) (hn2 : n ≤ 4294967295) (hb0 : gi.bt s 0 = b) (h2 : gi.num s 1 2 = c ∧ gi.stop s 1 2 = 3) (h4 : gi.num s 3 4 = n ∧ gi.stop s 3 4 = 7) :
    Calls Try.prog 22 #[.string s] w fun e w' => e = .returned (none3 3) ∧ Below w.heap.size w w' := by
  have g2 := fun W => gi.spec_get s 1 2 W hs (by omega) (by omega)
  have g4 := fun W => gi.spec_get s 3 4 W hs (by omega) (by omega)
  rw [h2.1, h2.2] at g2
  rw [h4.1, h4.2] at g4
  have hkk := fun W => fr.spec_kind b W
  rw [hk] at hkk
  have hlt0 : 0 < s.size := by omega
  have hx0 : (s[0]'hlt0).toNat = b := by rw [gi.bt_eq s 0 hlt0]; exact hb0
  have hb8 : b ≤ 255 := by rw [← hb0]; exact gi.bt_le s 0
  obtain ⟨hl1, hl2⟩ := hl
  clear hk hb0 h2 h4
  go_enter Try.func22, Try.ntmps22
  have t1 : True := trivial
  have t2 : True := trivial
  go_wp2_with (first | (go_at_call 65; refine (hkk _).mono ?_; rintro e w1 ⟨rfl, rfl⟩) | (go_at_call 36; have _t := t2; refine (g2 _).mono ?_; rintro e w1 ⟨rfl, rfl⟩; clear t2) | (go_at_call 36; refine (g4 _).mono ?_; rintro e w1 ⟨rfl, rfl⟩))
  refine bodyPost_ret (v := none3 3) (by simp [none3, results, Try.results22, go_sem]) rfl ⟨rfl, ?_⟩
  exact ((Below.refl _ _).alloc (Nat.le_refl _) _).alloc (by simp) _
theorem spec_cut (s : ByteArray) (b c n : Nat) (w : World) (hs : s.size ≤ 1048576) (hl : s.toList.isEmpty = false ∧ (s.toList = []) = False) (h7 : 7 ≤ s.size) (hk : fr.kind b = true) (hn : n ≤ 4000) (hin : s.size < n + 8) (hb0 : gi.bt s 0 = b) (h2 : gi.num s 1 2 = c ∧ gi.stop s 1 2 = 3) (h4 : gi.num s 3 4 = n ∧ gi.stop s 3 4 = 7) :
    Calls Try.prog 22 #[.string s] w fun e w' => e = .returned (none3 1) ∧ Below w.heap.size w w' := by
  have g2 := fun W => gi.spec_get s 1 2 W hs (by omega) (by omega)
  have g4 := fun W => gi.spec_get s 3 4 W hs (by omega) (by omega)
  rw [h2.1, h2.2] at g2
  rw [h4.1, h4.2] at g4
  have hkk := fun W => fr.spec_kind b W
  rw [hk] at hkk
  have hlt0 : 0 < s.size := by omega
  have hx0 : (s[0]'hlt0).toNat = b := by rw [gi.bt_eq s 0 hlt0]; exact hb0
  have hb8 : b ≤ 255 := by rw [← hb0]; exact gi.bt_le s 0
  obtain ⟨hl1, hl2⟩ := hl
  clear hk hb0 h2 h4
  go_enter Try.func22, Try.ntmps22
  have t1 : True := trivial
  have t2 : True := trivial
  go_wp2_with (first | (go_at_call 65; refine (hkk _).mono ?_; rintro e w1 ⟨rfl, rfl⟩) | (go_at_call 36; have _t := t2; refine (g2 _).mono ?_; rintro e w1 ⟨rfl, rfl⟩; clear t2) | (go_at_call 36; refine (g4 _).mono ?_; rintro e w1 ⟨rfl, rfl⟩))
  refine bodyPost_ret (v := none3 1) (by simp [none3, results, Try.results22, go_sem]) rfl ⟨rfl, ?_⟩
  exact ((Below.refl _ _).alloc (Nat.le_refl _) _).alloc (by simp) _
theorem spec_end (s : ByteArray) (b c n : Nat) (w : World) (hs : s.size ≤ 1048576) (hl : s.toList.isEmpty = false ∧ (s.toList = []) = False) (h7 : 7 ≤ s.size) (hk : fr.kind b = true) (hn : n ≤ 4000) (hin : n + 8 ≤ s.size) (he : gi.bt s (n + 7) ≠ 206) (hb0 : gi.bt s 0 = b) (h2 : gi.num s 1 2 = c ∧ gi.stop s 1 2 = 3) (h4 : gi.num s 3 4 = n ∧ gi.stop s 3 4 = 7) :
    Calls Try.prog 22 #[.string s] w fun e w' => e = .returned (none3 4) ∧ Below w.heap.size w w' := by
  have g2 := fun W => gi.spec_get s 1 2 W hs (by omega) (by omega)
  have g4 := fun W => gi.spec_get s 3 4 W hs (by omega) (by omega)
  rw [h2.1, h2.2] at g2
  rw [h4.1, h4.2] at g4
  have hkk := fun W => fr.spec_kind b W
  rw [hk] at hkk
  have hlt0 : 0 < s.size := by omega
  have hx0 : (s[0]'hlt0).toNat = b := by rw [gi.bt_eq s 0 hlt0]; exact hb0
  have hb8 : b ≤ 255 := by rw [← hb0]; exact gi.bt_le s 0
  have hlt7 : n + 7 < s.size := by omega
  have hx' : (s[n + 7]'hlt7).toNat ≠ 206 := by
    rw [gi.bt_eq s (n + 7) hlt7]; exact he
  have hx : (((s[n + 7]'hlt7).toNat : Int) == 206) = false := by simp only [beq_eq_false_iff_ne]; omega
  clear hx'
  obtain ⟨hl1, hl2⟩ := hl
  clear hk hb0 h2 h4 he
  go_enter Try.func22, Try.ntmps22
  have t1 : True := trivial
  have t2 : True := trivial
  go_wp2_with (first | (go_at_call 65; refine (hkk _).mono ?_; rintro e w1 ⟨rfl, rfl⟩) | (go_at_call 36; have _t := t2; refine (g2 _).mono ?_; rintro e w1 ⟨rfl, rfl⟩; clear t2) | (go_at_call 36; refine (g4 _).mono ?_; rintro e w1 ⟨rfl, rfl⟩))
  refine bodyPost_ret (v := none3 4) (by simp [none3, results, Try.results22, go_sem]) rfl ⟨rfl, ?_⟩
  exact ((Below.refl _ _).alloc (Nat.le_refl _) _).alloc (by simp) _
theorem spec_ok (s : ByteArray) (b c n : Nat) (w : World) (hs : s.size ≤ 1048576) (hl : s.toList.isEmpty = false ∧ (s.toList = []) = False) (h7 : 7 ≤ s.size) (hk : fr.kind b = true) (hn : n ≤ 4000) (hin : n + 8 ≤ s.size) (he : gi.bt s (n + 7) = 206) (hb0 : gi.bt s 0 = b) (h2 : gi.num s 1 2 = c ∧ gi.stop s 1 2 = 3) (h4 : gi.num s 3 4 = n ∧ gi.stop s 3 4 = 7) :
    Calls Try.prog 22 #[.string s] w fun e w' => e = .returned (.tuple #[.agg #[.int .i64 b, .int .i64 c, .string (s.extract 7 (7 + n))], .int .i64 ((n : Int) + 8), .int .i64 0]) ∧ Below w.heap.size w w' := by
  have g2 := fun W => gi.spec_get s 1 2 W hs (by omega) (by omega)
  have g4 := fun W => gi.spec_get s 3 4 W hs (by omega) (by omega)
  rw [h2.1, h2.2] at g2
  rw [h4.1, h4.2] at g4
  have hkk := fun W => fr.spec_kind b W
  rw [hk] at hkk
  have hlt0 : 0 < s.size := by omega
  have hx0 : (s[0]'hlt0).toNat = b := by rw [gi.bt_eq s 0 hlt0]; exact hb0
  have hb8 : b ≤ 255 := by rw [← hb0]; exact gi.bt_le s 0
  have hlt7 : n + 7 < s.size := by omega
  have hx : (s[n + 7]'hlt7).toNat = 206 := by
    rw [gi.bt_eq s (n + 7) hlt7]; exact he
  have hsl : ∀ W : World, (Instr.slice 9 (.string s) (some (.int .i64 7)) (some (.int .i64 ((n : Int) + 7))) Option.none).run Try.prog W = .ok (.string (s.extract 7 (7 + n))) W := fun W => by
    rw [run_slice_string (P := Try.prog) W 9 s .i64 .i64 7 ((n : Int) + 7) Try.underlying9 (by omega) (by omega) (by omega)]
    congr 3 <;> omega
  obtain ⟨p, hp⟩ : ∃ p, s.extract 7 (7 + n) = p := ⟨_, rfl⟩
  rw [hp] at hsl ⊢
  clear hp
  obtain ⟨hl1, hl2⟩ := hl
  clear hk hb0 h2 h4 he
  go_enter Try.func22, Try.ntmps22
  have t1 : True := trivial
  have t2 : True := trivial
  go_wp2_with (first | (go_at_call 65; refine (hkk _).mono ?_; rintro e w1 ⟨rfl, rfl⟩) | (go_at_call 36; have _t := t2; refine (g2 _).mono ?_; rintro e w1 ⟨rfl, rfl⟩; clear t2) | (go_at_call 36; refine (g4 _).mono ?_; rintro e w1 ⟨rfl, rfl⟩))
  go_region
  all_goals go_wp2
  all_goals refine bodyPost_ret (v := .tuple #[.agg #[.int .i64 b, .int .i64 c, .string p], .int .i64 ((n : Int) + 8), .int .i64 0]) (by simp [results, Try.results22, go_sem]) rfl ⟨rfl, ?_⟩
  all_goals exact (((Below.refl _ _).alloc (Nat.le_refl _) _).alloc (by simp) _).drew

/-- WHAT BOTH READERS ANSWER -/
def len (s : ByteArray) : Nat := (gi.num s 3 4).toNat
def code (s : ByteArray) : Int :=
  if s.size = 0 then 1 else if fr.kind (gi.bt s 0) = false then 2 else if s.size < 7 then 1 else if 4000 < len s then 3 else if s.size < len s + 8 then 1 else if gi.bt s (len s + 7) = 206 then 0 else 4
def chan (s : ByteArray) : Int := gi.num s 1 2
def pay (s : ByteArray) : ByteArray := s.extract 7 (7 + len s)
def val (s : ByteArray) : Value := if code s = 0 then .tuple #[.agg #[.int .i64 (gi.bt s 0), .int .i64 (chan s), .string (pay s)], .int .i64 ((len s : Int) + 8), .int .i64 0] else none3 (code s)

theorem code_ok {s : ByteArray} : code s = 0 ↔ fr.kind (gi.bt s 0) = true ∧ 7 ≤ s.size ∧ len s ≤ 4000 ∧ len s + 8 ≤ s.size ∧ gi.bt s (len s + 7) = 206 := by
  unfold code
  by_cases h0 : s.size = 0
  · simp only [h0, if_true]; omega
  · by_cases hk : fr.kind (gi.bt s 0) = false
    · simp [h0, hk]
    · rw [if_neg h0, if_neg hk]
      have hk' : fr.kind (gi.bt s 0) = true := by simpa using hk
      by_cases h7 : s.size < 7
      · rw [if_pos h7]; omega
      · rw [if_neg h7]
        by_cases hn : 4000 < len s
        · rw [if_pos hn]; omega
        · rw [if_neg hn]
          by_cases hc : s.size < len s + 8
          · rw [if_pos hc]; omega
          · rw [if_neg hc]
            by_cases he : gi.bt s (len s + 7) = 206
            · rw [if_pos he]
              exact ⟨fun _ => ⟨hk', by omega, by omega, by omega, he⟩, fun _ => rfl⟩
            · rw [if_neg he]; omega
theorem not_empty {s : ByteArray} (h : 1 ≤ s.size) : s.toList.isEmpty = false ∧ (s.toList = []) = False := by
  have hl : s.toList.length = s.size := by rw [Lib.toList_data]; simp
  have hne : s.toList ≠ [] := fun e => by rw [e] at hl; simp at hl; omega
  exact ⟨by cases he : s.toList with | nil => exact absurd he hne | cons a b => rfl, by simpa using hne⟩
theorem empty_of {s : ByteArray} (h : s.size = 0) : s = ⟨#[]⟩ := by
  apply ByteArray.ext
  apply Array.toList_inj.1
  have h0 : s.data.toList.length = 0 := by simpa using h
  rw [List.length_eq_zero_iff.1 h0]

theorem impl_next (s : ByteArray) (w : World) (hs : s.size ≤ 1048576) : Calls Try.prog 21 #[.string s] w fun e w' => e = .returned (val s) ∧ Below w.heap.size w w' := by
  by_cases h0 : s.size = 0
  · obtain rfl := empty_of h0
    exact impl_empty w
  · have hl := not_empty (s := s) (by omega)
    cases hk : fr.kind (gi.bt s 0) with
    | false =>
      have e : code s = 2 := by simp [code, h0, hk]
      have ev : val s = none3 2 := by simp [val, e]
      rw [ev]
      exact impl_kind s (gi.bt s 0) w hs hl (by omega) hk (num1 (by omega))
    | true =>
      by_cases h7 : s.size < 7
      · have e : code s = 1 := by simp [code, h0, hk, h7]
        have ev : val s = none3 1 := by simp [val, e]
        rw [ev]
        exact impl_short s (gi.bt s 0) w hs hl (by omega) hk h7 (num1 (by omega))
      · obtain ⟨c, hc1, _, hc3⟩ := num2 (s := s) (by omega)
        obtain ⟨n, hn1, hn2, hn3⟩ := num4 (s := s) (by omega)
        have hlen : len s = n := by unfold len; rw [hn1]; simp
        by_cases hn : 4000 < n
        · have e : code s = 3 := by simp [code, h0, hk, h7, hlen, hn]
          have ev : val s = none3 3 := by simp [val, e]
          rw [ev]
          exact impl_long s (gi.bt s 0) c n w hs hl (by omega) hk hn hn2 (num1 (by omega)) ⟨hc1, hc3⟩ ⟨hn1, hn3⟩
        · by_cases hcut : s.size < n + 8
          · have e : code s = 1 := by simp [code, h0, hk, h7, hlen, hn, hcut]
            have ev : val s = none3 1 := by simp [val, e]
            rw [ev]
            exact impl_cut s (gi.bt s 0) c n w hs hl (by omega) hk (by omega) hcut (num1 (by omega)) ⟨hc1, hc3⟩ ⟨hn1, hn3⟩
          · by_cases he : gi.bt s (n + 7) = 206
            · have e : code s = 0 := by simp [code, h0, hk, h7, hlen, hn, hcut, he]
              have ev : val s = .tuple #[.agg #[.int .i64 (gi.bt s 0), .int .i64 c, .string (s.extract 7 (7 + n))], .int .i64 ((n : Int) + 8), .int .i64 0] := by simp [val, e, chan, pay, hc1, hlen]
              rw [ev]
              exact impl_ok s (gi.bt s 0) c n w hs hl (by omega) hk (by omega) (by omega) he (num1 (by omega)) ⟨hc1, hc3⟩ ⟨hn1, hn3⟩
            · have e : code s = 4 := by simp [code, h0, hk, h7, hlen, hn, hcut, he]
              have ev : val s = none3 4 := by simp [val, e]
              rw [ev]
              exact impl_end s (gi.bt s 0) c n w hs hl (by omega) hk (by omega) (by omega) he (num1 (by omega)) ⟨hc1, hc3⟩ ⟨hn1, hn3⟩

theorem spec_next (s : ByteArray) (w : World) (hs : s.size ≤ 1048576) : Calls Try.prog 22 #[.string s] w fun e w' => e = .returned (val s) ∧ Below w.heap.size w w' := by
  by_cases h0 : s.size = 0
  · obtain rfl := empty_of h0
    exact spec_empty w
  · have hl := not_empty (s := s) (by omega)
    cases hk : fr.kind (gi.bt s 0) with
    | false =>
      have e : code s = 2 := by simp [code, h0, hk]
      have ev : val s = none3 2 := by simp [val, e]
      rw [ev]
      exact spec_kind s (gi.bt s 0) w hs hl (by omega) hk rfl
    | true =>
      by_cases h7 : s.size < 7
      · have e : code s = 1 := by simp [code, h0, hk, h7]
        have ev : val s = none3 1 := by simp [val, e]
        rw [ev]
        exact spec_short s (gi.bt s 0) w hs hl (by omega) hk h7 rfl
      · obtain ⟨c, hc1, _, hc3⟩ := num2 (s := s) (by omega)
        obtain ⟨n, hn1, hn2, hn3⟩ := num4 (s := s) (by omega)
        have hlen : len s = n := by unfold len; rw [hn1]; simp
        by_cases hn : 4000 < n
        · have e : code s = 3 := by simp [code, h0, hk, h7, hlen, hn]
          have ev : val s = none3 3 := by simp [val, e]
          rw [ev]
          exact spec_long s (gi.bt s 0) c n w hs hl (by omega) hk hn hn2 rfl ⟨hc1, hc3⟩ ⟨hn1, hn3⟩
        · by_cases hcut : s.size < n + 8
          · have e : code s = 1 := by simp [code, h0, hk, h7, hlen, hn, hcut]
            have ev : val s = none3 1 := by simp [val, e]
            rw [ev]
            exact spec_cut s (gi.bt s 0) c n w hs hl (by omega) hk (by omega) hcut rfl ⟨hc1, hc3⟩ ⟨hn1, hn3⟩
          · by_cases he : gi.bt s (n + 7) = 206
            · have e : code s = 0 := by simp [code, h0, hk, h7, hlen, hn, hcut, he]
              have ev : val s = .tuple #[.agg #[.int .i64 (gi.bt s 0), .int .i64 c, .string (s.extract 7 (7 + n))], .int .i64 ((n : Int) + 8), .int .i64 0] := by simp [val, e, chan, pay, hc1, hlen]
              rw [ev]
              exact spec_ok s (gi.bt s 0) c n w hs hl (by omega) hk (by omega) (by omega) he rfl ⟨hc1, hc3⟩ ⟨hn1, hn3⟩
            · have e : code s = 4 := by simp [code, h0, hk, h7, hlen, hn, hcut, he]
              have ev : val s = none3 4 := by simp [val, e]
              rw [ev]
              exact spec_end s (gi.bt s 0) c n w hs hl (by omega) hk (by omega) (by omega) he rfl ⟨hc1, hc3⟩ ⟨hn1, hn3⟩
theorem val_form (s : ByteArray) : ∃ (k c : Int) (p : ByteArray) (n d : Int), val s = .tuple #[.agg #[.int .i64 k, .int .i64 c, .string p], .int .i64 n, .int .i64 d] := by
  unfold val
  by_cases h : code s = 0
  · rw [if_pos h]; exact ⟨_, _, _, _, _, rfl⟩
  · rw [if_neg h]; exact ⟨_, _, _, _, _, rfl⟩
end Go.Proofs.Ytkddnennodonhaa.nf
