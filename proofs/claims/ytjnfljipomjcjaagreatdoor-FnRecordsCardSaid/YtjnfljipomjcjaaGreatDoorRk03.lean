/- Lists of structures as the cells that append lays: an element's cells one behind the other. -/
import Derived.Test.YtjnfljipomjcjaaGreatDoorRk02
import Derived.Test.YtjnfljipomjcjaaGreatDoorRk01
import Derived.Test.YtjnfljipomjcjaaGreatDoorBatchOk
import Derived.Test.YtjnfljipomjcjaaGreatDoorFlatLib
import Derived.Laws.AppendOwn

/- The two readers of a long text, the specification's and the program's, answer alike at every text of at most 1048576 bytes and every place; they lay new memory alone. -/
namespace Go.Proofs.YtjnfljipomjcjaaGreatDoor.gl
open Go.ChangeShapes Go.WideShapes Go.ChangeAt Go.RowKit Go.Proofs.YtjnfljipomjcjaaGreatDoor.gi

/-- whether there is such a text at place i -/
def here (s : ByteArray) (i : Int) : Bool := okAt s i 4 && decide (num s i 4 ≤ 100000) && decide (stop s i 4 + num s i 4 ≤ s.size)
def text (s : ByteArray) (i : Int) : ByteArray := if here s i then s.extract (stop s i 4).toNat ((stop s i 4).toNat + (num s i 4).toNat) else ByteArray.empty
def behind (s : ByteArray) (i : Int) : Int := if here s i then stop s i 4 + num s i 4 else -1

theorem parts (s : ByteArray) (i : Int) (h : okAt s i 4 = true) : 0 ≤ num s i 4 ∧ num s i 4 ≤ 4294967295 ∧ 0 ≤ stop s i 4 ∧ stop s i 4 ≤ s.size := by
  have hb := gi_bound s i.toNat 4
  simp only [num, stop, h, if_true]
  simp only [okAt, Bool.and_eq_true, decide_eq_true_eq] at h
  have h1 : (4 : Int).toNat = 4 := rfl
  rw [h1]
  omega

theorem none (s : ByteArray) (i : Int) (h : okAt s i 4 = false) : num s i 4 = 0 ∧ stop s i 4 = -1 := by
  simp [num, stop, h]

theorem spec_slice (s : ByteArray) (n p : Int) (w : World) (hs : s.size ≤ 1048576) (hn : 0 ≤ n) (hn' : n ≤ 4294967295) (hp : 0 ≤ p) (hp' : p ≤ s.size) (hin : p + n ≤ s.size) :
    Calls Tryz.prog 61 #[.string s, .int .i64 n, .int .i64 p] w fun e w' => e = .returned (.tuple #[.string (s.extract p.toNat (p.toNat + n.toNat)), .int .i64 (p + n)]) ∧ w = w' := by
  obtain ⟨a, rfl⟩ := Int.eq_ofNat_of_zero_le hn
  obtain ⟨b, rfl⟩ := Int.eq_ofNat_of_zero_le hp
  have hsl : ∀ W : World, (Instr.slice 9 (.string s) (some (.int .i64 (b : Int))) (some (.int .i64 ((b : Int) + (a : Int)))) Option.none).run Tryz.prog W = .ok (.string (s.extract b (b + a))) W := fun W =>
    run_slice_string (P := Tryz.prog) W 9 s .i64 .i64 (b : Int) ((b : Int) + (a : Int)) Tryz.underlying9 (by omega) (by omega) (by omega)
  go_enter Tryz.func61, Tryz.ntmps61
  go_wp2
  go_ret2
  exact ⟨rfl, rfl⟩

theorem spec_noslice (s : ByteArray) (n p : Int) (w : World) (_hs : s.size ≤ 1048576) (hn : 0 ≤ n) (hn' : n ≤ 4294967295) (h : p = -1 ∨ 0 ≤ p ∧ p ≤ s.size ∧ s.size < p + n) :
    Calls Tryz.prog 61 #[.string s, .int .i64 n, .int .i64 p] w fun e w' => e = .returned (.tuple #[.string ByteArray.empty, .int .i64 (-1)]) ∧ w = w' := by
  rcases h with rfl | ⟨h0, h1, h2⟩
  · go_enter Tryz.func61, Tryz.ntmps61
    go_wp2
    go_ret2
    exact ⟨rfl, rfl⟩
  · have hd : decide (p < 0) = false := by simp; omega
    go_enter Tryz.func61, Tryz.ntmps61
    go_wp2
    go_ret2
    exact ⟨rfl, rfl⟩

theorem spec_getLong (s : ByteArray) (i : Int) (w : World) (hs : s.size ≤ 1048576) (hi1 : -9223372036854775808 ≤ i) (hi2 : i ≤ 9223372036854775807) :
    Calls Tryz.prog 27 #[.string s, .int .i64 i] w fun e w' => e = .returned (.tuple #[.string (text s i), .int .i64 (behind s i)]) ∧ Below w.heap.size w w' := by
  obtain ⟨n, hn⟩ : ∃ n, num s i 4 = n := ⟨_, rfl⟩
  obtain ⟨p, hp⟩ : ∃ p, stop s i 4 = p := ⟨_, rfl⟩
  have hget := spec_get s i 4 w hs hi1 hi2
  rw [hn, hp] at hget
  by_cases hok : okAt s i 4 = true
  · have hpa := parts s i hok
    rw [hn, hp] at hpa
    by_cases hin : n ≤ 100000 ∧ p + n ≤ s.size
    · have hh : here s i = true := by simp only [here, hok, hn, hp, Bool.true_and, Bool.and_eq_true, decide_eq_true_eq]; exact hin
      have e1 : text s i = s.extract p.toNat (p.toNat + n.toNat) := by simp only [text, hh, if_true, hn, hp]
      have e2 : behind s i = p + n := by simp only [behind, hh, if_true, hn, hp]
      rw [e1, e2]
      clear hn hp hok hh e1 e2
      go_enter Tryz.func27, Tryz.ntmps27
      go_wp2_with (first | (go_at_call 26; refine hget.mono ?_; rintro e w' ⟨rfl, rfl⟩) | (go_at_call 61; refine (spec_slice s n p _ hs (by omega) (by omega) (by omega) (by omega) (by omega)).mono ?_; rintro e w' ⟨rfl, rfl⟩))
      go_ret2
      exact ⟨rfl, Below.refl _ _⟩
    · have hh : here s i = false := by
        simp only [here, hok, hn, hp, Bool.true_and, Bool.and_eq_false_iff, decide_eq_false_iff_not]; omega
      have e1 : text s i = ByteArray.empty := by simp only [text, hh, Bool.false_eq_true, if_false]
      have e2 : behind s i = -1 := by simp only [behind, hh, Bool.false_eq_true, if_false]
      rw [e1, e2]
      clear hn hp hok hh e1 e2
      by_cases hm : n ≤ 100000
      · have hm' : decide (100000 < n) = false := by simp; omega
        go_enter Tryz.func27, Tryz.ntmps27
        go_wp2_with (first | (go_at_call 26; refine hget.mono ?_; rintro e w' ⟨rfl, rfl⟩) | (go_at_call 61; refine (spec_noslice s n p _ hs (by omega) (by omega) (by omega)).mono ?_; rintro e w' ⟨rfl, rfl⟩))
        go_ret2
        exact ⟨rfl, Below.refl _ _⟩
      · have hm' : decide (100000 < n) = true := by simp; omega
        go_enter Tryz.func27, Tryz.ntmps27
        go_wp2_with (go_at_call 26; refine hget.mono ?_; rintro e w' ⟨rfl, rfl⟩)
        go_ret2
        exact ⟨rfl, Below.refl _ _⟩
  · have hok' : okAt s i 4 = false := by simpa using hok
    have hpa := none s i hok'
    rw [hn, hp] at hpa
    obtain ⟨rfl, rfl⟩ := hpa
    have hh : here s i = false := by simp only [here, hok', Bool.false_and]
    have e1 : text s i = ByteArray.empty := by simp only [text, hh, Bool.false_eq_true, if_false]
    have e2 : behind s i = -1 := by simp only [behind, hh, Bool.false_eq_true, if_false]
    rw [e1, e2]
    clear hn hp hok hok' hh e1 e2
    go_enter Tryz.func27, Tryz.ntmps27
    go_wp2_with (first | (go_at_call 26; refine hget.mono ?_; rintro e w' ⟨rfl, rfl⟩) | (go_at_call 61; refine (spec_noslice s 0 (-1) _ hs (by omega) (by omega) (by omega)).mono ?_; rintro e w' ⟨rfl, rfl⟩))
    go_ret2
    exact ⟨rfl, Below.refl _ _⟩

theorem impl_text (s : ByteArray) (i n p : Int) (w : World) (hs : s.size ≤ 1048576) (hpa : 0 ≤ n ∧ n ≤ 4294967295 ∧ 0 ≤ p ∧ p ≤ s.size) (hin : n ≤ 100000 ∧ p + n ≤ s.size)
    (hget : Calls Tryz.prog 58 #[.string s, .int .i64 i, .int .i64 4] w fun e w' => e = .returned (.tuple #[.int .i64 n, .int .i64 p]) ∧ w' = w) :
    Calls Tryz.prog 76 #[.string s, .int .i64 i, .int .i64 4, .int .i64 100000] w fun e w' => e = .returned (.tuple #[.string (s.extract p.toNat (p.toNat + n.toNat)), .int .i64 (p + n)]) ∧ Below w.heap.size w w' := by
  obtain ⟨a, rfl⟩ := Int.eq_ofNat_of_zero_le hpa.1
  obtain ⟨b, rfl⟩ := Int.eq_ofNat_of_zero_le hpa.2.2.1
  have hsl : ∀ W : World, (Instr.slice 9 (.string s) (some (.int .i64 (b : Int))) (some (.int .i64 ((b : Int) + (a : Int)))) Option.none).run Tryz.prog W = .ok (.string (s.extract b (b + a))) W := fun W =>
    run_slice_string (P := Tryz.prog) W 9 s .i64 .i64 (b : Int) ((b : Int) + (a : Int)) Tryz.underlying9 (by omega) (by omega) (by omega)
  have hd : decide ((b : Int) < 0) = false := by simp
  have hxs : (s.extract b (b + a)).size ≤ 281474976710656 := by rw [ByteArray.size_extract]; omega
  go_enter Tryz.func76, Tryz.ntmps76
  go_wp2_with (first | (go_at_call 58; refine hget.mono ?_; rintro e w' ⟨rfl, rfl⟩) | (go_at_call 51; refine (cl.clone (s.extract b (b + a)) _ hxs).mono ?_; rintro e w1 ⟨rfl, hb1⟩))
  go_ret2
  exact ⟨rfl, hb1⟩

theorem impl_notext (s : ByteArray) (i n p : Int) (w : World) (hs : s.size ≤ 1048576) (h : p = -1 ∨ (0 ≤ n ∧ n ≤ 4294967295 ∧ 0 ≤ p ∧ p ≤ s.size) ∧ ¬ (n ≤ 100000 ∧ p + n ≤ s.size))
    (hget : Calls Tryz.prog 58 #[.string s, .int .i64 i, .int .i64 4] w fun e w' => e = .returned (.tuple #[.int .i64 n, .int .i64 p]) ∧ w' = w) :
    Calls Tryz.prog 76 #[.string s, .int .i64 i, .int .i64 4, .int .i64 100000] w fun e w' => e = .returned (.tuple #[.string ByteArray.empty, .int .i64 (-1)]) ∧ Below w.heap.size w w' := by
  rcases h with rfl | ⟨hpa, hn⟩
  · go_enter Tryz.func76, Tryz.ntmps76
    go_wp2_with (go_at_call 58; refine hget.mono ?_; rintro e w' ⟨rfl, rfl⟩)
    go_ret2
    exact ⟨rfl, Below.refl _ _⟩
  · have hd : decide (p < 0) = false := by simp; omega
    by_cases hm : n ≤ 100000
    · have hm' : decide (100000 < n) = false := by simp; omega
      go_enter Tryz.func76, Tryz.ntmps76
      go_wp2_with (go_at_call 58; refine hget.mono ?_; rintro e w' ⟨rfl, rfl⟩)
      go_ret2
      exact ⟨rfl, Below.refl _ _⟩
    · have hm' : decide (100000 < n) = true := by simp; omega
      go_enter Tryz.func76, Tryz.ntmps76
      go_wp2_with (go_at_call 58; refine hget.mono ?_; rintro e w' ⟨rfl, rfl⟩)
      go_ret2
      exact ⟨rfl, Below.refl _ _⟩

theorem impl_getLong (s : ByteArray) (i : Int) (w : World) (hs : s.size ≤ 1048576) (hi1 : -9223372036854775808 ≤ i) (hi2 : i ≤ 9223372036854775807) :
    Calls Tryz.prog 59 #[.string s, .int .i64 i] w fun e w' => e = .returned (.tuple #[.string (text s i), .int .i64 (behind s i)]) ∧ Below w.heap.size w w' := by
  obtain ⟨n, hn⟩ : ∃ n, num s i 4 = n := ⟨_, rfl⟩
  obtain ⟨p, hp⟩ : ∃ p, stop s i 4 = p := ⟨_, rfl⟩
  have hget := impl_get s i 4 w hs hi1 hi2
  rw [hn, hp] at hget
  have hall : Calls Tryz.prog 76 #[.string s, .int .i64 i, .int .i64 4, .int .i64 100000] w fun e w' => e = .returned (.tuple #[.string (text s i), .int .i64 (behind s i)]) ∧ Below w.heap.size w w' := by
    by_cases hok : okAt s i 4 = true
    · have hpa := parts s i hok
      rw [hn, hp] at hpa
      by_cases hin : n ≤ 100000 ∧ p + n ≤ s.size
      · have hh : here s i = true := by simp only [here, hok, hn, hp, Bool.true_and, Bool.and_eq_true, decide_eq_true_eq]; exact hin
        have e1 : text s i = s.extract p.toNat (p.toNat + n.toNat) := by simp only [text, hh, if_true, hn, hp]
        have e2 : behind s i = p + n := by simp only [behind, hh, if_true, hn, hp]
        rw [e1, e2]
        exact impl_text s i n p w hs hpa hin hget
      · have hh : here s i = false := by
          simp only [here, hok, hn, hp, Bool.true_and, Bool.and_eq_false_iff, decide_eq_false_iff_not]; omega
        have e1 : text s i = ByteArray.empty := by simp only [text, hh, Bool.false_eq_true, if_false]
        have e2 : behind s i = -1 := by simp only [behind, hh, Bool.false_eq_true, if_false]
        rw [e1, e2]
        exact impl_notext s i n p w hs (Or.inr ⟨hpa, hin⟩) hget
    · have hok' : okAt s i 4 = false := by simpa using hok
      have hpa := none s i hok'
      rw [hn, hp] at hpa
      have hh : here s i = false := by simp only [here, hok', Bool.false_and]
      have e1 : text s i = ByteArray.empty := by simp only [text, hh, Bool.false_eq_true, if_false]
      have e2 : behind s i = -1 := by simp only [behind, hh, Bool.false_eq_true, if_false]
      rw [e1, e2]
      exact impl_notext s i n p w hs (Or.inl hpa.2) hget
  clear hget hn hp
  go_enter Tryz.func59, Tryz.ntmps59
  go_wp2_with (go_at_call 76; refine hall.mono ?_; rintro e w1 ⟨rfl, hb1⟩)
  go_ret2
  exact ⟨rfl, hb1⟩
end Go.Proofs.YtjnfljipomjcjaaGreatDoor.gl

/- GetBatch: what is read, on bytes: the pairs one behind the other, each from where the one ahead ended. -/
namespace Go.Proofs.YtjnfljipomjcjaaGreatDoor.gbp
open Go.ChangeShapes Go.WideShapes Go.ChangeAt Go.RowKit Go.Proofs.YtjnfljipomjcjaaGreatDoor.fl
set_option linter.unusedVariables false

/-- the pair at a place, and the place behind it -/
def stp (s : ByteArray) (i : Int) : Option (flP.Pr × Int) :=
  if (gi.okAt s i 1 && (gs.here s (i + 1) && decide (gi.num s i 1 ≤ 1))) = true then
    (if gi.num s i 1 = 1 then some (⟨gs.text s (i + 1), ⟨#[]⟩, true⟩, gs.behind s (i + 1))
     else if gl.here s (gs.behind s (i + 1)) = true then some (⟨gs.text s (i + 1), gl.text s (gs.behind s (i + 1)), false⟩, gl.behind s (gs.behind s (i + 1))) else none)
  else none
/-- so many pairs from a place on, and the place behind them -/
def rn (s : ByteArray) : Nat → Int → Option (List flP.Pr × Int)
  | 0, i => some ([], i)
  | k + 1, i => match stp s i with
    | none => none
    | some (p, j) => match rn s k j with
      | none => none
      | some (l, e) => some (p :: l, e)
/-- the batch of all bytes -/
noncomputable def got (s : ByteArray) : Option (List flP.Pr) :=
  if (gi.okAt s 0 1 && decide (gi.num s 0 1 ≤ 60)) = true then
    match rn s (gi.num s 0 1).toNat 1 with
    | none => none
    | some (l, e) => if (decide (e = s.size) && bo.okb l) = true then some l else none
  else none
noncomputable def gotL (s : ByteArray) : List flP.Pr := (got s).getD []
noncomputable def gotB (s : ByteArray) : Bool := (got s).isSome
theorem got_none {s : ByteArray} (h : got s = none) : gotL s = [] ∧ gotB s = false := by
  unfold gotL gotB
  rw [h]
  exact ⟨rfl, rfl⟩
theorem got_some {s : ByteArray} {l : List flP.Pr} (h : got s = some l) : gotL s = l ∧ gotB s = true := by
  unfold gotL gotB
  rw [h]
  exact ⟨rfl, rfl⟩
/-- what is still to be read behind some pairs -/
def Left (s : ByteArray) (n : Nat) (l : List flP.Pr) (k : Nat) (i : Int) : Prop := rn s n 1 = match rn s k i with | none => none | some (m, e) => some (l ++ m, e)
theorem left_0 (s : ByteArray) (n : Nat) : Left s n [] n 1 := by
  unfold Left
  cases rn s n 1 with
  | none => rfl
  | some x => rfl
theorem left_no {s : ByteArray} {n : Nat} {l : List flP.Pr} {k : Nat} {i : Int} (h : Left s n l (k + 1) i) (hs : stp s i = none) : rn s n 1 = none := by
  unfold Left at h
  rw [h]
  unfold rn
  rw [hs]
theorem left_yes {s : ByteArray} {n : Nat} {l : List flP.Pr} {k : Nat} {i j : Int} {p : flP.Pr} (h : Left s n l (k + 1) i) (hs : stp s i = some (p, j)) : Left s n (l ++ [p]) k j := by
  unfold Left at h ⊢
  rw [h]
  simp only [rn, hs]
  cases hh : rn s k j with
  | none => simp
  | some x => simp
theorem left_end {s : ByteArray} {n : Nat} {l : List flP.Pr} {i : Int} (h : Left s n l 0 i) : rn s n 1 = some (l, i) := by
  unfold Left at h
  rw [h]
  simp [rn]
/-- a place behind a part lies in the text -/
theorem short_in {s : ByteArray} {i : Int} (h : gs.here s i = true) : 0 ≤ gs.behind s i ∧ gs.behind s i ≤ s.size := by
  unfold gs.behind
  rw [if_pos h]
  unfold gs.here at h
  simp only [Bool.and_eq_true, decide_eq_true_eq] at h
  have := gs.parts s i h.1.1
  omega
theorem long_in {s : ByteArray} {i : Int} (h : gl.here s i = true) : 0 ≤ gl.behind s i ∧ gl.behind s i ≤ s.size := by
  unfold gl.behind
  rw [if_pos h]
  unfold gl.here at h
  simp only [Bool.and_eq_true, decide_eq_true_eq] at h
  have := gl.parts s i h.1.1
  omega
theorem stop_at {s : ByteArray} {i : Int} (h : gi.okAt s i 1 = true) : gi.stop s i 1 = i + 1 := by
  unfold gi.stop
  rw [if_pos h]
theorem stop_no {s : ByteArray} {i : Int} (h : gi.okAt s i 1 = false) : gi.stop s i 1 = -1 ∧ gi.num s i 1 = 0 := by
  have := gs.none s i h
  exact ⟨this.2, this.1⟩
theorem short_no {s : ByteArray} {i : Int} (h : gs.here s i = false) : gs.behind s i = -1 := by
  unfold gs.behind
  rw [h]
  rfl
theorem long_no {s : ByteArray} {i : Int} (h : gl.here s i = false) : gl.behind s i = -1 := by
  unfold gl.behind
  rw [h]
  rfl
theorem at_in {s : ByteArray} {i : Int} (h : gi.okAt s i 1 = true) : 0 ≤ i ∧ i + 1 ≤ s.size ∧ 0 ≤ gi.num s i 1 ∧ gi.num s i 1 ≤ 255 := by
  have h1 := gs.parts s i h
  unfold gi.okAt at h
  simp only [Bool.and_eq_true, decide_eq_true_eq] at h
  omega
theorem text_small {s : ByteArray} {i : Int} (hs : s.size ≤ 1048576) : (gs.text s i).size ≤ 1048576 ∧ (gl.text s i).size ≤ 1048576 := by
  constructor
  · unfold gs.text
    split
    · rw [ByteArray.size_extract]; omega
    · simp
  · unfold gl.text
    split
    · rw [ByteArray.size_extract]; omega
    · simp
theorem stp_in {s : ByteArray} {i j : Int} {p : flP.Pr} (hs : s.size ≤ 1048576) (h : stp s i = some (p, j)) : 0 ≤ j ∧ j ≤ s.size ∧ p.k.size ≤ 1048576 ∧ p.v.size ≤ 1048576 := by
  unfold stp at h
  split at h
  · rename_i h1
    simp only [Bool.and_eq_true] at h1
    have a1 := short_in h1.2.1
    split at h
    · cases h
      exact ⟨a1.1, a1.2, (text_small hs).1, by show (0 : Nat) ≤ _; omega⟩
    · split at h
      · rename_i h3
        cases h
        have a2 := long_in h3
        exact ⟨a2.1, a2.2, (text_small hs).1, (text_small hs).2⟩
      · cases h
  · cases h
end Go.Proofs.YtjnfljipomjcjaaGreatDoor.gbp

/- Lists of structures as the cells that append lays: an element's cells one behind the other. -/
namespace Go.Proofs.YtjnfljipomjcjaaGreatDoor.fl
open Go.ChangeShapes Go.WideShapes Go.ChangeAt Go.RowKit
set_option linter.unusedVariables false

section
variable {α : Type} {c : α → List Value} {n : Nat} {l : List α}
theorem flat_len (hn : ∀ e, (c e).length = n) : ∀ l : List α, (l.flatMap c).length = l.length * n
  | [] => by simp
  | x :: r => by rw [List.flatMap_cons, List.length_append, flat_len hn r, hn, List.length_cons, Nat.add_mul]; omega
theorem flat_at (hn : ∀ e, (c e).length = n) : ∀ (l : List α) (i : Nat) (e : α), l[i]? = some e → ∀ (j : Nat) (v : Value), (c e)[j]? = some v → (l.flatMap c)[i * n + j]? = some v
  | [], i, e, h => by simp at h
  | x :: r, 0, e, h => fun j v hv => by
    simp at h
    subst h
    have hj := (List.getElem?_eq_some_iff.1 hv).1
    rw [List.flatMap_cons, Nat.zero_mul, Nat.zero_add, List.getElem?_append_left hj]
    exact hv
  | x :: r, i + 1, e, h => fun j v hv => by
    have ih := flat_at hn r i e (by simpa using h) j v hv
    rw [List.flatMap_cons, List.getElem?_append_right (by rw [hn, Nat.add_mul]; omega), hn, show (i + 1) * n + j - n = i * n + j by rw [Nat.add_mul]; omega]
    exact ih
theorem flat_get (hn : ∀ e, (c e).length = n) : ∀ (l : List α) (j : Nat) (u : Value), (l.flatMap c)[j]? = some u → ∃ i e r, l[i]? = some e ∧ (c e)[r]? = some u ∧ j = i * n + r
  | [], j, u, h => by simp at h
  | x :: r, j, u, h => by
    rw [List.flatMap_cons] at h
    by_cases hj : j < n
    · rw [List.getElem?_append_left (by rw [hn]; exact hj)] at h
      exact ⟨0, x, j, rfl, h, by omega⟩
    · rw [List.getElem?_append_right (by rw [hn]; omega), hn] at h
      obtain ⟨i, e, k, h1, h2, h3⟩ := flat_get hn r (j - n) u h
      exact ⟨i + 1, e, k, by simpa using h1, h2, by rw [Nat.add_mul]; omega⟩
/-- what is owned lies behind the slice's address -/
theorem own_row {w : World} {B : Nat} {T : TypeId} {v : Value} (hn : ∀ e, (c e).length = n) (h : w.ownsRow B T n v l.length (l.flatMap c)) : ∃ a cap, v = .slice a l.length cap ∧ Row c n w w.heap.size a l := by
  obtain ⟨_, ⟨rfl, h0⟩ | ⟨g, cap, cur, rfl, _, h1, _, _, h3, h4⟩⟩ := h
  · have : l = [] := List.eq_nil_of_length_eq_zero h0
    subst this
    exact ⟨none, 0, rfl, .inl rfl⟩
  · refine ⟨_, cap, rfl, .inr ⟨g, 0, rfl, (Array.getElem?_eq_some_iff.1 h1).1, fun i e he j v hv => ?_⟩⟩
    have hf := flat_at hn l i e he j v hv
    rw [← h4] at hf
    have hlt := (List.getElem?_eq_some_iff.1 hf).1
    rw [List.length_take] at hlt
    rw [List.getElem?_take_of_lt (by omega)] at hf
    rw [Nat.zero_add]
    exact bcell h1 (by simpa using hf)
end
end Go.Proofs.YtjnfljipomjcjaaGreatDoor.fl
