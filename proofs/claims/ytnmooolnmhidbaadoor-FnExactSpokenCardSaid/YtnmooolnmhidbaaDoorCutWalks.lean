/- The two cutters of a body, the specification's and the program's, lay the same pieces in a row each, at every body of at most 1048576 bytes. -/
import Derived.Test.YtnmooolnmhidbaaDoorStrMarks
import Derived.Test.YtnmooolnmhidbaaDoorBuilderWalks
import Derived.Lib.ConvBytes
import Derived.Lib.IndexBytes
import Derived.OwnWalk
namespace Go.Proofs.YtnmooolnmhidbaaDoor.ct
open Go.ChangeShapes Go.WideShapes Go.ChangeAt Go.RowKit Go.Proofs.YtnmooolnmhidbaaDoor.sm
set_option maxRecDepth 100000
set_option linter.unusedVariables false

def count (s : ByteArray) (z : Nat) : Nat := (s.size + z - 1) / z
def piece (s : ByteArray) (z k : Nat) : ByteArray := s.extract (k * z) (min (k * z + z) s.size)
def pcs (s : ByteArray) (z k : Nat) : List ByteArray := (List.range k).map (piece s z)
theorem pcs_succ (s : ByteArray) (z k : Nat) : pcs s z (k + 1) = pcs s z k ++ [piece s z k] := by
  simp [pcs, List.range_succ]
theorem pcs_length (s : ByteArray) (z k : Nat) : (pcs s z k).length = k := by simp [pcs]
theorem count_lt {s : ByteArray} {z : Nat} (hz : 1 ≤ z) (k : Nat) : k < count s z ↔ k * z < s.size := by
  unfold count
  rw [Nat.lt_iff_add_one_le, Nat.le_div_iff_mul_le (by omega), Nat.add_mul, Nat.one_mul]
  omega
theorem count_le {s : ByteArray} {z : Nat} (hz : 1 ≤ z) : count s z ≤ s.size := by
  unfold count
  by_cases h : s.size = 0
  · rw [h, Nat.div_eq_of_lt (by omega)]
    omega
  · have h1 : (s.size + z - 1) / z ≤ (s.size * z) / z := by
      apply Nat.div_le_div_right
      have : s.size * 1 + (z - 1) * 1 ≤ s.size * z := by
        obtain ⟨y, rfl⟩ : ∃ y, z = y + 1 := ⟨z - 1, by omega⟩
        rw [Nat.mul_add, Nat.mul_one, Nat.mul_one]
        have : y ≤ s.size * y := Nat.le_mul_of_pos_left y (by omega)
        omega
      omega
    rwa [Nat.mul_div_cancel _ (by omega)] at h1

/-- a list's value: an empty one, or a row of its own -/
def Rowed (w : World) (B : Nat) (v : Value) (l : List ByteArray) : Prop :=
  (l = [] ∧ ∃ a c, v = .slice a 0 c) ∨ ∃ g cap, v = .slice (some ⟨g, 0, none⟩) l.length cap ∧ B ≤ g ∧ Has w g cap l
theorem rowed_of_owns {w : World} {base : Nat} {v : Value} {l : List ByteArray} (h : w.ownsRow base 9 1 v l.length (l.map Value.string)) : Rowed w base v l := by
  obtain ⟨_, h⟩ := h
  rcases h with ⟨hv, h0⟩ | ⟨g, cap, cur, hv, hb, hg, h1, _, h2, h3⟩
  · have hl := List.length_eq_zero_iff.1 h0
    exact .inl ⟨hl, none, 0, by rw [hv]⟩
  · exact .inr ⟨g, cap, hv, hb, cur, hg, h1, by simpa using h2, by simpa using h3⟩

/-- the bytes of a text, laid in new memory -/
theorem conv (w : World) (d : ByteArray) : ∃ (W2 : World) (C2 : Nat), (convert 9 89 (.string d)).run Tryd.prog w = .ok (.slice (some ⟨w.heap.size, 0, none⟩) d.size C2) W2 ∧ d.size ≤ C2 ∧
    (∀ (j : Nat) (x : UInt8), d.data.toList[j]? = some x → W2.cell? ⟨w.heap.size, j, none⟩ = some (.int .u8 x.toNat)) ∧ Below w.heap.size w W2 ∧ W2.heap.size = w.heap.size + 1 := by
  have h := Lib.run_convert_string_bytes (P := Tryd.prog) w 9 89 5 d Tryd.underlying9 Tryd.underlying89 Tryd.underlying5
  have hsz := Lib.bytesWorld_size w 5 d
  refine ⟨_, _, h, ?_, fun j x hj => ?_, ⟨rfl, rfl, rfl, by omega, fun k hk => Lib.bytesWorld_at_old w 5 d k hk⟩, hsz⟩
  · exact grownCap_ge w d.size 0 5
  · have hlt : j < d.size := by
      rcases Nat.lt_or_ge j d.size with h' | h'
      · exact h'
      · rw [List.getElem?_eq_none (by simpa using h')] at hj
        cases hj
    rw [Lib.bytesWorld_cell w 5 d j hlt, List.getD, hj]
    rfl

theorem info9 : (Tryd.prog.info? 9).map (fun i => (i.zero, i.size, i.bytes)) = some (some (.string ByteArray.empty), 1, 16) := by kernel_rfl

theorem impl_bad (s : ByteArray) (z : Int) (w : World) (h : z < 1 ∨ 4000 < z) : Calls Tryd.prog 72 #[.string s, .int .i64 z] w fun e w' => e = .returned (.slice none 0 0) ∧ w = w' := by
  rcases h with h | h
  · go_enter Tryd.func72, Tryd.ntmps72
    go_wp2
    all_goals go_ret
    all_goals exact ⟨rfl, rfl⟩
  · have h1 : decide (z < 1) = false := by simp; omega
    go_enter Tryd.func72, Tryd.ntmps72
    go_wp2
    all_goals go_ret
    all_goals exact ⟨rfl, rfl⟩
theorem spec_bad (s : ByteArray) (z : Int) (w : World) (h : z < 1 ∨ 4000 < z) : Calls Tryd.prog 52 #[.string s, .int .i64 z] w fun e w' => (∃ a c, e = .returned (.slice a 0 c)) ∧ Below w.heap.size w w' := by
  rcases h with h | h
  · go_enter Tryd.func52, Tryd.ntmps52
    go_wp2_with (go_at_call 29; go_in)
    all_goals go_ret
    all_goals exact ⟨⟨_, _, rfl⟩, (Below.refl _ _).alloc (Nat.le_refl _) _⟩
  · have h1 : decide (z ≤ 4000) = false := by simp; omega
    go_enter Tryd.func52, Tryd.ntmps52
    go_wp2_with (go_at_call 29; go_in)
    all_goals go_ret
    all_goals exact ⟨⟨_, _, rfl⟩, (Below.refl _ _).alloc (Nat.le_refl _) _⟩

theorem owns_below {w w' : World} {base n : Nat} {v : Value} {xs : List Value} (h : w.ownsRow base 9 1 v n xs) (hb : Below w.heap.size w w') : w'.ownsRow base 9 1 v n xs :=
  h.kept (row := none) ⟨hb.os, hb.tape, hb.output, hb.size, fun i hi _ => hb.block i hi⟩ (by
    cases hv : v.ownBlock with
    | none => exact .inl rfl
    | some g => right; simp)
theorem slice_mid (g n c a e : Nat) (W : World) (h1 : a < e) (h2 : e ≤ c) : (Instr.slice 89 (.slice (some ⟨g, 0, none⟩) n c) (some (.int .i64 (a : Int))) (some (.int .i64 (e : Int))) (some (.int .i64 (e : Int)))).run Tryd.prog W = .ok (.slice (some ⟨g, a, none⟩) (e - a) (e - a)) W := by
  rw [run_slice_lhm (P := Tryd.prog) W 89 (some ⟨g, 0, none⟩) n c Tryd.underlying89 .i64 .i64 .i64 (a : Int) (e : Int) (e : Int) (by omega) (by omega) (by omega) (by omega)]
  simp [sliced, go_sem]
  omega

theorem impl_cut (s : ByteArray) (z : Nat) (w : World) (hs : s.size ≤ 1048576) (hz : 1 ≤ z) (hz2 : z ≤ 4000) :
    Calls Tryd.prog 72 #[.string s, .int .i64 z] w fun e w' => (∃ v, e = .returned v ∧ Rowed w' w.heap.size v (pcs s z (count s z))) ∧ Below w.heap.size w w' := by
  obtain ⟨i0, hi, hz0, hz1, hz2'⟩ := info_parts info9
  obtain ⟨W2, C2, hcv, hC2, hcells, hb2, hsz2⟩ := conv w s
  have HC : Hid (∀ (j : Nat) (x : UInt8), s.data.toList[j]? = some x → W2.cell? ⟨w.heap.size, j, none⟩ = some (.int .u8 x.toNat)) := hcells
  have hcl := count_le (s := s) hz
  clear hcells
  go_enter Tryd.func72, Tryd.ntmps72
  go_wp2
  go_loopw [5, 7, 8] (fun v x _ wr => ∃ k : Nat, k ≤ count s z ∧ x = .int .i64 (k * z : Nat) ∧ wr.ownsRow (w.heap.size + 1) 9 1 v k ((pcs s z k).map Value.string) ∧ Below (w.heap.size + 1) W2 wr) (fun _ x _ _ => s.size - (intOf x).toNat)
  case atStart => exact ⟨0, Nat.zero_le _, by simp, World.ownsRow_nil _ _ _ _, Below.refl _ _⟩
  case round =>
    obtain ⟨k, hk, rfl, hown, hbel⟩ := hrel
    have hlt := count_lt (s := s) hz k
    obtain ⟨a, ha⟩ : ∃ a, k * z = a := ⟨_, rfl⟩
    have hnext : (k + 1) * z = a + z := by rw [Nat.add_mul, Nat.one_mul, ha]
    rw [ha] at hlt ⊢
    by_cases hkn : k < count s z
    · have has : a < s.size := hlt.1 hkn
      obtain ⟨en, hen⟩ : ∃ en, min (a + z) s.size = en := ⟨_, rfl⟩
      have hen1 : a < en ∧ en ≤ s.size ∧ en - a ≤ z := by omega
      have hmin : (min ((a : Int) + (z : Int)) (s.size : Int)) = (en : Int) := by omega
      obtain ⟨hen2, hen3, hen4⟩ := hen1
      have hsl := fun W => slice_mid w.heap.size s.size C2 a en W hen2 (by omega)
      have hpc : Hid (piece s z k = s.extract a en) := by unfold Hid piece; rw [ha, hen]
      have hnt := bw.newText w.heap.size a (en - a) (en - a) ((s.extract a en).data.toList) wr (by rw [Lib.extract_data]; simp; omega) (by omega) (by have := hbel.size; omega)
        (fun j x hj => by
          rw [hbel.cell (p := ⟨w.heap.size, a + j, none⟩) (by simp)]
          refine HC.out (a + j) x ?_
          rw [Lib.extract_data] at hj
          have hjl : j < en - a := by
            rcases Nat.lt_or_ge j (en - a) with h' | h'
            · exact h'
            · rw [List.getElem?_eq_none (by simp; omega)] at hj
              cases hj
          rw [List.getElem?_take_of_lt hjl, List.getElem?_drop] at hj
          exact hj)
      have hback : (⟨(s.extract a en).data.toList.toArray⟩ : ByteArray) = s.extract a en := rfl
      rw [hback] at hnt
      clear hen hback
      have hBs := hbel.size
      go_wp2_with (first | (go_at_call 80; refine hnt.mono ?_; rintro e w1 ⟨rfl, hb1⟩; have hown1 := owns_below hown hb1) | (at_builtin; refine wpList_append_own _ rfl _ _ 22 rfl (w.heap.size + 1) 9 i0 (.string ByteArray.empty) 1 16 Tryd.underlying22 hi hz0 hz1 hz2' rfl (by decide) _ _ _ rfl (hown1.alloc _) ⟨w1.heap.size, 0, none⟩ 1 1 [.string (s.extract a en)] rfl rfl ?c1 ?c2 ?c3 ?c4 ?c5 ?_))
      case c1 => exact cell_one_new _ _ _
      case c2 => intro u hu; simp at hu; subst hu; rfl
      case c3 => unfold maxLen; omega
      case c4 => omega
      case c5 => have := hb1.size; simp; omega
      intro v' w2 hown' hgrow _
      have hb1s := hb1.size
      have hbel1 : Below (w.heap.size + 1) W2 w1 := hbel.trans (hb1.mono (by omega))
      have hbel2 : Below (w.heap.size + 1) W2 w2 := (hbel1.alloc (by omega) _).grown hgrow (by simp; omega) (fun k hk => ((hown1.alloc (.cells #[.string (s.extract a en)] 9)).lt k hk).1)
      have hown2 : w2.ownsRow (w.heap.size + 1) 9 1 v' (k + 1) ((pcs s z (k + 1)).map Value.string) := by
        rw [pcs_succ, hpc.out]
        simpa using hown'
      clear hown hown1 hown' hgrow hbel hbel1 hnt hsl hpc hmin
      go_wp2
      go_roundw
      case rel => exact ⟨k + 1, by omega, by rw [hnext]; go_num, hown2, hbel2⟩
      case measure => simp [intOf]; omega
    · obtain rfl : k = count s z := by omega
      have hge : ¬ a < s.size := fun h => hkn (hlt.2 h)
      have hbw : Below w.heap.size w wr := hb2.trans (hbel.mono (by omega))
      have hrow : Rowed wr w.heap.size u5 (pcs s z (count s z)) := by
        have h1 := rowed_of_owns (l := pcs s z (count s z)) (by rw [pcs_length]; exact hown)
        rcases h1 with h1 | ⟨g, cap, hv, hg, hh⟩
        · exact .inl h1
        · exact .inr ⟨g, cap, hv, by omega, hh⟩
      clear hown
      go_wp2
      go_ret
      exact ⟨⟨_, rfl, hrow⟩, hbw⟩

theorem ext_all (s : ByteArray) : s.extract 0 s.size = s := by
  apply ByteArray.ext
  apply Array.toList_inj.1
  rw [Lib.extract_to_end, List.drop_zero]
theorem ext_from (s : ByteArray) (a z : Nat) : (s.extract a s.size).extract z (s.extract a s.size).size = s.extract (a + z) s.size := by
  apply ByteArray.ext
  apply Array.toList_inj.1
  rw [Lib.extract_to_end, Lib.extract_to_end, Lib.extract_to_end, List.drop_drop]
theorem ext_to (s : ByteArray) (a z : Nat) (h : a + z ≤ s.size) : (s.extract a s.size).extract 0 z = s.extract a (a + z) := by
  apply ByteArray.ext
  apply Array.toList_inj.1
  rw [Lib.extract_data, Lib.extract_data, Lib.extract_data, List.drop_zero, List.take_take]
  congr 1
  omega
theorem not_empty {s : ByteArray} (h : 1 ≤ s.size) : s.toList.isEmpty = false ∧ (s.toList = []) = False := by
  have hl : s.toList.length = s.size := by rw [Lib.toList_data]; simp
  have hne : s.toList ≠ [] := fun e => by rw [e] at hl; simp at hl; omega
  exact ⟨by cases he : s.toList with | nil => exact absurd he hne | cons a b => rfl, by simpa using hne⟩
theorem empty_of {s : ByteArray} (h : s.size = 0) : s = ⟨#[]⟩ := by
  apply ByteArray.ext
  apply Array.toList_inj.1
  have h0 : s.data.toList.length = 0 := by simpa using h
  rw [List.length_eq_zero_iff.1 h0]

theorem in_true (x a b : Int) (w : World) (h1 : a ≤ x) (h2 : x ≤ b) : Calls Tryd.prog 29 #[.int .i64 x, .int .i64 a, .int .i64 b] w fun e w' => e = .returned (.bool true) ∧ w = w' := by
  have hd : decide (x ≤ b) = true := by simpa using h2
  go_enter Tryd.func29, Tryd.ntmps29
  go_wp2
  go_ret
  exact ⟨by simp, rfl⟩
def strLen : Value → Nat
  | .string b => b.size
  | _ => 0

theorem spec_cut (s : ByteArray) (z : Nat) (w : World) (hs : s.size ≤ 1048576) (hz : 1 ≤ z) (hz2 : z ≤ 4000) :
    Calls Tryd.prog 52 #[.string s, .int .i64 z] w fun e w' => (∃ v, e = .returned v ∧ Rowed w' w.heap.size v (pcs s z (count s z))) ∧ Below w.heap.size w w' := by
  obtain ⟨i0, hi, hz0, hz1, hz2'⟩ := info_parts info9
  have hcl := count_le (s := s) hz
  go_enter Tryd.func52, Tryd.ntmps52
  go_wp2_with (go_at_call 29; refine (in_true (z : Int) 1 4000 _ (by omega) (by omega)).mono ?_; rintro e w' ⟨rfl, rfl⟩)
  go_loopw [0, 5] (fun y v wr => ∃ k : Nat, k ≤ count s z ∧ Hid (k * z ≤ s.size) ∧ y = .string (s.extract (k * z) s.size) ∧ wr.ownsRow w.heap.size 9 1 v k ((pcs s z k).map Value.string) ∧ Below w.heap.size w wr) (fun y _ _ => strLen y)
  case atStart => exact ⟨0, Nat.zero_le _, by unfold Hid; omega, by rw [Nat.zero_mul, ext_all], World.ownsRow_made w _ 0 (Nat.le_refl _) (Nat.zero_le _) rfl, (Below.refl _ _).alloc (Nat.le_refl _) _⟩
  case round =>
    obtain ⟨k, hk, hkz, rfl, hown, hbel⟩ := hrel
    have hkz' := hkz.out
    have hlt := count_lt (s := s) hz k
    have hlt2 := count_lt (s := s) hz (k + 1)
    have hpc : piece s z k = s.extract (k * z) (min (k * z + z) s.size) := rfl
    obtain ⟨a, ha⟩ : ∃ a, k * z = a := ⟨_, rfl⟩
    have hnext : (k + 1) * z = a + z := by rw [Nat.add_mul, Nat.one_mul, ha]
    rw [hnext] at hlt2
    rw [ha] at hlt hkz' hpc ⊢
    clear hkz
    obtain ⟨b, hb⟩ : ∃ b, s.extract a s.size = b := ⟨_, rfl⟩
    have HBS : Hid (b.size = s.size - a) := by unfold Hid; rw [← hb, ByteArray.size_extract]; omega
    have hb20 : b.size ≤ 1048576 := by have := HBS.out; omega
    have hfrom := ext_from s a z
    have HB : Hid (s.extract a s.size = b) := hb
    rw [hb] at hfrom ⊢
    have hBs := hbel.size
    have HL : Hid ((k < count s z ↔ a < s.size) ∧ (k + 1 < count s z ↔ a + z < s.size)) := ⟨hlt, hlt2⟩
    clear hlt hlt2 hb
    by_cases hgo : z < b.size
    · have hkn : k < count s z := HL.out.1.2 (by have := HBS.out; omega)
      have hto : b.extract 0 z = s.extract a (a + z) := by rw [← HB.out]; exact ext_to s a z (by have := HBS.out; omega)
      have hpc2 : Hid (piece s z k = b.extract 0 z) := by unfold Hid; rw [hpc, hto, show min (a + z) s.size = a + z by have := HBS.out; omega]
      have HF : Hid (b.extract z b.size = s.extract (a + z) s.size) := hfrom
      clear hto hpc hfrom
      go_wp2_with (at_builtin; refine wpList_append_own _ rfl _ _ 22 rfl w.heap.size 9 i0 (.string ByteArray.empty) 1 16 Tryd.underlying22 hi hz0 hz1 hz2' rfl (by decide) _ _ _ rfl (hown.alloc _) ⟨wr.heap.size, 0, none⟩ 1 1 [.string (b.extract 0 z)] rfl rfl ?c1 ?c2 ?c3 ?c4 ?c5 ?_)
      case c1 => exact cell_one_new _ _ _
      case c2 => intro u hu; simp at hu; subst hu; rfl
      case c3 => unfold maxLen; omega
      case c4 => omega
      case c5 => simp; omega
      intro v' w1 hown' hgrow _
      have hbel' : Below w.heap.size w w1 := (hbel.alloc hBs _).grown hgrow (by simp; omega) (fun k hk => ((hown.alloc (.cells #[.string (b.extract 0 z)] 9)).lt k hk).1)
      have hown2 : w1.ownsRow w.heap.size 9 1 v' (k + 1) ((pcs s z (k + 1)).map Value.string) := by
        rw [pcs_succ, hpc2.out]
        simpa using hown'
      clear hown hown' hgrow hbel
      go_wp2
      go_roundw
      case rel => exact ⟨k + 1, by omega, by unfold Hid; rw [hnext]; have := HBS.out; omega, by rw [hnext, ← HF.out], hown2, hbel'⟩
      case measure => simp [strLen, ByteArray.size_extract]; omega
    · by_cases hb0 : b.size = 0
      · obtain rfl : k = count s z := by
          have := HL.out.1
          have := HBS.out
          omega
        have hrow : Rowed wr w.heap.size u5 (pcs s z (count s z)) := rowed_of_owns (l := pcs s z (count s z)) (by rw [pcs_length]; exact hown)
        obtain rfl := empty_of hb0
        clear hown hfrom
        go_wp2
        go_ret
        exact ⟨⟨_, rfl, hrow⟩, hbel⟩
      · have hkc0 : k + 1 = count s z := by
          have h1 := HL.out
          have := HBS.out
          omega
        have hkc : Hid (k + 1 = count s z) := hkc0
        clear hkc0
        obtain ⟨hl1, hl2⟩ := not_empty (s := b) (by omega)
        have hpc2 : Hid (piece s z k = b) := by unfold Hid; rw [hpc, ← HB.out, show min (a + z) s.size = s.size by have := HBS.out; omega]
        clear hfrom hpc
        go_wp2_with (at_builtin; refine wpList_append_own _ rfl _ _ 22 rfl w.heap.size 9 i0 (.string ByteArray.empty) 1 16 Tryd.underlying22 hi hz0 hz1 hz2' rfl (by decide) _ _ _ rfl (hown.alloc _) ⟨wr.heap.size, 0, none⟩ 1 1 [.string b] rfl rfl ?d1 ?d2 ?d3 ?d4 ?d5 ?_)
        case d1 => exact cell_one_new _ _ _
        case d2 => intro u hu; simp at hu; subst hu; rfl
        case d3 => unfold maxLen; omega
        case d4 => omega
        case d5 => simp; omega
        intro v' w1 hown' hgrow _
        have hbel' : Below w.heap.size w w1 := (hbel.alloc hBs _).grown hgrow (by simp; omega) (fun k hk => ((hown.alloc (.cells #[.string b] 9)).lt k hk).1)
        have hown2 : w1.ownsRow w.heap.size 9 1 v' (pcs s z (count s z)).length ((pcs s z (count s z)).map Value.string) := by
          rw [← hkc.out, pcs_length, pcs_succ, hpc2.out]
          simpa using hown'
        have hrow := rowed_of_owns hown2
        clear hown hown' hgrow hbel hown2
        go_wp2
        go_ret
        exact ⟨⟨_, rfl, hrow⟩, hbel'⟩

def cuts (s : ByteArray) (z : Int) : List ByteArray := if 1 ≤ z ∧ z ≤ 4000 then pcs s z.toNat (count s z.toNat) else []
theorem cuts_length (s : ByteArray) (z : Int) : (cuts s z).length ≤ s.size := by
  unfold cuts
  by_cases h : 1 ≤ z ∧ z ≤ 4000
  · rw [if_pos h, pcs_length]
    exact count_le (by omega)
  · rw [if_neg h]
    exact Nat.zero_le _
theorem impl_all (s : ByteArray) (z : Int) (w : World) (hs : s.size ≤ 1048576) :
    Calls Tryd.prog 72 #[.string s, .int .i64 z] w fun e w' => (∃ v, e = .returned v ∧ Rowed w' w.heap.size v (cuts s z)) ∧ Below w.heap.size w w' := by
  by_cases h : 1 ≤ z ∧ z ≤ 4000
  · obtain ⟨n, rfl⟩ := Int.eq_ofNat_of_zero_le (show 0 ≤ z by omega)
    unfold cuts
    rw [if_pos h]
    exact impl_cut s n w hs (by omega) (by omega)
  · unfold cuts
    rw [if_neg h]
    refine (impl_bad s z w (by omega)).mono ?_
    rintro e w' ⟨rfl, rfl⟩
    exact ⟨⟨_, rfl, .inl ⟨rfl, _, _, rfl⟩⟩, Below.refl _ _⟩
theorem spec_all (s : ByteArray) (z : Int) (w : World) (hs : s.size ≤ 1048576) :
    Calls Tryd.prog 52 #[.string s, .int .i64 z] w fun e w' => (∃ v, e = .returned v ∧ Rowed w' w.heap.size v (cuts s z)) ∧ Below w.heap.size w w' := by
  by_cases h : 1 ≤ z ∧ z ≤ 4000
  · obtain ⟨n, rfl⟩ := Int.eq_ofNat_of_zero_le (show 0 ≤ z by omega)
    unfold cuts
    rw [if_pos h]
    exact spec_cut s n w hs (by omega) (by omega)
  · unfold cuts
    rw [if_neg h]
    refine (spec_bad s z w (by omega)).mono ?_
    rintro e w' ⟨⟨a, c, rfl⟩, hb⟩
    exact ⟨⟨_, rfl, .inl ⟨rfl, _, _, rfl⟩⟩, hb⟩

theorem eq_zero (a a' : Option Addr) (c c' : Nat) (w : World) : Calls Tryd.prog 34 #[.slice a 0 c, .slice a' 0 c'] w fun e w' => e = .returned (.bool true) ∧ w = w' := by
  go_enter Tryd.func34, Tryd.ntmps34
  go_wp2
  go_loop [5] (fun x => x = .int .i64 0) (fun _ => 0)
  case atStart => rfl
  case round =>
    subst hrel
    go_wp2
    go_ret
    exact ⟨rfl, rfl⟩
theorem mark_zero (a : Option Addr) (c : Nat) (k : Int) (w : World) : Calls Tryd.prog 43 #[.slice a 0 c, .int .i64 k] w fun e w' => e = .returned (.int .i64 k) ∧ w = w' := by
  go_enter Tryd.func43, Tryd.ntmps43
  go_wp2
  go_loop [1, 5] (fun y x => x = .int .i64 0 ∧ y = .int .i64 k) (fun _ _ => 0)
  case atStart => exact ⟨rfl, rfl⟩
  case round =>
    obtain ⟨rfl, rfl⟩ := hrel
    go_wp2
    go_ret
    exact ⟨rfl, rfl⟩
theorem held_zero (a : Option Addr) (c : Nat) (k : Int) (w : World) : Calls Tryd.prog 45 #[.slice a 0 c, .int .i64 k] w fun e w' => e = .returned (.int .i64 k) ∧ w = w' := by
  go_enter Tryd.func45, Tryd.ntmps45
  go_wp2
  go_loop [1, 5] (fun y x => x = .int .i64 0 ∧ y = .int .i64 k) (fun _ _ => 0)
  case atStart => exact ⟨rfl, rfl⟩
  case round =>
    obtain ⟨rfl, rfl⟩ := hrel
    go_wp2
    go_ret
    exact ⟨rfl, rfl⟩
theorem rowed_nil {w : World} {B : Nat} {v : Value} (h : Rowed w B v []) : ∃ a c, v = .slice a 0 c := by
  rcases h with ⟨_, h⟩ | ⟨g, cap, hv, _⟩
  · exact h
  · exact ⟨_, _, hv⟩
theorem rowed_cons {w : World} {B : Nat} {v : Value} {l : List ByteArray} (hl : l ≠ []) (h : Rowed w B v l) : ∃ g cap, v = .slice (some ⟨g, 0, none⟩) l.length cap ∧ B ≤ g ∧ Has w g cap l := by
  rcases h with ⟨h, _⟩ | h
  · exact absurd h hl
  · exact h
end Go.Proofs.YtnmooolnmhidbaaDoor.ct
