/- The laws' marks in a method's two lists: laid, and held; nothing but the two rows is turned. -/
import Derived.Test.YtiphjegaodaooaaMeths0
namespace Go.Proofs.Ytiphjegaodaooaa.mr
set_option linter.unusedVariables false
open Go.ChangeShapes Go.WideShapes Go.ChangeAt Go.RowKit Go.Proofs.Ytiphjegaodaooaa.ls Go.Proofs.Ytiphjegaodaooaa.me

section
variable {w w1 w2 : World} {r : Option Nat} {g : Nat}
theorem gb_refl (w : World) (r : Option Nat) : w.grownBy w r := ⟨rfl, rfl, rfl, Nat.le_refl _, fun _ _ _ => rfl⟩
theorem gb_below (h : w.grownBy w1 r) (hb : Below w1.heap.size w1 w2) : w.grownBy w2 r := h.trans ⟨hb.os, hb.tape, hb.output, hb.size, fun k hk _ => hb.block k hk⟩
theorem gb_set (h : w.grownBy w1 (some g)) (o : Nat) (v : Value) : w.grownBy (w1.setCell ⟨g, o, none⟩ v) (some g) := by
  have hb : Below 0 w1 (w1.setCell ⟨g, o, none⟩ v) := (Below.refl 0 w1).setCell (Nat.zero_le _) v
  exact h.trans ⟨hb.os, hb.tape, hb.output, hb.size, fun k hk hne => RowKit.Below.heap_setCell _ _ _ _ (by intro e; exact hne (by rw [e]))⟩
end

/-- a list of texts, nil or in a row of its own -/
def RowT (w : World) (v : Value) (l : List ByteArray) : Prop := (v = .slice none 0 0 ∧ l = []) ∨ ∃ g c, v = .slice (some ⟨g, 0, none⟩) l.length c ∧ sm.Has w g c l
/-- .. of numbers -/
def RowI (w : World) (v : Value) (l : List Int) : Prop := (v = .slice none 0 0 ∧ l = []) ∨ ∃ g c, v = .slice (some ⟨g, 0, none⟩) l.length c ∧ HasI w g c l

def marksT (k n : Nat) : List ByteArray := (List.range n).map fun i => sm.mt (k + i)
def marksI (k n : Nat) : List Int := (List.range n).map fun i => ((k + i : Nat) : Int)

section
variable {w w' : World} {v : Value} {B : Nat}
theorem RowT.of_owns {l : List ByteArray} (h : w.ownsRow B 9 1 v l.length (l.map Value.string)) : RowT w v l := by
  obtain ⟨hl, ⟨rfl, h0⟩ | ⟨g, cap, cur, rfl, _, h1, h2, _, h3, h4⟩⟩ := h
  · exact .inl ⟨rfl, List.length_eq_zero_iff.1 h0⟩
  · exact .inr ⟨g, cap, rfl, cur, h1, h2, by omega, by simpa using h4⟩
theorem RowI.of_owns {l : List Int} (h : w.ownsRow B 3 1 v l.length (l.map (Value.int .i64))) : RowI w v l := by
  obtain ⟨hl, ⟨rfl, h0⟩ | ⟨g, cap, cur, rfl, _, h1, h2, _, h3, h4⟩⟩ := h
  · exact .inl ⟨rfl, List.length_eq_zero_iff.1 h0⟩
  · exact .inr ⟨g, cap, rfl, cur, h1, h2, by omega, by simpa using h4⟩
theorem RowT.kept {l : List ByteArray} (h : RowT w v l) (hk : ∀ g, v.ownBlock = some g → g < w.heap.size → w'.heap[g]? = w.heap[g]?) : RowT w' v l := by
  obtain h | ⟨g, c, rfl, hh⟩ := h
  · exact .inl h
  · obtain ⟨cur, h1, h2⟩ := id hh
    exact .inr ⟨g, c, rfl, cur, by rw [hk g rfl hh.lt]; exact h1, h2⟩
theorem RowI.kept {l : List Int} (h : RowI w v l) (hk : ∀ g, v.ownBlock = some g → g < w.heap.size → w'.heap[g]? = w.heap[g]?) : RowI w' v l := by
  obtain h | ⟨g, c, rfl, hh⟩ := h
  · exact .inl h
  · obtain ⟨cur, h1, h2⟩ := id hh
    exact .inr ⟨g, c, rfl, cur, by rw [hk g rfl hh.lt]; exact h1, h2⟩
theorem RowT.below {l : List ByteArray} (h : RowT w v l) (hb : Below w.heap.size w w') : RowT w' v l := h.kept fun g _ hg => hb.block g hg
theorem RowI.below {l : List Int} (h : RowI w v l) (hb : Below w.heap.size w w') : RowI w' v l := h.kept fun g _ hg => hb.block g hg
theorem RowT.sl {l : List ByteArray} {a : Option Addr} {n c : Nat} (h : RowT w (.slice a n c) l) : Sl Value.string w w.heap.size a l := by
  obtain ⟨_, h⟩ | ⟨g, c, he, hh⟩ := h
  · exact .inl h
  · simp at he
    obtain ⟨rfl, _⟩ := he
    refine .inr ⟨g, 0, rfl, hh.lt, fun i x hx => ?_⟩
    have hi := (List.getElem?_eq_some_iff.1 hx).1
    have := hh.cell i hi
    rw [Nat.zero_add, this, List.getD, hx]
    rfl
theorem RowI.sl {l : List Int} {a : Option Addr} {n c : Nat} (h : RowI w (.slice a n c) l) : Sl (Value.int .i64) w w.heap.size a l := by
  obtain ⟨_, h⟩ | ⟨g, c, he, hh⟩ := h
  · exact .inl h
  · simp at he
    obtain ⟨rfl, _⟩ := he
    exact Sl.of_hasI hh hh.lt
end

theorem mark_strs (l : List ByteArray) (g c k0 : Nat) (w : World) (hl : l.length ≤ 2000000) (hk0 : 1 ≤ k0 ∧ k0 ≤ 1000000000000) (ha : sm.Has w g c l) :
    Calls Try.prog 31 #[.slice (some ⟨g, 0, none⟩) l.length c, .int .i64 k0] w fun e w' => e = .returned (.int .i64 (k0 + l.length : Nat)) ∧ w.grownBy w' (some g) ∧ sm.Has w' g c (marksT k0 l.length) := by
  have HA : Hid (sm.Has w g c l) := ha
  clear ha
  go_enter Try.func31, Try.ntmps31
  go_wp2
  go_loopw [1, 5] (fun y x wr => ∃ k : Nat, k ≤ l.length ∧ x = .int .i64 k ∧ y = .int .i64 (k0 + k : Nat) ∧ w.grownBy wr (some g) ∧ Hid (sm.Has wr g c (((List.range k).map fun i => sm.mt (k0 + i)) ++ l.drop k))) (fun _ x _ => l.length - (intOf x).toNat)
  case atStart => exact ⟨0, Nat.zero_le _, rfl, rfl, gb_refl _ _, by unfold Hid; simpa using HA.out⟩
  case round =>
    obtain ⟨k, hk, rfl, rfl, hbel, hhas⟩ := hrel
    by_cases hkl : k < l.length
    · have hlt := hhas.out.lt
      go_wp2_with (go_at_call 41; refine (sm.mark_text (k0 + k) wr (by omega) (by omega)).mono ?_; rintro e w1 ⟨rfl, hb1⟩; have hh1 := hhas.out.below hb1 hlt; have hf1 := hh1.frozen k; have hc1 := hh1.cell k (by simp; omega))
      go_roundw
      case rel => exact ⟨k + 1, by omega, by go_num, by go_num, gb_set (gb_below hbel hb1) _ _, by unfold Hid; rw [← sm.mark_next k0 l hkl]; exact hh1.set k _⟩
      case measure => simp [intOf]; omega
    · obtain rfl : k = l.length := by omega
      go_wp2
      go_ret
      exact ⟨rfl, hbel, by unfold marksT; simpa using hhas.out⟩

theorem mark_nextI (k0 : Nat) {k : Nat} (l : List Int) (h : k < l.length) :
    (((List.range k).map fun i => ((k0 + i : Nat) : Int)) ++ l.drop k).set k ((k0 + k : Nat) : Int) = ((List.range (k + 1)).map fun i => ((k0 + i : Nat) : Int)) ++ l.drop (k + 1) := by
  rw [List.drop_eq_getElem_cons h, List.range_succ, List.map_append, List.set_append_right _ _ (by simp)]
  simp only [List.length_map, List.length_range, Nat.sub_self, List.set_cons_zero, List.map_cons, List.map_nil, List.append_assoc, List.cons_append, List.nil_append]

theorem mark_ints (l : List Int) (g c k0 : Nat) (w : World) (hl : l.length ≤ 2000000) (hk0 : 1 ≤ k0 ∧ k0 ≤ 1000000000000) (ha : HasI w g c l) :
    Calls Try.prog 32 #[.slice (some ⟨g, 0, none⟩) l.length c, .int .i64 k0] w fun e w' => e = .returned (.int .i64 (k0 + l.length : Nat)) ∧ w.grownBy w' (some g) ∧ HasI w' g c (marksI k0 l.length) := by
  have HA : Hid (HasI w g c l) := ha
  clear ha
  go_enter Try.func32, Try.ntmps32
  go_wp2
  go_loopw [1, 5] (fun y x wr => ∃ k : Nat, k ≤ l.length ∧ x = .int .i64 k ∧ y = .int .i64 (k0 + k : Nat) ∧ w.grownBy wr (some g) ∧ Hid (HasI wr g c (((List.range k).map fun i => ((k0 + i : Nat) : Int)) ++ l.drop k))) (fun _ x _ => l.length - (intOf x).toNat)
  case atStart => exact ⟨0, Nat.zero_le _, rfl, rfl, gb_refl _ _, by unfold Hid; simpa using HA.out⟩
  case round =>
    obtain ⟨k, hk, rfl, rfl, hbel, hhas⟩ := hrel
    by_cases hkl : k < l.length
    · have hf1 := hhas.out.frozen k
      have hc1 := hhas.out.cell k (by simp; omega)
      go_wp2
      go_roundw
      case rel => exact ⟨k + 1, by omega, by go_num, by go_num, gb_set hbel _ _, by unfold Hid; rw [← mark_nextI k0 l hkl]; exact hhas.out.set k _⟩
      case measure => simp [intOf]; omega
    · obtain rfl : k = l.length := by omega
      go_wp2
      go_ret
      exact ⟨rfl, hbel, by unfold marksI; simpa using hhas.out⟩

theorem held_ints (n : Nat) (g c k0 : Nat) (w : World) (hl : n ≤ 2000000) (hk0 : 1 ≤ k0 ∧ k0 ≤ 1000000000000) (ha : HasI w g c (marksI k0 n)) :
    Calls Try.prog 34 #[.slice (some ⟨g, 0, none⟩) n c, .int .i64 k0] w fun e w' => e = .returned (.int .i64 (k0 + n : Nat)) ∧ Below w.heap.size w w' := by
  have HA : Hid (HasI w g c (marksI k0 n)) := ha
  clear ha
  go_enter Try.func34, Try.ntmps34
  go_wp2
  go_loopw [1, 5] (fun y x wr => ∃ k : Nat, k ≤ n ∧ x = .int .i64 k ∧ y = .int .i64 (k0 + k : Nat) ∧ wr = w) (fun _ x _ => n - (intOf x).toNat)
  case atStart => exact ⟨0, Nat.zero_le _, rfl, rfl, rfl⟩
  case round =>
    obtain ⟨k, hk, rfl, rfl, rfl⟩ := hrel
    by_cases hkl : k < n
    · have ca := HA.out.cell k (by unfold marksI; simpa using hkl)
      have hx : (marksI k0 n).getD k 0 = ((k0 + k : Nat) : Int) := by unfold marksI; simp [List.getD, hkl]
      rw [hx] at ca
      clear hx
      go_wp2
      go_roundw
      case rel => exact ⟨k + 1, by omega, by go_num, by go_num, by trivial⟩
      case measure => simp [intOf]; omega
    · obtain rfl : k = n := by omega
      go_wp2
      go_ret
      exact ⟨rfl, Below.refl _ _⟩

/-! the same for nil -/
theorem nil_markT (k0 : Nat) (w : World) : Calls Try.prog 31 #[.slice none 0 0, .int .i64 k0] w fun e w' => e = .returned (.int .i64 k0) ∧ w' = w := by
  go_enter Try.func31, Try.ntmps31
  go_wp2
  go_loopw [1, 5] (fun y x wr => x = .int .i64 0 ∧ y = .int .i64 k0 ∧ wr = w) (fun _ x _ => 0)
  case atStart => exact ⟨rfl, rfl, rfl⟩
  case round =>
    obtain ⟨rfl, rfl, rfl⟩ := hrel
    go_wp2
    go_ret
    exact ⟨rfl, rfl⟩
theorem nil_markI (k0 : Nat) (w : World) : Calls Try.prog 32 #[.slice none 0 0, .int .i64 k0] w fun e w' => e = .returned (.int .i64 k0) ∧ w' = w := by
  go_enter Try.func32, Try.ntmps32
  go_wp2
  go_loopw [1, 5] (fun y x wr => x = .int .i64 0 ∧ y = .int .i64 k0 ∧ wr = w) (fun _ x _ => 0)
  case atStart => exact ⟨rfl, rfl, rfl⟩
  case round =>
    obtain ⟨rfl, rfl, rfl⟩ := hrel
    go_wp2
    go_ret
    exact ⟨rfl, rfl⟩
theorem nil_heldT (k0 : Nat) (w : World) : Calls Try.prog 33 #[.slice none 0 0, .int .i64 k0] w fun e w' => e = .returned (.int .i64 k0) ∧ w' = w := by
  go_enter Try.func33, Try.ntmps33
  go_wp2
  go_loopw [1, 5] (fun y x wr => x = .int .i64 0 ∧ y = .int .i64 k0 ∧ wr = w) (fun _ x _ => 0)
  case atStart => exact ⟨rfl, rfl, rfl⟩
  case round =>
    obtain ⟨rfl, rfl, rfl⟩ := hrel
    go_wp2
    go_ret
    exact ⟨rfl, rfl⟩
theorem nil_heldI (k0 : Nat) (w : World) : Calls Try.prog 34 #[.slice none 0 0, .int .i64 k0] w fun e w' => e = .returned (.int .i64 k0) ∧ w' = w := by
  go_enter Try.func34, Try.ntmps34
  go_wp2
  go_loopw [1, 5] (fun y x wr => x = .int .i64 0 ∧ y = .int .i64 k0 ∧ wr = w) (fun _ x _ => 0)
  case atStart => exact ⟨rfl, rfl, rfl⟩
  case round =>
    obtain ⟨rfl, rfl, rfl⟩ := hrel
    go_wp2
    go_ret
    exact ⟨rfl, rfl⟩

/-! rows -/
theorem row_markT (l : List ByteArray) (v : Value) (k0 : Nat) (w : World) (hl : l.length ≤ 2000000) (hk0 : 1 ≤ k0 ∧ k0 ≤ 1000000000000) (h : RowT w v l) :
    Calls Try.prog 31 #[v, .int .i64 k0] w fun e w' => e = .returned (.int .i64 (k0 + l.length : Nat)) ∧ w.grownBy w' v.ownBlock ∧ RowT w' v (marksT k0 l.length) := by
  obtain ⟨rfl, rfl⟩ | ⟨g, c, rfl, hh⟩ := h
  · refine (nil_markT k0 w).mono ?_
    rintro e _ ⟨rfl, rfl⟩
    exact ⟨rfl, gb_refl _ _, .inl ⟨rfl, rfl⟩⟩
  · refine (mark_strs l g c k0 w hl hk0 hh).mono ?_
    rintro e w' ⟨rfl, hg, hh'⟩
    exact ⟨rfl, hg, .inr ⟨g, c, by simp [marksT], hh'⟩⟩
theorem row_markI (l : List Int) (v : Value) (k0 : Nat) (w : World) (hl : l.length ≤ 2000000) (hk0 : 1 ≤ k0 ∧ k0 ≤ 1000000000000) (h : RowI w v l) :
    Calls Try.prog 32 #[v, .int .i64 k0] w fun e w' => e = .returned (.int .i64 (k0 + l.length : Nat)) ∧ w.grownBy w' v.ownBlock ∧ RowI w' v (marksI k0 l.length) := by
  obtain ⟨rfl, rfl⟩ | ⟨g, c, rfl, hh⟩ := h
  · refine (nil_markI k0 w).mono ?_
    rintro e _ ⟨rfl, rfl⟩
    exact ⟨rfl, gb_refl _ _, .inl ⟨rfl, rfl⟩⟩
  · refine (mark_ints l g c k0 w hl hk0 hh).mono ?_
    rintro e w' ⟨rfl, hg, hh'⟩
    exact ⟨rfl, hg, .inr ⟨g, c, by simp [marksI], hh'⟩⟩
theorem row_heldT (n : Nat) (v : Value) (k0 : Nat) (w : World) (hl : n ≤ 2000000) (hk0 : 1 ≤ k0 ∧ k0 ≤ 1000000000000) (h : RowT w v (marksT k0 n)) :
    Calls Try.prog 33 #[v, .int .i64 k0] w fun e w' => e = .returned (.int .i64 (k0 + n : Nat)) ∧ Below w.heap.size w w' := by
  obtain ⟨rfl, h0⟩ | ⟨g, c, rfl, hh⟩ := h
  · have : n = 0 := by simpa [marksT] using h0
    subst this
    refine (nil_heldT k0 w).mono ?_
    rintro e _ ⟨rfl, rfl⟩
    exact ⟨rfl, Below.refl _ _⟩
  · have := sm.held_strs n g c k0 w hl hk0 hh
    simpa [marksT] using this
theorem row_heldI (n : Nat) (v : Value) (k0 : Nat) (w : World) (hl : n ≤ 2000000) (hk0 : 1 ≤ k0 ∧ k0 ≤ 1000000000000) (h : RowI w v (marksI k0 n)) :
    Calls Try.prog 34 #[v, .int .i64 k0] w fun e w' => e = .returned (.int .i64 (k0 + n : Nat)) ∧ Below w.heap.size w w' := by
  obtain ⟨rfl, h0⟩ | ⟨g, c, rfl, hh⟩ := h
  · have : n = 0 := by simpa [marksI] using h0
    subst this
    refine (nil_heldI k0 w).mono ?_
    rintro e _ ⟨rfl, rfl⟩
    exact ⟨rfl, Below.refl _ _⟩
  · have := held_ints n g c k0 w hl hk0 hh
    simpa [marksI] using this

/-! a method's two lists -/
/-- nothing but the rows of tv and nv is turned -/
structure Tn (w w' : World) (tv nv : Value) : Prop where
  os : w'.os = w.os
  tape : w'.tape = w.tape
  output : w'.output = w.output
  size : w.heap.size ≤ w'.heap.size
  block : ∀ k, k < w.heap.size → tv.ownBlock ≠ some k → nv.ownBlock ≠ some k → w'.heap[k]? = w.heap[k]?
theorem Tn.below {w w' : World} {tv nv : Value} (h : Tn w w' tv nv) {B : Nat} (hB : B ≤ w.heap.size) (ht : ∀ g, tv.ownBlock = some g → B ≤ g) (hn : ∀ g, nv.ownBlock = some g → B ≤ g) : Below B w w' :=
  ⟨h.os, h.tape, h.output, h.size, fun k hk => h.block k (by omega) (fun e => by have := ht k e; omega) (fun e => by have := hn k e; omega)⟩

set_option maxRecDepth 100000 in
theorem mark_method (c i : Int) (ts : List ByteArray) (ns : List Int) (ta na : Option Addr) (tc nc : Nat) (w : World) (hl : ts.length ≤ 2000000) (hn : ns.length ≤ 2000000) (hT : RowT w (.slice ta ts.length tc) ts) (hI : RowI w (.slice na ns.length nc) ns)
    (hap : ∀ g, (Value.slice ta ts.length tc).ownBlock = some g → (Value.slice na ns.length nc).ownBlock ≠ some g) :
    Calls Try.prog 18 #[.agg #[.int .i64 c, .int .i64 i, .slice ta ts.length tc, .slice na ns.length nc], .int .i64 1] w fun e w' => e = .returned (.int .i64 (1 + ts.length + ns.length : Nat)) ∧
      RowT w' (.slice ta ts.length tc) (marksT 1 ts.length) ∧ RowI w' (.slice na ns.length nc) (marksI (1 + ts.length) ns.length) ∧ Tn w w' (.slice ta ts.length tc) (.slice na ns.length nc) := by
  have hb0 : Below w.heap.size w (w.alloc (.cells #[.int .i64 c, .int .i64 i, .slice ta ts.length tc, .slice na ns.length nc] 25)) := (Below.refl _ _).alloc (Nat.le_refl _) _
  have blk := heap_alloc_new w (.cells #[.int .i64 c, .int .i64 i, .slice ta ts.length tc, .slice na ns.length nc] 25)
  have hlt : ∀ g, (Value.slice ta ts.length tc).ownBlock = some g → g < w.heap.size := by
    intro g hg
    obtain ⟨h, _⟩ | ⟨g', c', h, hh⟩ := hT
    · rw [h] at hg; simp [Value.ownBlock] at hg
    · rw [h] at hg; simp [Value.ownBlock] at hg; subst hg; exact hh.lt
  have h1 := row_markT ts _ 1 _ hl (by omega) (hT.below hb0)
  have HI : Hid (RowI w (.slice na ns.length nc) ns) := hI
  have HB : Hid _ := blk
  clear hT hI blk
  go_enter Try.func18, Try.ntmps18
  go_wp2_with fail
  refine h1.mono ?_
  rintro e w1 ⟨rfl, hg1, hT1⟩
  have b1 := (hg1.block w.heap.size (by simp) (fun e => by have := hlt _ e.symm; omega)).trans HB.out
  have m3 : w1.cell? ⟨w.heap.size, 3, none⟩ = some (.slice na ns.length nc) := cell_of (o := 3) b1 rfl
  have hI1 : RowI w1 (.slice na ns.length nc) ns := (HI.out.below hb0).kept fun g hg hgl => hg1.block g hgl (fun e => hap g e.symm hg)
  have h2 := row_markI ns _ (1 + ts.length) w1 hn (by omega) hI1
  have HT1 : Hid (RowT w1 (.slice ta ts.length tc) (marksT 1 ts.length)) := hT1
  clear b1 hI1 h1 hT1
  go_wp2_with fail
  refine h2.mono ?_
  rintro e w2 ⟨rfl, hg2, hI2⟩
  have hT2 : RowT w2 (.slice ta ts.length tc) (marksT 1 ts.length) := HT1.out.kept fun g hg hgl => hg2.block g hgl (fun e => hap g hg e.symm)
  have HI2 : Hid (RowI w2 (.slice na ns.length nc) (marksI (1 + ts.length) ns.length)) := hI2
  have HT2 : Hid (RowT w2 (.slice ta ts.length tc) (marksT 1 ts.length)) := hT2
  have HTN : Hid (Tn w w2 (.slice ta ts.length tc) (.slice na ns.length nc)) := by
    have s1 := hg1.size
    have s2 := hg2.size
    simp at s1
    refine ⟨hg2.os.trans (hg1.os.trans hb0.os), hg2.tape.trans (hg1.tape.trans hb0.tape), hg2.output.trans (hg1.output.trans hb0.output), by omega, fun k hk e1 e2 => ?_⟩
    rw [hg2.block k (by omega) (Ne.symm e2), hg1.block k (by simp; omega) (Ne.symm e1), hb0.block k hk]
  clear hI2 hT2 hg1 hg2 h2
  go_wp2
  go_ret
  exact ⟨rfl, HT2.out, HI2.out, HTN.out⟩

set_option maxRecDepth 100000 in
theorem held_method (c i : Int) (n m : Nat) (ta na : Option Addr) (tc nc : Nat) (w : World) (hl : n ≤ 2000000) (hn : m ≤ 2000000) (hT : RowT w (.slice ta n tc) (marksT 1 n)) (hI : RowI w (.slice na m nc) (marksI (1 + n) m)) :
    Calls Try.prog 19 #[.agg #[.int .i64 c, .int .i64 i, .slice ta n tc, .slice na m nc], .int .i64 1] w fun e w' => e = .returned (.int .i64 (1 + n + m : Nat)) ∧ Below w.heap.size w w' := by
  have hb0 : Below w.heap.size w (w.alloc (.cells #[.int .i64 c, .int .i64 i, .slice ta n tc, .slice na m nc] 25)) := (Below.refl _ _).alloc (Nat.le_refl _) _
  have h1 := row_heldT n _ 1 _ hl (by omega) (hT.below hb0)
  have HI : Hid (RowI (w.alloc (.cells #[.int .i64 c, .int .i64 i, .slice ta n tc, .slice na m nc] 25)) (.slice na m nc) (marksI (1 + n) m)) := hI.below hb0
  clear hT hI
  go_enter Try.func19, Try.ntmps19
  go_wp2_with fail
  refine h1.mono ?_
  rintro e w1 ⟨rfl, hb1⟩
  obtain ⟨hc1, hf1⟩ := bcell hb1
  have h2 := row_heldI m _ (1 + n) w1 hn (by omega) (HI.out.below hb1)
  have hbw := hb0.trans (hb1.mono hb0.size)
  clear h1 hb1
  go_wp2_with fail
  refine h2.mono ?_
  rintro e w2 ⟨rfl, hb2⟩
  go_wp2
  go_ret
  exact ⟨rfl, hbw.trans (hb2.mono hbw.size)⟩
end Go.Proofs.Ytiphjegaodaooaa.mr
