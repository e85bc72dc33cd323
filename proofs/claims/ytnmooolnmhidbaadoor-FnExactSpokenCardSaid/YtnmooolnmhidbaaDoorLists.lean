/- Lists of texts and of numbers in memory, and what the laws' own functions szStringS, szIntS, toStringS, toIntS, eqStringS and eqIntS do with them. -/
import Derived.Test.YtnmooolnmhidbaaDoorStrMarks
import Derived.Deep.Strs
import Derived.Deep.OwnRows
import Derived.Laws.OwnMore
namespace Go.Proofs.YtnmooolnmhidbaaDoor.ls
open Go.ChangeShapes Go.WideShapes Go.ChangeAt Go.RowKit

/-- the cells behind a slice's address hold the list l; they lie in blocks below B -/
def Sl {α : Type} (f : α → Value) (w : World) (B : Nat) (a : Option Addr) (l : List α) : Prop :=
  l = [] ∨ ∃ b off, a = some ⟨b, off, none⟩ ∧ b < B ∧ ∀ (i : Nat) (x : α), l[i]? = some x → w.cell? ⟨b, off + i, none⟩ = some (f x)

section
variable {α : Type} {f : α → Value} {w w' : World} {B : Nat} {a : Option Addr} {l : List α}
theorem Sl.below (h : Sl f w B a l) (hb : Below B w w') : Sl f w' B a l := by
  rcases h with h | ⟨b, off, ha, hlt, hc⟩
  · exact .inl h
  · exact .inr ⟨b, off, ha, hlt, fun i x hx => by rw [hb.cell (p := ⟨b, off + i, none⟩) hlt]; exact hc i x hx⟩
theorem Sl.mono (h : Sl f w B a l) {B' : Nat} (hB : B ≤ B') : Sl f w B' a l := by
  rcases h with h | ⟨b, off, ha, hlt, hc⟩
  · exact .inl h
  · exact .inr ⟨b, off, ha, Nat.lt_of_lt_of_le hlt hB, hc⟩
theorem Sl.nil : Sl f w B a [] := .inl rfl
end

theorem Sl.of_has {w : World} {g cap : Nat} {l : List ByteArray} (h : sm.Has w g cap l) {B : Nat} (hB : g < B) : Sl Value.string w B (some ⟨g, 0, none⟩) l := by
  refine .inr ⟨g, 0, rfl, hB, fun i x hx => ?_⟩
  have hi := (List.getElem?_eq_some_iff.1 hx).1
  have := h.cell i hi
  rw [Nat.zero_add, this, List.getD, hx]
  rfl

/-- how much a list of texts weighs -/
def bulk : List ByteArray → Nat
  | [] => 0
  | x :: r => x.size + bulk r
theorem bulk_snoc (x : ByteArray) : ∀ l, bulk (l ++ [x]) = bulk l + x.size
  | [] => by simp [bulk]
  | y :: r => by simp [bulk, bulk_snoc x r]; omega
theorem bulk_take {l : List ByteArray} {k : Nat} (h : k < l.length) : bulk (l.take (k + 1)) = bulk (l.take k) + l[k].size := by
  rw [List.take_succ_eq_append_getElem h, bulk_snoc]
theorem bulk_le {l : List ByteArray} {x : ByteArray} (h : x ∈ l) : x.size ≤ bulk l := by
  induction l with
  | nil => cases h
  | cons y r ih =>
    simp only [bulk]
    rcases List.mem_cons.1 h with rfl | h
    · omega
    · have := ih h; omega

theorem sz_strs (l : List ByteArray) (a : Option Addr) (cap : Nat) (left : Int) (w : World) (hl : l.length ≤ maxLen) (hx : ∀ x ∈ l, x.size ≤ maxLen) (h0 : -1 ≤ left) (h1 : left ≤ 1048576) (hS : Sl Value.string w w.heap.size a l) :
    Calls Tryd.prog 26 #[.slice a l.length cap, .int .i64 left] w fun e w' => ∃ r : Int, e = .returned (.int .i64 r) ∧ (0 ≤ r → r = left - l.length - bulk l) ∧ -1 ≤ r ∧ r ≤ 1048576 ∧ w' = w := by
  unfold maxLen at hl
  by_cases hneg : left - l.length < 0
  · go_enter Tryd.func26, Tryd.ntmps26
    go_wp2
    go_ret
    exact ⟨-1, rfl, by omega, by omega, by omega, rfl⟩
  rcases hS with rfl | ⟨b, off, rfl, hlt, hc⟩
  · go_enter Tryd.func26, Tryd.ntmps26
    go_wp2
    refine wp_loop_rounds 1 ?_
    rw [rounds_succ]
    go_wp2
    go_ret
    exact ⟨_, rfl, fun _ => by simp [bulk], by simp at hneg; omega, by simp at hneg; omega, rfl⟩
  · have HC : Hid (∀ (i : Nat) (x : ByteArray), l[i]? = some x → w.cell? ⟨b, off + i, none⟩ = some (.string x)) := hc
    clear hc
    go_enter Tryd.func26, Tryd.ntmps26
    go_wp2
    go_loop [1, 5] (fun y x => ∃ k : Nat, k ≤ l.length ∧ x = .int .i64 k ∧ y = .int .i64 (left - l.length - bulk (l.take k)) ∧ 0 ≤ left - l.length - bulk (l.take k)) (fun _ x => l.length - (intOf x).toNat)
    case atStart => exact ⟨0, Nat.zero_le _, rfl, by simp [bulk], by simp [bulk]; omega⟩
    case round =>
      obtain ⟨k, hk, rfl, rfl, hr0⟩ := hrel
      by_cases hkl : k < l.length
      · have hcell := HC.out k l[k] (List.getElem?_eq_getElem hkl)
        have hxs := hx l[k] (List.getElem_mem hkl)
        have hb := bulk_take hkl
        have HB : Hid (bulk (l.take (k + 1)) = bulk (l.take k) + l[k].size) := hb
        clear hb
        obtain ⟨x, hxx⟩ : ∃ x, l[k] = x := ⟨_, rfl⟩
        rw [hxx] at hcell hxs HB
        clear hxx
        obtain ⟨m, hm⟩ : ∃ m, bulk (l.take k) = m := ⟨_, rfl⟩
        rw [hm] at HB hr0 ⊢
        clear hm
        unfold maxLen at hxs
        by_cases hlo : left - l.length - m - x.size < 0
        · go_wp2
          go_ret
          exact ⟨-1, rfl, by omega, by omega, by omega, rfl⟩
        · go_wp2
          go_round
          case rel => exact ⟨k + 1, by omega, by go_num, by rw [HB.out]; go_num, by rw [HB.out]; omega⟩
          case measure => simp [intOf]; omega
      · obtain rfl : k = l.length := by omega
        rw [List.take_length] at hr0
        go_wp2
        go_ret
        exact ⟨_, rfl, fun _ => by first | rfl | rw [List.take_length], by omega, by omega, rfl⟩

theorem sz_ints (n : Nat) (a : Option Addr) (cap : Nat) (left : Int) (w : World) (hl : n ≤ maxLen) (h0 : -1 ≤ left) (h1 : left ≤ 1048576) :
    Calls Tryd.prog 27 #[.slice a n cap, .int .i64 left] w fun e w' => ∃ r : Int, e = .returned (.int .i64 r) ∧ (0 ≤ r → r = left - n) ∧ -1 ≤ r ∧ r ≤ 1048576 ∧ w' = w := by
  unfold maxLen at hl
  by_cases hneg : left - n < 0
  · go_enter Tryd.func27, Tryd.ntmps27
    go_wp2
    go_ret
    exact ⟨-1, rfl, by omega, by omega, by omega, rfl⟩
  · go_enter Tryd.func27, Tryd.ntmps27
    go_wp2
    go_ret
    exact ⟨_, rfl, fun _ => rfl, by omega, by omega, rfl⟩

/-- block g is a row that holds the numbers l from its beginning on -/
def HasI (w : World) (g cap : Nat) (l : List Int) : Prop :=
  ∃ cur, w.heap[g]? = some (.cells cur 3 (0, 0)) ∧ l.length ≤ cap ∧ cur.size = cap ∧ cur.toList.take l.length = l.map (Value.int .i64)

theorem HasI.cell {w : World} {g cap : Nat} {l : List Int} (h : HasI w g cap l) (i : Nat) (hi : i < l.length) : w.cell? ⟨g, i, none⟩ = some (.int .i64 (l.getD i 0)) := by
  obtain ⟨cur, hg, hl, hc, ht⟩ := h
  have h1 : cur.toList[i]? = some (.int .i64 l[i]) := by
    have := congrArg (fun x => x[i]?) ht
    simp only [List.getElem?_take_of_lt hi, List.getElem?_map, List.getElem?_eq_getElem hi, Option.map_some] at this
    exact this
  have h2 : cur[i]? = some (.int .i64 l[i]) := by rw [← Array.getElem?_toList]; exact h1
  simp [World.cell?, hg, h2, List.getD, List.getElem?_eq_getElem hi]
theorem HasI.frozen {w : World} {g cap : Nat} {l : List Int} (h : HasI w g cap l) (i : Nat) : w.frozen? ⟨g, i, none⟩ = false := by
  obtain ⟨cur, hg, _⟩ := h
  simp [World.frozen?, hg]
theorem HasI.lt {w : World} {g cap : Nat} {l : List Int} (h : HasI w g cap l) : g < w.heap.size := by
  obtain ⟨cur, hg, _⟩ := h
  exact (Array.getElem?_eq_some_iff.1 hg).1
theorem HasI.below {w w' : World} {g cap B : Nat} {l : List Int} (h : HasI w g cap l) (hb : Below B w w') (hg : g < B) : HasI w' g cap l := by
  obtain ⟨cur, h1, h2⟩ := h
  exact ⟨cur, by rw [hb.block g hg]; exact h1, h2⟩
theorem HasI.set {w : World} {g cap : Nat} {l : List Int} (h : HasI w g cap l) (i : Nat) (x : Int) : HasI (w.setCell ⟨g, i, none⟩ (.int .i64 x)) g cap (l.set i x) := by
  obtain ⟨cur, h1, h2, h3, h4⟩ := h
  refine ⟨cur.setIfInBounds i (.int .i64 x), heap_setCell_same w g i cur _ _ h1, by simpa using h2, by simpa using h3, ?_⟩
  rw [List.length_set, Array.toList_setIfInBounds, List.take_set, h4, List.map_set]
theorem Sl.of_hasI {w : World} {g cap : Nat} {l : List Int} (h : HasI w g cap l) {B : Nat} (hB : g < B) : Sl (Value.int .i64) w B (some ⟨g, 0, none⟩) l := by
  refine .inr ⟨g, 0, rfl, hB, fun i x hx => ?_⟩
  have hi := (List.getElem?_eq_some_iff.1 hx).1
  have := h.cell i hi
  rw [Nat.zero_add, this, List.getD, hx]
  rfl

theorem infoS : (Tryd.prog.info? 9).map (fun i => (i.zero, i.size, i.bytes)) = some (some (.string ByteArray.empty), 1, 16) := by kernel_rfl
theorem infoI : (Tryd.prog.info? 3).map (fun i => (i.zero, i.size, i.bytes)) = some (some (.int .i64 0), 1, 8) := by kernel_rfl

theorem made_has (w : World) (n : Nat) : sm.Has (w.alloc (.cells (madeCells #[.string ByteArray.empty] n) 9)) w.heap.size n (List.replicate n ByteArray.empty) := by
  refine ⟨_, (MapKept.heap_alloc w _).1, by simp, size_madeCells _ _, ?_⟩
  rw [toList_madeCells_one]
  simp
theorem made_hasI (w : World) (n : Nat) : HasI (w.alloc (.cells (madeCells #[.int .i64 0] n) 3)) w.heap.size n (List.replicate n 0) := by
  refine ⟨_, (MapKept.heap_alloc w _).1, by simp, size_madeCells _ _, ?_⟩
  rw [toList_madeCells_one]
  simp

theorem fill_next {α : Type} {l : List α} {z : α} {k : Nat} (h : k < l.length) : (l.take k ++ List.replicate (l.length - k) z).set k l[k] = l.take (k + 1) ++ List.replicate (l.length - (k + 1)) z := by
  obtain ⟨m, hm⟩ : ∃ m, l.length - k = m + 1 := ⟨l.length - k - 1, by omega⟩
  rw [hm, show l.length - (k + 1) = m by omega, List.replicate_succ, List.set_append_right _ _ (by simp; omega), List.take_succ_eq_append_getElem h, List.append_assoc]
  simp [show min k l.length = k by omega]

theorem to_strs (l : List ByteArray) (a : Option Addr) (cap : Nat) (w : World) (hl : l.length ≤ 1048576) (hS : Sl Value.string w w.heap.size a l) :
    Calls Tryd.prog 31 #[.slice a l.length cap] w fun e w' => e = .returned (.slice (some ⟨w.heap.size, 0, none⟩) l.length l.length) ∧ sm.Has w' w.heap.size l.length l ∧ Below w.heap.size w w' := by
  have hmk := run_make_row' (P := Tryd.prog) 22 9 (.string ByteArray.empty) 16 Tryd.underlying22 infoS rfl .i64 .i64 l.length (by omega) (by omega) w
  have hmh := made_has w l.length
  have hbl : Below w.heap.size w (w.alloc (.cells (madeCells #[.string ByteArray.empty] l.length) 9)) := (Below.refl _ _).alloc (Nat.le_refl _) _
  rcases hS with rfl | ⟨b, off, rfl, hlt, hc⟩
  · clear hmk hmh hbl
    have e0 : Hid (madeCells #[.string ByteArray.empty] 0 = #[]) := Array.toList_inj.1 (by rw [toList_madeCells_one]; rfl)
    have hmk0 : (Instr.makeSlice 22 (.int .i64 0) (.int .i64 0)).run Tryd.prog w = .ok (.slice (some ⟨w.heap.size, 0, none⟩) 0 0) (w.alloc (.cells #[] 9)) := by
      have h := run_make_row' (P := Tryd.prog) 22 9 (.string ByteArray.empty) 16 Tryd.underlying22 infoS rfl .i64 .i64 0 (by omega) (by omega) w
      rw [e0.out] at h
      exact h
    go_enter Tryd.func31, Tryd.ntmps31
    go_wp2
    refine wp_loop_rounds 1 ?_
    rw [rounds_succ]
    go_wp2
    go_ret
    exact ⟨rfl, by have := made_has w 0; rw [e0.out] at this; exact this, (Below.refl _ _).alloc (Nat.le_refl _) _⟩
  · have HC : Hid (∀ (i : Nat) (x : ByteArray), l[i]? = some x → w.cell? ⟨b, off + i, none⟩ = some (.string x)) := hc
    have HM : Hid (sm.Has (w.alloc (.cells (madeCells #[.string ByteArray.empty] l.length) 9)) w.heap.size l.length (List.replicate l.length ByteArray.empty)) := hmh
    clear hc hmh
    go_enter Tryd.func31, Tryd.ntmps31
    go_wp2
    go_loopw [4] (fun x wr => ∃ k : Nat, k ≤ l.length ∧ x = .int .i64 k ∧ Below w.heap.size w wr ∧ Hid (sm.Has wr w.heap.size l.length (l.take k ++ List.replicate (l.length - k) ByteArray.empty))) (fun x _ => l.length - (intOf x).toNat)
    case atStart => exact ⟨0, Nat.zero_le _, rfl, hbl, by unfold Hid; simpa using HM.out⟩
    case round =>
      obtain ⟨k, hk, rfl, hbel, hhas⟩ := hrel
      by_cases hkl : k < l.length
      · have hcell := (hbel.cell (p := ⟨b, off + k, none⟩) hlt).trans (HC.out k l[k] (List.getElem?_eq_getElem hkl))
        have hfz := hhas.out.frozen k
        have hcg := hhas.out.cell k (by simp; omega)
        have hnx := hhas.out.set k l[k]
        rw [fill_next hkl] at hnx
        have HN : Hid (sm.Has (wr.setCell ⟨w.heap.size, k, none⟩ (.string l[k])) w.heap.size l.length (l.take (k + 1) ++ List.replicate (l.length - (k + 1)) ByteArray.empty)) := hnx
        clear hnx
        obtain ⟨x, hxx⟩ : ∃ x, l[k] = x := ⟨_, rfl⟩
        rw [hxx] at hcell HN
        clear hxx
        go_wp2
        go_roundw
        case rel => exact ⟨k + 1, by omega, by go_num, hbel.setCell (Nat.le_refl _) _, HN⟩
        case measure => simp [intOf]; omega
      · obtain rfl : k = l.length := by omega
        go_wp2
        go_ret
        exact ⟨rfl, by simpa using hhas.out, hbel⟩

theorem to_ints (l : List Int) (a : Option Addr) (cap : Nat) (w : World) (hl : l.length ≤ 1048576) (hS : Sl (Value.int .i64) w w.heap.size a l) :
    Calls Tryd.prog 32 #[.slice a l.length cap] w fun e w' => e = .returned (.slice (some ⟨w.heap.size, 0, none⟩) l.length l.length) ∧ HasI w' w.heap.size l.length l ∧ Below w.heap.size w w' := by
  have hmk := run_make_row' (P := Tryd.prog) 23 3 (.int .i64 0) 8 Tryd.underlying23 infoI rfl .i64 .i64 l.length (by omega) (by omega) w
  have hmh := made_hasI w l.length
  have hbl : Below w.heap.size w (w.alloc (.cells (madeCells #[.int .i64 0] l.length) 3)) := (Below.refl _ _).alloc (Nat.le_refl _) _
  rcases hS with rfl | ⟨b, off, rfl, hlt, hc⟩
  · clear hmk hmh hbl
    have e0 : Hid (madeCells #[.int .i64 0] 0 = #[]) := Array.toList_inj.1 (by rw [toList_madeCells_one]; rfl)
    have hmk0 : (Instr.makeSlice 23 (.int .i64 0) (.int .i64 0)).run Tryd.prog w = .ok (.slice (some ⟨w.heap.size, 0, none⟩) 0 0) (w.alloc (.cells #[] 3)) := by
      have h := run_make_row' (P := Tryd.prog) 23 3 (.int .i64 0) 8 Tryd.underlying23 infoI rfl .i64 .i64 0 (by omega) (by omega) w
      rw [e0.out] at h
      exact h
    go_enter Tryd.func32, Tryd.ntmps32
    go_wp2
    refine wp_loop_rounds 1 ?_
    rw [rounds_succ]
    go_wp2
    go_ret
    exact ⟨rfl, by have := made_hasI w 0; rw [e0.out] at this; exact this, (Below.refl _ _).alloc (Nat.le_refl _) _⟩
  · have HC : Hid (∀ (i : Nat) (x : Int), l[i]? = some x → w.cell? ⟨b, off + i, none⟩ = some (.int .i64 x)) := hc
    have HM : Hid (HasI (w.alloc (.cells (madeCells #[.int .i64 0] l.length) 3)) w.heap.size l.length (List.replicate l.length 0)) := hmh
    clear hc hmh
    go_enter Tryd.func32, Tryd.ntmps32
    go_wp2
    go_loopw [4] (fun x wr => ∃ k : Nat, k ≤ l.length ∧ x = .int .i64 k ∧ Below w.heap.size w wr ∧ Hid (HasI wr w.heap.size l.length (l.take k ++ List.replicate (l.length - k) 0))) (fun x _ => l.length - (intOf x).toNat)
    case atStart => exact ⟨0, Nat.zero_le _, rfl, hbl, by unfold Hid; simpa using HM.out⟩
    case round =>
      obtain ⟨k, hk, rfl, hbel, hhas⟩ := hrel
      by_cases hkl : k < l.length
      · have hcell := (hbel.cell (p := ⟨b, off + k, none⟩) hlt).trans (HC.out k l[k] (List.getElem?_eq_getElem hkl))
        have hfz := hhas.out.frozen k
        have hcg := hhas.out.cell k (by simp; omega)
        have hnx := hhas.out.set k l[k]
        rw [fill_next hkl] at hnx
        have HN : Hid (HasI (wr.setCell ⟨w.heap.size, k, none⟩ (.int .i64 l[k])) w.heap.size l.length (l.take (k + 1) ++ List.replicate (l.length - (k + 1)) 0)) := hnx
        clear hnx
        obtain ⟨x, hxx⟩ : ∃ x, l[k] = x := ⟨_, rfl⟩
        rw [hxx] at hcell HN
        clear hxx
        go_wp2
        go_roundw
        case rel => exact ⟨k + 1, by omega, by go_num, hbel.setCell (Nat.le_refl _) _, HN⟩
        case measure => simp [intOf]; omega
      · obtain rfl : k = l.length := by omega
        go_wp2
        go_ret
        exact ⟨rfl, by simpa using hhas.out, hbel⟩

/-- two lists of texts that read alike -/
theorem eq_strs (l : List ByteArray) (a a' : Option Addr) (c c' : Nat) (w : World) (hl : l.length ≤ 2000000) (ha : Sl Value.string w w.heap.size a l) (hb : Sl Value.string w w.heap.size a' l) :
    Calls Tryd.prog 34 #[.slice a l.length c, .slice a' l.length c'] w fun e w' => e = .returned (.bool true) ∧ Below w.heap.size w w' := by
  rcases ha with rfl | ⟨b, off, rfl, hlt, hc⟩
  · go_enter Tryd.func34, Tryd.ntmps34
    go_wp2
    refine wp_loop_rounds 1 ?_
    rw [rounds_succ]
    go_wp2
    go_ret
    exact ⟨rfl, Below.refl _ _⟩
  rcases hb with rfl | ⟨b', off', rfl, hlt', hc'⟩
  · go_enter Tryd.func34, Tryd.ntmps34
    go_wp2
    refine wp_loop_rounds 1 ?_
    rw [rounds_succ]
    go_wp2
    go_ret
    exact ⟨rfl, Below.refl _ _⟩
  have HA : Hid (∀ (i : Nat) (x : ByteArray), l[i]? = some x → w.cell? ⟨b, off + i, none⟩ = some (.string x)) := hc
  have HB : Hid (∀ (i : Nat) (x : ByteArray), l[i]? = some x → w.cell? ⟨b', off' + i, none⟩ = some (.string x)) := hc'
  clear hc hc'
  go_enter Tryd.func34, Tryd.ntmps34
  go_wp2
  go_loopw [5] (fun x wr => ∃ k : Nat, k ≤ l.length ∧ x = .int .i64 k ∧ Below w.heap.size w wr) (fun x _ => l.length - (intOf x).toNat)
  case atStart => exact ⟨0, Nat.zero_le _, rfl, Below.refl _ _⟩
  case round =>
    obtain ⟨k, hk, rfl, hbel⟩ := hrel
    by_cases hkl : k < l.length
    · have ca := (hbel.cell (p := ⟨b, off + k, none⟩) hlt).trans (HA.out k l[k] (List.getElem?_eq_getElem hkl))
      have cb := (hbel.cell (p := ⟨b', off' + k, none⟩) hlt').trans (HB.out k l[k] (List.getElem?_eq_getElem hkl))
      obtain ⟨x, hx⟩ : ∃ x, l[k] = x := ⟨_, rfl⟩
      rw [hx] at ca cb
      clear hx
      go_wp2
      go_region
      all_goals go_wp2
      all_goals go_roundw
      all_goals first | exact ⟨k + 1, by omega, by go_num, hbel.drew⟩ | (simp [intOf]; omega)
    · obtain rfl : k = l.length := by omega
      go_wp2
      go_ret
      exact ⟨rfl, hbel⟩

theorem eq_ints (l : List Int) (a a' : Option Addr) (c c' : Nat) (w : World) (hl : l.length ≤ 2000000) (ha : Sl (Value.int .i64) w w.heap.size a l) (hb : Sl (Value.int .i64) w w.heap.size a' l) :
    Calls Tryd.prog 35 #[.slice a l.length c, .slice a' l.length c'] w fun e w' => e = .returned (.bool true) ∧ Below w.heap.size w w' := by
  rcases ha with rfl | ⟨b, off, rfl, hlt, hc⟩
  · go_enter Tryd.func35, Tryd.ntmps35
    go_wp2
    refine wp_loop_rounds 1 ?_
    rw [rounds_succ]
    go_wp2
    go_ret
    exact ⟨rfl, Below.refl _ _⟩
  rcases hb with rfl | ⟨b', off', rfl, hlt', hc'⟩
  · go_enter Tryd.func35, Tryd.ntmps35
    go_wp2
    refine wp_loop_rounds 1 ?_
    rw [rounds_succ]
    go_wp2
    go_ret
    exact ⟨rfl, Below.refl _ _⟩
  have HA : Hid (∀ (i : Nat) (x : Int), l[i]? = some x → w.cell? ⟨b, off + i, none⟩ = some (.int .i64 x)) := hc
  have HB : Hid (∀ (i : Nat) (x : Int), l[i]? = some x → w.cell? ⟨b', off' + i, none⟩ = some (.int .i64 x)) := hc'
  clear hc hc'
  go_enter Tryd.func35, Tryd.ntmps35
  go_wp2
  go_loopw [5] (fun x wr => ∃ k : Nat, k ≤ l.length ∧ x = .int .i64 k ∧ Below w.heap.size w wr) (fun x _ => l.length - (intOf x).toNat)
  case atStart => exact ⟨0, Nat.zero_le _, rfl, Below.refl _ _⟩
  case round =>
    obtain ⟨k, hk, rfl, hbel⟩ := hrel
    by_cases hkl : k < l.length
    · have ca := (hbel.cell (p := ⟨b, off + k, none⟩) hlt).trans (HA.out k l[k] (List.getElem?_eq_getElem hkl))
      have cb := (hbel.cell (p := ⟨b', off' + k, none⟩) hlt').trans (HB.out k l[k] (List.getElem?_eq_getElem hkl))
      obtain ⟨x, hx⟩ : ∃ x, l[k] = x := ⟨_, rfl⟩
      rw [hx] at ca cb
      clear hx
      go_wp2
      go_region
      all_goals go_wp2
      all_goals go_roundw
      all_goals first | exact ⟨k + 1, by omega, by go_num, hbel.drew⟩ | (simp [intOf]; omega)
    · obtain rfl : k = l.length := by omega
      go_wp2
      go_ret
      exact ⟨rfl, hbel⟩
end Go.Proofs.YtnmooolnmhidbaaDoor.ls
