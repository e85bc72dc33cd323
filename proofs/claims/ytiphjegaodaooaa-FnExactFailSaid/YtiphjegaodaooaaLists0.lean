/- Lists of texts and of numbers in memory, and what the laws' own functions szStringS, szIntS, toStringS, toIntS, eqStringS and eqIntS do with them. -/
import Derived.Test.YtiphjegaodaooaaStrMarks
import Derived.Deep.Strs
import Derived.Deep.OwnRows
import Derived.Laws.OwnMore
namespace Go.Proofs.Ytiphjegaodaooaa.ls
open Go.ChangeShapes Go.WideShapes Go.ChangeAt Go.RowKit

/-- the cells behind a slice's address hold the list l; they lie in blocks below B -/
def Sl {α : Type} (f : α → Value) (w : World) (B : Nat) (a : Option Addr) (l : List α) : Prop :=
  l = [] ∨ ∃ b off, a = some ⟨b, off, none⟩ ∧ b < B ∧ ∀ (i : Nat) (x : α), l[i]? = some x → w.cell? ⟨b, off + i, none⟩ = some (f x)

section
variable {α : Type} {f : α → Value} {w w' : World} {B : Nat} {a : Option Addr} {l : List α}
theorem Sl.below (h : Sl f w B a l) (hb : Below B w w') : Sl f w' B a l := by
  rcases h with h | ⟨b, off, ha, hlt, hc⟩
  · exact .inl h
  · exact .inr ⟨b, off, ha, hlt, fun i x hx => by rw [hb.cell (p := ⟨b, off + i, none⟩) hlt]; exact hc i x hx⟩
theorem Sl.mono (h : Sl f w B a l) {B' : Nat} (hB : B ≤ B') : Sl f w B' a l := by
  rcases h with h | ⟨b, off, ha, hlt, hc⟩
  · exact .inl h
  · exact .inr ⟨b, off, ha, Nat.lt_of_lt_of_le hlt hB, hc⟩
theorem Sl.nil : Sl f w B a [] := .inl rfl
end

theorem Sl.of_has {w : World} {g cap : Nat} {l : List ByteArray} (h : sm.Has w g cap l) {B : Nat} (hB : g < B) : Sl Value.string w B (some ⟨g, 0, none⟩) l := by
  refine .inr ⟨g, 0, rfl, hB, fun i x hx => ?_⟩
  have hi := (List.getElem?_eq_some_iff.1 hx).1
  have := h.cell i hi
  rw [Nat.zero_add, this, List.getD, hx]
  rfl

/-- how much a list of texts weighs -/
def bulk : List ByteArray → Nat
  | [] => 0
  | x :: r => x.size + bulk r
theorem bulk_snoc (x : ByteArray) : ∀ l, bulk (l ++ [x]) = bulk l + x.size
  | [] => by simp [bulk]
  | y :: r => by simp [bulk, bulk_snoc x r]; omega
theorem bulk_take {l : List ByteArray} {k : Nat} (h : k < l.length) : bulk (l.take (k + 1)) = bulk (l.take k) + l[k].size := by
  rw [List.take_succ_eq_append_getElem h, bulk_snoc]
theorem bulk_le {l : List ByteArray} {x : ByteArray} (h : x ∈ l) : x.size ≤ bulk l := by
  induction l with
  | nil => cases h
  | cons y r ih =>
    simp only [bulk]
    rcases List.mem_cons.1 h with rfl | h
    · omega
    · have := ih h; omega

/-- block g is a row that holds the numbers l from its beginning on -/
def HasI (w : World) (g cap : Nat) (l : List Int) : Prop :=
  ∃ cur, w.heap[g]? = some (.cells cur 3 (0, 0)) ∧ l.length ≤ cap ∧ cur.size = cap ∧ cur.toList.take l.length = l.map (Value.int .i64)

theorem HasI.cell {w : World} {g cap : Nat} {l : List Int} (h : HasI w g cap l) (i : Nat) (hi : i < l.length) : w.cell? ⟨g, i, none⟩ = some (.int .i64 (l.getD i 0)) := by
  obtain ⟨cur, hg, hl, hc, ht⟩ := h
  have h1 : cur.toList[i]? = some (.int .i64 l[i]) := by
    have := congrArg (fun x => x[i]?) ht
    simp only [List.getElem?_take_of_lt hi, List.getElem?_map, List.getElem?_eq_getElem hi, Option.map_some] at this
    exact this
  have h2 : cur[i]? = some (.int .i64 l[i]) := by rw [← Array.getElem?_toList]; exact h1
  simp [World.cell?, hg, h2, List.getD, List.getElem?_eq_getElem hi]
theorem HasI.frozen {w : World} {g cap : Nat} {l : List Int} (h : HasI w g cap l) (i : Nat) : w.frozen? ⟨g, i, none⟩ = false := by
  obtain ⟨cur, hg, _⟩ := h
  simp [World.frozen?, hg]
theorem HasI.lt {w : World} {g cap : Nat} {l : List Int} (h : HasI w g cap l) : g < w.heap.size := by
  obtain ⟨cur, hg, _⟩ := h
  exact (Array.getElem?_eq_some_iff.1 hg).1
theorem HasI.below {w w' : World} {g cap B : Nat} {l : List Int} (h : HasI w g cap l) (hb : Below B w w') (hg : g < B) : HasI w' g cap l := by
  obtain ⟨cur, h1, h2⟩ := h
  exact ⟨cur, by rw [hb.block g hg]; exact h1, h2⟩
theorem HasI.set {w : World} {g cap : Nat} {l : List Int} (h : HasI w g cap l) (i : Nat) (x : Int) : HasI (w.setCell ⟨g, i, none⟩ (.int .i64 x)) g cap (l.set i x) := by
  obtain ⟨cur, h1, h2, h3, h4⟩ := h
  refine ⟨cur.setIfInBounds i (.int .i64 x), heap_setCell_same w g i cur _ _ h1, by simpa using h2, by simpa using h3, ?_⟩
  rw [List.length_set, Array.toList_setIfInBounds, List.take_set, h4, List.map_set]
theorem Sl.of_hasI {w : World} {g cap : Nat} {l : List Int} (h : HasI w g cap l) {B : Nat} (hB : g < B) : Sl (Value.int .i64) w B (some ⟨g, 0, none⟩) l := by
  refine .inr ⟨g, 0, rfl, hB, fun i x hx => ?_⟩
  have hi := (List.getElem?_eq_some_iff.1 hx).1
  have := h.cell i hi
  rw [Nat.zero_add, this, List.getD, hx]
  rfl

theorem infoS : (Try.prog.info? 9).map (fun i => (i.zero, i.size, i.bytes)) = some (some (.string ByteArray.empty), 1, 16) := by kernel_rfl
theorem infoI : (Try.prog.info? 3).map (fun i => (i.zero, i.size, i.bytes)) = some (some (.int .i64 0), 1, 8) := by kernel_rfl

theorem made_has (w : World) (n : Nat) : sm.Has (w.alloc (.cells (madeCells #[.string ByteArray.empty] n) 9)) w.heap.size n (List.replicate n ByteArray.empty) := by
  refine ⟨_, (MapKept.heap_alloc w _).1, by simp, size_madeCells _ _, ?_⟩
  rw [toList_madeCells_one]
  simp
theorem made_hasI (w : World) (n : Nat) : HasI (w.alloc (.cells (madeCells #[.int .i64 0] n) 3)) w.heap.size n (List.replicate n 0) := by
  refine ⟨_, (MapKept.heap_alloc w _).1, by simp, size_madeCells _ _, ?_⟩
  rw [toList_madeCells_one]
  simp

theorem fill_next {α : Type} {l : List α} {z : α} {k : Nat} (h : k < l.length) : (l.take k ++ List.replicate (l.length - k) z).set k l[k] = l.take (k + 1) ++ List.replicate (l.length - (k + 1)) z := by
  obtain ⟨m, hm⟩ : ∃ m, l.length - k = m + 1 := ⟨l.length - k - 1, by omega⟩
  rw [hm, show l.length - (k + 1) = m by omega, List.replicate_succ, List.set_append_right _ _ (by simp; omega), List.take_succ_eq_append_getElem h, List.append_assoc]
  simp [show min k l.length = k by omega]

/-- two lists of texts that read alike -/
theorem eq_strs (l : List ByteArray) (a a' : Option Addr) (c c' : Nat) (w : World) (hl : l.length ≤ 2000000) (ha : Sl Value.string w w.heap.size a l) (hb : Sl Value.string w w.heap.size a' l) :
    Calls Try.prog 29 #[.slice a l.length c, .slice a' l.length c'] w fun e w' => e = .returned (.bool true) ∧ Below w.heap.size w w' := by
  rcases ha with rfl | ⟨b, off, rfl, hlt, hc⟩
  · go_enter Try.func29, Try.ntmps29
    go_wp2
    refine wp_loop_rounds 1 ?_
    rw [rounds_succ]
    go_wp2
    go_ret
    exact ⟨rfl, Below.refl _ _⟩
  rcases hb with rfl | ⟨b', off', rfl, hlt', hc'⟩
  · go_enter Try.func29, Try.ntmps29
    go_wp2
    refine wp_loop_rounds 1 ?_
    rw [rounds_succ]
    go_wp2
    go_ret
    exact ⟨rfl, Below.refl _ _⟩
  have HA : Hid (∀ (i : Nat) (x : ByteArray), l[i]? = some x → w.cell? ⟨b, off + i, none⟩ = some (.string x)) := hc
  have HB : Hid (∀ (i : Nat) (x : ByteArray), l[i]? = some x → w.cell? ⟨b', off' + i, none⟩ = some (.string x)) := hc'
  clear hc hc'
  go_enter Try.func29, Try.ntmps29
  go_wp2
  go_loopw [5] (fun x wr => ∃ k : Nat, k ≤ l.length ∧ x = .int .i64 k ∧ Below w.heap.size w wr) (fun x _ => l.length - (intOf x).toNat)
  case atStart => exact ⟨0, Nat.zero_le _, rfl, Below.refl _ _⟩
  case round =>
    obtain ⟨k, hk, rfl, hbel⟩ := hrel
    by_cases hkl : k < l.length
    · have ca := (hbel.cell (p := ⟨b, off + k, none⟩) hlt).trans (HA.out k l[k] (List.getElem?_eq_getElem hkl))
      have cb := (hbel.cell (p := ⟨b', off' + k, none⟩) hlt').trans (HB.out k l[k] (List.getElem?_eq_getElem hkl))
      obtain ⟨x, hx⟩ : ∃ x, l[k] = x := ⟨_, rfl⟩
      rw [hx] at ca cb
      clear hx
      go_wp2
      go_region
      all_goals go_wp2
      all_goals go_roundw
      all_goals first | exact ⟨k + 1, by omega, by go_num, hbel.drew⟩ | (simp [intOf]; omega)
    · obtain rfl : k = l.length := by omega
      go_wp2
      go_ret
      exact ⟨rfl, hbel⟩

theorem eq_ints (l : List Int) (a a' : Option Addr) (c c' : Nat) (w : World) (hl : l.length ≤ 2000000) (ha : Sl (Value.int .i64) w w.heap.size a l) (hb : Sl (Value.int .i64) w w.heap.size a' l) :
    Calls Try.prog 30 #[.slice a l.length c, .slice a' l.length c'] w fun e w' => e = .returned (.bool true) ∧ Below w.heap.size w w' := by
  rcases ha with rfl | ⟨b, off, rfl, hlt, hc⟩
  · go_enter Try.func30, Try.ntmps30
    go_wp2
    refine wp_loop_rounds 1 ?_
    rw [rounds_succ]
    go_wp2
    go_ret
    exact ⟨rfl, Below.refl _ _⟩
  rcases hb with rfl | ⟨b', off', rfl, hlt', hc'⟩
  · go_enter Try.func30, Try.ntmps30
    go_wp2
    refine wp_loop_rounds 1 ?_
    rw [rounds_succ]
    go_wp2
    go_ret
    exact ⟨rfl, Below.refl _ _⟩
  have HA : Hid (∀ (i : Nat) (x : Int), l[i]? = some x → w.cell? ⟨b, off + i, none⟩ = some (.int .i64 x)) := hc
  have HB : Hid (∀ (i : Nat) (x : Int), l[i]? = some x → w.cell? ⟨b', off' + i, none⟩ = some (.int .i64 x)) := hc'
  clear hc hc'
  go_enter Try.func30, Try.ntmps30
  go_wp2
  go_loopw [5] (fun x wr => ∃ k : Nat, k ≤ l.length ∧ x = .int .i64 k ∧ Below w.heap.size w wr) (fun x _ => l.length - (intOf x).toNat)
  case atStart => exact ⟨0, Nat.zero_le _, rfl, Below.refl _ _⟩
  case round =>
    obtain ⟨k, hk, rfl, hbel⟩ := hrel
    by_cases hkl : k < l.length
    · have ca := (hbel.cell (p := ⟨b, off + k, none⟩) hlt).trans (HA.out k l[k] (List.getElem?_eq_getElem hkl))
      have cb := (hbel.cell (p := ⟨b', off' + k, none⟩) hlt').trans (HB.out k l[k] (List.getElem?_eq_getElem hkl))
      obtain ⟨x, hx⟩ : ∃ x, l[k] = x := ⟨_, rfl⟩
      rw [hx] at ca cb
      clear hx
      go_wp2
      go_region
      all_goals go_wp2
      all_goals go_roundw
      all_goals first | exact ⟨k + 1, by omega, by go_num, hbel.drew⟩ | (simp [intOf]; omega)
    · obtain rfl : k = l.length := by omega
      go_wp2
      go_ret
      exact ⟨rfl, hbel⟩
end Go.Proofs.Ytiphjegaodaooaa.ls
