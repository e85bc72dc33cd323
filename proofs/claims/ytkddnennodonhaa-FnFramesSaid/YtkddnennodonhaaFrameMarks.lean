/- Rows of frames: what the laws' own functions eqFrameS, markFrameS and heldFrameS do with them. -/
import Derived.Test.YtkddnennodonhaaFramesSpec
import Derived.Test.YtkddnennodonhaaStrMarks
import Derived.Deep.RegionWith
namespace Go.Proofs.Ytkddnennodonhaa.fk
open Go.ChangeShapes Go.WideShapes Go.ChangeAt Go.RowKit Go.Proofs.Ytkddnennodonhaa.fs
set_option linter.unusedVariables false

theorem rows_at : ∀ (l : List Fr) (i : Nat) (h : i < l.length), (rows l)[i * 3]? = some (.int .i64 l[i].k) ∧ (rows l)[i * 3 + 1]? = some (.int .i64 l[i].c) ∧ (rows l)[i * 3 + 2]? = some (.string l[i].p)
  | [], i, h => by simp at h
  | f :: l, 0, h => by simp [rows, cells]
  | f :: l, i + 1, h => by
    have ih := rows_at l i (by simpa using h)
    have e : rows (f :: l) = cells f ++ rows l := by simp [rows]
    have hc : (cells f).length = 3 := rfl
    rw [e, List.getElem?_append_right (by rw [hc]; omega), List.getElem?_append_right (by rw [hc]; omega), List.getElem?_append_right (by rw [hc]; omega), hc, show (i + 1) * 3 - 3 = i * 3 by omega, show (i + 1) * 3 + 1 - 3 = i * 3 + 1 by omega, show (i + 1) * 3 + 2 - 3 = i * 3 + 2 by omega]
    simpa using ih
theorem Has.at {w : World} {g cap : Nat} {l : List Fr} (h : Has w g cap l) (i : Nat) (hi : i < l.length) : w.cell? ⟨g, i * 3, none⟩ = some (.int .i64 l[i].k) ∧ w.cell? ⟨g, i * 3 + 1, none⟩ = some (.int .i64 l[i].c) ∧ w.cell? ⟨g, i * 3 + 2, none⟩ = some (.string l[i].p) := by
  obtain ⟨cur, hg, hl, hc, ht⟩ := h
  obtain ⟨h1, h2, h3⟩ := rows_at l i hi
  have hget : ∀ j, j < l.length * 3 → ∀ u, (rows l)[j]? = some u → w.cell? ⟨g, j, none⟩ = some u := fun j hj u hu => by
    rw [← ht, List.getElem?_take_of_lt hj, Array.getElem?_toList] at hu
    simp [World.cell?, hg, hu]
  exact ⟨hget _ (by omega) _ h1, hget _ (by omega) _ h2, hget _ (by omega) _ h3⟩
theorem Has.frozen {w : World} {g cap : Nat} {l : List Fr} (h : Has w g cap l) (i : Nat) : w.frozen? ⟨g, i, none⟩ = false := by
  obtain ⟨cur, hg, _⟩ := h
  simp [World.frozen?, hg]
theorem Has.lt {w : World} {g cap : Nat} {l : List Fr} (h : Has w g cap l) : g < w.heap.size := by
  obtain ⟨cur, hg, _⟩ := h
  exact (Array.getElem?_eq_some_iff.1 hg).1
theorem Has.below {w w' : World} {g cap B : Nat} {l : List Fr} (h : Has w g cap l) (hb : Below B w w') (hg : g < B) : Has w' g cap l := by
  obtain ⟨cur, h1, h2⟩ := h
  exact ⟨cur, by rw [hb.block g hg]; exact h1, h2⟩

theorem eqF (k c : Int) (p : ByteArray) (w : World) : Calls Try.prog 50 #[.agg #[.int .i64 k, .int .i64 c, .string p], .agg #[.int .i64 k, .int .i64 c, .string p]] w fun e w' => e = .returned (.bool true) ∧ Below w.heap.size w w' := fr.eqFrame k c p w

theorem eq_frames (l : List Fr) (g g' c c' : Nat) (w : World) (hl : l.length ≤ 2000000) (ha : Has w g c l) (hb : Has w g' c' l) :
    Calls Try.prog 51 #[.slice (some ⟨g, 0, none⟩) l.length c, .slice (some ⟨g', 0, none⟩) l.length c'] w fun e w' => e = .returned (.bool true) ∧ Below w.heap.size w w' := by
  have HA : Hid (Has w g c l) := ha
  have HB : Hid (Has w g' c' l) := hb
  clear ha hb
  go_enter Try.func51, Try.ntmps51
  go_wp2
  go_loopw [5] (fun x wr => ∃ k : Nat, k ≤ l.length ∧ x = .int .i64 k ∧ Below w.heap.size w wr) (fun x _ => l.length - (intOf x).toNat)
  case atStart => exact ⟨0, Nat.zero_le _, rfl, Below.refl _ _⟩
  case round =>
    obtain ⟨k, hk, rfl, hbel⟩ := hrel
    by_cases hkl : k < l.length
    · obtain ⟨ca0, ca1, ca2⟩ := Has.at (Has.below HA.out hbel (Has.lt HA.out)) k hkl
      obtain ⟨cb0, cb1, cb2⟩ := Has.at (Has.below HB.out hbel (Has.lt HB.out)) k hkl
      obtain ⟨⟨fk, fc, fp⟩, hf⟩ : ∃ f, l[k] = f := ⟨_, rfl⟩
      rw [hf] at ca0 ca1 ca2 cb0 cb1 cb2
      have hlta := Has.lt (Has.below HA.out hbel (Has.lt HA.out))
      have hltb := Has.lt (Has.below HB.out hbel (Has.lt HB.out))
      clear hf
      go_wp2
      go_region_with (go_at_call 50; refine (eqF fk fc fp _).mono ?_; rintro e w1 ⟨rfl, hb1⟩)
      all_goals go_wp2
      all_goals go_roundw
      all_goals first | exact ⟨k + 1, by omega, by go_num, hbel.drew.trans (hb1.mono hbel.size)⟩ | (simp [intOf]; omega)
    · obtain rfl : k = l.length := by omega
      go_wp2
      go_ret
      exact ⟨rfl, hbel⟩

theorem rows_cons (f : Fr) (l : List Fr) : rows (f :: l) = cells f ++ rows l := by simp [rows]
theorem set_k : ∀ (l : List Fr) (i : Nat) (h : i < l.length) (a : Int), (rows l).set (i * 3) (.int .i64 a) = rows (l.set i ⟨a, l[i].c, l[i].p⟩)
  | [], i, h, a => by simp at h
  | f :: l, 0, h, a => by simp [rows, cells]
  | f :: l, i + 1, h, a => by
    have ih := set_k l i (by simpa using h) a
    rw [rows_cons, List.set_append_right _ _ (by simp [cells]; omega), show (i + 1) * 3 - (cells f).length = i * 3 by simp [cells]; omega, ih, List.set_cons_succ, rows_cons]
    simp
theorem set_c : ∀ (l : List Fr) (i : Nat) (h : i < l.length) (a : Int), (rows l).set (i * 3 + 1) (.int .i64 a) = rows (l.set i ⟨l[i].k, a, l[i].p⟩)
  | [], i, h, a => by simp at h
  | f :: l, 0, h, a => by simp [rows, cells]
  | f :: l, i + 1, h, a => by
    have ih := set_c l i (by simpa using h) a
    rw [rows_cons, List.set_append_right _ _ (by simp [cells]; omega), show (i + 1) * 3 + 1 - (cells f).length = i * 3 + 1 by simp [cells]; omega, ih, List.set_cons_succ, rows_cons]
    simp
theorem set_p : ∀ (l : List Fr) (i : Nat) (h : i < l.length) (a : ByteArray), (rows l).set (i * 3 + 2) (.string a) = rows (l.set i ⟨l[i].k, l[i].c, a⟩)
  | [], i, h, a => by simp at h
  | f :: l, 0, h, a => by simp [rows, cells]
  | f :: l, i + 1, h, a => by
    have ih := set_p l i (by simpa using h) a
    rw [rows_cons, List.set_append_right _ _ (by simp [cells]; omega), show (i + 1) * 3 + 2 - (cells f).length = i * 3 + 2 by simp [cells]; omega, ih, List.set_cons_succ, rows_cons]
    simp
theorem Has.put {w : World} {g cap : Nat} {l l' : List Fr} {j : Nat} {u : Value} (h : Has w g cap l) (hl : l'.length = l.length) (e : (rows l).set j u = rows l') : Has (w.setCell ⟨g, j, none⟩ u) g cap l' := by
  obtain ⟨cur, h1, h2, h3, h4⟩ := h
  refine ⟨cur.setIfInBounds j u, heap_setCell_same w g j cur _ _ h1, by omega, by simpa using h3, ?_⟩
  rw [hl, Array.toList_setIfInBounds, List.take_set, h4, e]

/-- the marks of frame i -/
def mk (k0 i : Nat) : Fr := ⟨(k0 + 3 * i : Nat), (k0 + 3 * i + 1 : Nat), sm.mt (k0 + 3 * i + 2)⟩
def part (k0 : Nat) (l : List Fr) (k : Nat) : List Fr := ((List.range k).map (mk k0)) ++ l.drop k
theorem part_length (k0 : Nat) (l : List Fr) (k : Nat) (h : k ≤ l.length) : (part k0 l k).length = l.length := by simp [part]; omega
theorem part_next (k0 : Nat) {k : Nat} (l : List Fr) (h : k < l.length) : (part k0 l k).set k (mk k0 k) = part k0 l (k + 1) := by
  unfold part
  rw [List.drop_eq_getElem_cons h, List.range_succ, List.map_append, List.set_append_right _ _ (by simp)]
  simp only [List.length_map, List.length_range, Nat.sub_self, List.set_cons_zero, List.map_cons, List.map_nil, List.append_assoc, List.cons_append, List.nil_append]
theorem part_all (k0 : Nat) (l : List Fr) : part k0 l l.length = (List.range l.length).map (mk k0) := by simp [part]

set_option maxHeartbeats 1000000 in
theorem mark_frames (l : List Fr) (g c k0 : Nat) (w : World) (hl : l.length ≤ 2000000) (hk0 : 1 ≤ k0 ∧ k0 ≤ 1000000000000) (ha : Has w g c l) :
    Calls Try.prog 52 #[.slice (some ⟨g, 0, none⟩) l.length c, .int .i64 k0] w fun e w' => e = .returned (.int .i64 (k0 + 3 * l.length : Nat)) ∧ Below g w w' ∧ Has w' g c ((List.range l.length).map (mk k0)) := by
  have HA : Hid (Has w g c l) := ha
  clear ha
  go_enter Try.func52, Try.ntmps52
  go_wp2
  go_loopw [1, 5] (fun y x wr => ∃ k : Nat, k ≤ l.length ∧ x = .int .i64 k ∧ y = .int .i64 (k0 + 3 * k : Nat) ∧ Below g w wr ∧ Hid (Has wr g c (part k0 l k))) (fun _ x _ => l.length - (intOf x).toNat)
  case atStart => exact ⟨0, Nat.zero_le _, rfl, rfl, Below.refl _ _, by unfold Hid; simpa [part] using HA.out⟩
  case round =>
    obtain ⟨k, hk, rfl, rfl, hbel, hhas⟩ := hrel
    by_cases hkl : k < l.length
    · have hlp := part_length k0 l k hk
      obtain ⟨L, hL⟩ : ∃ L, part k0 l k = L := ⟨_, rfl⟩
      have HN : Hid (L.set k (mk k0 k) = part k0 l (k + 1)) := by unfold Hid; rw [← hL]; exact part_next k0 l hkl
      rw [hL] at hhas hlp
      have hkL : k < L.length := by omega
      obtain ⟨m, hm⟩ : ∃ m, k0 + 3 * k = m := ⟨_, rfl⟩
      rw [hm]
      have hm9 : m ≤ 9000000000000 := by omega
      have hh1 := Has.put (j := k * 3) (u := .int .i64 (m : Int)) hhas.out (l' := L.set k ⟨(m : Int), L[k].c, L[k].p⟩) (by simp) (set_k L k hkL m)
      have hh2 := Has.put (j := k * 3 + 1) (u := .int .i64 ((m : Int) + 1)) hh1 (l' := (L.set k ⟨(m : Int), L[k].c, L[k].p⟩).set k ⟨(m : Int), (m : Int) + 1, L[k].p⟩) (by simp) (by rw [set_c _ k (by simpa using hkL)]; simp)
      have hlt := Has.lt hhas.out
      obtain ⟨ca0, ca1, ca2⟩ := Has.at hhas.out k hkL
      have fa0 := Has.frozen hhas.out (k * 3)
      have fa1 := Has.frozen hhas.out (k * 3 + 1)
      have HMK : Hid (mk k0 k = ⟨(m : Int), (m : Int) + 1, sm.mt (m + 2)⟩) := by unfold Hid mk; rw [hm]; simp
      have HM : Hid (k0 + 3 * k = m) := hm
      have hmt := fun W => sm.mark_text (m + 2) W (by omega) (by omega)
      have ec : ((m + 2 : Nat) : Int) = (m : Int) + 1 + 1 := by omega
      rw [ec] at hmt
      have HH2 : Hid (Has ((wr.setCell ⟨g, k * 3, none⟩ (.int .i64 (m : Int))).setCell ⟨g, k * 3 + 1, none⟩ (.int .i64 ((m : Int) + 1))) g c ((L.set k ⟨(m : Int), L[k].c, L[k].p⟩).set k ⟨(m : Int), (m : Int) + 1, L[k].p⟩)) := hh2
      clear hL hm ec hh1 hh2 hhas
      go_wp2_with (go_at_call 77; refine (hmt _).mono ?_; rintro e w1 ⟨rfl, hb1⟩; have hh3 := Has.below HH2.out hb1 (Has.lt HH2.out); have ca3 := (Has.at hh3 k (by simpa using hkL)).2.2; have fa3 := Has.frozen hh3 (k * 3 + 2))
      have hh4 := Has.put (j := k * 3 + 2) (u := .string (sm.mt (m + 2))) hh3 (l' := part k0 l (k + 1)) (by rw [part_length k0 l (k + 1) (by omega)]; simp [hlp]) (by rw [set_p _ k (by simpa using hkL), ← HN.out, HMK.out]; simp)
      have hb4 : Below g w (w1.setCell ⟨g, k * 3 + 2, none⟩ (.string (sm.mt (m + 2)))) := (((hbel.setCell (p := ⟨g, k * 3, none⟩) (Nat.le_refl _) (.int .i64 (m : Int))).setCell (p := ⟨g, k * 3 + 1, none⟩) (Nat.le_refl _) (.int .i64 ((m : Int) + 1))).trans (hb1.mono (Nat.le_of_lt (Has.lt HH2.out)))).setCell (p := ⟨g, k * 3 + 2, none⟩) (Nat.le_refl _) _
      go_roundw
      case rel => exact ⟨k + 1, by omega, by go_num, by rw [show k0 + 3 * (k + 1) = m + 3 by have := HM.out; omega]; go_num, hb4, hh4⟩
      case measure => simp [intOf]; omega
    · obtain rfl : k = l.length := by omega
      rw [part_all] at hhas
      go_wp2
      go_ret
      exact ⟨rfl, hbel, hhas.out⟩

set_option maxHeartbeats 1000000 in
theorem held_frames (n g c k0 : Nat) (w : World) (hl : n ≤ 2000000) (hk0 : 1 ≤ k0 ∧ k0 ≤ 1000000000000) (ha : Has w g c ((List.range n).map (mk k0))) :
    Calls Try.prog 53 #[.slice (some ⟨g, 0, none⟩) n c, .int .i64 k0] w fun e w' => e = .returned (.int .i64 (k0 + 3 * n : Nat)) ∧ Below w.heap.size w w' := by
  have HA : Hid (Has w g c ((List.range n).map (mk k0))) := ha
  clear ha
  go_enter Try.func53, Try.ntmps53
  go_wp2
  go_loopw [1, 5] (fun y x wr => ∃ k : Nat, k ≤ n ∧ x = .int .i64 k ∧ y = .int .i64 (k0 + 3 * k : Nat) ∧ Below w.heap.size w wr) (fun _ x _ => n - (intOf x).toNat)
  case atStart => exact ⟨0, Nat.zero_le _, rfl, rfl, Below.refl _ _⟩
  case round =>
    obtain ⟨k, hk, rfl, rfl, hbel⟩ := hrel
    by_cases hkl : k < n
    · have hhas := Has.below HA.out hbel (Has.lt HA.out)
      obtain ⟨ca0, ca1, ca2⟩ := Has.at hhas k (by simpa using hkl)
      have hx : ((List.range n).map (mk k0))[k]'(by simpa using hkl) = mk k0 k := by simp
      obtain ⟨m, hm⟩ : ∃ m, k0 + 3 * k = m := ⟨_, rfl⟩
      have hmk : mk k0 k = ⟨(m : Int), (m : Int) + 1, sm.mt (m + 2)⟩ := by unfold mk; rw [hm]; simp
      rw [hx, hmk] at ca0 ca1 ca2
      rw [hm]
      have hm9 : m ≤ 9000000000000 := by omega
      have HM : Hid (k0 + 3 * k = m) := hm
      have hmt := fun W => sm.mark_text (m + 2) W (by omega) (by omega)
      have ec : ((m + 2 : Nat) : Int) = (m : Int) + 1 + 1 := by omega
      rw [ec] at hmt
      have hlt := Has.lt hhas
      clear hx hmk hm ec hhas
      go_wp2
      go_region_with (go_at_call 77; refine (hmt _).mono ?_; rintro e w1 ⟨rfl, hb1⟩; have ca3 : w1.cell? ⟨g, k * 3 + 2, none⟩ = some (.string (sm.mt (m + 2))) := (hb1.cell (by exact hlt)).trans ca2)
      all_goals go_wp2
      all_goals go_roundw
      all_goals first | exact ⟨k + 1, by omega, by go_num, by rw [show k0 + 3 * (k + 1) = m + 3 by have := HM.out; omega]; go_num, hbel.drew.trans (hb1.mono hbel.size)⟩ | (simp [intOf]; omega)
    · obtain rfl : k = n := by omega
      go_wp2
      go_ret
      exact ⟨rfl, hbel⟩

theorem eq_zero (a a' : Option Addr) (c c' : Nat) (w : World) : Calls Try.prog 51 #[.slice a 0 c, .slice a' 0 c'] w fun e w' => e = .returned (.bool true) ∧ w = w' := by
  go_enter Try.func51, Try.ntmps51
  go_wp2
  go_loop [5] (fun x => x = .int .i64 0) (fun _ => 0)
  case atStart => rfl
  case round =>
    subst hrel
    go_wp2
    go_ret
    exact ⟨rfl, rfl⟩
theorem mark_zero (a : Option Addr) (c : Nat) (k : Int) (w : World) : Calls Try.prog 52 #[.slice a 0 c, .int .i64 k] w fun e w' => e = .returned (.int .i64 k) ∧ w = w' := by
  go_enter Try.func52, Try.ntmps52
  go_wp2
  go_loop [1, 5] (fun y x => x = .int .i64 0 ∧ y = .int .i64 k) (fun _ _ => 0)
  case atStart => exact ⟨rfl, rfl⟩
  case round =>
    obtain ⟨rfl, rfl⟩ := hrel
    go_wp2
    go_ret
    exact ⟨rfl, rfl⟩
theorem held_zero (a : Option Addr) (c : Nat) (k : Int) (w : World) : Calls Try.prog 53 #[.slice a 0 c, .int .i64 k] w fun e w' => e = .returned (.int .i64 k) ∧ w = w' := by
  go_enter Try.func53, Try.ntmps53
  go_wp2
  go_loop [1, 5] (fun y x => x = .int .i64 0 ∧ y = .int .i64 k) (fun _ _ => 0)
  case atStart => exact ⟨rfl, rfl⟩
  case round =>
    obtain ⟨rfl, rfl⟩ := hrel
    go_wp2
    go_ret
    exact ⟨rfl, rfl⟩
theorem rowed_nil {w : World} {B : Nat} {v : Value} (h : Rowed w B v []) : ∃ a c, v = .slice a 0 c := by
  rcases h with ⟨_, h⟩ | ⟨g, cap, hv, _⟩
  · exact h
  · exact ⟨_, _, hv⟩
theorem rowed_cons {w : World} {B : Nat} {v : Value} {l : List Fr} (hl : l ≠ []) (h : Rowed w B v l) : ∃ g cap, v = .slice (some ⟨g, 0, none⟩) l.length cap ∧ B ≤ g ∧ Has w g cap l := by
  rcases h with ⟨h, _⟩ | h
  · exact absurd h hl
  · exact h
end Go.Proofs.Ytkddnennodonhaa.fk
