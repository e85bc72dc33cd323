/- Methods in memory, and what the laws' own functions szMethod, toMethod and eqMethod do with them. -/
import Derived.Test.YtnmooolnmhidbaaDoorLists
namespace Go.Proofs.YtnmooolnmhidbaaDoor.me
open Go.ChangeShapes Go.WideShapes Go.ChangeAt Go.RowKit Go.Proofs.YtnmooolnmhidbaaDoor.ls

theorem inn {α : Type} {f : α → Value} {w W : World} {a : Option Addr} {l : List α} (h : Sl f w w.heap.size a l) (hb : Below w.heap.size w W) : Sl f W W.heap.size a l := (h.below hb).mono hb.size
theorem bcell {W w1 : World} (hb : Below W.heap.size W w1) : (∀ b o, b < W.heap.size → w1.cell? ⟨b, o, none⟩ = W.cell? ⟨b, o, none⟩) ∧ (∀ b o, b < W.heap.size → w1.frozen? ⟨b, o, none⟩ = W.frozen? ⟨b, o, none⟩) :=
  ⟨fun b o h => hb.cell (p := ⟨b, o, none⟩) h, fun b o h => hb.frozen (p := ⟨b, o, none⟩) h⟩

theorem cell_of {w : World} {b o : Nat} {cs : Array Value} {t : TypeId} {fz : Nat × Nat} {v : Value} (h : w.heap[b]? = some (.cells cs t fz)) (hv : cs[o]? = some v) : w.cell? ⟨b, o, none⟩ = some v := by
  simp [World.cell?, h, hv]
theorem free_of {w : World} {b o : Nat} {cs : Array Value} {t : TypeId} (h : w.heap[b]? = some (.cells cs t (0, 0))) : w.frozen? ⟨b, o, none⟩ = false := by
  simp [World.frozen?, h]
theorem has_other {w : World} {g cap : Nat} {l : List ByteArray} (h : sm.Has w g cap l) {a : Addr} (ha : g ≠ a.block) (v : Value) : sm.Has (w.setCell a v) g cap l := by
  obtain ⟨cur, h1, h2⟩ := h
  exact ⟨cur, by rw [RowKit.Below.heap_setCell _ _ _ _ ha]; exact h1, h2⟩
theorem hasI_other {w : World} {g cap : Nat} {l : List Int} (h : HasI w g cap l) {a : Addr} (ha : g ≠ a.block) (v : Value) : HasI (w.setCell a v) g cap l := by
  obtain ⟨cur, h1, h2⟩ := h
  exact ⟨cur, by rw [RowKit.Below.heap_setCell _ _ _ _ ha]; exact h1, h2⟩

theorem sz_method (c i : Int) (ts : List ByteArray) (ns : List Int) (ta na : Option Addr) (tc nc : Nat) (w : World) (hl : ts.length ≤ maxLen) (hx : ∀ x ∈ ts, x.size ≤ maxLen) (hn : ns.length ≤ maxLen) (hS : Sl Value.string w w.heap.size ta ts) :
    Calls Tryd.prog 8 #[.agg #[.int .i64 c, .int .i64 i, .slice ta ts.length tc, .slice na ns.length nc], .int .i64 1048576] w fun e w' => ∃ r : Int, e = .returned (.int .i64 r) ∧ (0 ≤ r → ts.length + bulk ts + ns.length ≤ 1048576) ∧ -1 ≤ r ∧ r ≤ 1048576 ∧ Below w.heap.size w w' := by
  have hS1 : Sl Value.string (w.alloc (.cells #[.int .i64 c, .int .i64 i, .slice ta ts.length tc, .slice na ns.length nc] 25)) (w.alloc (.cells #[.int .i64 c, .int .i64 i, .slice ta ts.length tc, .slice na ns.length nc] 25)).heap.size ta ts := (hS.below ((Below.refl _ _).alloc (Nat.le_refl _) _)).mono (by simp)
  have c1 := sz_strs ts ta tc 1048576 _ hl hx (by omega) (by omega) hS1
  clear hS hS1
  have HX : Hid (∀ x ∈ ts, x.size ≤ maxLen) := hx
  clear hx
  go_enter Tryd.func8, Tryd.ntmps8
  go_wp2_with (first | (go_at_call 26; refine c1.mono ?_; rintro e w1 ⟨r, rfl, hr, hr0, hr1, rfl⟩) | (go_at_call 27; refine (sz_ints ns.length na nc r _ hn hr0 hr1).mono ?_; rintro e w2 ⟨q, rfl, hq, hq0, hq1, rfl⟩))
  · go_ret
    exact ⟨-1, rfl, by omega, by omega, by omega, (Below.refl _ _).alloc (Nat.le_refl _) _⟩
  · go_ret
    exact ⟨-1, rfl, by omega, by omega, by omega, (Below.refl _ _).alloc (Nat.le_refl _) _⟩
  · go_ret
    exact ⟨q, rfl, fun _ => by have := hr (by omega); have := hq (by omega); omega, by omega, by omega, (Below.refl _ _).alloc (Nat.le_refl _) _⟩

theorem to_method (c i : Int) (ts : List ByteArray) (ns : List Int) (ta na : Option Addr) (tc nc : Nat) (w : World) (hl : ts.length ≤ 1048576) (hn : ns.length ≤ 1048576) (hS : Sl Value.string w w.heap.size ta ts) (hI : Sl (Value.int .i64) w w.heap.size na ns) :
    Calls Tryd.prog 10 #[.agg #[.int .i64 c, .int .i64 i, .slice ta ts.length tc, .slice na ns.length nc]] w fun e w' => ∃ g h, e = .returned (.agg #[.int .i64 c, .int .i64 i, .slice (some ⟨g, 0, none⟩) ts.length ts.length, .slice (some ⟨h, 0, none⟩) ns.length ns.length]) ∧
      sm.Has w' g ts.length ts ∧ HasI w' h ns.length ns ∧ w.heap.size ≤ g ∧ g < h ∧ h < w'.heap.size ∧ Below w.heap.size w w' := by
  have HS : Hid (Sl Value.string w w.heap.size ta ts) := hS
  have HI : Hid (Sl (Value.int .i64) w w.heap.size na ns) := hI
  clear hS hI
  go_enter Tryd.func10, Tryd.ntmps10
  go_wp2_with (go_at_call 31; refine (to_strs ts ta tc _ hl (inn HS.out ((((Below.refl _ _).alloc (Nat.le_refl _) _).alloc (by simp) _).alloc (by simp; omega) _))).mono ?_; rintro e w1 ⟨rfl, hh1, hb1⟩; obtain ⟨hc1, hf1⟩ := bcell hb1; have hz1 := hb1.size)
  have hbw : Below w.heap.size w w1 := ((((Below.refl _ _).alloc (Nat.le_refl _) _).alloc (by simp) _).alloc (by simp; omega) _).trans (hb1.mono (by simp; omega))
  have hw1 : w.heap.size + 1 + 1 + 1 < w1.heap.size := by have := hh1.lt; simpa using this
  have hh1' : sm.Has w1 (w.heap.size + 1 + 1 + 1) ts.length ts := by simpa using hh1
  have HH1 : Hid (sm.Has w1 (w.heap.size + 1 + 1 + 1) ts.length ts) := hh1'
  clear hh1 hh1' hz1
  have b1 : w1.heap[w.heap.size + 1]? = some (.cells #[.int .i64 0, .int .i64 0, .slice none 0 0, .slice none 0 0] 28 (0, 0)) := by
    rw [hb1.block _ (by simp), heap_alloc_old _ _ (by simp), show w.heap.size + 1 = (w.alloc (.cells #[.int .i64 c, .int .i64 i, .slice ta ts.length tc, .slice na ns.length nc] 25)).heap.size by simp]
    exact (MapKept.heap_alloc _ _).1
  have b2 : w1.heap[w.heap.size + 1 + 1]? = some (.cells #[.int .i64 c, .int .i64 i, .slice none 0 0, .slice none 0 0] 28 (0, 0)) := by
    rw [hb1.block _ (by simp), show w.heap.size + 1 + 1 = ((w.alloc (.cells #[.int .i64 c, .int .i64 i, .slice ta ts.length tc, .slice na ns.length nc] 25)).alloc (.cells #[.int .i64 0, .int .i64 0, .slice none 0 0, .slice none 0 0] 28)).heap.size by simp]
    exact (MapKept.heap_alloc _ _).1
  have b2' := heap_setCell_same w1 (w.heap.size + 1 + 1) 2 _ _ (.slice (some ⟨w.heap.size + 1 + 1 + 1, 0, none⟩) ts.length ts.length) b2
  have b1' := (RowKit.Below.heap_setCell w1 ⟨w.heap.size + 1 + 1, 2, none⟩ (.slice (some ⟨w.heap.size + 1 + 1 + 1, 0, none⟩) ts.length ts.length) (w.heap.size + 1) (by simp)).trans b1
  have HH1' := has_other HH1.out (a := ⟨w.heap.size + 1 + 1, 2, none⟩) (by simp) (.slice (some ⟨w.heap.size + 1 + 1 + 1, 0, none⟩) ts.length ts.length)
  have hbw' : Below w.heap.size w (w1.setCell ⟨w.heap.size + 1 + 1, 2, none⟩ (.slice (some ⟨w.heap.size + 1 + 1 + 1, 0, none⟩) ts.length ts.length)) := hbw.setCell (by simp; omega) _
  have hsz' : (w1.setCell ⟨w.heap.size + 1 + 1, 2, none⟩ (.slice (some ⟨w.heap.size + 1 + 1 + 1, 0, none⟩) ts.length ts.length)).heap.size = w1.heap.size := by simp
  clear hc1 hf1 hb1 b1 b2 HH1
  refine (to_ints ns na nc _ hn (inn HI.out hbw')).mono ?_
  rintro e w2 ⟨rfl, hh2, hb2⟩
  rw [hsz'] at hb2 hh2
  have hz2 : w1.heap.size < w2.heap.size := hh2.lt
  have c2 := (hb2.block (w.heap.size + 1 + 1) (by omega)).trans b2'
  have c1 := (hb2.block (w.heap.size + 1) (by omega)).trans b1'
  have g1 := HH1'.below hb2 hw1
  have hbw2 := hbw'.trans (hb2.mono (by omega))
  clear hb2 b1' b2' HH1' hbw' hsz' HS HI
  simp at c2
  have k0 := cell_of (o := 0) c2 rfl
  have k1 := cell_of (o := 1) c2 rfl
  have k2 := cell_of (o := 2) c2 rfl
  have k3 := cell_of (o := 3) c2 rfl
  have f3 := free_of (o := 3) c2
  have j0 := cell_of (o := 0) c1 rfl
  have j1 := cell_of (o := 1) c1 rfl
  have j2 := cell_of (o := 2) c1 rfl
  have j3 := cell_of (o := 3) c1 rfl
  have l0 := free_of (o := 0) c1
  have l1 := free_of (o := 1) c1
  have l2 := free_of (o := 2) c1
  have l3 := free_of (o := 3) c1
  have G1 : Hid (sm.Has w2 (w.heap.size + 1 + 1 + 1) ts.length ts) := g1
  have H2 : Hid (HasI w2 w1.heap.size ns.length ns) := hh2
  clear g1 hh2 c1 c2
  go_wp2
  refine bodyPost_ret (v := .agg #[.int .i64 c, .int .i64 i, .slice (some ⟨w.heap.size + 1 + 1 + 1, 0, none⟩) ts.length ts.length, .slice (some ⟨w1.heap.size, 0, none⟩) ns.length ns.length]) (by simp [results, Tryd.results10, go_sem, j0, j1, j2, j3]) rfl
    ⟨w.heap.size + 1 + 1 + 1, w1.heap.size, rfl, ?_, ?_, by omega, by omega, by simp; omega, ?_⟩
  · exact has_other (has_other (has_other (has_other (has_other G1.out (by simp) _) (by simp; omega) _) (by simp; omega) _) (by simp; omega) _) (by simp; omega) _
  · exact hasI_other (hasI_other (hasI_other (hasI_other (hasI_other H2.out (by simp; omega) _) (by simp; omega) _) (by simp; omega) _) (by simp; omega) _) (by simp; omega) _
  · exact ((((hbw2.setCell (by simp; omega) _).setCell (by simp) _).setCell (by simp) _).setCell (by simp) _).setCell (by simp) _

theorem eq_method (c i : Int) (ts : List ByteArray) (ns : List Int) (ta na ta' na' : Option Addr) (tc nc tc' nc' : Nat) (w : World) (hl : ts.length ≤ 2000000) (hn : ns.length ≤ 2000000) (hS : Sl Value.string w w.heap.size ta ts) (hI : Sl (Value.int .i64) w w.heap.size na ns)
    (hS' : Sl Value.string w w.heap.size ta' ts) (hI' : Sl (Value.int .i64) w w.heap.size na' ns) :
    Calls Tryd.prog 12 #[.agg #[.int .i64 c, .int .i64 i, .slice ta ts.length tc, .slice na ns.length nc], .agg #[.int .i64 c, .int .i64 i, .slice ta' ts.length tc', .slice na' ns.length nc']] w fun e w' => e = .returned (.bool true) ∧ Below w.heap.size w w' := by
  have hb : Below w.heap.size w ((w.alloc (.cells #[.int .i64 c, .int .i64 i, .slice ta ts.length tc, .slice na ns.length nc] 28)).alloc (.cells #[.int .i64 c, .int .i64 i, .slice ta' ts.length tc', .slice na' ns.length nc'] 28)) := ((Below.refl _ _).alloc (Nat.le_refl _) _).alloc (by simp) _
  have e1 := eq_strs ts ta ta' tc tc' _ hl (inn hS hb) (inn hS' hb)
  have HI : Hid (Sl (Value.int .i64) w w.heap.size na ns) := hI
  have HI' : Hid (Sl (Value.int .i64) w w.heap.size na' ns) := hI'
  clear hS hS' hI hI'
  go_enter Tryd.func12, Tryd.ntmps12
  go_wp2_with (first | (go_at_call 34; refine e1.mono ?_; rintro e w1 ⟨rfl, hb1⟩; obtain ⟨hc1, hf1⟩ := bcell hb1; have hbw := hb.trans (hb1.mono (by simp; omega))) | (go_at_call 35; refine (eq_ints ns na na' nc nc' _ hn (inn HI.out hbw) (inn HI'.out hbw)).mono ?_; rintro e w2 ⟨rfl, hb2⟩))
  go_ret
  exact ⟨rfl, hbw.trans (hb2.mono hbw.size)⟩
end Go.Proofs.YtnmooolnmhidbaaDoor.me
