/- Methods in memory, and what the laws' own functions szMethod, toMethod and eqMethod do with them. -/
import Derived.Test.YtiphjegaodaooaaLists0
namespace Go.Proofs.Ytiphjegaodaooaa.me
open Go.ChangeShapes Go.WideShapes Go.ChangeAt Go.RowKit Go.Proofs.Ytiphjegaodaooaa.ls

theorem inn {α : Type} {f : α → Value} {w W : World} {a : Option Addr} {l : List α} (h : Sl f w w.heap.size a l) (hb : Below w.heap.size w W) : Sl f W W.heap.size a l := (h.below hb).mono hb.size
theorem bcell {W w1 : World} (hb : Below W.heap.size W w1) : (∀ b o, b < W.heap.size → w1.cell? ⟨b, o, none⟩ = W.cell? ⟨b, o, none⟩) ∧ (∀ b o, b < W.heap.size → w1.frozen? ⟨b, o, none⟩ = W.frozen? ⟨b, o, none⟩) :=
  ⟨fun b o h => hb.cell (p := ⟨b, o, none⟩) h, fun b o h => hb.frozen (p := ⟨b, o, none⟩) h⟩

theorem cell_of {w : World} {b o : Nat} {cs : Array Value} {t : TypeId} {fz : Nat × Nat} {v : Value} (h : w.heap[b]? = some (.cells cs t fz)) (hv : cs[o]? = some v) : w.cell? ⟨b, o, none⟩ = some v := by
  simp [World.cell?, h, hv]
theorem free_of {w : World} {b o : Nat} {cs : Array Value} {t : TypeId} (h : w.heap[b]? = some (.cells cs t (0, 0))) : w.frozen? ⟨b, o, none⟩ = false := by
  simp [World.frozen?, h]
theorem has_other {w : World} {g cap : Nat} {l : List ByteArray} (h : sm.Has w g cap l) {a : Addr} (ha : g ≠ a.block) (v : Value) : sm.Has (w.setCell a v) g cap l := by
  obtain ⟨cur, h1, h2⟩ := h
  exact ⟨cur, by rw [RowKit.Below.heap_setCell _ _ _ _ ha]; exact h1, h2⟩
theorem hasI_other {w : World} {g cap : Nat} {l : List Int} (h : HasI w g cap l) {a : Addr} (ha : g ≠ a.block) (v : Value) : HasI (w.setCell a v) g cap l := by
  obtain ⟨cur, h1, h2⟩ := h
  exact ⟨cur, by rw [RowKit.Below.heap_setCell _ _ _ _ ha]; exact h1, h2⟩

theorem eq_method (c i : Int) (ts : List ByteArray) (ns : List Int) (ta na ta' na' : Option Addr) (tc nc tc' nc' : Nat) (w : World) (hl : ts.length ≤ 2000000) (hn : ns.length ≤ 2000000) (hS : Sl Value.string w w.heap.size ta ts) (hI : Sl (Value.int .i64) w w.heap.size na ns)
    (hS' : Sl Value.string w w.heap.size ta' ts) (hI' : Sl (Value.int .i64) w w.heap.size na' ns) :
    Calls Try.prog 17 #[.agg #[.int .i64 c, .int .i64 i, .slice ta ts.length tc, .slice na ns.length nc], .agg #[.int .i64 c, .int .i64 i, .slice ta' ts.length tc', .slice na' ns.length nc']] w fun e w' => e = .returned (.bool true) ∧ Below w.heap.size w w' := by
  have hb : Below w.heap.size w ((w.alloc (.cells #[.int .i64 c, .int .i64 i, .slice ta ts.length tc, .slice na ns.length nc] 25)).alloc (.cells #[.int .i64 c, .int .i64 i, .slice ta' ts.length tc', .slice na' ns.length nc'] 25)) := ((Below.refl _ _).alloc (Nat.le_refl _) _).alloc (by simp) _
  have e1 := eq_strs ts ta ta' tc tc' _ hl (inn hS hb) (inn hS' hb)
  have HI : Hid (Sl (Value.int .i64) w w.heap.size na ns) := hI
  have HI' : Hid (Sl (Value.int .i64) w w.heap.size na' ns) := hI'
  clear hS hS' hI hI'
  go_enter Try.func17, Try.ntmps17
  go_wp2_with (first | (go_at_call 29; refine e1.mono ?_; rintro e w1 ⟨rfl, hb1⟩; obtain ⟨hc1, hf1⟩ := bcell hb1; have hbw := hb.trans (hb1.mono (by simp; omega))) | (go_at_call 30; refine (eq_ints ns na na' nc nc' _ hn (inn HI.out hbw) (inn HI'.out hbw)).mono ?_; rintro e w2 ⟨rfl, hb2⟩))
  go_ret
  exact ⟨rfl, hbw.trans (hb2.mono hbw.size)⟩
end Go.Proofs.Ytiphjegaodaooaa.me
