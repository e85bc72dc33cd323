/- The program's MethodOk and PutMethod, out of its writer; they lay new memory alone. -/
import Derived.Test.YtnmooolnmhidbaaDoorWriteWalks
namespace Go.Proofs.YtnmooolnmhidbaaDoor.mi
set_option linter.unusedVariables false
open Go.ChangeShapes Go.WideShapes Go.ChangeAt Go.RowKit Go.Proofs.YtnmooolnmhidbaaDoor.ls Go.Proofs.YtnmooolnmhidbaaDoor.me Go.Proofs.YtnmooolnmhidbaaDoor.mp Go.Proofs.YtnmooolnmhidbaaDoor.wm

abbrev Tab (w : World) : Prop := Lib.TabIs Tryd.prog w "internal/strconv.uint64pow10" .u64 Lib.pow10Tab
theorem tab_on {w W : World} (h : Tab w) (hb : Below w.heap.size w W) : Tab W := Lib.tabBelow_of_tabIs h W hb

/-- a method as it lies in memory, small enough -/
structure M (w : World) (c i : Int) (ts : List ByteArray) (ns : List Int) (ta na : Option Addr) (tc nc : Nat) : Prop where
  wc : (Lit.int .i64 c).wf = true
  wi : (Lit.int .i64 i).wf = true
  tl : ts.length ≤ 1048576
  tx : ∀ x ∈ ts, x.size ≤ 1048576
  nl : ns.length ≤ 1048576
  nw : ∀ x ∈ ns, (Lit.int .i64 x).wf = true
  st : Sl Value.string w w.heap.size ta ts
  sn : Sl (Value.int .i64) w w.heap.size na ns
  ct : ts.length ≤ tc
  cn : ns.length ≤ nc
theorem M.on {w W : World} {c i : Int} {ts : List ByteArray} {ns : List Int} {ta na : Option Addr} {tc nc : Nat} (h : M w c i ts ns ta na tc nc) (hb : Below w.heap.size w W) : M W c i ts ns ta na tc nc :=
  { h with st := inn h.st hb, sn := inn h.sn hb }

theorem write (c i : Int) (ts : List ByteArray) (ns : List Int) (ta na : Option Addr) (tc nc : Nat) (w : World) (h : M w c i ts ns ta na tc nc) (ht : Tab w) :
    Calls Tryd.prog 33 #[.agg #[.int .i64 c, .int .i64 i, .slice ta ts.length tc, .slice na ns.length nc]] w (Post c i ts ns w) :=
  impl_write c i ts ns ta na tc nc w h.wc h.wi h.tl h.tx h.nl h.nw h.st h.sn h.ct h.cn (Lib.tabBelow_of_tabIs ht)

theorem impl_ok (c i : Int) (ts : List ByteArray) (ns : List Int) (ta na : Option Addr) (tc nc : Nat) (w : World) (h : M w c i ts ns ta na tc nc) (ht : Tab w) :
    Calls Tryd.prog 11 #[.agg #[.int .i64 c, .int .i64 i, .slice ta ts.length tc, .slice na ns.length nc]] w fun e w' => e = .returned (.bool (ok c i ts ns)) ∧ Below w.heap.size w w' := by
  have hb : Below w.heap.size w (w.alloc (.cells #[.int .i64 c, .int .i64 i, .slice ta ts.length tc, .slice na ns.length nc] 28)) := (Below.refl _ _).alloc (Nat.le_refl _) _
  have hw := write c i ts ns ta na tc nc _ (h.on hb) (tab_on ht hb)
  clear h ht
  go_enter Tryd.func11, Tryd.ntmps11
  go_wp2_with (go_at_call 33; refine hw.mono ?_; rintro e w1 ⟨a1, a2, a3, l1, l2, l3, c1, c2, c3, rfl, hown, hb1⟩)
  go_ret
  exact ⟨rfl, (hb.trans (hb1.mono (by simp))).alloc (by have := hb1.size; simp at this; omega) _⟩

theorem impl_put (c i : Int) (ts : List ByteArray) (ns : List Int) (ta na : Option Addr) (tc nc : Nat) (w : World) (h : M w c i ts ns ta na tc nc) (ht : Tab w) :
    Calls Tryd.prog 14 #[.agg #[.int .i64 c, .int .i64 i, .slice ta ts.length tc, .slice na ns.length nc]] w fun e w' => e = .returned (.string (outB c i ts ns)) ∧ Below w.heap.size w w' := by
  have hb : Below w.heap.size w (w.alloc (.cells #[.int .i64 c, .int .i64 i, .slice ta ts.length tc, .slice na ns.length nc] 28)) := (Below.refl _ _).alloc (Nat.le_refl _) _
  have hw := write c i ts ns ta na tc nc _ (h.on hb) (tab_on ht hb)
  clear h ht
  go_enter Tryd.func14, Tryd.ntmps14
  go_wp2_with (go_at_call 33; refine hw.mono ?_; rintro e w1 ⟨a1, a2, a3, l1, l2, l3, c1, c2, c3, rfl, hown, hb1⟩)
  go_ret
  exact ⟨rfl, (hb.trans (hb1.mono (by simp))).alloc (by have := hb1.size; simp at this; omega) _⟩
end Go.Proofs.YtnmooolnmhidbaaDoor.mi
