/- Lists of replies as they lie; the laws' weighing of them. -/
import Derived.Test.YtnmooolnmhidbaaDoorMeths
import Derived.Test.YtnmooolnmhidbaaDoorFlatLib
namespace Go.Proofs.YtnmooolnmhidbaaDoor.rp
open Go.ChangeShapes Go.WideShapes Go.ChangeAt Go.RowKit Go.Proofs.YtnmooolnmhidbaaDoor.ls Go.Proofs.YtnmooolnmhidbaaDoor.fl
set_option linter.unusedVariables false

/-- a reply as it lies: its method, with where its texts and numbers lie and their room, and its body -/
structure Rp where
  c : Int
  i : Int
  ta : Option Addr
  tc : Nat
  ts : List ByteArray
  na : Option Addr
  nc : Nat
  ns : List Int
  hb : Bool
  b : ByteArray
def cP (r : Rp) : List Value := [.int .i64 r.c, .int .i64 r.i, .slice r.ta r.ts.length r.tc, .slice r.na r.ns.length r.nc, .bool r.hb, .string r.b]
theorem cP_len (r : Rp) : (cP r).length = 6 := rfl
/-- a list of replies as it lies -/
def VP (w : World) (B : Nat) (a : Option Addr) (rs : List Rp) : Prop := Row cP 6 w B a rs ∧ ∀ r ∈ rs, Sl Value.string w B r.ta r.ts ∧ Sl (Value.int .i64) w B r.na r.ns
theorem VP.inn {w w' : World} {a : Option Addr} {rs : List Rp} (h : VP w w.heap.size a rs) (hb : Below w.heap.size w w') : VP w' w'.heap.size a rs := ⟨h.1.inn hb, fun r hr => ⟨me.inn (h.2 r hr).1 hb, me.inn (h.2 r hr).2 hb⟩⟩
def wtP (r : Rp) : Nat := r.ts.length + ls.bulk r.ts + r.ns.length + r.b.size
def okP (r : Rp) : Prop := r.ts.length ≤ maxLen ∧ (∀ x ∈ r.ts, x.size ≤ maxLen) ∧ r.ns.length ≤ maxLen ∧ r.b.size ≤ maxLen

theorem sz_meth (c i : Int) (ts : List ByteArray) (ns : List Int) (ta na : Option Addr) (tc nc : Nat) (left : Int) (w : World) (hl : ts.length ≤ maxLen) (hx : ∀ x ∈ ts, x.size ≤ maxLen) (hn : ns.length ≤ maxLen) (h0 : -1 ≤ left) (h1 : left ≤ 1048576) (hS : Sl Value.string w w.heap.size ta ts) :
    Calls Tryd.prog 8 #[.agg #[.int .i64 c, .int .i64 i, .slice ta ts.length tc, .slice na ns.length nc], .int .i64 left] w fun e w' => ∃ r : Int, e = .returned (.int .i64 r) ∧ (0 ≤ r → r = left - ts.length - ls.bulk ts - ns.length) ∧ -1 ≤ r ∧ r ≤ 1048576 ∧ Below w.heap.size w w' := by
  have hS1 : Sl Value.string (w.alloc (.cells #[.int .i64 c, .int .i64 i, .slice ta ts.length tc, .slice na ns.length nc] 25)) (w.alloc (.cells #[.int .i64 c, .int .i64 i, .slice ta ts.length tc, .slice na ns.length nc] 25)).heap.size ta ts := (hS.below ((Below.refl _ _).alloc (Nat.le_refl _) _)).mono (by simp)
  have c1 := sz_strs ts ta tc left _ hl hx h0 h1 hS1
  clear hS hS1
  have HX : Hid (∀ x ∈ ts, x.size ≤ maxLen) := hx
  clear hx
  go_enter Tryd.func8, Tryd.ntmps8
  go_wp2_with (first | (go_at_call 26; refine c1.mono ?_; rintro e w1 ⟨r, rfl, hr, hr0, hr1, rfl⟩) | (go_at_call 27; refine (sz_ints ns.length na nc r _ hn hr0 hr1).mono ?_; rintro e w2 ⟨q, rfl, hq, hq0, hq1, rfl⟩))
  · go_ret
    exact ⟨-1, rfl, by omega, by omega, by omega, (Below.refl _ _).alloc (Nat.le_refl _) _⟩
  · go_ret
    exact ⟨-1, rfl, by omega, by omega, by omega, (Below.refl _ _).alloc (Nat.le_refl _) _⟩
  · go_ret
    exact ⟨q, rfl, fun _ => by have := hr (by omega); have := hq (by omega); omega, by omega, by omega, (Below.refl _ _).alloc (Nat.le_refl _) _⟩

set_option maxRecDepth 100000 in
theorem sz_one (c i : Int) (ts : List ByteArray) (ns : List Int) (ta na : Option Addr) (tc nc : Nat) (hb : Bool) (b : ByteArray) (left : Int) (w : World) (hl : ts.length ≤ maxLen) (hx : ∀ x ∈ ts, x.size ≤ maxLen) (hn : ns.length ≤ maxLen) (hbs : b.size ≤ maxLen) (h0 : -1 ≤ left) (h1 : left ≤ 1048576) (hS : Sl Value.string w w.heap.size ta ts) :
    Calls Tryd.prog 49 #[.agg #[.int .i64 c, .int .i64 i, .slice ta ts.length tc, .slice na ns.length nc, .bool hb, .string b], .int .i64 left] w fun e w' => ∃ r : Int, e = .returned (.int .i64 r) ∧ (0 ≤ r → r = left - ts.length - ls.bulk ts - ns.length - b.size) ∧ -1 ≤ r ∧ r ≤ 1048576 ∧ Below w.heap.size w w' := by
  unfold maxLen at hbs
  have hal : Below w.heap.size w (w.alloc (.cells #[.int .i64 c, .int .i64 i, .slice ta ts.length tc, .slice na ns.length nc, .bool hb, .string b] 81)) := (Below.refl _ _).alloc (Nat.le_refl _) _
  have hA := bnew w #[.int .i64 c, .int .i64 i, .slice ta ts.length tc, .slice na ns.length nc, .bool hb, .string b] 81
  obtain ⟨W, hW⟩ : ∃ W, w.alloc (.cells #[.int .i64 c, .int .i64 i, .slice ta ts.length tc, .slice na ns.length nc, .bool hb, .string b] 81) = W := ⟨_, rfl⟩
  rw [hW] at hal hA
  have hm := sz_meth c i ts ns ta na tc nc left W hl hx hn h0 h1 (me.inn hS hal)
  have hlt := (Array.getElem?_eq_some_iff.1 hA).1
  have x0 : W.cell? ⟨w.heap.size, 0, none⟩ = some (.int .i64 c) := fl.bcell hA rfl
  have x1 : W.cell? ⟨w.heap.size, 1, none⟩ = some (.int .i64 i) := fl.bcell hA rfl
  have x2 : W.cell? ⟨w.heap.size, 2, none⟩ = some (.slice ta ts.length tc) := fl.bcell hA rfl
  have x3 : W.cell? ⟨w.heap.size, 3, none⟩ = some (.slice na ns.length nc) := fl.bcell hA rfl
  have HA : Hid (W.heap[w.heap.size]? = some (.cells #[.int .i64 c, .int .i64 i, .slice ta ts.length tc, .slice na ns.length nc, .bool hb, .string b] 81 (0, 0))) := hA
  clear hS hA
  have HX : Hid (∀ x ∈ ts, x.size ≤ maxLen) := hx
  clear hx
  go_enter Tryd.func49, Tryd.ntmps49
  go_wp2_with (go_at_call 8; fail)
  clear hW
  refine hm.mono ?_
  rintro e w1 ⟨r, rfl, hr, hr0, hr1, hb1⟩
  have y5 : w1.cell? ⟨w.heap.size, 5, none⟩ = some (.string b) := fl.bcell (bstay HA.out hb1 hlt) rfl
  clear hm x0 x1 x2 x3
  have hfin := hal.trans (hb1.mono hal.size)
  by_cases hneg : r < 0
  · go_wp2
    go_ret
    exact ⟨-1, rfl, by omega, by omega, by omega, hfin⟩
  · have hr3 : (0 : Int) ≤ r := by omega
    by_cases hneg2 : r - b.size < 0
    · go_wp2
      go_ret
      exact ⟨-1, rfl, by omega, by omega, by omega, hfin⟩
    · go_wp2
      go_ret
      exact ⟨r - b.size, rfl, fun _ => by have := hr hr3; omega, by omega, by omega, hfin⟩

set_option maxRecDepth 100000 in
set_option maxHeartbeats 1000000 in
theorem sz_replies (l : List Rp) (a : Option Addr) (cap : Nat) (left : Int) (w : World) (hl : l.length ≤ maxLen) (hx : ∀ e ∈ l, okP e) (h0 : -1 ≤ left) (h1 : left ≤ 1048576) (hS : VP w w.heap.size a l) :
    Calls Tryd.prog 21 #[.slice a l.length cap, .int .i64 left] w fun e w' => ∃ r : Int, e = .returned (.int .i64 r) ∧ (0 ≤ r → r = left - l.length - fl.bulk wtP l) ∧ -1 ≤ r ∧ r ≤ 1048576 ∧ Below w.heap.size w w' := by
  have hl' := hl
  unfold maxLen at hl'
  by_cases hneg : left - l.length < 0
  · go_enter Tryd.func21, Tryd.ntmps21
    go_wp2
    go_ret
    exact ⟨-1, rfl, by omega, by omega, by omega, Below.refl _ _⟩
  have HVR : Hid (∀ r ∈ l, Sl Value.string w w.heap.size r.ta r.ts ∧ Sl (Value.int .i64) w w.heap.size r.na r.ns) := hS.2
  rcases hS.1 with rfl | ⟨b, off, rfl, hlt, hc⟩
  · go_enter Tryd.func21, Tryd.ntmps21
    go_wp2
    refine wp_loop_rounds 1 ?_
    rw [rounds_succ]
    go_wp2
    go_ret
    exact ⟨_, rfl, fun _ => by simp [fl.bulk], by simp at hneg; omega, by simp at hneg; omega, Below.refl _ _⟩
  · have HC : Hid (∀ (i : Nat) (e : Rp), l[i]? = some e → ∀ (j : Nat) (v : Value), (cP e)[j]? = some v → w.cell? ⟨b, off + i * 6 + j, none⟩ = some v) := hc
    have HX : Hid (∀ e ∈ l, okP e) := hx
    clear hc hx hS
    go_enter Tryd.func21, Tryd.ntmps21
    go_wp2
    go_loopw [1, 5] (fun y x wr => ∃ k : Nat, k ≤ l.length ∧ x = .int .i64 k ∧ y = .int .i64 (left - l.length - fl.bulk wtP (l.take k)) ∧ 0 ≤ left - l.length - fl.bulk wtP (l.take k) ∧ Below w.heap.size w wr) (fun _ x _ => l.length - (intOf x).toNat)
    case atStart => exact ⟨0, Nat.zero_le _, rfl, by simp [fl.bulk], by simp [fl.bulk]; omega, Below.refl _ _⟩
    case round =>
      obtain ⟨k, hk, rfl, rfl, hr0, hbel⟩ := hrel
      have hbs := hbel.size
      by_cases hkl : k < l.length
      · have HG : Hid (l[k]? = some l[k]) := List.getElem?_eq_getElem hkl
        have hxs := HX.out l[k] (List.getElem_mem hkl)
        have hrow := me.inn (HVR.out l[k] (List.getElem_mem hkl)).1 hbel
        have HBK : Hid (fl.bulk wtP (l.take (k + 1)) = fl.bulk wtP (l.take k) + wtP l[k]) := fl.bulk_take wtP hkl
        obtain ⟨⟨c, i, ta, tc, ts, na, nc, ns, hb, b_⟩, he⟩ : ∃ e, l[k] = e := ⟨_, rfl⟩
        rw [he] at hxs HBK HG hrow
        have c0 : wr.cell? ⟨b, off + k * 6, none⟩ = some (.int .i64 c) := (hbel.cell (p := ⟨b, off + k * 6, none⟩) hlt).trans (by have := HC.out k _ HG.out 0 _ rfl; simpa using this)
        have c1 : wr.cell? ⟨b, off + k * 6 + 1, none⟩ = some (.int .i64 i) := (hbel.cell (p := ⟨b, off + k * 6 + 1, none⟩) hlt).trans (by have := HC.out k _ HG.out 1 _ rfl; simpa using this)
        have c2 : wr.cell? ⟨b, off + k * 6 + 2, none⟩ = some (.slice ta ts.length tc) := (hbel.cell (p := ⟨b, off + k * 6 + 2, none⟩) hlt).trans (by have := HC.out k _ HG.out 2 _ rfl; simpa using this)
        have c3 : wr.cell? ⟨b, off + k * 6 + 3, none⟩ = some (.slice na ns.length nc) := (hbel.cell (p := ⟨b, off + k * 6 + 3, none⟩) hlt).trans (by have := HC.out k _ HG.out 3 _ rfl; simpa using this)
        have c4 : wr.cell? ⟨b, off + k * 6 + 4, none⟩ = some (.bool hb) := (hbel.cell (p := ⟨b, off + k * 6 + 4, none⟩) hlt).trans (by have := HC.out k _ HG.out 4 _ rfl; simpa using this)
        have c5 : wr.cell? ⟨b, off + k * 6 + 5, none⟩ = some (.string b_) := (hbel.cell (p := ⟨b, off + k * 6 + 5, none⟩) hlt).trans (by have := HC.out k _ HG.out 5 _ rfl; simpa using this)
        obtain ⟨m, hm⟩ : ∃ m, fl.bulk wtP (l.take k) = m := ⟨_, rfl⟩
        rw [hm] at HBK hr0 ⊢
        have hone := sz_one c i ts ns ta na tc nc hb b_ (left - l.length - m) wr hxs.1 hxs.2.1 hxs.2.2.1 hxs.2.2.2 (by omega) (by omega) hrow
        obtain ⟨wv, hwt⟩ : ∃ wv, wtP ⟨c, i, ta, tc, ts, na, nc, ns, hb, b_⟩ = wv := ⟨_, rfl⟩
        have HWV : Hid (ts.length + ls.bulk ts + ns.length + b_.size = wv) := hwt
        rw [hwt] at HBK
        clear hm he hwt hxs hrow
        go_wp2_with (go_at_call 49; fail)
        refine hone.mono ?_
        rintro e w1 ⟨r, rfl, hr, hr1, hr2, hb1⟩
        clear hone c0 c1 c2 c3 c4 c5
        by_cases hlo : r < 0
        · go_wp2
          go_ret
          exact ⟨-1, rfl, by omega, by omega, by omega, hbel.trans (hb1.mono hbs)⟩
        · have HRR : Hid (r = left - l.length - m - (wv : Int)) := by have h1 := hr (by omega); have h2 := HWV.out; unfold Hid; omega
          have hr3 : (0 : Int) ≤ r := by omega
          clear hr
          go_wp2
          go_roundw
          case rel => exact ⟨k + 1, by omega, by go_num, by rw [HBK.out, HRR.out]; congr 1; omega, by rw [HBK.out]; have := HRR.out; omega, hbel.trans (hb1.mono hbs)⟩
          case measure => simp [intOf]; omega
      · obtain rfl : k = l.length := by omega
        rw [List.take_length] at hr0 ⊢
        go_wp2
        go_ret
        exact ⟨_, rfl, fun _ => rfl, by omega, by omega, hbel⟩
end Go.Proofs.YtnmooolnmhidbaaDoor.rp
