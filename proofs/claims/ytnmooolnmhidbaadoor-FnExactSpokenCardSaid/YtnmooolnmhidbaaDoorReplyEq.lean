/- Two lists of replies that say the same, held beside each other by the laws; new memory alone. -/
import Derived.Test.YtnmooolnmhidbaaDoorReplyTos
namespace Go.Proofs.YtnmooolnmhidbaaDoor.rp
open Go.ChangeShapes Go.WideShapes Go.ChangeAt Go.RowKit Go.Proofs.YtnmooolnmhidbaaDoor.ls Go.Proofs.YtnmooolnmhidbaaDoor.fl
set_option linter.unusedVariables false

set_option maxRecDepth 100000 in
set_option maxHeartbeats 1000000 in
theorem eq_one (c i : Int) (ts : List ByteArray) (ns : List Int) (ta na uta una : Option Addr) (tc nc utc unc : Nat) (hb : Bool) (b : ByteArray) (w : World) (hl : ts.length ≤ 2000000) (hn : ns.length ≤ 2000000) (hS : Sl Value.string w w.heap.size ta ts) (hI : Sl (Value.int .i64) w w.heap.size na ns) (hS' : Sl Value.string w w.heap.size uta ts) (hI' : Sl (Value.int .i64) w w.heap.size una ns) :
    Calls Tryd.prog 57 #[.agg #[.int .i64 c, .int .i64 i, .slice ta ts.length tc, .slice na ns.length nc, .bool hb, .string b], .agg #[.int .i64 c, .int .i64 i, .slice uta ts.length utc, .slice una ns.length unc, .bool hb, .string b]] w fun e w' => e = .returned (.bool true) ∧ Below w.heap.size w w' := by
  have hal : Below w.heap.size w ((w.alloc (.cells #[.int .i64 c, .int .i64 i, .slice ta ts.length tc, .slice na ns.length nc, .bool hb, .string b] 83)).alloc (.cells #[.int .i64 c, .int .i64 i, .slice uta ts.length utc, .slice una ns.length unc, .bool hb, .string b] 83)) := ((Below.refl _ _).alloc (Nat.le_refl _) _).alloc (by simp) _
  have hA := bold (bnew w #[.int .i64 c, .int .i64 i, .slice ta ts.length tc, .slice na ns.length nc, .bool hb, .string b] 83) (.cells #[.int .i64 c, .int .i64 i, .slice uta ts.length utc, .slice una ns.length unc, .bool hb, .string b] 83)
  have hB := bnew (w.alloc (.cells #[.int .i64 c, .int .i64 i, .slice ta ts.length tc, .slice na ns.length nc, .bool hb, .string b] 83)) #[.int .i64 c, .int .i64 i, .slice uta ts.length utc, .slice una ns.length unc, .bool hb, .string b] 83
  rw [World.size_alloc] at hB
  obtain ⟨W, hW⟩ : ∃ W, (w.alloc (.cells #[.int .i64 c, .int .i64 i, .slice ta ts.length tc, .slice na ns.length nc, .bool hb, .string b] 83)).alloc (.cells #[.int .i64 c, .int .i64 i, .slice uta ts.length utc, .slice una ns.length unc, .bool hb, .string b] 83) = W := ⟨_, rfl⟩
  have hWs : W.heap.size = w.heap.size + 2 := by rw [← hW]; simp
  rw [hW] at hal hA hB
  have hm := me.eq_method c i ts ns ta na uta una tc nc utc unc W hl hn (me.inn hS hal) (me.inn hI hal) (me.inn hS' hal) (me.inn hI' hal)
  have x0 : W.cell? ⟨w.heap.size, 0, none⟩ = some (.int .i64 c) := fl.bcell hA rfl
  have x1 : W.cell? ⟨w.heap.size, 1, none⟩ = some (.int .i64 i) := fl.bcell hA rfl
  have x2 : W.cell? ⟨w.heap.size, 2, none⟩ = some (.slice ta ts.length tc) := fl.bcell hA rfl
  have x3 : W.cell? ⟨w.heap.size, 3, none⟩ = some (.slice na ns.length nc) := fl.bcell hA rfl
  have y0 : W.cell? ⟨w.heap.size + 1, 0, none⟩ = some (.int .i64 c) := fl.bcell hB rfl
  have y1 : W.cell? ⟨w.heap.size + 1, 1, none⟩ = some (.int .i64 i) := fl.bcell hB rfl
  have y2 : W.cell? ⟨w.heap.size + 1, 2, none⟩ = some (.slice uta ts.length utc) := fl.bcell hB rfl
  have y3 : W.cell? ⟨w.heap.size + 1, 3, none⟩ = some (.slice una ns.length unc) := fl.bcell hB rfl
  have HA : Hid (W.heap[w.heap.size]? = some (.cells #[.int .i64 c, .int .i64 i, .slice ta ts.length tc, .slice na ns.length nc, .bool hb, .string b] 83 (0, 0))) := hA
  have HB : Hid (W.heap[w.heap.size + 1]? = some (.cells #[.int .i64 c, .int .i64 i, .slice uta ts.length utc, .slice una ns.length unc, .bool hb, .string b] 83 (0, 0))) := hB
  clear hS hI hS' hI' hA hB
  go_enter Tryd.func57, Tryd.ntmps57
  go_wp2_with (go_at_call 12; fail)
  clear hW x0 x1 x2 x3 y0 y1 y2 y3
  refine hm.mono ?_
  rintro e w1 ⟨rfl, hb1⟩
  have a1 := bstay HA.out hb1 (by omega)
  have b1 := bstay HB.out hb1 (by omega)
  have x4 : w1.cell? ⟨w.heap.size, 4, none⟩ = some (.bool hb) := fl.bcell a1 rfl
  have x5 : w1.cell? ⟨w.heap.size, 5, none⟩ = some (.string b) := fl.bcell a1 rfl
  have y4 : w1.cell? ⟨w.heap.size + 1, 4, none⟩ = some (.bool hb) := fl.bcell b1 rfl
  have y5 : w1.cell? ⟨w.heap.size + 1, 5, none⟩ = some (.string b) := fl.bcell b1 rfl
  have hfin := hal.trans (hb1.mono hal.size)
  clear hm a1 b1
  go_wp2
  go_ret
  exact ⟨rfl, hfin⟩

set_option maxRecDepth 100000 in
set_option maxHeartbeats 1000000 in
theorem eq_replies (l l' : List Rp) (a a' : Option Addr) (ca ca' : Nat) (w : World) (hl : l.length ≤ maxLen) (hx : ∀ e ∈ l, e.ts.length ≤ 2000000 ∧ e.ns.length ≤ 2000000) (hll : l'.length = l.length) (hm : ∀ (k : Nat) (r s : Rp), l[k]? = some r → l'[k]? = some s → same r s) (ha : VP w w.heap.size a l) (hb : VP w w.heap.size a' l') :
    Calls Tryd.prog 25 #[.slice a l.length ca, .slice a' l.length ca'] w fun e w' => e = .returned (.bool true) ∧ Below w.heap.size w w' := by
  have hl' := hl
  unfold maxLen at hl'
  have nilw : ∀ a a' : Option Addr, Calls Tryd.prog 25 #[.slice a 0 ca, .slice a' 0 ca'] w fun e w' => e = .returned (.bool true) ∧ Below w.heap.size w w' := fun a a' => by
    go_enter Tryd.func25, Tryd.ntmps25
    go_wp2
    refine wp_loop_rounds 1 ?_
    rw [rounds_succ]
    go_wp2
    go_ret
    exact ⟨rfl, Below.refl _ _⟩
  have HVA : Hid (∀ r ∈ l, Sl Value.string w w.heap.size r.ta r.ts ∧ Sl (Value.int .i64) w w.heap.size r.na r.ns) := ha.2
  have HVB : Hid (∀ r ∈ l', Sl Value.string w w.heap.size r.ta r.ts ∧ Sl (Value.int .i64) w w.heap.size r.na r.ns) := hb.2
  rcases ha.1 with rfl | ⟨b, off, rfl, hlt, hc⟩
  · exact nilw a a'
  rcases hb.1 with rfl | ⟨b', off_, rfl, hlt', hc'⟩
  · simp at hll
    rw [show l.length = 0 by omega]
    exact nilw _ _
  · have HC : Hid (∀ (i : Nat) (e : Rp), l[i]? = some e → ∀ (j : Nat) (v : Value), (cP e)[j]? = some v → w.cell? ⟨b, off + i * 6 + j, none⟩ = some v) := hc
    have HD : Hid (∀ (i : Nat) (e : Rp), l'[i]? = some e → ∀ (j : Nat) (v : Value), (cP e)[j]? = some v → w.cell? ⟨b', off_ + i * 6 + j, none⟩ = some v) := hc'
    have HX : Hid (∀ e ∈ l, e.ts.length ≤ 2000000 ∧ e.ns.length ≤ 2000000) := hx
    have HM : Hid (∀ (k : Nat) (r s : Rp), l[k]? = some r → l'[k]? = some s → same r s) := hm
    have HLL : Hid (l'.length = l.length) := hll
    clear hc hc' nilw hx ha hb hm hll
    go_enter Tryd.func25, Tryd.ntmps25
    go_wp2
    go_loopw [5] (fun x wr => ∃ k : Nat, k ≤ l.length ∧ x = .int .i64 k ∧ Below w.heap.size w wr) (fun x _ => l.length - (intOf x).toNat)
    case atStart => exact ⟨0, Nat.zero_le _, rfl, Below.refl _ _⟩
    case round =>
      obtain ⟨k, hk, rfl, hbel⟩ := hrel
      have hbs := hbel.size
      by_cases hkl : k < l.length
      · have hkl' : k < l'.length := by have := HLL.out; omega
        have HG : Hid (l[k]? = some l[k]) := List.getElem?_eq_getElem hkl
        have HG' : Hid (l'[k]? = some l'[k]) := List.getElem?_eq_getElem hkl'
        have hxs := HX.out l[k] (List.getElem_mem hkl)
        have hrow := HVA.out l[k] (List.getElem_mem hkl)
        have hrow' := HVB.out l'[k] (List.getElem_mem hkl')
        have hsm := HM.out k _ _ HG.out HG'.out
        obtain ⟨⟨c, i, ta, tc, ts, na, nc, ns, hb, b_⟩, he⟩ : ∃ e, l[k] = e := ⟨_, rfl⟩
        obtain ⟨⟨c', i', uta, utc, ts', una, unc, ns', hb', b2⟩, he'⟩ : ∃ e, l'[k] = e := ⟨_, rfl⟩
        rw [he] at HG hxs hrow hsm
        rw [he'] at HG' hrow' hsm
        obtain ⟨q1, q2, q3, q4, q5, q6⟩ := hsm
        simp only at q1 q2 q3 q4 q5 q6
        subst q1 q2 q3 q4 q5 q6
        have c0 : wr.cell? ⟨b, off + k * 6, none⟩ = some (.int .i64 c) := (hbel.cell (p := ⟨b, off + k * 6, none⟩) hlt).trans (by have := HC.out k _ HG.out 0 _ rfl; simpa using this)
        have c1 : wr.cell? ⟨b, off + k * 6 + 1, none⟩ = some (.int .i64 i) := (hbel.cell (p := ⟨b, off + k * 6 + 1, none⟩) hlt).trans (by have := HC.out k _ HG.out 1 _ rfl; simpa using this)
        have c2 : wr.cell? ⟨b, off + k * 6 + 2, none⟩ = some (.slice ta ts.length tc) := (hbel.cell (p := ⟨b, off + k * 6 + 2, none⟩) hlt).trans (by have := HC.out k _ HG.out 2 _ rfl; simpa using this)
        have c3 : wr.cell? ⟨b, off + k * 6 + 3, none⟩ = some (.slice na ns.length nc) := (hbel.cell (p := ⟨b, off + k * 6 + 3, none⟩) hlt).trans (by have := HC.out k _ HG.out 3 _ rfl; simpa using this)
        have c4 : wr.cell? ⟨b, off + k * 6 + 4, none⟩ = some (.bool hb) := (hbel.cell (p := ⟨b, off + k * 6 + 4, none⟩) hlt).trans (by have := HC.out k _ HG.out 4 _ rfl; simpa using this)
        have c5 : wr.cell? ⟨b, off + k * 6 + 5, none⟩ = some (.string b_) := (hbel.cell (p := ⟨b, off + k * 6 + 5, none⟩) hlt).trans (by have := HC.out k _ HG.out 5 _ rfl; simpa using this)
        have d0 : wr.cell? ⟨b', off_ + k * 6, none⟩ = some (.int .i64 c) := (hbel.cell (p := ⟨b', off_ + k * 6, none⟩) hlt').trans (by have := HD.out k _ HG'.out 0 _ rfl; simpa using this)
        have d1 : wr.cell? ⟨b', off_ + k * 6 + 1, none⟩ = some (.int .i64 i) := (hbel.cell (p := ⟨b', off_ + k * 6 + 1, none⟩) hlt').trans (by have := HD.out k _ HG'.out 1 _ rfl; simpa using this)
        have d2 : wr.cell? ⟨b', off_ + k * 6 + 2, none⟩ = some (.slice uta ts.length utc) := (hbel.cell (p := ⟨b', off_ + k * 6 + 2, none⟩) hlt').trans (by have := HD.out k _ HG'.out 2 _ rfl; simpa using this)
        have d3 : wr.cell? ⟨b', off_ + k * 6 + 3, none⟩ = some (.slice una ns.length unc) := (hbel.cell (p := ⟨b', off_ + k * 6 + 3, none⟩) hlt').trans (by have := HD.out k _ HG'.out 3 _ rfl; simpa using this)
        have d4 : wr.cell? ⟨b', off_ + k * 6 + 4, none⟩ = some (.bool hb) := (hbel.cell (p := ⟨b', off_ + k * 6 + 4, none⟩) hlt').trans (by have := HD.out k _ HG'.out 4 _ rfl; simpa using this)
        have d5 : wr.cell? ⟨b', off_ + k * 6 + 5, none⟩ = some (.string b_) := (hbel.cell (p := ⟨b', off_ + k * 6 + 5, none⟩) hlt').trans (by have := HD.out k _ HG'.out 5 _ rfl; simpa using this)
        have hone := eq_one c i ts ns ta na uta una tc nc utc unc hb b_ wr.drew hxs.1 hxs.2 (me.inn hrow.1 hbel.drew) (me.inn hrow.2 hbel.drew) (me.inn hrow'.1 hbel.drew) (me.inn hrow'.2 hbel.drew)
        clear he he' hrow hrow' hxs
        go_wp2
        go_region_with (go_at_call 57; refine hone.mono ?_; rintro e w1 ⟨rfl, hb1⟩)
        all_goals
          have hb2 : Below w.heap.size w w1 := hbel.drew.trans (hb1.mono (by show w.heap.size ≤ wr.drew.heap.size; exact hbs))
          clear hone
          go_wp2
          go_roundw
          case rel => exact ⟨k + 1, by omega, by go_num, hb2⟩
          case measure => simp [intOf]; omega
      · obtain rfl : k = l.length := by omega
        go_wp2
        go_ret
        exact ⟨rfl, hbel⟩
end Go.Proofs.YtnmooolnmhidbaaDoor.rp
