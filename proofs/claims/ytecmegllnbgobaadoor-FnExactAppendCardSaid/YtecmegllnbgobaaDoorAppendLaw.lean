/- The law of Append, walked: at every list of pairs the program answers as the specification. -/
import Derived.Test.YtecmegllnbgobaaDoorBatchSize
import Derived.Test.YtecmegllnbgobaaDoorAppendWalks
namespace Go.Proofs.YtecmegllnbgobaaDoor.lwAppend
open Go.ChangeShapes Go.WideShapes Go.ChangeAt Go.RowKit Go.Proofs.YtecmegllnbgobaaDoor.fl
set_option linter.unusedVariables false

set_option maxRecDepth 100000 in
set_option maxHeartbeats 4000000 in
theorem walk (xt : ByteArray) (l : List flP.Pr) (a : Option Addr) (cap : Nat) (w : World) (htab : ∀ r, r < 16 → w.cell? ⟨0, r, none⟩ = some (.int .u32 (cs.tab r : Int))) (hxt : xt.size ≤ maxLen) (hl : l.length ≤ maxLen) (ho : ∀ e ∈ l, flP.ok e) (hS : Row flP.c 3 w w.heap.size a l) :
    Calls Tryd.prog 6 #[.string xt, .slice a l.length cap] w fun e w' => e = .returned (.bool true) ∧ Below w.heap.size w w' := by
  have hsz := flP.sz_all l a cap 1048576 w hl ho (by omega) (by omega) hS
  have HS : Hid (Row flP.c 3 w w.heap.size a l) := hS
  clear hS ho
  have hgl : 0 < w.heap.size := block_lt_of_cell (htab 0 (by decide))
  have HTB : Hid (∀ W, Below w.heap.size w W → ∀ r, r < 16 → W.cell? ⟨0, r, none⟩ = some (.int .u32 (cs.tab r : Int))) := fun W h r hr => (h.cell (p := ⟨0, r, none⟩) hgl).trans (htab r hr)
  clear htab
  have hxt' : xt.size ≤ 9223372036854775807 := hxt
  by_cases hbig : 1048576 < xt.size
  · have hbi : (1048576 : Int) < (xt.size : Int) := by omega
    go_enter Tryd.func6, Tryd.ntmps6
    go_wp2
    go_ret
    exact ⟨rfl, Below.refl _ _⟩
  have hbi : ¬ (1048576 : Int) < (xt.size : Int) := by omega
  have hxs : xt.size ≤ 1048576 := by omega
  go_enter Tryd.func6, Tryd.ntmps6
  go_wp2_with (go_at_call 13; fail)
  refine hsz.mono ?_
  rintro e w1 ⟨r, rfl, hr, hr1, hr2, hb1⟩
  by_cases hneg : r < 0
  · go_wp2
    go_ret
    exact ⟨rfl, hb1⟩
  have hF : Hid (bs.Fit l) := bs.fit (by have := hr (by omega); omega)
  obtain ⟨x9, hx9⟩ : ∃ x9, apd.ans xt l = x9 := ⟨_, rfl⟩
  obtain ⟨x8, hx8⟩ : ∃ x8, apd.can xt l = x8 := ⟨_, rfl⟩
  have hll := hF.out.ll
  have ht2 := flP.to_all l a cap w1 hll (HS.out.inn hb1)
  have hr0 : (0 : Int) ≤ r := by omega
  clear hsz hr
  go_wp2_with (go_at_call 15; fail)
  refine ht2.mono ?_
  rintro e w2 ⟨rfl, re2, hb2⟩
  have hsp := apd.spec_append xt l (some ⟨w1.heap.size, 0, none⟩) l.length w2 hxs hF.out re2.row
  rw [hx9] at hsp; rw [hx8] at hsp
  have hB2 : Below w.heap.size w w2 := hb1.trans (hb2.mono hb1.size)
  clear ht2 re2
  go_wp2_with (go_at_call 22; fail)
  refine hsp.mono ?_
  rintro e w3 ⟨rfl, hb3⟩
  have hB3 : Below w.heap.size w w3 := hB2.trans (hb3.mono hB2.size)
  have ht4 := flP.to_all l a cap w3 hll (HS.out.inn hB3)
  clear hsp
  go_wp2_with (go_at_call 15; fail)
  refine ht4.mono ?_
  rintro e w4 ⟨rfl, re4, hb4⟩
  have hB4 : Below w.heap.size w w4 := hB3.trans (hb4.mono hB3.size)
  have HRE : Hid (Row flP.c 3 w4 w4.heap.size (some ⟨w3.heap.size, 0, none⟩) l) := re4.row
  have him := apd.impl_append xt l (some ⟨w3.heap.size, 0, none⟩) l.length w4 (HTB.out w4 hB4) hxs hF.out HRE.out
  rw [hx9] at him; rw [hx8] at him
  clear ht4 re4 hx9 hx8
  go_wp2_with (go_at_call 23; fail)
  refine him.mono ?_
  rintro e w5 ⟨rfl, hb5⟩
  have hB5 : Below w.heap.size w w5 := hB4.trans (hb5.mono hB4.size)
  have ht6 := flP.to_all l a cap w5 hll (HS.out.inn hB5)
  have heq : ∀ w6, Below w5.heap.size w5 w6 → Own flP.c 3 47 w6 w5.heap.size l l.length → Calls Tryd.prog 10 #[.slice (some ⟨w3.heap.size, 0, none⟩) l.length l.length, .slice (some ⟨w5.heap.size, 0, none⟩) l.length l.length] w6 fun e w' => e = .returned (.bool true) ∧ Below w6.heap.size w6 w' := fun w6 hb6 re6 => flP.eq_all l (some ⟨w3.heap.size, 0, none⟩) (some ⟨w5.heap.size, 0, none⟩) l.length l.length w6 hl ((HRE.out.inn hb5).inn hb6) re6.row
  clear him
  go_wp2_with (first | (go_at_call 15; refine ht6.mono ?_; rintro e w6 ⟨rfl, re6, hb6⟩; have heq6 := heq w6 hb6 re6; clear heq re6) | (go_at_call 10; refine heq6.mono ?_; rintro e w7 ⟨rfl, hb7⟩))
  go_ret
  exact ⟨rfl, hB5.trans ((hb6.trans (hb7.mono hb6.size)).mono hB5.size)⟩
end Go.Proofs.YtecmegllnbgobaaDoor.lwAppend
