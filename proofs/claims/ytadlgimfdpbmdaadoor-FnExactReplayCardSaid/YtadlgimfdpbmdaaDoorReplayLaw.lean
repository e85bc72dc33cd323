/- The law of Replay, walked: at every text the program answers as the specification, and its answer owns its memory. -/
import Derived.Test.YtadlgimfdpbmdaaDoorPairMarks
import Derived.Test.YtadlgimfdpbmdaaDoorReplayImpl
namespace Go.Proofs.YtadlgimfdpbmdaaDoor.lwReplay
open Go.ChangeShapes Go.WideShapes Go.ChangeAt Go.RowKit Go.Proofs.YtadlgimfdpbmdaaDoor.fl Go.Proofs.YtadlgimfdpbmdaaDoor.fo Go.Proofs.YtadlgimfdpbmdaaDoor.pmk Go.Proofs.YtadlgimfdpbmdaaDoor.rpp Go.Proofs.YtadlgimfdpbmdaaDoor.rcI
set_option linter.unusedVariables false

theorem rep_len (s : ByteArray) : (rep s).length ≤ 200000 := by
  unfold rep
  refine Nat.le_trans (List.length_filter_le _ _) (Nat.le_trans (ev_len _) ?_)
  by_cases h : s.size ≤ 200000
  · obtain ⟨i, hi, _⟩ := rcp.left_ex s h
    have h1 := hi.tot
    have h2 := hi.hi
    omega
  · rw [rcp.recs_big (by omega)]
    simp

set_option maxRecDepth 100000 in
set_option maxHeartbeats 8000000 in
theorem walk (s : ByteArray) (w : World) (hs : s.size ≤ maxLen) (hE : TB w) :
    Calls Tryd.prog 7 #[.string s] w fun e w' => e = .returned (.bool true) ∧ Below w.heap.size w w' := by
  have hs' : s.size ≤ 9223372036854775807 := hs
  by_cases hbig : 1048576 < s.size
  · have hbi : (1048576 : Int) < (s.size : Int) := by omega
    go_enter Tryd.func7, Tryd.ntmps7
    go_wp2
    go_ret
    exact ⟨rfl, Below.refl _ _⟩
  have hbi : ¬ (1048576 : Int) < (s.size : Int) := by omega
  have hs1 : s.size ≤ 1048576 := by omega
  obtain ⟨l, hl⟩ : ∃ l, rep s = l := ⟨_, rfl⟩
  have hlen : l.length ≤ 200000 := hl ▸ rep_len s
  have hlm : l.length ≤ maxLen := by unfold maxLen; omega
  have hsp := rps.spec_replay s w hs1
  have HIM : Hid (∀ W, TB W → Calls Tryd.prog 25 #[.string s] W fun e w' => ∃ v, e = .returned v ∧ w'.ownsRow W.heap.size 47 3 v l.length (l.flatMap flP.c) ∧ Below W.heap.size W w') := fun W hW => by
    have := rpi.impl_replay s W hs1 hW
    rw [hl] at this
    exact this
  rw [hl] at hsp
  clear hl
  go_enter Tryd.func7, Tryd.ntmps7
  go_wp2_with (go_at_call 24; fail)
  refine hsp.mono ?_
  rintro e W3 ⟨v3, rfl, hse0, hb3⟩
  obtain ⟨sa, ce, rfl, hse⟩ := mine_of flP.c_len hse0
  have hs3 := hb3.size
  have HS : Hid (Row flP.c 3 W3 W3.heap.size sa l) := hse.row
  have HE3 : Hid (TB W3) := hE.on hb3
  have him := HIM.out W3 HE3.out
  clear hse0 hsp hse
  go_wp2_with (go_at_call 25; fail)
  refine him.mono ?_
  rintro e W5 ⟨v5, rfl, hm50, hB5⟩
  obtain ⟨ga, gc, rfl, hm5⟩ := mine_of flP.c_len hm50
  have hs5 := hB5.size
  have heq5 := flP.eq_all l ga sa gc ce W5 hlm hm5.row (HS.out.inn hB5)
  have HM5 : Hid (Mine flP.c 3 47 W5 W3.heap.size ga l) := hm5
  clear him hm50 hm5
  go_wp2_with (go_at_call 10; fail)
  refine heq5.mono ?_
  rintro e w6 ⟨rfl, hb6⟩
  have hB6 : Below W3.heap.size W3 w6 := hB5.trans (hb6.mono hB5.size)
  have hmk := mark_mine l ga gc W3.heap.size w6 (by omega) (HM5.out.below hb6)
  have HM6 : Hid (Mine flP.c 3 47 w6 W3.heap.size ga l) := HM5.out.below hb6
  clear heq5
  go_wp2_with (go_at_call 11; fail)
  refine hmk.mono ?_
  rintro e w7 ⟨rfl, hm7, htn⟩
  have hs7 := htn.size
  have hB7 : Below W3.heap.size W3 w7 := hB6.trans (htn.below hB6.size (fun k hk => (HM6.out.blk_le hk).1))
  have hhd := held_mine l.length ga gc W3.heap.size w7 (by omega) hm7
  have HM7 : Hid (Mine flP.c 3 47 w7 W3.heap.size ga (mrP.mks 1 l.length)) := hm7
  obtain ⟨mm, hmm⟩ : ∃ mm : Nat, 1 + 3 * l.length = mm := ⟨_, rfl⟩
  rw [hmm] at hhd ⊢
  have HMM : Hid (1 + 3 * l.length = mm) := hmm
  have hm0 : decide ((mm : Int) < 0) = false := by simp
  clear hmk hm7 htn hmm
  go_wp2_with (go_at_call 12; fail)
  refine hhd.mono ?_
  rintro e w8 ⟨rfl, hb8⟩
  have hs8 := hb8.size
  have hB8 : Below W3.heap.size W3 w8 := hB7.trans (hb8.mono hB7.size)
  have him := HIM.out w8 (HE3.out.on hB8)
  clear hhd
  go_wp2_with (go_at_call 25; fail)
  refine him.mono ?_
  rintro e w9 ⟨v9, rfl, hm90, hb9⟩
  obtain ⟨gx, cx, rfl, hm9⟩ := mine_of flP.c_len hm90
  have hB89 : Below w7.heap.size w7 w9 := hb8.trans (hb9.mono hs8)
  have hB9 : Below W3.heap.size W3 w9 := hB7.trans (hB89.mono hB7.size)
  have heq9 := flP.eq_all l gx sa cx ce w9 hlm hm9.row (HS.out.inn hB9)
  clear him hm90 hm9
  go_wp2_with (go_at_call 10; fail)
  refine heq9.mono ?_
  rintro e w10 ⟨rfl, hb10⟩
  have hB10 : Below w7.heap.size w7 w10 := hB89.trans (hb10.mono hB89.size)
  have hhd := held_mine l.length ga gc W3.heap.size w10 (by omega) (HM7.out.below hB10)
  rw [HMM.out] at hhd
  clear heq9
  go_wp2_with (go_at_call 12; fail)
  refine hhd.mono ?_
  rintro e w11 ⟨rfl, hb11⟩
  have hB11 : Below w7.heap.size w7 w11 := hB10.trans (hb11.mono hB10.size)
  have hfin : Below w.heap.size w w11 := hb3.trans ((hB7.trans (hB11.mono hB7.size)).mono hb3.size)
  clear hhd
  go_wp2
  go_ret
  exact ⟨rfl, hfin⟩
end Go.Proofs.YtadlgimfdpbmdaaDoor.lwReplay
