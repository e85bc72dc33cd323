/- The law of Records, walked: at every text the program answers as the specification, and its answer owns its memory. -/
import Derived.Test.YtadlgimfdpbmdaaDoorRecImpl
namespace Go.Proofs.YtadlgimfdpbmdaaDoor.lwRecords
open Go.ChangeShapes Go.WideShapes Go.ChangeAt Go.RowKit Go.Proofs.YtadlgimfdpbmdaaDoor.fl Go.Proofs.YtadlgimfdpbmdaaDoor.fo Go.Proofs.YtadlgimfdpbmdaaDoor.rn Go.Proofs.YtadlgimfdpbmdaaDoor.mrR Go.Proofs.YtadlgimfdpbmdaaDoor.gbp Go.Proofs.YtadlgimfdpbmdaaDoor.rcp Go.Proofs.YtadlgimfdpbmdaaDoor.rcm Go.Proofs.YtadlgimfdpbmdaaDoor.rcI
set_option linter.unusedVariables false

theorem tot_le : ∀ (rs : List Rn), (∀ r ∈ rs, r.l.length ≤ 60) → bulk ln rs ≤ 60 * rs.length
  | [], _ => by simp [bulk]
  | r :: t, h => by
    have h1 := tot_le t (fun x hx => h x (List.mem_cons_of_mem _ hx))
    have h2 := h r (List.mem_cons_self ..)
    simp only [bulk, List.length_cons, ln]
    omega
theorem few (s : ByteArray) : (recs s).1.length ≤ 25000 ∧ ∀ l ∈ (recs s).1, l.length ≤ 60 := by
  by_cases h : s.size ≤ 200000
  · obtain ⟨i, hi, _⟩ := left_ex s h
    exact ⟨left_len h hi, hi.few⟩
  · rw [recs_big (by omega)]
    exact ⟨by simp, fun l hl => by cases hl⟩
/-- the answer's own blocks lie above -/
theorem bks_le {w W : World} {v : Value} {rs : List Rn} (h : RO w W v rs) {k : Nat} (hk : bks rs k) : w.heap.size ≤ k := by
  obtain ⟨r, hr, hb⟩ := hk
  exact (Mine.blk_le (h.runs r hr) hb).1
theorem mkd_on {w w' : World} {B k0 n : Nat} {rs : List Rn} (h : Mkd w B k0 rs n) (hb : Below w.heap.size w w') : Mkd w' B k0 rs n := fun i r hr hi => Mine.below (h i r hr hi) hb
/-- the marks turn nothing of the row of slices -/
theorem row_stay {w w' : World} {a : Option Addr} {rs : List Rn} (h : Row cR 1 w w.heap.size a rs) (ht : Tn w w' (bks rs)) (hS : ∀ g o, a = some ⟨g, o, none⟩ → ¬ bks rs g) : Row cR 1 w' w'.heap.size a rs := by
  rcases h with h | ⟨b, off, ha, hlt, hc⟩
  · exact .inl h
  · exact .inr ⟨b, off, ha, Nat.lt_of_lt_of_le hlt ht.size, fun i e he j v hv => (World.cell?_of_block (a := ⟨b, _, none⟩) (ht.block b hlt (hS b off ha))).trans (hc i e he j v hv)⟩

set_option maxRecDepth 100000 in
set_option maxHeartbeats 8000000 in
theorem walk (s : ByteArray) (w : World) (hs : s.size ≤ maxLen) (hE : TB w) :
    Calls Tryd.prog 5 #[.string s] w fun e w' => e = .returned (.bool true) ∧ Below w.heap.size w w' := by
  have hs' : s.size ≤ 9223372036854775807 := hs
  by_cases hbig : 1048576 < s.size
  · have hbi : (1048576 : Int) < (s.size : Int) := by omega
    go_enter Tryd.func5, Tryd.ntmps5
    go_wp2
    go_ret
    exact ⟨rfl, Below.refl _ _⟩
  have hbi : ¬ (1048576 : Int) < (s.size : Int) := by omega
  have hs1 : s.size ≤ 1048576 := by omega
  have hfew := few s
  obtain ⟨R, hR⟩ : ∃ R, (recs s).1 = R := ⟨_, rfl⟩
  obtain ⟨z, hz⟩ : ∃ z, (recs s).2 = z := ⟨_, rfl⟩
  have hsp := rcS.spec_recs s w hs1
  have HIM : Hid (∀ W, TB W → Calls Tryd.prog 18 #[.string s] W fun e w' => ∃ v, e = .returned (.tuple #[v, .int .i64 z]) ∧ ∃ rs : List Rn, rs.map (·.l) = R ∧ RO W w' v rs) := fun W hW => by
    have := impl_recs s W hs1 hW
    rw [hR, hz] at this
    exact this
  rw [hR, hz] at hsp
  rw [hR] at hfew
  have HFW : Hid (∀ rs : List Rn, rs.map (·.l) = R → rs.length = R.length ∧ rs.length ≤ 25000 ∧ (∀ r ∈ rs, r.l.length ≤ maxLen) ∧ bulk ln rs ≤ 1500000) := fun rs h => by
    have hl : rs.length = R.length := by rw [← h, List.length_map]
    have h60 : ∀ r ∈ rs, r.l.length ≤ 60 := fun r hr => hfew.2 r.l (by rw [← h]; exact List.mem_map.2 ⟨r, hr, rfl⟩)
    have := tot_le rs h60
    refine ⟨hl, by omega, fun r hr => by have := h60 r hr; unfold maxLen; omega, by omega⟩
  have HE : Hid (TB w) := hE
  clear hR hz hfew hE
  go_enter Tryd.func5, Tryd.ntmps5
  go_wp2_with (go_at_call 17; fail)
  refine hsp.mono ?_
  rintro e W3 ⟨v3, rfl, rs3, hm3, hro3⟩
  obtain ⟨sa, ce, rfl, hvr3, _⟩ := hro3.vr
  have hb3 := hro3.bel
  have hs3 := hb3.size
  have HV3 : Hid (VR W3 W3.heap.size sa rs3) := hvr3
  have HM3 : Hid (rs3.map (·.l) = R) := hm3
  have HE3 : Hid (TB W3) := HE.out.on hb3
  have him := HIM.out W3 HE3.out
  obtain ⟨l3, _, _, _⟩ := HFW.out rs3 hm3
  clear hsp hvr3 hro3 hm3
  go_wp2_with (go_at_call 18; fail)
  refine him.mono ?_
  rintro e W5 ⟨v5, rfl, rs5, hm5, hro5⟩
  obtain ⟨ga, gc, rfl, hvr5, hnb5⟩ := hro5.vr
  have hB5 := hro5.bel
  have hs5 := hB5.size
  obtain ⟨l5, hlen5, hsm5, htot5⟩ := HFW.out rs5 hm5
  have heq5 := eq_runs rs5 rs3 ga sa gc ce W5 (by unfold maxLen; omega) hsm5 (hm5.trans HM3.out.symm) hvr5 (HV3.out.inn hB5)
  have HR5 : Hid (RO W3 W5 (.slice ga rs5.length gc) rs5) := hro5
  have HNB : Hid (∀ g off, ga = some ⟨g, off, none⟩ → ¬ bks rs5 g) := hnb5
  have HV5 : Hid (VR W5 W5.heap.size ga rs5) := hvr5
  have HM5 : Hid (rs5.map (·.l) = R) := hm5
  rw [l5] at heq5
  clear him hro5 hnb5 hvr5 hm5 hsm5
  go_wp2_with (go_at_call 19; fail)
  refine heq5.mono ?_
  rintro e w6 ⟨rfl, hb6⟩
  have HR6 : Hid (RO W3 w6 (.slice ga rs5.length gc) rs5) := HR5.out.on hb6
  have HV6 : Hid (VR w6 w6.heap.size ga rs5) := HV5.out.inn hb6
  have hmk := mark_runs rs5 ga gc 1 W3.heap.size w6 (by omega) (by omega) ⟨by omega, by omega⟩ HV6.out.1 HNB.out HR6.out.runs HR6.out.apart
  have hB6 := HR6.out.bel
  rw [l5] at hmk
  clear heq5
  go_wp2_with (go_at_call 20; fail)
  refine hmk.mono ?_
  rintro e w7 ⟨rfl, htn, hkd7⟩
  have hs7 := htn.size
  have hB7 : Below W3.heap.size W3 w7 := hB6.trans (htn.below hB6.size (fun k hk => bks_le HR6.out hk))
  have hrow7 := row_stay HV6.out.1 htn HNB.out
  have HK7 : Hid (Mkd w7 W3.heap.size 1 rs5 rs5.length) := by rw [l5]; exact hkd7
  have hhd := held_runs rs5 ga gc 1 W3.heap.size w7 (by omega) (by omega) ⟨by omega, by omega⟩ hrow7 HK7.out
  rw [l5] at hhd
  have HW7 : Hid (Row cR 1 w7 w7.heap.size ga rs5) := hrow7
  obtain ⟨mm, hmm⟩ : ∃ mm : Nat, 1 + 3 * bulk ln rs5 = mm := ⟨_, rfl⟩
  rw [hmm] at hhd ⊢
  have HMM : Hid (1 + 3 * bulk ln rs5 = mm) := hmm
  have hm0 : decide ((mm : Int) < 0) = false := by simp
  clear hmk hkd7 hrow7 htn hmm
  go_wp2_with (go_at_call 21; fail)
  refine hhd.mono ?_
  rintro e w8 ⟨rfl, hb8⟩
  have hs8 := hb8.size
  have hB8 : Below W3.heap.size W3 w8 := hB7.trans (hb8.mono hB7.size)
  have him := HIM.out w8 (HE3.out.on hB8)
  clear hhd
  go_wp2_with (go_at_call 18; fail)
  refine him.mono ?_
  rintro e w9 ⟨v9, rfl, rs9, hm9, hro9⟩
  obtain ⟨gx, cx, rfl, hvr9, _⟩ := hro9.vr
  have hb9 := hro9.bel
  obtain ⟨l9, hlen9, hsm9, htot9⟩ := HFW.out rs9 hm9
  have hB89 : Below w7.heap.size w7 w9 := hb8.trans (hb9.mono hs8)
  have hB9 : Below W3.heap.size W3 w9 := hB7.trans (hB89.mono hB7.size)
  have heq9 := eq_runs rs9 rs3 gx sa cx ce w9 (by unfold maxLen; omega) hsm9 (hm9.trans HM3.out.symm) hvr9 (HV3.out.inn hB9)
  rw [l9] at heq9
  clear him hvr9 hro9 hm9 hsm9
  go_wp2_with (go_at_call 19; fail)
  refine heq9.mono ?_
  rintro e w10 ⟨rfl, hb10⟩
  have hB10 : Below w7.heap.size w7 w10 := hB89.trans (hb10.mono hB89.size)
  have hhd := held_runs rs5 ga gc 1 W3.heap.size w10 (by omega) (by omega) ⟨by omega, by omega⟩ (HW7.out.inn hB10) (mkd_on HK7.out hB10)
  rw [HMM.out, l5] at hhd
  clear heq9
  go_wp2_with (go_at_call 21; fail)
  refine hhd.mono ?_
  rintro e w11 ⟨rfl, hb11⟩
  have hB11 : Below w7.heap.size w7 w11 := hB10.trans (hb11.mono hB10.size)
  have hfin : Below w.heap.size w w11 := hb3.trans ((hB7.trans (hB11.mono hB7.size)).mono hb3.size)
  clear hhd
  go_wp2
  go_ret
  exact ⟨rfl, hfin⟩
end Go.Proofs.YtadlgimfdpbmdaaDoor.lwRecords
