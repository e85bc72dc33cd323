/- Two lists of streams that say the same, held beside each other by the laws; new memory alone. -/
import Derived.Test.YtpkljkahdclcgaaGreatSuTos
namespace Go.Proofs.YtpkljkahdclcgaaGreat.su
open Go.ChangeShapes Go.WideShapes Go.ChangeAt Go.RowKit Go.Proofs.YtpkljkahdclcgaaGreat.fl
set_option linter.unusedVariables false

set_option maxRecDepth 100000 in
set_option maxHeartbeats 1000000 in
theorem eq_all (l l' : List E) (a a' : Option Addr) (ca ca' : Nat) (w : World) (hl : l.length ≤ maxLen) (hx : ∀ e ∈ l, e.rs.length ≤ maxLen ∧ e.hs.length ≤ maxLen) (hll : l'.length = l.length) (hm : ∀ (k : Nat) (r s : E), l[k]? = some r → l'[k]? = some s → same r s) (ha : V w w.heap.size a l) (hb : V w w.heap.size a' l') :
    Calls Tryz.prog 50 #[.slice a l.length ca, .slice a' l.length ca'] w fun e w' => e = .returned (.bool true) ∧ Below w.heap.size w w' := by
  have hl' := hl
  unfold maxLen at hl'
  have nilw : ∀ a a' : Option Addr, Calls Tryz.prog 50 #[.slice a 0 ca, .slice a' 0 ca'] w fun e w' => e = .returned (.bool true) ∧ Below w.heap.size w w' := fun a a' => by
    go_enter Tryz.func50, Tryz.ntmps50
    go_wp2
    refine wp_loop_rounds 1 ?_
    rw [rounds_succ]
    go_wp2
    go_ret
    exact ⟨rfl, Below.refl _ _⟩
  have HVA : Hid (∀ r ∈ l, Row flY.c 3 w w.heap.size r.ra r.rs ∧ Row flK.c 2 w w.heap.size r.ha r.hs) := ha.2
  have HVB : Hid (∀ r ∈ l', Row flY.c 3 w w.heap.size r.ra r.rs ∧ Row flK.c 2 w w.heap.size r.ha r.hs) := hb.2
  rcases ha.1 with rfl | ⟨b, off, rfl, hlt, hc⟩
  · exact nilw a a'
  rcases hb.1 with rfl | ⟨b', off_, rfl, hlt', hc'⟩
  · simp at hll
    rw [show l.length = 0 by omega]
    exact nilw _ _
  · have HC : Hid (∀ (i : Nat) (e : E), l[i]? = some e → ∀ (j : Nat) (v : Value), (c e)[j]? = some v → w.cell? ⟨b, off + i * 5 + j, none⟩ = some v) := hc
    have HD : Hid (∀ (i : Nat) (e : E), l'[i]? = some e → ∀ (j : Nat) (v : Value), (c e)[j]? = some v → w.cell? ⟨b', off_ + i * 5 + j, none⟩ = some v) := hc'
    have HX : Hid (∀ e ∈ l, e.rs.length ≤ maxLen ∧ e.hs.length ≤ maxLen) := hx
    have HM : Hid (∀ (k : Nat) (r s : E), l[k]? = some r → l'[k]? = some s → same r s) := hm
    have HLL : Hid (l'.length = l.length) := hll
    clear hc hc' nilw hx ha hb hm hll
    go_enter Tryz.func50, Tryz.ntmps50
    go_wp2
    go_loopw [5] (fun x wr => ∃ k : Nat, k ≤ l.length ∧ x = .int .i64 k ∧ Below w.heap.size w wr) (fun x _ => l.length - (intOf x).toNat)
    case atStart => exact ⟨0, Nat.zero_le _, rfl, Below.refl _ _⟩
    case round =>
      obtain ⟨k, hk, rfl, hbel⟩ := hrel
      have hbs := hbel.size
      by_cases hkl : k < l.length
      · have hkl' : k < l'.length := by have := HLL.out; omega
        have HG : Hid (l[k]? = some l[k]) := List.getElem?_eq_getElem hkl
        have HG' : Hid (l'[k]? = some l'[k]) := List.getElem?_eq_getElem hkl'
        have hxs := HX.out l[k] (List.getElem_mem hkl)
        have hrow := HVA.out l[k] (List.getElem_mem hkl)
        have hrow' := HVB.out l'[k] (List.getElem_mem hkl')
        have hsm := HM.out k _ _ HG.out HG'.out
        obtain ⟨⟨nm, lo, nx, ra, rc, rs, ha, hc, hs⟩, he⟩ : ∃ e, l[k] = e := ⟨_, rfl⟩
        obtain ⟨⟨nm', lo', nx', ua, uc, rs', va, vc, hs'⟩, he'⟩ : ∃ e, l'[k] = e := ⟨_, rfl⟩
        rw [he] at HG hxs hrow hsm
        rw [he'] at HG' hrow' hsm
        obtain ⟨q0, q1, q2, q3, q4⟩ := hsm
        simp only at q0 q1 q2 q3 q4
        subst q0 q1 q2 q3 q4
        have c0 : wr.cell? ⟨b, off + k * 5, none⟩ = some (.string nm) := (hbel.cell (p := ⟨b, off + k * 5, none⟩) hlt).trans (by have := HC.out k _ HG.out 0 _ rfl; simpa using this)
        have c1 : wr.cell? ⟨b, off + k * 5 + 1, none⟩ = some (.int .i64 lo) := (hbel.cell (p := ⟨b, off + k * 5 + 1, none⟩) hlt).trans (by have := HC.out k _ HG.out 1 _ rfl; simpa using this)
        have c2 : wr.cell? ⟨b, off + k * 5 + 2, none⟩ = some (.int .i64 nx) := (hbel.cell (p := ⟨b, off + k * 5 + 2, none⟩) hlt).trans (by have := HC.out k _ HG.out 2 _ rfl; simpa using this)
        have c3 : wr.cell? ⟨b, off + k * 5 + 3, none⟩ = some (.slice ra rs.length rc) := (hbel.cell (p := ⟨b, off + k * 5 + 3, none⟩) hlt).trans (by have := HC.out k _ HG.out 3 _ rfl; simpa using this)
        have c4 : wr.cell? ⟨b, off + k * 5 + 4, none⟩ = some (.slice ha hs.length hc) := (hbel.cell (p := ⟨b, off + k * 5 + 4, none⟩) hlt).trans (by have := HC.out k _ HG.out 4 _ rfl; simpa using this)
        have d0 : wr.cell? ⟨b', off_ + k * 5, none⟩ = some (.string nm) := (hbel.cell (p := ⟨b', off_ + k * 5, none⟩) hlt').trans (by have := HD.out k _ HG'.out 0 _ rfl; simpa using this)
        have d1 : wr.cell? ⟨b', off_ + k * 5 + 1, none⟩ = some (.int .i64 lo) := (hbel.cell (p := ⟨b', off_ + k * 5 + 1, none⟩) hlt').trans (by have := HD.out k _ HG'.out 1 _ rfl; simpa using this)
        have d2 : wr.cell? ⟨b', off_ + k * 5 + 2, none⟩ = some (.int .i64 nx) := (hbel.cell (p := ⟨b', off_ + k * 5 + 2, none⟩) hlt').trans (by have := HD.out k _ HG'.out 2 _ rfl; simpa using this)
        have d3 : wr.cell? ⟨b', off_ + k * 5 + 3, none⟩ = some (.slice ua rs.length uc) := (hbel.cell (p := ⟨b', off_ + k * 5 + 3, none⟩) hlt').trans (by have := HD.out k _ HG'.out 3 _ rfl; simpa using this)
        have d4 : wr.cell? ⟨b', off_ + k * 5 + 4, none⟩ = some (.slice va hs.length vc) := (hbel.cell (p := ⟨b', off_ + k * 5 + 4, none⟩) hlt').trans (by have := HD.out k _ HG'.out 4 _ rfl; simpa using this)
        have hone := sl.eq_stream nm lo nx rs hs ra ua ha va rc uc hc vc wr.drew hxs.1 hxs.2 ((hrow.1).inn hbel.drew) ((hrow'.1).inn hbel.drew) ((hrow.2).inn hbel.drew) ((hrow'.2).inn hbel.drew)
        clear he he' hrow hrow' hxs
        go_wp2
        go_region_with (go_at_call 113; refine hone.mono ?_; rintro e w1 ⟨rfl, hb1⟩)
        all_goals
          have hb2 : Below w.heap.size w w1 := hbel.drew.trans (hb1.mono (by show w.heap.size ≤ wr.drew.heap.size; exact hbs))
          clear hone
          go_wp2
          go_roundw
          case rel => exact ⟨k + 1, by omega, by go_num, hb2⟩
          case measure => simp [intOf]; omega
      · obtain rfl : k = l.length := by omega
        go_wp2
        go_ret
        exact ⟨rfl, hbel⟩
end Go.Proofs.YtpkljkahdclcgaaGreat.su
