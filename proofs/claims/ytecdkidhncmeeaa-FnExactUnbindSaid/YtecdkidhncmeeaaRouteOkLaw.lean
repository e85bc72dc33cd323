/- The law of RoutesOk, walked: at every routes the program answers as the specification. -/
import Derived.Test.YtecdkidhncmeeaaRouteLib
namespace Go.Proofs.Ytecdkidhncmeeaa.rw0
open Go.ChangeShapes Go.WideShapes Go.ChangeAt Go.RowKit Go.Proofs.Ytecdkidhncmeeaa.rr Go.Proofs.Ytecdkidhncmeeaa.ra Go.Proofs.Ytecdkidhncmeeaa.rt Go.Proofs.Ytecdkidhncmeeaa.rl Go.Proofs.Ytecdkidhncmeeaa.ro
set_option linter.unusedVariables false

theorem small {es : List Ex} {bs : List Bi} (h : es.length + bulkE es + bs.length + bulkB bs ≤ 1048576) : es.length ≤ 1048576 ∧ bs.length ≤ 1048576 ∧ (∀ e ∈ es, e.n.size ≤ 1048576) ∧ ∀ b ∈ bs, b.x.size ≤ 1048576 ∧ b.k.size ≤ 1048576 ∧ b.q.size ≤ 1048576 := by
  refine ⟨by omega, by omega, fun e he => ?_, fun b hb => ?_⟩
  · have h1 := bulkE_le he
    unfold wE at h1
    omega
  · have h1 := bulkB_le hb
    unfold wB at h1
    omega

theorem step6 {w5 w6 : World} {es : List Ex} {bs : List Bi} {g4 h4 : Nat} {n : Nat} (hb6 : Below w5.drew.heap.size w5.drew w6) (hn : n < w5.heap.size) (hY : w5.heap[n]? = some (.cells #[.slice (some ⟨g4, 0, none⟩) es.length es.length, .slice (some ⟨h4, 0, none⟩) bs.length bs.length] 56 (0, 0))) (hE : RE w5 g4 es) (hB : RB w5 h4 bs) :
    Below w5.heap.size w5 w6 ∧ RE w6 g4 es ∧ RB w6 h4 bs ∧ w6.cell? ⟨n, 0, none⟩ = some (.slice (some ⟨g4, 0, none⟩) es.length es.length) ∧ w6.cell? ⟨n, 1, none⟩ = some (.slice (some ⟨h4, 0, none⟩) bs.length bs.length) := by
  have hb6' : Below w5.heap.size w5 w6 := (Below.drew (Below.refl _ w5)).trans hb6
  have q5 := (hb6'.block n hn).trans hY
  exact ⟨hb6', hE.below hb6', hB.below hb6', by simp [World.cell?, q5], by simp [World.cell?, q5]⟩

set_option maxRecDepth 100000 in
set_option maxHeartbeats 4000000 in
theorem walk (es : List Ex) (bs : List Bi) (ea ba : Option Addr) (ec bc : Nat) (w : World) (hel : es.length ≤ maxLen) (hbl : bs.length ≤ maxLen) (hes : ∀ e ∈ es, e.n.size ≤ maxLen) (hbs : ∀ e ∈ bs, e.x.size ≤ maxLen ∧ e.k.size ≤ maxLen ∧ e.q.size ≤ maxLen) (hE : SE w w.heap.size ea es) (hB : SB w w.heap.size ba bs) :
    Calls Try.prog 5 #[.agg #[.slice ea es.length ec, .slice ba bs.length bc]] w fun e w' => e = .returned (.bool true) ∧ Below w.heap.size w w' := by
  have hb : Below w.heap.size w (w.alloc (.cells #[.slice ea es.length ec, .slice ba bs.length bc] 50)) := (Below.refl _ _).alloc (Nat.le_refl _) _
  have hA := heap_alloc_new w (.cells #[.slice ea es.length ec, .slice ba bs.length bc] 50)
  have hlt : w.heap.size < (w.alloc (.cells #[.slice ea es.length ec, .slice ba bs.length bc] 50)).heap.size := by simp
  obtain ⟨W, hW⟩ : ∃ W, w.alloc (.cells #[.slice ea es.length ec, .slice ba bs.length bc] 50) = W := ⟨_, rfl⟩
  rw [hW] at hb hA hlt
  have HSE : Hid (SE W W.heap.size ea es) := SE.inn hE hb
  have HSB : Hid (SB W W.heap.size ba bs) := SB.inn hB hb
  have hsz := sz_routes es bs ea ba ec bc W hel hbl hes hbs HSE.out HSB.out
  have HA : Hid (W.heap[w.heap.size]? = some (.cells #[.slice ea es.length ec, .slice ba bs.length bc] 50 (0, 0))) := hA
  have box : ∀ w', Below W.heap.size W w' → w'.cell? ⟨w.heap.size, 0, none⟩ = some (.slice ea es.length ec) ∧ w'.cell? ⟨w.heap.size, 1, none⟩ = some (.slice ba bs.length bc) := fun w' h => by
    have h1 := (h.block w.heap.size hlt).trans HA.out
    exact ⟨by simp [World.cell?, h1], by simp [World.cell?, h1]⟩
  have BOX : Hid (∀ w', Below W.heap.size W w' → w'.cell? ⟨w.heap.size, 0, none⟩ = some (.slice ea es.length ec) ∧ w'.cell? ⟨w.heap.size, 1, none⟩ = some (.slice ba bs.length bc)) := box
  obtain ⟨c0, c1⟩ := BOX.out W (Below.refl _ _)
  clear hE hB hA box hes hbs
  go_enter Try.func5, Try.ntmps5
  go_wp2_with (go_at_call 33; fail)
  clear hW
  refine hsz.mono ?_
  rintro e w1 ⟨r, rfl, hr, hb1⟩
  by_cases hneg : r < 0
  · go_wp2
    go_ret
    exact ⟨rfl, hb.trans (hb1.mono hb.size)⟩
  obtain ⟨z1, z2, z3, z4⟩ := small (hr (by omega))
  obtain ⟨d0, d1⟩ := BOX.out w1 hb1
  have ht2 := to_routes es bs ea ba ec bc w1 z1 z2 (SE.inn HSE.out hb1) (SB.inn HSB.out hb1)
  have hr0 : (0 : Int) ≤ r := by omega
  have HZ3 : Hid (∀ e ∈ es, e.n.size ≤ 1048576) := z3
  have HZ4 : Hid (∀ b ∈ bs, b.x.size ≤ 1048576 ∧ b.k.size ≤ 1048576 ∧ b.q.size ≤ 1048576) := z4
  clear hsz hr c0 c1 z3 z4
  go_wp2_with (go_at_call 35; fail)
  refine ht2.mono ?_
  rintro e w2 ⟨g2, h2, rfl, re2, rb2, hb2⟩
  have hsp := rk.spec_routes es bs g2 es.length h2 bs.length w2 z1 z2 HZ3.out HZ4.out re2 rb2
  have hB2 : Below W.heap.size W w2 := hb1.trans (hb2.mono hb1.size)
  clear ht2 d0 d1
  go_wp2_with (go_at_call 34; fail)
  refine hsp.mono ?_
  rintro e w3 ⟨⟨b3, rfl, hb3e⟩, hb3⟩
  have hB3 : Below W.heap.size W w3 := hB2.trans (hb3.mono hB2.size)
  obtain ⟨d0, d1⟩ := BOX.out w3 hB3
  have ht4 := to_routes es bs ea ba ec bc w3 z1 z2 (SE.inn HSE.out hB3) (SB.inn HSB.out hB3)
  clear hsp re2 rb2
  go_wp2_with (go_at_call 35; fail)
  refine ht4.mono ?_
  rintro e w4 ⟨g4, h4, rfl, re4, rb4, hb4⟩
  have hB4 : Below W.heap.size W w4 := hB3.trans (hb4.mono hB3.size)
  have hbx : Below w4.heap.size w4 (w4.alloc (.cells #[.slice (some ⟨g4, 0, none⟩) es.length es.length, .slice (some ⟨h4, 0, none⟩) bs.length bs.length] 56)) := (Below.refl _ _).alloc (Nat.le_refl _) _
  have hx := heap_alloc_new w4 (.cells #[.slice (some ⟨g4, 0, none⟩) es.length es.length, .slice (some ⟨h4, 0, none⟩) bs.length bs.length] 56)
  have hxl : w4.heap.size < (w4.alloc (.cells #[.slice (some ⟨g4, 0, none⟩) es.length es.length, .slice (some ⟨h4, 0, none⟩) bs.length bs.length] 56)).heap.size := by simp
  obtain ⟨X, hX⟩ : ∃ X, w4.alloc (.cells #[.slice (some ⟨g4, 0, none⟩) es.length es.length, .slice (some ⟨h4, 0, none⟩) bs.length bs.length] 56) = X := ⟨_, rfl⟩
  rw [hX] at hbx hx hxl
  have hBX : Below W.heap.size W X := hB4.trans (hbx.mono hB4.size)
  have him := ri.impl_routes es bs g4 es.length h4 bs.length X z1 z2 HZ3.out HZ4.out (re4.below hbx) (rb4.below hbx)
  have HRE : Hid (RE X g4 es) := re4.below hbx
  have HRB : Hid (RB X h4 bs) := rb4.below hbx
  have HX : Hid (X.heap[w4.heap.size]? = some (.cells #[.slice (some ⟨g4, 0, none⟩) es.length es.length, .slice (some ⟨h4, 0, none⟩) bs.length bs.length] 56 (0, 0))) := hx
  have y0 : X.cell? ⟨w4.heap.size, 0, none⟩ = some (.slice (some ⟨g4, 0, none⟩) es.length es.length) := by simp [World.cell?, hx]
  have y1 : X.cell? ⟨w4.heap.size, 1, none⟩ = some (.slice (some ⟨h4, 0, none⟩) bs.length bs.length) := by simp [World.cell?, hx]
  clear ht4 d0 d1 re4 rb4 hx
  go_wp2_with (go_at_call 36; fail)
  clear hX
  refine him.mono ?_
  rintro e w5 ⟨⟨b5, rfl, hb5e⟩, hb5⟩
  have hbb : b5 = b3 := by
    have h := hb5e.trans hb3e.symm
    cases b5 <;> cases b3 <;> simp at h ⊢
  subst hbb
  have hB5 : Below W.heap.size W w5 := hBX.trans (hb5.mono hBX.size)
  obtain ⟨d0, d1⟩ := BOX.out w5 hB5
  have y5 := (hb5.block w4.heap.size hxl).trans HX.out
  have hxl5 : w4.heap.size < w5.heap.size := Nat.lt_of_lt_of_le hxl hb5.size
  have y50 : w5.cell? ⟨w4.heap.size, 0, none⟩ = some (.slice (some ⟨g4, 0, none⟩) es.length es.length) := by simp [World.cell?, y5]
  have y51 : w5.cell? ⟨w4.heap.size, 1, none⟩ = some (.slice (some ⟨h4, 0, none⟩) bs.length bs.length) := by simp [World.cell?, y5]
  have HY5 : Hid (w5.heap[w4.heap.size]? = some (.cells #[.slice (some ⟨g4, 0, none⟩) es.length es.length, .slice (some ⟨h4, 0, none⟩) bs.length bs.length] 56 (0, 0))) := y5
  have ht6 := to_routes es bs ea ba ec bc w5.drew z1 z2 (SE.inn HSE.out (hB5.drew)) (SB.inn HSB.out (hB5.drew))
  have HRE5 : Hid (RE w5 g4 es) := HRE.out.below hb5
  have HRB5 : Hid (RB w5 h4 bs) := HRB.out.below hb5
  clear him hb5e hb3e y0 y1 y5
  go_wp2
  go_region_with (first | (go_at_call 35; refine ht6.mono ?_; rintro e w6 ⟨g6, h6, rfl, re6, rb6, hb6⟩; obtain ⟨hb6', e6, f6, q50, q51⟩ := step6 hb6 hxl5 HY5.out HRE5.out HRB5.out; have heq := eq_routes es bs g4 g6 h4 h6 es.length es.length bs.length bs.length w6 z1 z2 e6 re6 f6 rb6; clear e6 f6 re6 rb6) | (go_at_call 37; refine heq.mono ?_; rintro e w7 ⟨rfl, hb7⟩))
  all_goals go_wp2
  all_goals go_ret
  all_goals exact ⟨rfl, hb.trans ((hB5.trans ((hb6'.trans (hb7.mono hb6'.size)).mono hB5.size)).mono hb.size)⟩
end Go.Proofs.Ytecdkidhncmeeaa.rw0
