/- The specification's draw of a text that may be spoiled: some text, at most one byte longer. -/
import Derived.Test.YtjnfljipomjcjaaGreatDoorDrawBytes
import Derived.Deep.RegionWith
namespace Go.Proofs.YtjnfljipomjcjaaGreatDoor.df
open Go.ChangeShapes Go.WideShapes Go.ChangeAt Go.RowKit Go.Proofs.YtjnfljipomjcjaaGreatDoor.dw
set_option linter.unusedVariables false

set_option maxRecDepth 100000 in
set_option maxHeartbeats 2000000 in
theorem draw_spoil (p : Nat) (a : Option Addr) (len cap : Nat) (s : ByteArray) (w : World) (hs : s.size ≤ 100000) (hc : Cur w p a len cap) :
    Calls Tryz.prog 35 #[.pointer (some ⟨p, 0, none⟩), .string s] w fun e w' => (∃ t : ByteArray, t.size ≤ s.size + 1 ∧ e = .returned (.string t)) ∧ Cur w' p a len cap ∧ On p w w' := by
  have h1 := draw_below p a len cap (s.size + 1) w (by omega) hc
  have e1 : ((s.size + 1 : Nat) : Int) = (s.size : Int) + 1 := by omega
  rw [e1] at h1
  clear hc e1
  go_enter Tryz.func35, Tryz.ntmps35
  have t1 : True := trivial
  go_wp2_with (go_at_call 52; have _t := t1; refine h1.mono ?_; rintro e w1 ⟨⟨i, hi, rfl⟩, hc1, hb1⟩; clear t1)
  have h2 := draw_below p a len cap 8 w1 (by omega) hc1
  refine h2.mono ?_
  rintro e w2 ⟨⟨x, hx, rfl⟩, hc2, hb2⟩
  have hon := hb1.trans hb2
  have hcd : Cur w2.drew p a len cap := hc2
  have hby := draw_bytes p a len cap 1 w2.drew (by omega) hcd
  clear h1 h2 hc1 hb1 hb2
  have hi2 : (i : Int) ≤ s.size := by omega
  have hsl1 : ∀ W : World, (Instr.slice 9 (.string s) none (some (.int .i64 (i : Int))) none).run Tryz.prog W = .ok (.string (s.extract 0 i)) W := fun W => by
    rw [run_slice_string_h (P := Tryz.prog) W 9 s Tryz.underlying9 .i64 (i : Int) (by omega) (by omega), show ((i : Int)).toNat = i by omega]
  have hsl2 : ∀ W : World, (Instr.slice 9 (.string s) (some (.int .i64 (i : Int))) none none).run Tryz.prog W = .ok (.string (s.extract i s.size)) W := fun W => by
    rw [run_slice_string_l (P := Tryz.prog) W 9 s Tryz.underlying9 .i64 (i : Int) (by omega) (by omega), show ((i : Int)).toNat = i by omega]
  have z1 : (s.extract 0 i).size = i := by rw [ByteArray.size_extract]; omega
  have z2 : (s.extract i s.size).size = s.size - i := by rw [ByteArray.size_extract]; omega
  obtain ⟨A1, hA1⟩ : ∃ A1, s.extract 0 i = A1 := ⟨_, rfl⟩
  obtain ⟨A2, hA2⟩ : ∃ A2, s.extract i s.size = A2 := ⟨_, rfl⟩
  rw [hA1] at hsl1 z1
  rw [hA2] at hsl2 z2
  have hA1s : A1.size ≤ 100000 := by omega
  have hA2s : A2.size ≤ 100000 := by omega
  have Z1 : Hid (A1.size = i) := z1
  have Z2 : Hid (A2.size = s.size - i) := z2
  clear hA1 hA2 z1 z2
  by_cases hx0 : x = 0
  · subst hx0
    go_wp2
    go_ret
    exact ⟨⟨A1, by have := Z1.out; omega, rfl⟩, hc2, hon⟩
  · by_cases hx1 : x = 1
    · subst hx1
      go_wp2
      go_region_with (go_at_call 56; refine hby.mono ?_; rintro e w3 ⟨⟨t, ht, rfl⟩, hc3, hb3⟩)
      all_goals go_wp2
      all_goals go_ret
      all_goals exact ⟨⟨_, by rw [ByteArray.size_append, ByteArray.size_append]; have := Z1.out; have := Z2.out; omega, rfl⟩, hc3, hon.drew.trans hb3⟩
    · by_cases hx2 : x = 2
      · subst hx2
        by_cases hil : i < s.size
        · have hsl3 : ∀ W : World, (Instr.slice 9 (.string s) (some (.int .i64 ((i : Int) + 1))) none none).run Tryz.prog W = .ok (.string (s.extract (i + 1) s.size)) W := fun W => by
            rw [run_slice_string_l (P := Tryz.prog) W 9 s Tryz.underlying9 .i64 ((i : Int) + 1) (by omega) (by omega), show ((i : Int) + 1).toNat = i + 1 by omega]
          have z3 : (s.extract (i + 1) s.size).size = s.size - (i + 1) := by rw [ByteArray.size_extract]; omega
          obtain ⟨A3, hA3⟩ : ∃ A3, s.extract (i + 1) s.size = A3 := ⟨_, rfl⟩
          rw [hA3] at hsl3 z3
          have hA3s : A3.size ≤ 100000 := by omega
          have Z3 : Hid (A3.size = s.size - (i + 1)) := z3
          have hi3 : (i : Int) + 1 ≤ s.size := by omega
          have hi4 : (0 : Int) ≤ (i : Int) + 1 := by omega
          have hwr : IntKind.i64.wrap ((i : Int) + 1) = (i : Int) + 1 := by rw [IntKind.wrap_i64]; omega
          clear hA3 z3 hsl2
          go_wp2
          go_region_with (go_at_call 56; refine hby.mono ?_; rintro e w3 ⟨⟨t, ht, rfl⟩, hc3, hb3⟩)
          all_goals go_wp2
          all_goals go_ret
          all_goals exact ⟨⟨_, by rw [ByteArray.size_append, ByteArray.size_append]; have := Z1.out; have := Z3.out; omega, rfl⟩, hc3, hon.drew.trans hb3⟩
        · go_wp2
          go_ret
          exact ⟨⟨s, by omega, rfl⟩, hc2, hon⟩
      · have e0 : ((x : Int) == 0) = false := by simp only [beq_eq_false_iff_ne]; omega
        have e1 : ((x : Int) == 1) = false := by simp only [beq_eq_false_iff_ne]; omega
        have e2 : ((x : Int) == 2) = false := by simp only [beq_eq_false_iff_ne]; omega
        go_wp2
        go_ret
        exact ⟨⟨s, by omega, rfl⟩, hc2, hon⟩
end Go.Proofs.YtjnfljipomjcjaaGreatDoor.df
