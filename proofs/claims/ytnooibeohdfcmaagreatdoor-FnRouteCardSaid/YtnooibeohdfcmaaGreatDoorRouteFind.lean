/- Whether a list is ascending, and where a name stands in one that is: the program's functions; new memory alone. -/
import Derived.Test.YtnooibeohdfcmaaGreatDoorRouteRows
import Derived.Laws.EntriesVeiled
namespace Go.Proofs.YtnooibeohdfcmaaGreatDoor.rf
open Go.ChangeShapes Go.WideShapes Go.ChangeAt Go.RowKit Go.Proofs.YtnooibeohdfcmaaGreatDoor.rc Go.Proofs.YtnooibeohdfcmaaGreatDoor.rr
set_option linter.unusedVariables false

/-- each of the first n + 1 is ahead of the next one -/
def UpE (l : List Ex) (n : Nat) : Prop := ∀ i a b, i + 1 < n → l[i]? = some a → l[i + 1]? = some b → cmpT a.n b.n < 0
def UpB (l : List Bi) (n : Nat) : Prop := ∀ i a b, i + 1 < n → l[i]? = some a → l[i + 1]? = some b → cmpB a b < 0

set_option maxRecDepth 100000 in
set_option maxHeartbeats 1000000 in
theorem asc_ex (l : List Ex) (g c : Nat) (w : World) (hl : l.length ≤ 1048576) (hE : RE w g l) (ga : Option Addr) (hga : Hid (apa.NQ ga ⟨g, 0, none⟩ l.length c)) :
    Calls Tryz.prog 50 #[.slice ga l.length c, .func (.func 51) #[] #[]] w fun r w' => (∃ b : Bool, r = .returned (.bool b) ∧ (b = true ↔ UpE l l.length)) ∧ Below w.heap.size w w' := by
  have HE : Hid (RE w g l) := hE
  clear hE
  go_enter Tryz.func50, Tryz.ntmps50
  go_wp2
  go_loopw [5] (fun v wr => ∃ k : Nat, 1 ≤ k ∧ (k ≤ l.length ∨ k = 1) ∧ v = .int .i64 k ∧ Hid (UpE l k) ∧ Below w.heap.size w wr) (fun v _ => l.length - (intOf v).toNat)
  case atStart => exact ⟨1, Nat.le_refl _, .inr rfl, rfl, fun i a b h => by omega, Below.refl _ _⟩
  case round =>
    obtain ⟨k, hk1, hk2, rfl, hup, hbel⟩ := hrel
    have hbs := hbel.size
    by_cases hkl : k < l.length
    · obtain ⟨m, rfl⟩ : ∃ m, k = m + 1 := ⟨k - 1, by omega⟩
      have g0 : l[m]? = some l[m] := List.getElem?_eq_getElem (by omega)
      have hqa : ga = some ⟨g, 0, none⟩ := hga.out.at (by omega)
      have g1 : l[m + 1]? = some l[m + 1] := List.getElem?_eq_getElem hkl
      have hE2 := HE.out.below hbel
      obtain ⟨a0, a1⟩ := hE2.2 m _ g0
      obtain ⟨b0, b1⟩ := hE2.2 (m + 1) _ g1
      have hgl := hE2.1
      have HG0 : Hid (l[m]? = some l[m]) := g0
      have HG1 : Hid (l[m + 1]? = some l[m + 1]) := g1
      obtain ⟨⟨an, ak⟩, ha⟩ : ∃ e, l[m] = e := ⟨_, rfl⟩
      obtain ⟨⟨bn, bk⟩, hb⟩ : ∃ e, l[m + 1] = e := ⟨_, rfl⟩
      rw [ha] at a0 a1 HG0
      rw [hb] at b0 b1 HG1
      have hcmp := compare_ex an bn ak bk wr.drew
      obtain ⟨z, hz⟩ : ∃ z, cmpT an bn = z := ⟨_, rfl⟩
      rw [hz] at hcmp
      have HZ : Hid (cmpT an bn = z) := hz
      clear g0 g1 ha hb hE2 hz
      have i1 : IntKind.i64.wrap (m : Int) = (m : Int) := by rw [IntKind.wrap_i64]; omega
      have i2 : (m : Int) < (l.length : Int) := by omega
      have i3 : (m : Int) + 1 < (l.length : Int) := by omega
      have i4 : ((m : Int) + 1).toNat = m + 1 := by omega
      by_cases hneg : z < 0
      · have hup2 : Hid (UpE l (m + 1 + 1)) := fun j a b hj ha hb => by
          by_cases e : j = m
          · subst e
            rw [HG0.out] at ha
            rw [HG1.out] at hb
            cases ha
            cases hb
            show cmpT an bn < 0
            rw [HZ.out]
            exact hneg
          · exact hup.out j a b (by omega) ha hb
        go_wp2
        go_region_with (go_at_call 51; refine hcmp.mono ?_; rintro e w1 ⟨rfl, hb1⟩)
        all_goals go_wp2
        all_goals try rw [← hqa]
        all_goals try rw [← hqb]
        all_goals go_roundw
        all_goals first | exact ⟨m + 1 + 1, by omega, .inl (by omega), by go_num, hup2, hbel.drew.trans (hb1.mono hbs)⟩ | (simp [intOf]; omega)
      · have hno : ¬ UpE l l.length := fun h => by
          have := h m _ _ (by omega) HG0.out HG1.out
          have h2 : cmpT an bn < 0 := this
          rw [HZ.out] at h2
          exact hneg h2
        have HNO : Hid (¬ UpE l l.length) := hno
        have hge : (0 : Int) ≤ z := by omega
        clear hno
        go_wp2
        go_region_with (go_at_call 51; refine hcmp.mono ?_; rintro e w1 ⟨rfl, hb1⟩)
        all_goals go_wp2
        all_goals go_ret
        all_goals exact ⟨⟨false, rfl, by simp; exact HNO.out⟩, hbel.drew.trans (hb1.mono hbs)⟩
    · have hall : Hid (UpE l l.length) := fun j a b hj ha hb => hup.out j a b (by omega) ha hb
      go_wp2
      go_ret
      exact ⟨⟨true, rfl, by simp; exact hall.out⟩, hbel⟩

set_option maxRecDepth 100000 in
set_option maxHeartbeats 1000000 in
theorem asc_bi (l : List Bi) (g c : Nat) (w : World) (hl : l.length ≤ 1048576) (hE : RB w g l) (ga : Option Addr) (hga : Hid (apa.NQ ga ⟨g, 0, none⟩ l.length c)) :
    Calls Tryz.prog 52 #[.slice ga l.length c, .func (.func 40) #[] #[]] w fun r w' => (∃ b : Bool, r = .returned (.bool b) ∧ (b = true ↔ UpB l l.length)) ∧ Below w.heap.size w w' := by
  have HE : Hid (RB w g l) := hE
  clear hE
  go_enter Tryz.func52, Tryz.ntmps52
  go_wp2
  go_loopw [5] (fun v wr => ∃ k : Nat, 1 ≤ k ∧ (k ≤ l.length ∨ k = 1) ∧ v = .int .i64 k ∧ Hid (UpB l k) ∧ Below w.heap.size w wr) (fun v _ => l.length - (intOf v).toNat)
  case atStart => exact ⟨1, Nat.le_refl _, .inr rfl, rfl, fun i a b h => by omega, Below.refl _ _⟩
  case round =>
    obtain ⟨k, hk1, hk2, rfl, hup, hbel⟩ := hrel
    have hbs := hbel.size
    by_cases hkl : k < l.length
    · obtain ⟨m, rfl⟩ : ∃ m, k = m + 1 := ⟨k - 1, by omega⟩
      have g0 : l[m]? = some l[m] := List.getElem?_eq_getElem (by omega)
      have hqa : ga = some ⟨g, 0, none⟩ := hga.out.at (by omega)
      have g1 : l[m + 1]? = some l[m + 1] := List.getElem?_eq_getElem hkl
      have hE2 := HE.out.below hbel
      obtain ⟨a0, a1, a2⟩ := hE2.2 m _ g0
      obtain ⟨b0, b1, b2⟩ := hE2.2 (m + 1) _ g1
      have hgl := hE2.1
      have HG0 : Hid (l[m]? = some l[m]) := g0
      have HG1 : Hid (l[m + 1]? = some l[m + 1]) := g1
      obtain ⟨⟨ax, ak, aq⟩, ha⟩ : ∃ e, l[m] = e := ⟨_, rfl⟩
      obtain ⟨⟨bx, bk, bq⟩, hb⟩ : ∃ e, l[m + 1] = e := ⟨_, rfl⟩
      rw [ha] at a0 a1 a2 HG0
      rw [hb] at b0 b1 b2 HG1
      have hcmp := compare_bi ⟨ax, ak, aq⟩ ⟨bx, bk, bq⟩ wr.drew
      obtain ⟨z, hz⟩ : ∃ z, cmpB ⟨ax, ak, aq⟩ ⟨bx, bk, bq⟩ = z := ⟨_, rfl⟩
      rw [hz] at hcmp
      have HZ : Hid (cmpB ⟨ax, ak, aq⟩ ⟨bx, bk, bq⟩ = z) := hz
      clear g0 g1 ha hb hE2 hz
      have i1 : IntKind.i64.wrap (m : Int) = (m : Int) := by rw [IntKind.wrap_i64]; omega
      have i2 : (m : Int) < (l.length : Int) := by omega
      have i3 : (m : Int) + 1 < (l.length : Int) := by omega
      have i4 : ((m : Int) + 1).toNat = m + 1 := by omega
      by_cases hneg : z < 0
      · have hup2 : Hid (UpB l (m + 1 + 1)) := fun j a b hj ha hb => by
          by_cases e : j = m
          · subst e
            rw [HG0.out] at ha
            rw [HG1.out] at hb
            cases ha
            cases hb
            show cmpB ⟨ax, ak, aq⟩ ⟨bx, bk, bq⟩ < 0
            rw [HZ.out]
            exact hneg
          · exact hup.out j a b (by omega) ha hb
        go_wp2
        go_region_with (go_at_call 40; refine hcmp.mono ?_; rintro e w1 ⟨rfl, hb1⟩)
        all_goals go_wp2
        all_goals try rw [← hqa]
        all_goals try rw [← hqb]
        all_goals go_roundw
        all_goals first | exact ⟨m + 1 + 1, by omega, .inl (by omega), by go_num, hup2, hbel.drew.trans (hb1.mono hbs)⟩ | (simp [intOf]; omega)
      · have hno : ¬ UpB l l.length := fun h => by
          have := h m _ _ (by omega) HG0.out HG1.out
          have h2 : cmpB ⟨ax, ak, aq⟩ ⟨bx, bk, bq⟩ < 0 := this
          rw [HZ.out] at h2
          exact hneg h2
        have HNO : Hid (¬ UpB l l.length) := hno
        have hge : (0 : Int) ≤ z := by omega
        clear hno
        go_wp2
        go_region_with (go_at_call 40; refine hcmp.mono ?_; rintro e w1 ⟨rfl, hb1⟩)
        all_goals go_wp2
        all_goals go_ret
        all_goals exact ⟨⟨false, rfl, by simp; exact HNO.out⟩, hbel.drew.trans (hb1.mono hbs)⟩
    · have hall : Hid (UpB l l.length) := fun j a b hj ha hb => hup.out j a b (by omega) ha hb
      go_wp2
      go_ret
      exact ⟨⟨true, rfl, by simp; exact hall.out⟩, hbel⟩
end Go.Proofs.YtnooibeohdfcmaaGreatDoor.rf
