/- The library's binary search among exchanges and among bindings that are ascending; new memory alone. -/
import Derived.Test.YtnooibeohdfcmaaGreatDoorRouteFind
import Derived.Test.YtnooibeohdfcmaaGreatDoorQuietIn
namespace Go.Proofs.YtnooibeohdfcmaaGreatDoor.rs
open Go.ChangeShapes Go.WideShapes Go.ChangeAt Go.RowKit Go.Proofs.YtnooibeohdfcmaaGreatDoor.rc Go.Proofs.YtnooibeohdfcmaaGreatDoor.rr Go.Proofs.YtnooibeohdfcmaaGreatDoor.rf
set_option linter.unusedVariables false

/-- what stands up to h is ahead of the name, once what stands at h is -/
def MonE (l : List Ex) (name : ByteArray) : Prop := ∀ (i j : Nat) a b, i ≤ j → l[i]? = some a → l[j]? = some b → cmpT b.n name < 0 → cmpT a.n name < 0
/-- p is the place of the name -/
def PosE (l : List Ex) (name : ByteArray) (p : Nat) : Prop := p ≤ l.length ∧ (∀ (i : Nat) a, i < p → l[i]? = some a → cmpT a.n name < 0) ∧ ∀ (i : Nat) a, p ≤ i → l[i]? = some a → 0 ≤ cmpT a.n name

set_option maxRecDepth 100000 in
set_option maxHeartbeats 8000000 in
theorem search_ex (l : List Ex) (g c : Nat) (name : ByteArray) (w : World) (hl : l.length ≤ 1048576) (hE : RE w g l) (hM : MonE l name) (ga : Option Addr) (hga : Hid (apa.NQ ga ⟨g, 0, none⟩ l.length c)) :
    Calls Tryz.prog 69 #[.slice ga l.length c, .agg #[.string name, .int .i64 0], .func (.func 51) #[] #[]] w fun r w' => (∃ (p : Nat) (b : Bool), r = .returned (.tuple #[.int .i64 p, .bool b]) ∧ PosE l name p ∧ (b = true ↔ ∃ a, l[p]? = some a ∧ cmpT a.n name = 0)) ∧ Below w.heap.size w w' := by
  have hb : Below w.heap.size w (w.alloc (.cells #[.string name, .int .i64 0] 75)) := (Below.refl _ _).alloc (Nat.le_refl _) _
  have HE : Hid (RE w g l) := hE
  have HM : Hid (MonE l name) := hM
  have tb := heap_alloc_new w (.cells #[.string name, .int .i64 0] 75)
  have hlt : w.heap.size < (w.alloc (.cells #[.string name, .int .i64 0] 75)).heap.size := by simp
  obtain ⟨W, hW⟩ : ∃ W, w.alloc (.cells #[.string name, .int .i64 0] 75) = W := ⟨_, rfl⟩
  rw [hW] at hb tb hlt
  have HTB : Hid (W.heap[w.heap.size]? = some (.cells #[.string name, .int .i64 0] 75 (0, 0))) := tb
  have HEW : Hid (RE W g l) := HE.out.below hb
  clear hE hM tb
  go_enter Tryz.func69, Tryz.ntmps69
  go_wp2
  clear hW
  go_loopw [9, 10, 11] (fun v x _ wr => ∃ (i j : Nat), i ≤ j ∧ j ≤ l.length ∧ v = .int .i64 i ∧ x = .int .i64 j ∧ Hid ((∀ (t : Nat) a, t < i → l[t]? = some a → cmpT a.n name < 0) ∧ ∀ (t : Nat) a, j ≤ t → l[t]? = some a → 0 ≤ cmpT a.n name) ∧ Below W.heap.size W wr) (fun v x _ _ => (intOf x).toNat - (intOf v).toNat)
  case atStart => exact ⟨0, l.length, Nat.zero_le _, Nat.le_refl _, rfl, rfl, ⟨fun t a h => by omega, fun t a h ha => by have := (List.getElem?_eq_some_iff.1 ha).1; omega⟩, Below.refl _ _⟩
  case round =>
    obtain ⟨i, j, hij, hjl, rfl, rfl, hinv, hbel⟩ := hrel
    have hbs := hbel.size
    by_cases hlt2 : i < j
    · obtain ⟨h, hh, hh1, hh2⟩ : ∃ h : Nat, ((i : Int) + (j : Int)) / 2 = (h : Int) ∧ i ≤ h ∧ h < j := ⟨(i + j) / 2, by omega, by omega, by omega⟩
      have g0 : l[h]? = some l[h] := List.getElem?_eq_getElem (by omega)
      have hqa : ga = some ⟨g, 0, none⟩ := hga.out.at (by omega)
      obtain ⟨a0, a1⟩ := (HEW.out.below hbel).2 h _ g0
      have t0 : wr.cell? ⟨w.heap.size, 0, none⟩ = some (.string name) := by
        have := (hbel.block w.heap.size hlt).trans HTB.out
        simp [World.cell?, this]
      have t1 : wr.cell? ⟨w.heap.size, 1, none⟩ = some (.int .i64 0) := by
        have := (hbel.block w.heap.size hlt).trans HTB.out
        simp [World.cell?, this]
      have HG0 : Hid (l[h]? = some l[h]) := g0
      obtain ⟨⟨an, ak⟩, ha⟩ : ∃ e, l[h] = e := ⟨_, rfl⟩
      rw [ha] at a0 a1 HG0
      have hcmp := compare_ex an name ak 0 wr.drew
      obtain ⟨z, hz⟩ : ∃ z, cmpT an name = z := ⟨_, rfl⟩
      rw [hz] at hcmp
      have HZ : Hid (cmpT an name = z) := hz
      have i2 : (h : Int) < (l.length : Int) := by omega
      clear g0 ha hz
      by_cases hneg : z < 0
      · have hinv2 : Hid ((∀ (t : Nat) a, t < h + 1 → l[t]? = some a → cmpT a.n name < 0) ∧ ∀ (t : Nat) a, j ≤ t → l[t]? = some a → 0 ≤ cmpT a.n name) := ⟨fun t a ht hta => HM.out t h a _ (by omega) hta HG0.out (by show cmpT an name < 0; rw [HZ.out]; exact hneg), hinv.out.2⟩
        go_wp2
        go_region_with (go_at_call 51; refine hcmp.mono ?_; rintro e w1 ⟨rfl, hb1⟩)
        all_goals go_wp2
        all_goals try rw [← hqa]
        all_goals try rw [← hqb]
        all_goals go_roundw
        all_goals first | exact ⟨h + 1, j, by omega, hjl, by go_num, rfl, hinv2, hbel.drew.trans (hb1.mono hbs)⟩ | (simp [intOf]; omega)
      · have hinv2 : Hid ((∀ (t : Nat) a, t < i → l[t]? = some a → cmpT a.n name < 0) ∧ ∀ (t : Nat) a, h ≤ t → l[t]? = some a → 0 ≤ cmpT a.n name) := ⟨hinv.out.1, fun t a ht hta => by
          by_cases hn : cmpT a.n name < 0
          · have h3 := HM.out h t _ a ht HG0.out hta hn
            have h4 : cmpT an name < 0 := h3
            rw [HZ.out] at h4
            exact absurd h4 hneg
          · omega⟩
        have hge : (0 : Int) ≤ z := by omega
        go_wp2
        go_region_with (go_at_call 51; refine hcmp.mono ?_; rintro e w1 ⟨rfl, hb1⟩)
        all_goals go_wp2
        all_goals try rw [← hqa]
        all_goals try rw [← hqb]
        all_goals go_roundw
        all_goals first | exact ⟨i, h, by omega, by omega, rfl, rfl, hinv2, hbel.drew.trans (hb1.mono hbs)⟩ | (simp [intOf]; omega)
    · obtain rfl : i = j := by omega
      have hpos : Hid (PosE l name i) := ⟨hjl, hinv.out.1, hinv.out.2⟩
      by_cases hil : i < l.length
      · have g0 : l[i]? = some l[i] := List.getElem?_eq_getElem hil
        have hqa : ga = some ⟨g, 0, none⟩ := hga.out.at (by omega)
        obtain ⟨a0, a1⟩ := (HEW.out.below hbel).2 i _ g0
        have t0 : wr.cell? ⟨w.heap.size, 0, none⟩ = some (.string name) := by
          have := (hbel.block w.heap.size hlt).trans HTB.out
          simp [World.cell?, this]
        have t1 : wr.cell? ⟨w.heap.size, 1, none⟩ = some (.int .i64 0) := by
          have := (hbel.block w.heap.size hlt).trans HTB.out
          simp [World.cell?, this]
        have HG0 : Hid (l[i]? = some l[i]) := g0
        obtain ⟨⟨an, ak⟩, ha⟩ : ∃ e, l[i] = e := ⟨_, rfl⟩
        rw [ha] at a0 a1 HG0
        have hcmp := compare_ex an name ak 0 wr.drew
        obtain ⟨z, hz⟩ : ∃ z, cmpT an name = z := ⟨_, rfl⟩
        rw [hz] at hcmp
        have HZ : Hid (cmpT an name = z) := hz
        have i2 : (i : Int) < (l.length : Int) := by omega
        have hd : decide ((i : Int) < (l.length : Int)) = true := by simp; omega
        have kc : ∀ N : qi.Cls wr, Calls Tryz.prog 51 #[.agg #[.string an, .int .i64 ak], .agg #[.string name, .int .i64 0]] N.x fun e w' => e = .returned (.int .i64 z) ∧ qi.T wr w' := fun N => by
          have h := compare_ex an name ak 0 N.x
          rw [HZ.out] at h
          exact h.mono fun e w' ⟨h1, h2⟩ => ⟨h1, N.h.next h2⟩
        have hgl := (HEW.out.below hbel).1
        have htl : w.heap.size < wr.heap.size := Nat.lt_of_lt_of_le hlt hbs
        have A0 := fun N : qi.Cls wr => (Below.cell N.h (p := ⟨g, i * 2, none⟩) hgl).trans a0
        have A1 := fun N : qi.Cls wr => (Below.cell N.h (p := ⟨g, i * 2 + 1, none⟩) hgl).trans a1
        have T0 := fun N : qi.Cls wr => (Below.cell N.h (p := ⟨w.heap.size, 0, none⟩) htl).trans t0
        have T1 := fun N : qi.Cls wr => (Below.cell N.h (p := ⟨w.heap.size, 1, none⟩) htl).trans t1
        clear g0 ha hz hcmp a0 a1 t0 t1
        go_wp2
        refine qi.region_in wr (qi.T.refl wr) (by kernel_rfl) (by kernel_rfl) ?_
        repeat (go_big_quiet_step (first | (go_at_call 51; refine (kc _).mono ?_; rintro e wx ⟨rfl, hTx⟩; exact ⟨rfl, ⟨wx, hTx⟩, rfl⟩)))
        refine wpQuiet_nil ?_
        rintro _ ⟨N, rfl⟩
        have hN := N.h
        generalize N.x = wN at hN ⊢
        clear N kc A0 A1 T0 T1
        go_wp2
        go_ret2
        exact ⟨⟨i, z == 0, rfl, hpos.out, by simp; rw [← HZ.out]; exact ⟨fun h => ⟨_, HG0.out, h⟩, fun ⟨a, ha, h⟩ => by rw [HG0.out] at ha; cases ha; exact h⟩⟩, hb.trans ((hbel.trans (Below.mono hN hbs)).mono (by omega))⟩
      · have hd : decide ((i : Int) < (l.length : Int)) = false := by simp; omega
        have hd2 : ¬ (i : Int) < (l.length : Int) := by omega
        go_wp2
        refine qi.region_in wr (qi.T.refl wr) (by kernel_rfl) (by kernel_rfl) ?_
        repeat (go_big_quiet_step (first | (go_at_call 51; fail)))
        refine wpQuiet_nil ?_
        rintro _ ⟨N, rfl⟩
        have hN := N.h
        generalize N.x = wN at hN ⊢
        clear N
        go_wp2
        go_ret2
        exact ⟨⟨i, false, rfl, hpos.out, by simp; intro a ha; have := (List.getElem?_eq_some_iff.1 ha).1; omega⟩, hb.trans ((hbel.trans (Below.mono hN hbs)).mono (by omega))⟩
end Go.Proofs.YtnooibeohdfcmaaGreatDoor.rs
