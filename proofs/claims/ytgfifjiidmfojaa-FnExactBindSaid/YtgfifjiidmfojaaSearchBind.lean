/- The library's binary search among bindings that are ascending; new memory alone. -/
import Derived.Test.YtgfifjiidmfojaaRouteFind
import Derived.Test.YtgfifjiidmfojaaQuietIn
import Derived.Test.YtgfifjiidmfojaaBindPure
namespace Go.Proofs.Ytgfifjiidmfojaa.sbi
open Go.ChangeShapes Go.WideShapes Go.ChangeAt Go.RowKit Go.Proofs.Ytgfifjiidmfojaa.rc Go.Proofs.Ytgfifjiidmfojaa.rr Go.Proofs.Ytgfifjiidmfojaa.rf Go.Proofs.Ytgfifjiidmfojaa.bp
set_option linter.unusedVariables false

set_option maxRecDepth 100000 in
set_option maxHeartbeats 8000000 in
theorem search_bi (l : List Bi) (g c : Nat) (nx nk nq : ByteArray) (w : World) (hl : l.length ≤ 1048576) (hE : RB w g l) (hM : MonB l ⟨nx, nk, nq⟩) :
    Calls Try.prog 40 #[.slice (some ⟨g, 0, none⟩) l.length c, .agg #[.string nx, .string nk, .string nq], .func (.func 41) #[] #[]] w fun r w' => (∃ (p : Nat) (b : Bool), r = .returned (.tuple #[.int .i64 p, .bool b]) ∧ PosB l ⟨nx, nk, nq⟩ p ∧ (b = true ↔ ∃ a, l[p]? = some a ∧ cmpB a ⟨nx, nk, nq⟩ = 0)) ∧ Below w.heap.size w w' := by
  have hb : Below w.heap.size w (w.alloc (.cells #[.string nx, .string nk, .string nq] 61)) := (Below.refl _ _).alloc (Nat.le_refl _) _
  have HE : Hid (RB w g l) := hE
  have HM : Hid (MonB l ⟨nx, nk, nq⟩) := hM
  have tb := heap_alloc_new w (.cells #[.string nx, .string nk, .string nq] 61)
  have hlt : w.heap.size < (w.alloc (.cells #[.string nx, .string nk, .string nq] 61)).heap.size := by simp
  obtain ⟨W, hW⟩ : ∃ W, w.alloc (.cells #[.string nx, .string nk, .string nq] 61) = W := ⟨_, rfl⟩
  rw [hW] at hb tb hlt
  have HTB : Hid (W.heap[w.heap.size]? = some (.cells #[.string nx, .string nk, .string nq] 61 (0, 0))) := tb
  have HEW : Hid (RB W g l) := HE.out.below hb
  clear hE hM tb
  go_enter Try.func40, Try.ntmps40
  go_wp2
  clear hW
  go_loopw [9, 10, 11] (fun v x _ wr => ∃ (i j : Nat), i ≤ j ∧ j ≤ l.length ∧ v = .int .i64 i ∧ x = .int .i64 j ∧ Hid ((∀ (t : Nat) a, t < i → l[t]? = some a → cmpB a ⟨nx, nk, nq⟩ < 0) ∧ ∀ (t : Nat) a, j ≤ t → l[t]? = some a → 0 ≤ cmpB a ⟨nx, nk, nq⟩) ∧ Below W.heap.size W wr) (fun v x _ _ => (intOf x).toNat - (intOf v).toNat)
  case atStart => exact ⟨0, l.length, Nat.zero_le _, Nat.le_refl _, rfl, rfl, ⟨fun t a h => by omega, fun t a h ha => by have := (List.getElem?_eq_some_iff.1 ha).1; omega⟩, Below.refl _ _⟩
  case round =>
    obtain ⟨i, j, hij, hjl, rfl, rfl, hinv, hbel⟩ := hrel
    have hbs := hbel.size
    by_cases hlt2 : i < j
    · obtain ⟨h, hh, hh1, hh2⟩ : ∃ h : Nat, ((i : Int) + (j : Int)) / 2 = (h : Int) ∧ i ≤ h ∧ h < j := ⟨(i + j) / 2, by omega, by omega, by omega⟩
      have g0 : l[h]? = some l[h] := List.getElem?_eq_getElem (by omega)
      obtain ⟨a0, a1, a2⟩ := (HEW.out.below hbel).2 h _ g0
      have t0 : wr.cell? ⟨w.heap.size, 0, none⟩ = some (.string nx) := by
        have := (hbel.block w.heap.size hlt).trans HTB.out
        simp [World.cell?, this]
      have t1 : wr.cell? ⟨w.heap.size, 1, none⟩ = some (.string nk) := by
        have := (hbel.block w.heap.size hlt).trans HTB.out
        simp [World.cell?, this]
      have t2 : wr.cell? ⟨w.heap.size, 2, none⟩ = some (.string nq) := by
        have := (hbel.block w.heap.size hlt).trans HTB.out
        simp [World.cell?, this]
      have HG0 : Hid (l[h]? = some l[h]) := g0
      obtain ⟨⟨ax, ak, aq⟩, ha⟩ : ∃ e, l[h] = e := ⟨_, rfl⟩
      rw [ha] at a0 a1 a2 HG0
      have hcmp := compare_bi ⟨ax, ak, aq⟩ ⟨nx, nk, nq⟩ wr.drew
      obtain ⟨z, hz⟩ : ∃ z, cmpB ⟨ax, ak, aq⟩ ⟨nx, nk, nq⟩ = z := ⟨_, rfl⟩
      rw [hz] at hcmp
      have HZ : Hid (cmpB ⟨ax, ak, aq⟩ ⟨nx, nk, nq⟩ = z) := hz
      have i2 : (h : Int) < (l.length : Int) := by omega
      clear g0 ha hz
      by_cases hneg : z < 0
      · have hinv2 : Hid ((∀ (t : Nat) a, t < h + 1 → l[t]? = some a → cmpB a ⟨nx, nk, nq⟩ < 0) ∧ ∀ (t : Nat) a, j ≤ t → l[t]? = some a → 0 ≤ cmpB a ⟨nx, nk, nq⟩) := ⟨fun t a ht hta => HM.out t h a _ (by omega) hta HG0.out (by show cmpB ⟨ax, ak, aq⟩ ⟨nx, nk, nq⟩ < 0; rw [HZ.out]; exact hneg), hinv.out.2⟩
        go_wp2
        go_region_with (go_at_call 41; refine hcmp.mono ?_; rintro e w1 ⟨rfl, hb1⟩)
        all_goals go_wp2
        all_goals go_roundw
        all_goals first | exact ⟨h + 1, j, by omega, hjl, by go_num, rfl, hinv2, hbel.drew.trans (hb1.mono hbs)⟩ | (simp [intOf]; omega)
      · have hinv2 : Hid ((∀ (t : Nat) a, t < i → l[t]? = some a → cmpB a ⟨nx, nk, nq⟩ < 0) ∧ ∀ (t : Nat) a, h ≤ t → l[t]? = some a → 0 ≤ cmpB a ⟨nx, nk, nq⟩) := ⟨hinv.out.1, fun t a ht hta => by
          by_cases hn : cmpB a ⟨nx, nk, nq⟩ < 0
          · have h3 := HM.out h t _ a ht HG0.out hta hn
            have h4 : cmpB ⟨ax, ak, aq⟩ ⟨nx, nk, nq⟩ < 0 := h3
            rw [HZ.out] at h4
            exact absurd h4 hneg
          · omega⟩
        have hge : (0 : Int) ≤ z := by omega
        go_wp2
        go_region_with (go_at_call 41; refine hcmp.mono ?_; rintro e w1 ⟨rfl, hb1⟩)
        all_goals go_wp2
        all_goals go_roundw
        all_goals first | exact ⟨i, h, by omega, by omega, rfl, rfl, hinv2, hbel.drew.trans (hb1.mono hbs)⟩ | (simp [intOf]; omega)
    · obtain rfl : i = j := by omega
      have hpos : Hid (PosB l ⟨nx, nk, nq⟩ i) := ⟨hjl, hinv.out.1, hinv.out.2⟩
      by_cases hil : i < l.length
      · have g0 : l[i]? = some l[i] := List.getElem?_eq_getElem hil
        obtain ⟨a0, a1, a2⟩ := (HEW.out.below hbel).2 i _ g0
        have t0 : wr.cell? ⟨w.heap.size, 0, none⟩ = some (.string nx) := by
          have := (hbel.block w.heap.size hlt).trans HTB.out
          simp [World.cell?, this]
        have t1 : wr.cell? ⟨w.heap.size, 1, none⟩ = some (.string nk) := by
          have := (hbel.block w.heap.size hlt).trans HTB.out
          simp [World.cell?, this]
        have t2 : wr.cell? ⟨w.heap.size, 2, none⟩ = some (.string nq) := by
          have := (hbel.block w.heap.size hlt).trans HTB.out
          simp [World.cell?, this]
        have HG0 : Hid (l[i]? = some l[i]) := g0
        obtain ⟨⟨ax, ak, aq⟩, ha⟩ : ∃ e, l[i] = e := ⟨_, rfl⟩
        rw [ha] at a0 a1 a2 HG0
        have hcmp := compare_bi ⟨ax, ak, aq⟩ ⟨nx, nk, nq⟩ wr.drew
        obtain ⟨z, hz⟩ : ∃ z, cmpB ⟨ax, ak, aq⟩ ⟨nx, nk, nq⟩ = z := ⟨_, rfl⟩
        rw [hz] at hcmp
        have HZ : Hid (cmpB ⟨ax, ak, aq⟩ ⟨nx, nk, nq⟩ = z) := hz
        have i2 : (i : Int) < (l.length : Int) := by omega
        have hd : decide ((i : Int) < (l.length : Int)) = true := by simp; omega
        have kc : ∀ N : qi.Cls wr, Calls Try.prog 41 #[.agg #[.string ax, .string ak, .string aq], .agg #[.string nx, .string nk, .string nq]] N.x fun e w' => e = .returned (.int .i64 z) ∧ qi.T wr w' := fun N => by
          have h := compare_bi ⟨ax, ak, aq⟩ ⟨nx, nk, nq⟩ N.x
          rw [HZ.out] at h
          exact h.mono fun e w' ⟨h1, h2⟩ => ⟨h1, N.h.next h2⟩
        have hgl := (HEW.out.below hbel).1
        have htl : w.heap.size < wr.heap.size := Nat.lt_of_lt_of_le hlt hbs
        have A0 := fun N : qi.Cls wr => (Below.cell N.h (p := ⟨g, i * 3, none⟩) hgl).trans a0
        have A1 := fun N : qi.Cls wr => (Below.cell N.h (p := ⟨g, i * 3 + 1, none⟩) hgl).trans a1
        have A2 := fun N : qi.Cls wr => (Below.cell N.h (p := ⟨g, i * 3 + 2, none⟩) hgl).trans a2
        have T0 := fun N : qi.Cls wr => (Below.cell N.h (p := ⟨w.heap.size, 0, none⟩) htl).trans t0
        have T1 := fun N : qi.Cls wr => (Below.cell N.h (p := ⟨w.heap.size, 1, none⟩) htl).trans t1
        have T2 := fun N : qi.Cls wr => (Below.cell N.h (p := ⟨w.heap.size, 2, none⟩) htl).trans t2
        clear g0 ha hz hcmp a0 a1 a2 t0 t1 t2
        go_wp2
        refine qi.region_in wr (qi.T.refl wr) (by kernel_rfl) (by kernel_rfl) ?_
        repeat (go_big_quiet_step (first | (go_at_call 41; refine (kc _).mono ?_; rintro e wx ⟨rfl, hTx⟩; exact ⟨rfl, ⟨wx, hTx⟩, rfl⟩)))
        refine wpQuiet_nil ?_
        rintro _ ⟨N, rfl⟩
        have hN := N.h
        generalize N.x = wN at hN ⊢
        clear N kc A0 A1 A2 T0 T1 T2
        go_wp2
        go_ret2
        exact ⟨⟨i, z == 0, rfl, hpos.out, by simp; rw [← HZ.out]; exact ⟨fun h => ⟨_, HG0.out, h⟩, fun ⟨a, ha, h⟩ => by rw [HG0.out] at ha; cases ha; exact h⟩⟩, hb.trans ((hbel.trans (Below.mono hN hbs)).mono (by omega))⟩
      · have hd : decide ((i : Int) < (l.length : Int)) = false := by simp; omega
        have hd2 : ¬ (i : Int) < (l.length : Int) := by omega
        go_wp2
        refine qi.region_in wr (qi.T.refl wr) (by kernel_rfl) (by kernel_rfl) ?_
        repeat (go_big_quiet_step (first | (go_at_call 41; fail)))
        refine wpQuiet_nil ?_
        rintro _ ⟨N, rfl⟩
        have hN := N.h
        generalize N.x = wN at hN ⊢
        clear N
        go_wp2
        go_ret2
        exact ⟨⟨i, false, rfl, hpos.out, by simp; intro a ha; have := (List.getElem?_eq_some_iff.1 ha).1; omega⟩, hb.trans ((hbel.trans (Below.mono hN hbs)).mono (by omega))⟩
end Go.Proofs.Ytgfifjiidmfojaa.sbi
