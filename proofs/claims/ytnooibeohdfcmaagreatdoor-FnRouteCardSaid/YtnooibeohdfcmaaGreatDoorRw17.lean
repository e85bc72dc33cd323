/- slices.Insert of one binding into a row of bindings that has no room: the same row with it in its place, in a row of its own. -/
import Derived.Test.YtnooibeohdfcmaaGreatDoorRw02
import Derived.Test.YtnooibeohdfcmaaGreatDoorRouteFind
import Derived.Test.YtnooibeohdfcmaaGreatDoorQuietIn
import Derived.Test.YtnooibeohdfcmaaGreatDoorRw03
import Derived.Test.YtnooibeohdfcmaaGreatDoorRw09
import Derived.Test.YtnooibeohdfcmaaGreatDoorRouteRows
import Derived.Test.YtnooibeohdfcmaaGreatDoorFlatOwn
import Derived.Deep.DeepAppendWide
import Derived.Laws.CopyOwn

/- Routes on their way through the program's Declare and Bind: the boxes, and rows of their own. -/
namespace Go.Proofs.YtnooibeohdfcmaaGreatDoor.rgn
open Go.ChangeShapes Go.WideShapes Go.ChangeAt Go.RowKit Go.Proofs.YtnooibeohdfcmaaGreatDoor.rc Go.Proofs.YtnooibeohdfcmaaGreatDoor.rr Go.Proofs.YtnooibeohdfcmaaGreatDoor.ra Go.Proofs.YtnooibeohdfcmaaGreatDoor.rt Go.Proofs.YtnooibeohdfcmaaGreatDoor.fl Go.Proofs.YtnooibeohdfcmaaGreatDoor.su Go.Proofs.YtnooibeohdfcmaaGreatDoor.rwy Go.Proofs.YtnooibeohdfcmaaGreatDoor.cr
set_option linter.unusedVariables false

/-- the argument's box and the answer's place -/
structure R0 (w : World) (es : List Ex) (bs : List Bi) (a0 b0 : Option Addr) (ec bc : Nat) (X : World) : Prop where
  bel : Below w.heap.size w X
  box : X.heap[w.heap.size]? = some (.cells #[.slice a0 es.length ec, .slice b0 bs.length bc] 27 (0, 0))
  res : X.heap[w.heap.size + 1]? = some (.cells #[.slice none 0 0, .slice none 0 0] 27 (0, 0))
theorem R0.on {w X X' : World} {es : List Ex} {bs : List Bi} {a0 b0 : Option Addr} {ec bc : Nat} (h : R0 w es bs a0 b0 ec bc X) (hb : Below X.heap.size X X') : R0 w es bs a0 b0 ec bc X' :=
  ⟨h.bel.trans (hb.mono h.bel.size), bstay h.box hb (Array.getElem?_eq_some_iff.1 h.box).1, bstay h.res hb (Array.getElem?_eq_some_iff.1 h.res).1⟩
theorem R0.size {w X : World} {es : List Ex} {bs : List Bi} {a0 b0 : Option Addr} {ec bc : Nat} (h : R0 w es bs a0 b0 ec bc X) : w.heap.size + 2 ≤ X.heap.size := (Array.getElem?_eq_some_iff.1 h.res).1
/-- a row of one's own, behind a place -/
def PE (w X : World) (g : Nat) (m : List Ex) : Prop := w.heap.size + 2 ≤ g ∧ FE X g m m.length
def PB (w X : World) (g : Nat) (m : List Bi) : Prop := w.heap.size + 2 ≤ g ∧ FB X g m m.length
theorem take_at {xs : List Value} {cur : Array Value} {n j : Nat} {v : Value} (h : cur.toList.take n = xs) (hv : xs[j]? = some v) : cur[j]? = some v := by
  rw [← h] at hv
  have hlt := (List.getElem?_eq_some_iff.1 hv).1
  rw [List.length_take] at hlt
  rw [List.getElem?_take_of_lt (by omega)] at hv
  simpa using hv
theorem OE.p {w X : World} {g c : Nat} {m : List Ex} (h : OE w X g c m) : PE w X g m := by
  obtain ⟨_, ⟨h1, _⟩ | ⟨g', cap', cur, h1, h2, h3, h4, h5, h6, h7⟩⟩ := h
  · cases h1
  cases h1
  refine ⟨h2, cur, h3, by rw [h6]; exact Nat.mul_le_mul_right 2 h4, fun i e _ he => ⟨take_at h7 (by simpa using flat_at cE_len m i e he 0 _ rfl), take_at h7 (flat_at cE_len m i e he 1 _ rfl)⟩⟩
theorem OB.p {w X : World} {g c : Nat} {m : List Bi} (h : OB w X g c m) : PB w X g m := by
  obtain ⟨_, ⟨h1, _⟩ | ⟨g', cap', cur, h1, h2, h3, h4, h5, h6, h7⟩⟩ := h
  · cases h1
  cases h1
  refine ⟨h2, cur, h3, by rw [h6]; exact Nat.mul_le_mul_right 3 h4, fun i e _ he => ⟨take_at h7 (by simpa using flat_at cB_len m i e he 0 _ rfl), take_at h7 (flat_at cB_len m i e he 1 _ rfl), take_at h7 (flat_at cB_len m i e he 2 _ rfl)⟩⟩
theorem own_E {w X : World} {g : Nat} {m : List Ex} (h : XE X g m m.length) (hg : w.heap.size + 2 ≤ g) (hl : m.length ≤ 1048576) : OE w X g m.length m := by
  obtain ⟨cur, h1, h2, h3⟩ := h
  refine ⟨flat_len cE_len m, .inr ⟨g, m.length, cur, rfl, hg, h1, Nat.le_refl _, by unfold maxLen; omega, h2, ?_⟩⟩
  apply List.ext_getElem?
  intro j
  by_cases hj : j < m.length * 2
  · rw [List.getElem?_take_of_lt hj]
    obtain ⟨u, hu⟩ : ∃ u, (m.flatMap cE)[j]? = some u := ⟨_, List.getElem?_eq_getElem (by rw [flat_len cE_len]; exact hj)⟩
    obtain ⟨i, e, r, a1, a2, rfl⟩ := flat_get cE_len m j u hu
    rw [hu]
    obtain ⟨b0, b1⟩ := h3 i e (List.getElem?_eq_some_iff.1 a1).1 a1
    match r, a2 with
    | 0, a2 => cases a2; simpa using b0
    | 1, a2 => cases a2; simpa using b1
    | r + 2, a2 => simp [cE] at a2
  · rw [List.getElem?_eq_none (by rw [List.length_take]; omega), List.getElem?_eq_none (by rw [flat_len cE_len]; omega)]
theorem own_B {w X : World} {g : Nat} {m : List Bi} (h : XB X g m m.length) (hg : w.heap.size + 2 ≤ g) (hl : m.length ≤ 1048576) : OB w X g m.length m := by
  obtain ⟨cur, h1, h2, h3⟩ := h
  refine ⟨flat_len cB_len m, .inr ⟨g, m.length, cur, rfl, hg, h1, Nat.le_refl _, by unfold maxLen; omega, h2, ?_⟩⟩
  apply List.ext_getElem?
  intro j
  by_cases hj : j < m.length * 3
  · rw [List.getElem?_take_of_lt hj]
    obtain ⟨u, hu⟩ : ∃ u, (m.flatMap cB)[j]? = some u := ⟨_, List.getElem?_eq_getElem (by rw [flat_len cB_len]; exact hj)⟩
    obtain ⟨i, e, r, a1, a2, rfl⟩ := flat_get cB_len m j u hu
    rw [hu]
    obtain ⟨b0, b1, b2⟩ := h3 i e (List.getElem?_eq_some_iff.1 a1).1 a1
    match r, a2 with
    | 0, a2 => cases a2; simpa using b0
    | 1, a2 => cases a2; simpa using b1
    | 2, a2 => cases a2; simpa using b2
    | r + 3, a2 => simp [cB] at a2
  · rw [List.getElem?_eq_none (by rw [List.length_take]; omega), List.getElem?_eq_none (by rw [flat_len cB_len]; omega)]
theorem fin_FE {w X : World} {g : Nat} {m : List Ex} {x0 x1 : Value} (h : PE w X g m) : FE (res2 X (w.heap.size + 1) x0 x1) g m m.length := by
  have hb := h.1
  exact cr.FE.keptE (cr.FE.keptE h.2 (Below.heap_setCell _ _ _ _ (show g ≠ w.heap.size + 1 by omega))) (Below.heap_setCell _ _ _ _ (show g ≠ w.heap.size + 1 by omega))
theorem fin_FB {w X : World} {g : Nat} {m : List Bi} {x0 x1 : Value} (h : PB w X g m) : FB (res2 X (w.heap.size + 1) x0 x1) g m m.length := by
  have hb := h.1
  exact cr.FB.keptB (cr.FB.keptB h.2 (Below.heap_setCell _ _ _ _ (show g ≠ w.heap.size + 1 by omega))) (Below.heap_setCell _ _ _ _ (show g ≠ w.heap.size + 1 by omega))
theorem PE.ne {w X : World} {g h : Nat} {m : List Ex} {l : List Bi} (h1 : PE w X g m) (h2 : PB w X h l) : g ≠ h := by
  rintro rfl
  obtain ⟨_, c, h3, _⟩ := h1
  obtain ⟨_, c', h4, _⟩ := h2
  rw [h3] at h4
  simp at h4
end Go.Proofs.YtnooibeohdfcmaaGreatDoor.rgn

/- The library's binary search among bindings that are ascending; new memory alone. -/
namespace Go.Proofs.YtnooibeohdfcmaaGreatDoor.sbi
open Go.ChangeShapes Go.WideShapes Go.ChangeAt Go.RowKit Go.Proofs.YtnooibeohdfcmaaGreatDoor.rc Go.Proofs.YtnooibeohdfcmaaGreatDoor.rr Go.Proofs.YtnooibeohdfcmaaGreatDoor.rf Go.Proofs.YtnooibeohdfcmaaGreatDoor.bp
set_option linter.unusedVariables false

set_option maxRecDepth 100000 in
set_option maxHeartbeats 8000000 in
theorem search_bi (l : List Bi) (g c : Nat) (nx nk nq : ByteArray) (w : World) (hl : l.length ≤ 1048576) (hE : RB w g l) (hM : MonB l ⟨nx, nk, nq⟩) (ga : Option Addr) (hga : Hid (apa.NQ ga ⟨g, 0, none⟩ l.length c)) :
    Calls Tryz.prog 39 #[.slice ga l.length c, .agg #[.string nx, .string nk, .string nq], .func (.func 40) #[] #[]] w fun r w' => (∃ (p : Nat) (b : Bool), r = .returned (.tuple #[.int .i64 p, .bool b]) ∧ PosB l ⟨nx, nk, nq⟩ p ∧ (b = true ↔ ∃ a, l[p]? = some a ∧ cmpB a ⟨nx, nk, nq⟩ = 0)) ∧ Below w.heap.size w w' := by
  have hb : Below w.heap.size w (w.alloc (.cells #[.string nx, .string nk, .string nq] 45)) := (Below.refl _ _).alloc (Nat.le_refl _) _
  have HE : Hid (RB w g l) := hE
  have HM : Hid (MonB l ⟨nx, nk, nq⟩) := hM
  have tb := heap_alloc_new w (.cells #[.string nx, .string nk, .string nq] 45)
  have hlt : w.heap.size < (w.alloc (.cells #[.string nx, .string nk, .string nq] 45)).heap.size := by simp
  obtain ⟨W, hW⟩ : ∃ W, w.alloc (.cells #[.string nx, .string nk, .string nq] 45) = W := ⟨_, rfl⟩
  rw [hW] at hb tb hlt
  have HTB : Hid (W.heap[w.heap.size]? = some (.cells #[.string nx, .string nk, .string nq] 45 (0, 0))) := tb
  have HEW : Hid (RB W g l) := HE.out.below hb
  clear hE hM tb
  go_enter Tryz.func39, Tryz.ntmps39
  go_wp2
  clear hW
  go_loopw [9, 10, 11] (fun v x _ wr => ∃ (i j : Nat), i ≤ j ∧ j ≤ l.length ∧ v = .int .i64 i ∧ x = .int .i64 j ∧ Hid ((∀ (t : Nat) a, t < i → l[t]? = some a → cmpB a ⟨nx, nk, nq⟩ < 0) ∧ ∀ (t : Nat) a, j ≤ t → l[t]? = some a → 0 ≤ cmpB a ⟨nx, nk, nq⟩) ∧ Below W.heap.size W wr) (fun v x _ _ => (intOf x).toNat - (intOf v).toNat)
  case atStart => exact ⟨0, l.length, Nat.zero_le _, Nat.le_refl _, rfl, rfl, ⟨fun t a h => by omega, fun t a h ha => by have := (List.getElem?_eq_some_iff.1 ha).1; omega⟩, Below.refl _ _⟩
  case round =>
    obtain ⟨i, j, hij, hjl, rfl, rfl, hinv, hbel⟩ := hrel
    have hbs := hbel.size
    by_cases hlt2 : i < j
    · obtain ⟨h, hh, hh1, hh2⟩ : ∃ h : Nat, ((i : Int) + (j : Int)) / 2 = (h : Int) ∧ i ≤ h ∧ h < j := ⟨(i + j) / 2, by omega, by omega, by omega⟩
      have g0 : l[h]? = some l[h] := List.getElem?_eq_getElem (by omega)
      have hqa : ga = some ⟨g, 0, none⟩ := hga.out.at (by omega)
      obtain ⟨a0, a1, a2⟩ := (HEW.out.below hbel).2 h _ g0
      have t0 : wr.cell? ⟨w.heap.size, 0, none⟩ = some (.string nx) := by
        have := (hbel.block w.heap.size hlt).trans HTB.out
        simp [World.cell?, this]
      have t1 : wr.cell? ⟨w.heap.size, 1, none⟩ = some (.string nk) := by
        have := (hbel.block w.heap.size hlt).trans HTB.out
        simp [World.cell?, this]
      have t2 : wr.cell? ⟨w.heap.size, 2, none⟩ = some (.string nq) := by
        have := (hbel.block w.heap.size hlt).trans HTB.out
        simp [World.cell?, this]
      have HG0 : Hid (l[h]? = some l[h]) := g0
      obtain ⟨⟨ax, ak, aq⟩, ha⟩ : ∃ e, l[h] = e := ⟨_, rfl⟩
      rw [ha] at a0 a1 a2 HG0
      have hcmp := compare_bi ⟨ax, ak, aq⟩ ⟨nx, nk, nq⟩ wr.drew
      obtain ⟨z, hz⟩ : ∃ z, cmpB ⟨ax, ak, aq⟩ ⟨nx, nk, nq⟩ = z := ⟨_, rfl⟩
      rw [hz] at hcmp
      have HZ : Hid (cmpB ⟨ax, ak, aq⟩ ⟨nx, nk, nq⟩ = z) := hz
      have i2 : (h : Int) < (l.length : Int) := by omega
      clear g0 ha hz
      by_cases hneg : z < 0
      · have hinv2 : Hid ((∀ (t : Nat) a, t < h + 1 → l[t]? = some a → cmpB a ⟨nx, nk, nq⟩ < 0) ∧ ∀ (t : Nat) a, j ≤ t → l[t]? = some a → 0 ≤ cmpB a ⟨nx, nk, nq⟩) := ⟨fun t a ht hta => HM.out t h a _ (by omega) hta HG0.out (by show cmpB ⟨ax, ak, aq⟩ ⟨nx, nk, nq⟩ < 0; rw [HZ.out]; exact hneg), hinv.out.2⟩
        go_wp2
        go_region_with (go_at_call 40; refine hcmp.mono ?_; rintro e w1 ⟨rfl, hb1⟩)
        all_goals go_wp2
        all_goals try rw [← hqa]
        all_goals try rw [← hqb]
        all_goals go_roundw
        all_goals first | exact ⟨h + 1, j, by omega, hjl, by go_num, rfl, hinv2, hbel.drew.trans (hb1.mono hbs)⟩ | (simp [intOf]; omega)
      · have hinv2 : Hid ((∀ (t : Nat) a, t < i → l[t]? = some a → cmpB a ⟨nx, nk, nq⟩ < 0) ∧ ∀ (t : Nat) a, h ≤ t → l[t]? = some a → 0 ≤ cmpB a ⟨nx, nk, nq⟩) := ⟨hinv.out.1, fun t a ht hta => by
          by_cases hn : cmpB a ⟨nx, nk, nq⟩ < 0
          · have h3 := HM.out h t _ a ht HG0.out hta hn
            have h4 : cmpB ⟨ax, ak, aq⟩ ⟨nx, nk, nq⟩ < 0 := h3
            rw [HZ.out] at h4
            exact absurd h4 hneg
          · omega⟩
        have hge : (0 : Int) ≤ z := by omega
        go_wp2
        go_region_with (go_at_call 40; refine hcmp.mono ?_; rintro e w1 ⟨rfl, hb1⟩)
        all_goals go_wp2
        all_goals try rw [← hqa]
        all_goals try rw [← hqb]
        all_goals go_roundw
        all_goals first | exact ⟨i, h, by omega, by omega, rfl, rfl, hinv2, hbel.drew.trans (hb1.mono hbs)⟩ | (simp [intOf]; omega)
    · obtain rfl : i = j := by omega
      have hpos : Hid (PosB l ⟨nx, nk, nq⟩ i) := ⟨hjl, hinv.out.1, hinv.out.2⟩
      by_cases hil : i < l.length
      · have g0 : l[i]? = some l[i] := List.getElem?_eq_getElem hil
        have hqa : ga = some ⟨g, 0, none⟩ := hga.out.at (by omega)
        obtain ⟨a0, a1, a2⟩ := (HEW.out.below hbel).2 i _ g0
        have t0 : wr.cell? ⟨w.heap.size, 0, none⟩ = some (.string nx) := by
          have := (hbel.block w.heap.size hlt).trans HTB.out
          simp [World.cell?, this]
        have t1 : wr.cell? ⟨w.heap.size, 1, none⟩ = some (.string nk) := by
          have := (hbel.block w.heap.size hlt).trans HTB.out
          simp [World.cell?, this]
        have t2 : wr.cell? ⟨w.heap.size, 2, none⟩ = some (.string nq) := by
          have := (hbel.block w.heap.size hlt).trans HTB.out
          simp [World.cell?, this]
        have HG0 : Hid (l[i]? = some l[i]) := g0
        obtain ⟨⟨ax, ak, aq⟩, ha⟩ : ∃ e, l[i] = e := ⟨_, rfl⟩
        rw [ha] at a0 a1 a2 HG0
        have hcmp := compare_bi ⟨ax, ak, aq⟩ ⟨nx, nk, nq⟩ wr.drew
        obtain ⟨z, hz⟩ : ∃ z, cmpB ⟨ax, ak, aq⟩ ⟨nx, nk, nq⟩ = z := ⟨_, rfl⟩
        rw [hz] at hcmp
        have HZ : Hid (cmpB ⟨ax, ak, aq⟩ ⟨nx, nk, nq⟩ = z) := hz
        have i2 : (i : Int) < (l.length : Int) := by omega
        have hd : decide ((i : Int) < (l.length : Int)) = true := by simp; omega
        have kc : ∀ N : qi.Cls wr, Calls Tryz.prog 40 #[.agg #[.string ax, .string ak, .string aq], .agg #[.string nx, .string nk, .string nq]] N.x fun e w' => e = .returned (.int .i64 z) ∧ qi.T wr w' := fun N => by
          have h := compare_bi ⟨ax, ak, aq⟩ ⟨nx, nk, nq⟩ N.x
          rw [HZ.out] at h
          exact h.mono fun e w' ⟨h1, h2⟩ => ⟨h1, N.h.next h2⟩
        have hgl := (HEW.out.below hbel).1
        have htl : w.heap.size < wr.heap.size := Nat.lt_of_lt_of_le hlt hbs
        have A0 := fun N : qi.Cls wr => (Below.cell N.h (p := ⟨g, i * 3, none⟩) hgl).trans a0
        have A1 := fun N : qi.Cls wr => (Below.cell N.h (p := ⟨g, i * 3 + 1, none⟩) hgl).trans a1
        have A2 := fun N : qi.Cls wr => (Below.cell N.h (p := ⟨g, i * 3 + 2, none⟩) hgl).trans a2
        have T0 := fun N : qi.Cls wr => (Below.cell N.h (p := ⟨w.heap.size, 0, none⟩) htl).trans t0
        have T1 := fun N : qi.Cls wr => (Below.cell N.h (p := ⟨w.heap.size, 1, none⟩) htl).trans t1
        have T2 := fun N : qi.Cls wr => (Below.cell N.h (p := ⟨w.heap.size, 2, none⟩) htl).trans t2
        clear g0 ha hz hcmp a0 a1 a2 t0 t1 t2
        go_wp2
        refine qi.region_in wr (qi.T.refl wr) (by kernel_rfl) (by kernel_rfl) ?_
        repeat (go_big_quiet_step (first | (go_at_call 40; refine (kc _).mono ?_; rintro e wx ⟨rfl, hTx⟩; exact ⟨rfl, ⟨wx, hTx⟩, rfl⟩)))
        refine wpQuiet_nil ?_
        rintro _ ⟨N, rfl⟩
        have hN := N.h
        generalize N.x = wN at hN ⊢
        clear N kc A0 A1 A2 T0 T1 T2
        go_wp2
        go_ret2
        exact ⟨⟨i, z == 0, rfl, hpos.out, by simp; rw [← HZ.out]; exact ⟨fun h => ⟨_, HG0.out, h⟩, fun ⟨a, ha, h⟩ => by rw [HG0.out] at ha; cases ha; exact h⟩⟩, hb.trans ((hbel.trans (Below.mono hN hbs)).mono (by omega))⟩
      · have hd : decide ((i : Int) < (l.length : Int)) = false := by simp; omega
        have hd2 : ¬ (i : Int) < (l.length : Int) := by omega
        go_wp2
        refine qi.region_in wr (qi.T.refl wr) (by kernel_rfl) (by kernel_rfl) ?_
        repeat (go_big_quiet_step (first | (go_at_call 40; fail)))
        refine wpQuiet_nil ?_
        rintro _ ⟨N, rfl⟩
        have hN := N.h
        generalize N.x = wN at hN ⊢
        clear N
        go_wp2
        go_ret2
        exact ⟨⟨i, false, rfl, hpos.out, by simp; intro a ha; have := (List.getElem?_eq_some_iff.1 ha).1; omega⟩, hb.trans ((hbel.trans (Below.mono hN hbs)).mono (by omega))⟩
end Go.Proofs.YtnooibeohdfcmaaGreatDoor.sbi

/- slices.Insert of one binding into a row of bindings that has no room: the same row with it in its place, in a row of its own. -/
namespace Go.Proofs.YtnooibeohdfcmaaGreatDoor.insb
open Go.ChangeShapes Go.WideShapes Go.ChangeAt Go.RowKit Go.Proofs.YtnooibeohdfcmaaGreatDoor.rr Go.Proofs.YtnooibeohdfcmaaGreatDoor.fl
set_option linter.unusedVariables false

def cX (e : Bi) : List Value := [.string e.x, .string e.k, .string e.q]
theorem cX_len (e : Bi) : (cX e).length = 3 := rfl
theorem infoX : ∃ i0, Tryz.prog.info? 45 = some i0 ∧ i0.zero = some (.agg #[.string ByteArray.empty, .string ByteArray.empty, .string ByteArray.empty]) ∧ i0.size = 3 ∧ i0.bytes = 48 := by
  have h : (Tryz.prog.info? 45).map (fun i => (i.zero, i.size, i.bytes)) = some (some (.agg #[.string ByteArray.empty, .string ByteArray.empty, .string ByteArray.empty]), 3, 48) := by kernel_rfl
  cases hh : Tryz.prog.info? 45 with
  | none => rw [hh] at h; cases h
  | some i => rw [hh] at h; simp at h; exact ⟨i, rfl, h.1, h.2.1, h.2.2⟩
theorem own_form {w : World} {B n : Nat} {U : TypeId} {s : Nat} {v : Value} {xs : List Value} (h : w.ownsRow B U s v (n + 1) xs) : ∃ g cap, v = .slice (some ⟨g, 0, none⟩) (n + 1) cap := by
  obtain ⟨_, ⟨rfl, h0⟩ | ⟨g, cap, cur, rfl, _⟩⟩ := h
  · omega
  · exact ⟨g, cap, rfl⟩
theorem owns_at {w : World} {B n s g c : Nat} {U : TypeId} {xs : List Value} (h : w.ownsRow B U s (.slice (some ⟨g, 0, none⟩) n c) n xs) : B ≤ g ∧ ∃ cur, w.heap[g]? = some (.cells cur U (0, 0)) := by
  obtain ⟨_, ⟨h1, _⟩ | ⟨g', cap', cur, h1, h2, h3, _⟩⟩ := h
  · cases h1
  cases h1
  exact ⟨h2, cur, h3⟩
theorem add_at (g o j : Nat) : (⟨g, o, none⟩ : Addr).add j = ⟨g, o + j, none⟩ := by unfold Addr.add; split <;> simp_all
theorem oneX (ms : List Bi) : ∀ u ∈ ms.flatMap cX, u.oneCell' = true := fun u hu => by
  obtain ⟨e, _, he⟩ := List.mem_flatMap.1 hu
  simp [cX] at he
  rcases he with rfl | rfl | rfl <;> rfl
/-- the cells of an owned row -/
theorem owns_cells {α : Type} {c : α → List Value} {n B g cap : Nat} {U : TypeId} {l : List α} {w : World} (hn : ∀ e, (c e).length = n) (h : w.ownsRow B U n (.slice (some ⟨g, 0, none⟩) l.length cap) l.length (l.flatMap c)) : ∀ (j : Nat) (u : Value), (l.flatMap c)[j]? = some u → w.cell? ⟨g, j, none⟩ = some u := fun j u hu => by
  obtain ⟨_, ⟨h1, _⟩ | ⟨g', cap', cur, h1, h2, h3, h4, h5, h6, h7⟩⟩ := h
  · cases h1
  cases h1
  rw [← h7] at hu
  have hlt := (List.getElem?_eq_some_iff.1 hu).1
  rw [List.length_take] at hlt
  rw [List.getElem?_take_of_lt (by omega)] at hu
  exact bcell h3 (by simpa using hu)
theorem flat_take {α : Type} {c : α → List Value} (l : List α) (i : Nat) : (l.take i).flatMap c ++ (l.drop i).flatMap c = l.flatMap c := by rw [← List.flatMap_append, List.take_append_drop]
/-- two copies into a row: what was ahead, what is put in, what stood from there on -/
theorem two_copies {xs v cs rest : List Value} {o1 o2 : Nat} (h1 : xs.length = o1) (h2 : o1 + v.length = o2) (hr : v.length + cs.length ≤ rest.length) :
    (((xs ++ rest).take o1 ++ v ++ (xs ++ rest).drop (o1 + v.length)).take o2 ++ cs ++ ((xs ++ rest).take o1 ++ v ++ (xs ++ rest).drop (o1 + v.length)).drop (o2 + cs.length)) = xs ++ v ++ cs ++ rest.drop (v.length + cs.length) := by
  subst h1
  subst h2
  rw [List.take_left, List.drop_append, List.drop_eq_nil_of_le (by omega), List.nil_append, show xs.length + v.length - xs.length = v.length by omega]
  have e1 : (xs ++ v).length = xs.length + v.length := List.length_append
  rw [← e1, List.take_left, List.drop_append, List.drop_eq_nil_of_le (by omega), List.nil_append, List.drop_drop]
  congr 2
  omega
/-- the row behind it is owned -/
theorem owns_new {B g cap n : Nat} {U : TypeId} {w : World} {cur : Array Value} {ys tl : List Value} (hg : w.heap[g]? = some (.cells cur U (0, 0))) (hB : B ≤ g) (hc : cur.toList = ys ++ tl) (hy : ys.length = n * 3) (hn : n ≤ cap) (hm : cap ≤ maxLen) (hs : cur.size = cap * 3) : w.ownsRow B U 3 (.slice (some ⟨g, 0, none⟩) n cap) n ys :=
  ⟨hy, .inr ⟨g, cap, cur, rfl, hB, hg, hn, hm, hs, by rw [hc, ← hy, List.take_left]⟩⟩

def ws (b g i n G : Nat) : List (Nat × Value) := [(46, .slice (some ⟨b, 0, none⟩) (n + 1) G), (47, .int .i64 i), (48, .int .i64 1), (49, .int .i64 ((i : Int) + 1)), (50, .slice (some ⟨b, (i + 1) * 3, none⟩) (n - i) (G - (i + 1))), (51, .slice (some ⟨g, 0, none⟩) n n), (52, .int .i64 i), (53, .slice (some ⟨g, i * 3, none⟩) (n - i) (n - i)), (54, .int .i64 ((n - i : Nat) : Int))]

set_option maxRecDepth 100000 in
set_option maxHeartbeats 4000000 in
theorem insert_mid (l : List Bi) (g i B : Nat) (bx bk bq : ByteArray) (ga : Nat) (w : World) (hi : i < l.length) (hl : l.length ≤ 1048576) (hB : B ≤ w.heap.size) (ho : w.ownsRow B 45 3 (.slice (some ⟨g, 0, none⟩) l.length l.length) l.length (l.flatMap cX)) (ha : w.heap[ga]? = some (.cells #[.string bx, .string bk, .string bq] 45 (0, 0))) :
    Calls Tryz.prog 41 #[.slice (some ⟨g, 0, none⟩) l.length l.length, .int .i64 i, .slice (some ⟨ga, 0, none⟩) 1 1] w fun r w' => ∃ g2 c2, r = .returned (.slice (some ⟨g2, 0, none⟩) (l.length + 1) c2) ∧ w'.ownsRow B 45 3 (.slice (some ⟨g2, 0, none⟩) (l.length + 1) c2) (l.length + 1) ((l.take i ++ ⟨bx, bk, bq⟩ :: l.drop i).flatMap cX) ∧ Below w.heap.size w w' := by
  obtain ⟨i1, ki, kz0, kz1, kz2⟩ := infoX
  have hcells := owns_cells cX_len ho
  have hgl : g < w.heap.size := by obtain ⟨_, cur, hcur⟩ := owns_at ho; exact (Array.getElem?_eq_some_iff.1 hcur).1
  have hgal := (Array.getElem?_eq_some_iff.1 ha).1
  obtain ⟨n, hn⟩ : ∃ n, l.length = n := ⟨_, rfl⟩
  have hxl : ((l.take i).flatMap cX).length = i * 3 := by rw [flat_len cX_len, List.length_take]; congr 1; omega
  have hdl : ((l.drop i).flatMap cX).length = (n - i) * 3 := by rw [flat_len cX_len, List.length_drop, hn]
  have hxc : ∀ (j : Nat) (u : Value), ((l.take i).flatMap cX)[j]? = some u → w.cell? ((⟨g, 0, none⟩ : Addr).add j) = some u := fun j u hu => by
    rw [add_at, Nat.zero_add]
    refine hcells j u ?_
    rw [← flat_take l i, List.getElem?_append_left (List.getElem?_eq_some_iff.1 hu).1]
    exact hu
  have hdc : ∀ (j : Nat) (u : Value), ((l.drop i).flatMap cX)[j]? = some u → w.cell? ((⟨g, i * 3, none⟩ : Addr).add j) = some u := fun j u hu => by
    rw [add_at]
    refine hcells (i * 3 + j) u ?_
    rw [← flat_take l i, List.getElem?_append_right (by rw [hxl]; omega), hxl, show i * 3 + j - i * 3 = j by omega]
    exact hu
  rw [hn] at hi hl
  simp only [hn]
  have hz := fun ty => az.run_append_zeros (P := Tryz.prog) w 25 3 ty 45 i1 _ Tryz.underlying25 Tryz.underlying3 ki kz0 ⟨g, 0, none⟩ i n ((l.take i).flatMap cX) (by rw [hxl, kz1]) hxc (n + 1 - i) (by rw [kz1]; omega) (by omega) (by omega) (by rw [kz2]; omega) (by rw [kz2]; exact growslice_fits_wide (by omega) (by omega))
  rw [show i + (n + 1 - i) = n + 1 by omega] at hz
  have hG1 := grownCap_ge w (n + 1) n 45
  have hG2 := grownCap_le_maxLen w (n + 1) n 45 (by unfold maxLen; omega)
  obtain ⟨G, hG⟩ : ∃ G, grownCap w (n + 1) n 45 = G := ⟨_, rfl⟩
  rw [hG] at hz hG1 hG2
  obtain ⟨rest, hrest⟩ : ∃ rest : List Value, rest.length = (G - i) * 3 ∧ ∀ zc : Array Value, zc = (Value.agg #[.string ByteArray.empty, .string ByteArray.empty, .string ByteArray.empty]).cells → (((l.take i).flatMap cX).toArray ++ Builtin.zeroCells zc (n + 1 - i) ++ Builtin.zeroCells zc (G - (n + 1))) = (((l.take i).flatMap cX) ++ rest).toArray := by
    refine ⟨(Builtin.zeroCells (Value.agg #[.string ByteArray.empty, .string ByteArray.empty, .string ByteArray.empty]).cells (n + 1 - i) ++ Builtin.zeroCells (Value.agg #[.string ByteArray.empty, .string ByteArray.empty, .string ByteArray.empty]).cells (G - (n + 1))).toList, ?_, ?_⟩
    · simp [size_zeroCells, Value.cells]; omega
    · rintro zc rfl; simp
  have hrow := hrest.2 _ rfl
  rw [hrow] at hz
  have hk : (n : Int) + 1 - (i : Int) = ((n + 1 - i : Nat) : Int) := by omega
  rw [← hk] at hz
  obtain ⟨xs, hxs⟩ : ∃ xs, (l.take i).flatMap cX = xs := ⟨_, rfl⟩
  obtain ⟨cs, hcs⟩ : ∃ cs, (l.drop i).flatMap cX = cs := ⟨_, rfl⟩
  rw [hxs] at hz hxl
  rw [hcs] at hdl hdc
  have hfl : (l.take i ++ ⟨bx, bk, bq⟩ :: l.drop i).flatMap cX = xs ++ [Value.string bx, Value.string bk, Value.string bq] ++ cs := by rw [← hxs, ← hcs]; simp [cX]
  rw [hfl]
  have hone : ∀ u ∈ cs, u.oneCell' = true := by rw [← hcs]; exact oneX _
  have hg1 : (w.drew.alloc (.cells (xs ++ rest).toArray 45)).heap[w.heap.size]? = some (.cells (xs ++ rest).toArray 45 (0, 0)) := bnew w.drew _ _
  have hb1 : Below w.heap.size w (w.drew.alloc (.cells (xs ++ rest).toArray 45)) := (Below.refl _ w).drew.alloc (Nat.le_refl _) _
  obtain ⟨W1, hW1⟩ : ∃ W1, w.drew.alloc (.cells (xs ++ rest).toArray 45) = W1 := ⟨_, rfl⟩
  rw [hW1] at hz hg1 hb1
  have hav := bstay ha hb1 hgal
  have hrl := hrest.1
  have hmin1 : Nat.min 1 (n + 1 - i) = 1 := Nat.min_eq_left (by omega)
  have hmin2 : Nat.min (n - i) (n - i) = n - i := Nat.min_self _
  have hc1 := fun ty => cpr.run_copy_rows (P := Tryz.prog) W1 25 25 ty 45 i1 w.heap.size (i * 3) (n + 1 - i) (G - i) ⟨ga, 0, none⟩ 1 1 (xs ++ rest).toArray 45 [Value.string bx, Value.string bk, Value.string bq] Tryz.underlying25 ki hg1 (by rw [kz1, hmin1]; rfl) (fun j u hu => by
    rw [add_at, Nat.zero_add]
    match j, hu with
    | 0, hu => cases hu; exact bcell hav rfl
    | 1, hu => cases hu; exact bcell hav rfl
    | 2, hu => cases hu; exact bcell hav rfl
    | j + 3, hu => simp at hu) (by simp; omega) (by simp [Value.oneCell'])
  rw [hmin1] at hc1
  simp only [show ([Value.string bx, Value.string bk, Value.string bq] : List Value).length = 3 from rfl] at hc1
  obtain ⟨A1, hA1⟩ : ∃ A1 : List Value, (xs ++ rest).take (i * 3) ++ [Value.string bx, Value.string bk, Value.string bq] ++ (xs ++ rest).drop (i * 3 + 3) = A1 := ⟨_, rfl⟩
  rw [hA1] at hc1
  have hA1l : A1.length = i * 3 + (G - i) * 3 := by rw [← hA1]; simp; omega
  have hg2 : (W1.setRow w.heap.size A1.toArray).heap[w.heap.size]? = some (.cells A1.toArray 45 (0, 0)) := setRow_heap W1 w.heap.size _ _ 45 _ hg1
  have hb2 : Below w.heap.size w (W1.setRow w.heap.size A1.toArray) := below_setRow hb1 (Nat.le_refl _) _
  obtain ⟨W2, hW2⟩ : ∃ W2, W1.setRow w.heap.size A1.toArray = W2 := ⟨_, rfl⟩
  rw [hW2] at hc1 hg2 hb2
  have hc2 := fun ty => cpr.run_copy_rows (P := Tryz.prog) W2.drew 25 25 ty 45 i1 w.heap.size ((i + 1) * 3) (n - i) (G - (i + 1)) ⟨g, i * 3, none⟩ (n - i) (n - i) A1.toArray 45 cs Tryz.underlying25 ki hg2 (by rw [kz1, hmin2, hdl]) (fun j u hu => by
    have := hdc j u hu
    rw [add_at] at this ⊢
    exact (hb2.drew.cell (p := ⟨g, i * 3 + j, none⟩) hgl).trans this) (by rw [hdl]; simp; omega) hone
  rw [hmin2] at hc2
  have hc2 := fun ty => (hc2 ty).trans rfl
  have htwo : A1.take ((i + 1) * 3) ++ cs ++ A1.drop ((i + 1) * 3 + cs.length) = xs ++ [Value.string bx, Value.string bk, Value.string bq] ++ cs ++ rest.drop (3 + cs.length) := by
    rw [← hA1]
    exact two_copies (v := [Value.string bx, Value.string bk, Value.string bq]) hxl (by show i * 3 + 3 = (i + 1) * 3; omega) (by show 3 + cs.length ≤ rest.length; omega)
  rw [htwo] at hc2
  have hg3 : (W2.drew.setRow w.heap.size (xs ++ [Value.string bx, Value.string bk, Value.string bq] ++ cs ++ rest.drop (3 + cs.length)).toArray).heap[w.heap.size]? = some (.cells (xs ++ [Value.string bx, Value.string bk, Value.string bq] ++ cs ++ rest.drop (3 + cs.length)).toArray 45 (0, 0)) := setRow_heap W2.drew w.heap.size _ _ 45 _ hg2
  have hb3 : Below w.heap.size w (W2.drew.setRow w.heap.size (xs ++ [Value.string bx, Value.string bk, Value.string bq] ++ cs ++ rest.drop (3 + cs.length)).toArray) := below_setRow hb2.drew (Nat.le_refl _) _
  have hown : (W2.drew.setRow w.heap.size (xs ++ [Value.string bx, Value.string bk, Value.string bq] ++ cs ++ rest.drop (3 + cs.length)).toArray).ownsRow B 45 3 (.slice (some ⟨w.heap.size, 0, none⟩) (n + 1) G) (n + 1) (xs ++ [Value.string bx, Value.string bk, Value.string bq] ++ cs) :=
    owns_new (tl := rest.drop (3 + cs.length)) hg3 hB (by simp) (by simp; omega) hG1 hG2 (by simp; omega)
  obtain ⟨W3, hW3⟩ : ∃ W3, W2.drew.setRow w.heap.size (xs ++ [Value.string bx, Value.string bk, Value.string bq] ++ cs ++ rest.drop (3 + cs.length)).toArray = W3 := ⟨_, rfl⟩
  rw [hW3] at hc2 hb3 hown
  have HB3 : Hid (Below w.heap.size w W3) := hb3
  have HOWN : Hid (W3.ownsRow B 45 3 (.slice (some ⟨w.heap.size, 0, none⟩) (n + 1) G) (n + 1) (xs ++ [Value.string bx, Value.string bk, Value.string bq] ++ cs)) := hown
  have i9 : IntKind.i64.wrap ((i : Int) + 1) = (i : Int) + 1 := by rw [IntKind.wrap_i64]; omega
  have r1 : i ≤ n := by omega
  have r2 : (0 : Int) ≤ (i : Int) + 1 := by omega
  have r3 : ¬ G = i + 1 := by omega
  have r4 : ¬ n = i := by omega
  have q1 : ¬ (i : Int) = (n : Int) := by omega
  have q2 : i < G := by omega
  have q3 : i + 1 < G := by omega
  have q4 : (n : Int) < (n : Int) + 1 := by omega
  have q5 : n - i ≠ 0 := by omega
  clear hcells hxc hdc ho ha hrest hrow hav hg1 hg2 hg3 hb1 hb2 hb3 hown hA1 htwo hW1 hW2 hW3 hone hfl hxs hcs hk hG
  go_enter Tryz.func41, Tryz.ntmps41
  go_wp2_with (at_builtin; first | refine cpr.wpList_append_run rfl _ _ 25 3 rfl _ _ _ rfl rfl (hz _) ?_ | refine cpr.wpList_copy_run rfl _ _ 25 25 rfl _ _ _ rfl rfl (hc1 _) ?_)
  refine dk.region_sets (ws w.heap.size g i n G) [46, 47, 48, 49, 50, 51, 52, 53, 54] (dk.Cl (fun b W => W = if b then W3 else W2.drew) 8) (by kernel_rfl) (by kernel_rfl) rfl (by kernel_rfl) rfl ?each ?fin
  case each =>
    refine ⟨dk.q (by decide) (.slice (some ⟨w.heap.size, 0, none⟩) (n + 1) G) (by rintro _ ⟨⟩; exact dk.sets_on _ (by simp) _ rfl) (fun b W h => by simp [execOp, go_sem, Act.eval, dk.sets_get, ws, List.lookup]), ?_⟩
    refine ⟨dk.q (by decide) (.int .i64 i) (by rintro _ ⟨⟩; exact dk.sets_on _ (by simp) _ rfl) (fun b W h => by simp [execOp, go_sem, Act.eval, dk.sets_get, ws, List.lookup]), ?_⟩
    refine ⟨dk.q (by decide) (.int .i64 1) (by rintro _ ⟨⟩; exact dk.sets_on _ (by simp) _ rfl) (fun b W h => by simp [execOp, go_sem, Act.eval, dk.sets_get, ws, List.lookup]), ?_⟩
    refine ⟨dk.q (by decide) (.int .i64 ((i : Int) + 1)) (by rintro _ ⟨⟩; exact dk.sets_on _ (by simp) _ rfl) (fun b W h => by simp [execOp, go_sem, Act.eval, dk.sets_get, ws, List.lookup, i9]), ?_⟩
    refine ⟨dk.q (by decide) (.slice (some ⟨w.heap.size, (i + 1) * 3, none⟩) (n - i) (G - (i + 1))) (by rintro _ ⟨⟩; exact dk.sets_on _ (by simp) _ rfl) (fun b W h => by simp [execOp, go_sem, Act.eval, dk.sets_get, ws, List.lookup, r1, r2, r3]), ?_⟩
    refine ⟨dk.q (by decide) (.slice (some ⟨g, 0, none⟩) n n) (by rintro _ ⟨⟩; exact dk.sets_on _ (by simp) _ rfl) (fun b W h => by simp [execOp, go_sem, Act.eval, dk.sets_get, ws, List.lookup]), ?_⟩
    refine ⟨dk.q (by decide) (.int .i64 i) (by rintro _ ⟨⟩; exact dk.sets_on _ (by simp) _ rfl) (fun b W h => by simp [execOp, go_sem, Act.eval, dk.sets_get, ws, List.lookup]), ?_⟩
    refine ⟨dk.q (by decide) (.slice (some ⟨g, i * 3, none⟩) (n - i) (n - i)) (by rintro _ ⟨⟩; exact dk.sets_on _ (by simp) _ rfl) (fun b W h => by simp [execOp, go_sem, Act.eval, dk.sets_get, ws, List.lookup, r1, r4]), ?_⟩
    refine ⟨cpr.lastv (.int .i64 ((n - i : Nat) : Int)) (by rintro _ ⟨⟩; exact dk.sets_on _ (by simp) _ rfl) (fun W h => ?_), trivial⟩
    obtain rfl : W = W2.drew := h
    refine ⟨W3, ?_, rfl⟩
    simp [execOp, resolve, invoke, builtin, Act.eval, dk.sets_get, ws, List.lookup, hc2]
    rfl
  case fin =>
    intro L W hL hC
    obtain rfl : W = W3 := by
      have h8 := hL 8 (by decide)
      unfold dk.Cl at hC
      rw [h8] at hC
      exact hC
    simp only [dk.sets, ws]
    go_wp2
    go_ret
    exact ⟨_, _, rfl, HOWN.out, HB3.out⟩
set_option maxRecDepth 100000 in
set_option maxHeartbeats 4000000 in
theorem insert_end (l : List Bi) (g B : Nat) (bx bk bq : ByteArray) (ga : Nat) (w : World) (hl : l.length ≤ 1048576) (hB : B ≤ w.heap.size) (ho : w.ownsRow B 45 3 (.slice (some ⟨g, 0, none⟩) l.length l.length) l.length (l.flatMap cX)) (ha : w.heap[ga]? = some (.cells #[.string bx, .string bk, .string bq] 45 (0, 0))) :
    Calls Tryz.prog 41 #[.slice (some ⟨g, 0, none⟩) l.length l.length, .int .i64 l.length, .slice (some ⟨ga, 0, none⟩) 1 1] w fun r w' => ∃ g2 c2, r = .returned (.slice (some ⟨g2, 0, none⟩) (l.length + 1) c2) ∧ w'.ownsRow B 45 3 (.slice (some ⟨g2, 0, none⟩) (l.length + 1) c2) (l.length + 1) ((l ++ [(⟨bx, bk, bq⟩ : Bi)]).flatMap cX) ∧ w.grownBy w' (some g) := by
  obtain ⟨i1, ki, kz0, kz1, kz2⟩ := infoX
  have hfl : (l ++ [(⟨bx, bk, bq⟩ : Bi)]).flatMap cX = l.flatMap cX ++ [Value.string bx, Value.string bk, Value.string bq] := by rw [List.flatMap_append]; simp [cX]
  rw [hfl]
  have hnw : ∀ (j : Nat) (u : Value), [Value.string bx, Value.string bk, Value.string bq][j]? = some u → w.cell? ((⟨ga, 0, none⟩ : Addr).add j) = some u := fun j u hu => by
    rw [add_at, Nat.zero_add]
    match j, hu with
    | 0, hu => cases hu; exact bcell ha rfl
    | 1, hu => cases hu; exact bcell ha rfl
    | 2, hu => cases hu; exact bcell ha rfl
    | j + 3, hu => simp at hu
  clear hfl ha
  go_enter Tryz.func41, Tryz.ntmps41
  go_wp2_with (at_builtin; refine wpList_append_own _ rfl _ _ 25 rfl B 45 i1 (.agg #[.string ByteArray.empty, .string ByteArray.empty, .string ByteArray.empty]) 3 48 Tryz.underlying25 ki kz0 kz1 kz2 rfl (by decide) _ _ _ rfl ho ⟨ga, 0, none⟩ 1 1 [Value.string bx, Value.string bk, Value.string bq] rfl rfl hnw (by simp [Value.oneCell']) (by unfold maxLen; omega) (by omega) hB ?_)
  intro v' w' hown hgrow _
  obtain ⟨g2, c2, rfl⟩ := own_form hown
  have HO : Hid (w'.ownsRow B 45 3 (.slice (some ⟨g2, 0, none⟩) (l.length + 1) c2) (l.length + 1) (l.flatMap cX ++ [Value.string bx, Value.string bk, Value.string bq])) := hown
  have HG : Hid (w.grownBy w' (some g)) := hgrow
  clear hown hgrow ho hnw
  go_wp2
  go_ret
  exact ⟨_, _, rfl, HO.out, HG.out⟩
/-- either way -/
theorem insert_binding (l : List Bi) (g i B : Nat) (bx bk bq : ByteArray) (ga : Nat) (w : World) (hi : i ≤ l.length) (hl : l.length ≤ 1048576) (hB : B ≤ w.heap.size) (ho : w.ownsRow B 45 3 (.slice (some ⟨g, 0, none⟩) l.length l.length) l.length (l.flatMap cX)) (ha : w.heap[ga]? = some (.cells #[.string bx, .string bk, .string bq] 45 (0, 0))) :
    Calls Tryz.prog 41 #[.slice (some ⟨g, 0, none⟩) l.length l.length, .int .i64 i, .slice (some ⟨ga, 0, none⟩) 1 1] w fun r w' => ∃ g2 c2, r = .returned (.slice (some ⟨g2, 0, none⟩) (l.length + 1) c2) ∧ w'.ownsRow B 45 3 (.slice (some ⟨g2, 0, none⟩) (l.length + 1) c2) (l.length + 1) ((l.take i ++ ⟨bx, bk, bq⟩ :: l.drop i).flatMap cX) ∧ w.grownBy w' (some g) := by
  by_cases h : i < l.length
  · exact (insert_mid l g i B bx bk bq ga w h hl hB ho ha).mono fun r w' ⟨g2, c2, h1, h2, h3⟩ => ⟨g2, c2, h1, h2, ⟨h3.os, h3.tape, h3.output, h3.size, fun k hk _ => h3.block k hk⟩⟩
  · obtain rfl : i = l.length := by omega
    rw [List.take_length, List.drop_length]
    exact insert_end l g B bx bk bq ga w hl hB ho ha
end Go.Proofs.YtnooibeohdfcmaaGreatDoor.insb
