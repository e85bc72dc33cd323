/- Pairs by their keys: compared, ascending, and the library's binary search among them; new memory alone. -/
import Derived.Test.YtoemkbooomgieaaGreatDoorTabOkSpec
namespace Go.Proofs.YtoemkbooomgieaaGreatDoor.pf
open Go.ChangeShapes Go.WideShapes Go.ChangeAt Go.RowKit Go.Proofs.YtoemkbooomgieaaGreatDoor.fl Go.Proofs.YtoemkbooomgieaaGreatDoor.rn Go.Proofs.YtoemkbooomgieaaGreatDoor.rc Go.Proofs.YtoemkbooomgieaaGreatDoor.ro Go.Proofs.YtoemkbooomgieaaGreatDoor.tk
set_option linter.unusedVariables false

def cmpP (a b : flP.Pr) : Int := cmpT a.k b.k
/-- pairs as they lie -/
def RP (w : World) (g off : Nat) (l : List flP.Pr) : Prop := g < w.heap.size ∧ ∀ (i : Nat) (e : flP.Pr), l[i]? = some e → w.cell? ⟨g, off + i * 3, none⟩ = some (.string e.k) ∧ w.cell? ⟨g, off + i * 3 + 1, none⟩ = some (.string e.v) ∧ w.cell? ⟨g, off + i * 3 + 2, none⟩ = some (.bool e.g)
theorem RP.below {w w' : World} {g off : Nat} {l : List flP.Pr} (h : RP w g off l) (hb : Below w.heap.size w w') : RP w' g off l :=
  ⟨Nat.lt_of_lt_of_le h.1 hb.size, fun i e he => ⟨(hb.cell (p := ⟨g, _, none⟩) h.1).trans (h.2 i e he).1, (hb.cell (p := ⟨g, _, none⟩) h.1).trans (h.2 i e he).2.1, (hb.cell (p := ⟨g, _, none⟩) h.1).trans (h.2 i e he).2.2⟩⟩
theorem rp_row {w : World} {g off : Nat} {l : List flP.Pr} (hlt : g < w.heap.size) (hc : ∀ (i : Nat) (e : flP.Pr), l[i]? = some e → ∀ (j : Nat) (v : Value), (flP.c e)[j]? = some v → w.cell? ⟨g, off + i * 3 + j, none⟩ = some v) : RP w g off l := ⟨hlt, fun i e he => ⟨hc i e he 0 _ rfl, hc i e he 1 _ rfl, hc i e he 2 _ rfl⟩⟩
/-- what stands up to h is ahead of the key, once what stands at h is -/
def MonP (l : List flP.Pr) (t : flP.Pr) : Prop := ∀ (i j : Nat) a b, i ≤ j → l[i]? = some a → l[j]? = some b → cmpP b t < 0 → cmpP a t < 0
/-- p is the place of the key -/
def PosP (l : List flP.Pr) (t : flP.Pr) (p : Nat) : Prop := p ≤ l.length ∧ (∀ (i : Nat) a, i < p → l[i]? = some a → cmpP a t < 0) ∧ ∀ (i : Nat) a, p ≤ i → l[i]? = some a → 0 ≤ cmpP a t
theorem compare_pair (a b : flP.Pr) (w : World) : Calls Tryz.prog 68 #[.agg #[.string a.k, .string a.v, .bool a.g], .agg #[.string b.k, .string b.v, .bool b.g]] w fun e w' => e = .returned (.int .i64 (cmpP a b)) ∧ Below w.heap.size w w' := by
  obtain ⟨ak, av, ag⟩ := a
  obtain ⟨bk, bv, bg⟩ := b
  have hc := fun W => cmpS ak bk W
  go_enter Tryz.func68, Tryz.ntmps68
  go_wp2_with (go_at_call 95; refine (hc _).mono ?_; rintro e w0 ⟨rfl, hw0⟩; rw [hw0]; clear hw0 w0)
  go_ret
  exact ⟨rfl, ((Below.refl _ _).alloc (Nat.le_refl _) _).alloc (by simp) _⟩

set_option maxRecDepth 100000 in
set_option maxHeartbeats 1000000 in
theorem asc_off (l : List flP.Pr) (g off c : Nat) (w : World) (hl : l.length ≤ 1048576) (hE : RP w g off l) :
    Calls Tryz.prog 67 #[.slice (some ⟨g, off, none⟩) l.length c, .func (.func 68) #[] #[]] w fun r w' => (∃ b : Bool, r = .returned (.bool b) ∧ (b = true ↔ UpP l l.length)) ∧ Below w.heap.size w w' := by
  have HE : Hid (RP w g off l) := hE
  clear hE
  go_enter Tryz.func67, Tryz.ntmps67
  go_wp2
  go_loopw [5] (fun v wr => ∃ k : Nat, 1 ≤ k ∧ (k ≤ l.length ∨ k = 1) ∧ v = .int .i64 k ∧ Hid (UpP l k) ∧ Below w.heap.size w wr) (fun v _ => l.length - (intOf v).toNat)
  case atStart => exact ⟨1, Nat.le_refl _, .inr rfl, rfl, fun i a b h => by omega, Below.refl _ _⟩
  case round =>
    obtain ⟨k, hk1, hk2, rfl, hup, hbel⟩ := hrel
    have hbs := hbel.size
    by_cases hkl : k < l.length
    · obtain ⟨m, rfl⟩ : ∃ m, k = m + 1 := ⟨k - 1, by omega⟩
      have g0 : l[m]? = some l[m] := List.getElem?_eq_getElem (by omega)
      have g1 : l[m + 1]? = some l[m + 1] := List.getElem?_eq_getElem hkl
      have hE2 := HE.out.below hbel
      obtain ⟨a0, a1, a2⟩ := hE2.2 m _ g0
      obtain ⟨b0, b1, b2⟩ := hE2.2 (m + 1) _ g1
      have hgl := hE2.1
      have HG0 : Hid (l[m]? = some l[m]) := g0
      have HG1 : Hid (l[m + 1]? = some l[m + 1]) := g1
      obtain ⟨⟨ax, ak, aq⟩, ha⟩ : ∃ e, l[m] = e := ⟨_, rfl⟩
      obtain ⟨⟨bx, bk, bq⟩, hb⟩ : ∃ e, l[m + 1] = e := ⟨_, rfl⟩
      rw [ha] at a0 a1 a2 HG0
      rw [hb] at b0 b1 b2 HG1
      have hcmp := compare_pair ⟨ax, ak, aq⟩ ⟨bx, bk, bq⟩ wr.drew
      obtain ⟨z, hz⟩ : ∃ z, cmpP ⟨ax, ak, aq⟩ ⟨bx, bk, bq⟩ = z := ⟨_, rfl⟩
      rw [hz] at hcmp
      have HZ : Hid (cmpP ⟨ax, ak, aq⟩ ⟨bx, bk, bq⟩ = z) := hz
      clear g0 g1 ha hb hE2 hz
      have i1 : IntKind.i64.wrap (m : Int) = (m : Int) := by rw [IntKind.wrap_i64]; omega
      have i2 : (m : Int) < (l.length : Int) := by omega
      have i3 : (m : Int) + 1 < (l.length : Int) := by omega
      have i4 : ((m : Int) + 1).toNat = m + 1 := by omega
      by_cases hneg : z < 0
      · have hup2 : Hid (UpP l (m + 1 + 1)) := fun j a b hj ha hb => by
          by_cases e : j = m
          · subst e
            rw [HG0.out] at ha
            rw [HG1.out] at hb
            cases ha
            cases hb
            show cmpP ⟨ax, ak, aq⟩ ⟨bx, bk, bq⟩ < 0
            rw [HZ.out]
            exact hneg
          · exact hup.out j a b (by omega) ha hb
        go_wp2
        go_region_with (go_at_call 68; refine hcmp.mono ?_; rintro e w1 ⟨rfl, hb1⟩)
        all_goals go_wp2
        all_goals go_roundw
        all_goals first | exact ⟨m + 1 + 1, by omega, .inl (by omega), by go_num, hup2, hbel.drew.trans (hb1.mono hbs)⟩ | (simp [intOf]; omega)
      · have hno : ¬ UpP l l.length := fun h => by
          have := h m _ _ (by omega) HG0.out HG1.out
          have h2 : cmpP ⟨ax, ak, aq⟩ ⟨bx, bk, bq⟩ < 0 := this
          rw [HZ.out] at h2
          exact hneg h2
        have HNO : Hid (¬ UpP l l.length) := hno
        have hge : (0 : Int) ≤ z := by omega
        clear hno
        go_wp2
        go_region_with (go_at_call 68; refine hcmp.mono ?_; rintro e w1 ⟨rfl, hb1⟩)
        all_goals go_wp2
        all_goals go_ret
        all_goals exact ⟨⟨false, rfl, by simp; exact HNO.out⟩, hbel.drew.trans (hb1.mono hbs)⟩
    · have hall : Hid (UpP l l.length) := fun j a b hj ha hb => hup.out j a b (by omega) ha hb
      go_wp2
      go_ret
      exact ⟨⟨true, rfl, by simp; exact hall.out⟩, hbel⟩
set_option maxRecDepth 100000 in
set_option maxHeartbeats 8000000 in
theorem search_off (l : List flP.Pr) (g off c : Nat) (nx nk : ByteArray) (nq : Bool) (w : World) (hl : l.length ≤ 1048576) (hE : RP w g off l) (hM : MonP l ⟨nx, nk, nq⟩) :
    Calls Tryz.prog 125 #[.slice (some ⟨g, off, none⟩) l.length c, .agg #[.string nx, .string nk, .bool nq], .func (.func 68) #[] #[]] w fun r w' => (∃ (p : Nat) (b : Bool), r = .returned (.tuple #[.int .i64 p, .bool b]) ∧ PosP l ⟨nx, nk, nq⟩ p ∧ (b = true ↔ ∃ a, l[p]? = some a ∧ cmpP a ⟨nx, nk, nq⟩ = 0)) ∧ Below w.heap.size w w' := by
  have hb : Below w.heap.size w (w.alloc (.cells #[.string nx, .string nk, .bool nq] 61)) := (Below.refl _ _).alloc (Nat.le_refl _) _
  have HE : Hid (RP w g off l) := hE
  have HM : Hid (MonP l ⟨nx, nk, nq⟩) := hM
  have tb := heap_alloc_new w (.cells #[.string nx, .string nk, .bool nq] 61)
  have hlt : w.heap.size < (w.alloc (.cells #[.string nx, .string nk, .bool nq] 61)).heap.size := by simp
  obtain ⟨W, hW⟩ : ∃ W, w.alloc (.cells #[.string nx, .string nk, .bool nq] 61) = W := ⟨_, rfl⟩
  rw [hW] at hb tb hlt
  have HTB : Hid (W.heap[w.heap.size]? = some (.cells #[.string nx, .string nk, .bool nq] 61 (0, 0))) := tb
  have HEW : Hid (RP W g off l) := HE.out.below hb
  clear hE hM tb
  go_enter Tryz.func125, Tryz.ntmps125
  go_wp2
  clear hW
  go_loopw [9, 10, 11] (fun v x _ wr => ∃ (i j : Nat), i ≤ j ∧ j ≤ l.length ∧ v = .int .i64 i ∧ x = .int .i64 j ∧ Hid ((∀ (t : Nat) a, t < i → l[t]? = some a → cmpP a ⟨nx, nk, nq⟩ < 0) ∧ ∀ (t : Nat) a, j ≤ t → l[t]? = some a → 0 ≤ cmpP a ⟨nx, nk, nq⟩) ∧ Below W.heap.size W wr) (fun v x _ _ => (intOf x).toNat - (intOf v).toNat)
  case atStart => exact ⟨0, l.length, Nat.zero_le _, Nat.le_refl _, rfl, rfl, ⟨fun t a h => by omega, fun t a h ha => by have := (List.getElem?_eq_some_iff.1 ha).1; omega⟩, Below.refl _ _⟩
  case round =>
    obtain ⟨i, j, hij, hjl, rfl, rfl, hinv, hbel⟩ := hrel
    have hbs := hbel.size
    by_cases hlt2 : i < j
    · obtain ⟨h, hh, hh1, hh2⟩ : ∃ h : Nat, ((i : Int) + (j : Int)) / 2 = (h : Int) ∧ i ≤ h ∧ h < j := ⟨(i + j) / 2, by omega, by omega, by omega⟩
      have g0 : l[h]? = some l[h] := List.getElem?_eq_getElem (by omega)
      obtain ⟨a0, a1, a2⟩ := (HEW.out.below hbel).2 h _ g0
      have t0 : wr.cell? ⟨w.heap.size, 0, none⟩ = some (.string nx) := by
        have := (hbel.block w.heap.size hlt).trans HTB.out
        simp [World.cell?, this]
      have t1 : wr.cell? ⟨w.heap.size, 1, none⟩ = some (.string nk) := by
        have := (hbel.block w.heap.size hlt).trans HTB.out
        simp [World.cell?, this]
      have t2 : wr.cell? ⟨w.heap.size, 2, none⟩ = some (.bool nq) := by
        have := (hbel.block w.heap.size hlt).trans HTB.out
        simp [World.cell?, this]
      have HG0 : Hid (l[h]? = some l[h]) := g0
      obtain ⟨⟨ax, ak, aq⟩, ha⟩ : ∃ e, l[h] = e := ⟨_, rfl⟩
      rw [ha] at a0 a1 a2 HG0
      have hcmp := compare_pair ⟨ax, ak, aq⟩ ⟨nx, nk, nq⟩ wr.drew
      obtain ⟨z, hz⟩ : ∃ z, cmpP ⟨ax, ak, aq⟩ ⟨nx, nk, nq⟩ = z := ⟨_, rfl⟩
      rw [hz] at hcmp
      have HZ : Hid (cmpP ⟨ax, ak, aq⟩ ⟨nx, nk, nq⟩ = z) := hz
      have i2 : (h : Int) < (l.length : Int) := by omega
      clear g0 ha hz
      by_cases hneg : z < 0
      · have hinv2 : Hid ((∀ (t : Nat) a, t < h + 1 → l[t]? = some a → cmpP a ⟨nx, nk, nq⟩ < 0) ∧ ∀ (t : Nat) a, j ≤ t → l[t]? = some a → 0 ≤ cmpP a ⟨nx, nk, nq⟩) := ⟨fun t a ht hta => HM.out t h a _ (by omega) hta HG0.out (by show cmpP ⟨ax, ak, aq⟩ ⟨nx, nk, nq⟩ < 0; rw [HZ.out]; exact hneg), hinv.out.2⟩
        go_wp2
        go_region_with (go_at_call 68; refine hcmp.mono ?_; rintro e w1 ⟨rfl, hb1⟩)
        all_goals go_wp2
        all_goals go_roundw
        all_goals first | exact ⟨h + 1, j, by omega, hjl, by go_num, rfl, hinv2, hbel.drew.trans (hb1.mono hbs)⟩ | (simp [intOf]; omega)
      · have hinv2 : Hid ((∀ (t : Nat) a, t < i → l[t]? = some a → cmpP a ⟨nx, nk, nq⟩ < 0) ∧ ∀ (t : Nat) a, h ≤ t → l[t]? = some a → 0 ≤ cmpP a ⟨nx, nk, nq⟩) := ⟨hinv.out.1, fun t a ht hta => by
          by_cases hn : cmpP a ⟨nx, nk, nq⟩ < 0
          · have h3 := HM.out h t _ a ht HG0.out hta hn
            have h4 : cmpP ⟨ax, ak, aq⟩ ⟨nx, nk, nq⟩ < 0 := h3
            rw [HZ.out] at h4
            exact absurd h4 hneg
          · omega⟩
        have hge : (0 : Int) ≤ z := by omega
        go_wp2
        go_region_with (go_at_call 68; refine hcmp.mono ?_; rintro e w1 ⟨rfl, hb1⟩)
        all_goals go_wp2
        all_goals go_roundw
        all_goals first | exact ⟨i, h, by omega, by omega, rfl, rfl, hinv2, hbel.drew.trans (hb1.mono hbs)⟩ | (simp [intOf]; omega)
    · obtain rfl : i = j := by omega
      have hpos : Hid (PosP l ⟨nx, nk, nq⟩ i) := ⟨hjl, hinv.out.1, hinv.out.2⟩
      by_cases hil : i < l.length
      · have g0 : l[i]? = some l[i] := List.getElem?_eq_getElem hil
        obtain ⟨a0, a1, a2⟩ := (HEW.out.below hbel).2 i _ g0
        have t0 : wr.cell? ⟨w.heap.size, 0, none⟩ = some (.string nx) := by
          have := (hbel.block w.heap.size hlt).trans HTB.out
          simp [World.cell?, this]
        have t1 : wr.cell? ⟨w.heap.size, 1, none⟩ = some (.string nk) := by
          have := (hbel.block w.heap.size hlt).trans HTB.out
          simp [World.cell?, this]
        have t2 : wr.cell? ⟨w.heap.size, 2, none⟩ = some (.bool nq) := by
          have := (hbel.block w.heap.size hlt).trans HTB.out
          simp [World.cell?, this]
        have HG0 : Hid (l[i]? = some l[i]) := g0
        obtain ⟨⟨ax, ak, aq⟩, ha⟩ : ∃ e, l[i] = e := ⟨_, rfl⟩
        rw [ha] at a0 a1 a2 HG0
        have hcmp := compare_pair ⟨ax, ak, aq⟩ ⟨nx, nk, nq⟩ wr.drew
        obtain ⟨z, hz⟩ : ∃ z, cmpP ⟨ax, ak, aq⟩ ⟨nx, nk, nq⟩ = z := ⟨_, rfl⟩
        rw [hz] at hcmp
        have HZ : Hid (cmpP ⟨ax, ak, aq⟩ ⟨nx, nk, nq⟩ = z) := hz
        have i2 : (i : Int) < (l.length : Int) := by omega
        have hd : decide ((i : Int) < (l.length : Int)) = true := by simp; omega
        have kc : ∀ N : qi.Cls wr, Calls Tryz.prog 68 #[.agg #[.string ax, .string ak, .bool aq], .agg #[.string nx, .string nk, .bool nq]] N.x fun e w' => e = .returned (.int .i64 z) ∧ qi.T wr w' := fun N => by
          have h := compare_pair ⟨ax, ak, aq⟩ ⟨nx, nk, nq⟩ N.x
          rw [HZ.out] at h
          exact h.mono fun e w' ⟨h1, h2⟩ => ⟨h1, N.h.next h2⟩
        have hgl := (HEW.out.below hbel).1
        have htl : w.heap.size < wr.heap.size := Nat.lt_of_lt_of_le hlt hbs
        have A0 := fun N : qi.Cls wr => (Below.cell N.h (p := ⟨g, off + i * 3, none⟩) hgl).trans a0
        have A1 := fun N : qi.Cls wr => (Below.cell N.h (p := ⟨g, off + i * 3 + 1, none⟩) hgl).trans a1
        have A2 := fun N : qi.Cls wr => (Below.cell N.h (p := ⟨g, off + i * 3 + 2, none⟩) hgl).trans a2
        have T0 := fun N : qi.Cls wr => (Below.cell N.h (p := ⟨w.heap.size, 0, none⟩) htl).trans t0
        have T1 := fun N : qi.Cls wr => (Below.cell N.h (p := ⟨w.heap.size, 1, none⟩) htl).trans t1
        have T2 := fun N : qi.Cls wr => (Below.cell N.h (p := ⟨w.heap.size, 2, none⟩) htl).trans t2
        clear g0 ha hz hcmp a0 a1 a2 t0 t1 t2
        go_wp2
        refine qi.region_in wr (qi.T.refl wr) (by kernel_rfl) (by kernel_rfl) ?_
        repeat (go_big_quiet_step (first | (go_at_call 68; refine (kc _).mono ?_; rintro e wx ⟨rfl, hTx⟩; exact ⟨rfl, ⟨wx, hTx⟩, rfl⟩)))
        refine wpQuiet_nil ?_
        rintro _ ⟨N, rfl⟩
        have hN := N.h
        generalize N.x = wN at hN ⊢
        clear N kc A0 A1 A2 T0 T1 T2
        go_wp2
        go_ret2
        exact ⟨⟨i, z == 0, rfl, hpos.out, by simp; rw [← HZ.out]; exact ⟨fun h => ⟨_, HG0.out, h⟩, fun ⟨a, ha, h⟩ => by rw [HG0.out] at ha; cases ha; exact h⟩⟩, hb.trans ((hbel.trans (Below.mono hN hbs)).mono (by omega))⟩
      · have hd : decide ((i : Int) < (l.length : Int)) = false := by simp; omega
        have hd2 : ¬ (i : Int) < (l.length : Int) := by omega
        go_wp2
        refine qi.region_in wr (qi.T.refl wr) (by kernel_rfl) (by kernel_rfl) ?_
        repeat (go_big_quiet_step (first | (go_at_call 68; fail)))
        refine wpQuiet_nil ?_
        rintro _ ⟨N, rfl⟩
        have hN := N.h
        generalize N.x = wN at hN ⊢
        clear N
        go_wp2
        go_ret2
        exact ⟨⟨i, false, rfl, hpos.out, by simp; intro a ha; have := (List.getElem?_eq_some_iff.1 ha).1; omega⟩, hb.trans ((hbel.trans (Below.mono hN hbs)).mono (by omega))⟩

theorem up_lt {l : List flP.Pr} (h : UpP l l.length) : ∀ (d i : Nat) (a b : flP.Pr), l[i]? = some a → l[i + d + 1]? = some b → lt a.k b.k = true
  | 0, i, a, b, ha, hb => cmp_neg.1 (h i a b (List.getElem?_eq_some_iff.1 hb).1 ha hb)
  | d + 1, i, a, b, ha, hb => by
    have hlt := (List.getElem?_eq_some_iff.1 hb).1
    have hm : l[i + d + 1]? = some l[i + d + 1] := List.getElem?_eq_getElem (by omega)
    exact lt_trans (up_lt h d i a _ ha hm) (cmp_neg.1 (h (i + d + 1) _ b (by omega) hm (by rw [← hb]; congr 1)))
theorem up_mon {l : List flP.Pr} (h : UpP l l.length) (t : flP.Pr) : MonP l t := by
  intro i j a b hij ha hb hn
  by_cases e : i = j
  · subst e
    rw [ha] at hb
    cases hb
    exact hn
  · obtain ⟨d, rfl⟩ : ∃ d, j = i + d + 1 := ⟨j - i - 1, by omega⟩
    exact cmp_neg.2 (lt_trans (up_lt h d i a b ha hb) (cmp_neg.1 hn))
set_option maxRecDepth 100000 in
theorem asc_pair (l : List flP.Pr) (a : Option Addr) (c : Nat) (w : World) (hl : l.length ≤ 1048576) (hS : Row flP.c 3 w w.heap.size a l) :
    Calls Tryz.prog 67 #[.slice a l.length c, .func (.func 68) #[] #[]] w fun r w' => (∃ b : Bool, r = .returned (.bool b) ∧ (b = true ↔ UpP l l.length)) ∧ Below w.heap.size w w' := by
  rcases hS with rfl | ⟨b, off, rfl, hlt, hc⟩
  · go_enter Tryz.func67, Tryz.ntmps67
    go_wp2
    refine wp_loop_rounds 1 ?_
    rw [rounds_succ]
    go_wp2
    go_ret
    exact ⟨⟨true, rfl, by simp; exact fun i a b h => by simp at h⟩, Below.refl _ _⟩
  · exact asc_off l b off c w hl (rp_row hlt hc)
end Go.Proofs.YtoemkbooomgieaaGreatDoor.pf
