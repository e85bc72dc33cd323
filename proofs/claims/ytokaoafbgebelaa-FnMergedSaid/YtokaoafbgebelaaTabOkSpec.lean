/- What a right run and a right table are, and the specification's TableOk. -/
import Derived.Test.YtokaoafbgebelaaTabLib
import Derived.Test.YtokaoafbgebelaaPairBase
namespace Go.Proofs.Ytokaoafbgebelaa.tk
open Go.ChangeShapes Go.WideShapes Go.ChangeAt Go.RowKit Go.Proofs.Ytokaoafbgebelaa.fl Go.Proofs.Ytokaoafbgebelaa.rn Go.Proofs.Ytokaoafbgebelaa.rc Go.Proofs.Ytokaoafbgebelaa.ro Go.Proofs.Ytokaoafbgebelaa.rk
set_option linter.unusedVariables false

def okP (e : flP.Pr) : Prop := 1 ≤ e.k.size ∧ e.k.size ≤ 100 ∧ e.v.size ≤ 4000 ∧ (e.g = true → e.v = ⟨#[]⟩)
def UpP (l : List flP.Pr) (n : Nat) : Prop := ∀ i a b, i + 1 < n → l[i]? = some a → l[i + 1]? = some b → cmpT a.k b.k < 0
structure OkL (l : List flP.Pr) : Prop where
  ll : l.length ≤ 300
  po : ∀ (i : Nat) e, l[i]? = some e → okP e
  up : UpP l l.length
structure OkT (ys : List flP.Pr) (ls : List (List flP.Pr)) : Prop where
  rl : ls.length ≤ 8
  yo : OkL ys
  ro : ∀ (i : Nat) l, ls[i]? = some l → OkL l
def GoodL (l : List flP.Pr) (k : Nat) : Prop := (∀ (i : Nat) e, i < k → l[i]? = some e → okP e) ∧ UpP l k
theorem good_next {l : List flP.Pr} {k : Nat} {e : flP.Pr} (h : GoodL l k) (he : l[k]? = some e) (h1 : okP e) (h2 : ∀ p, k ≠ 0 → l[k - 1]? = some p → lt p.k e.k = true) : GoodL l (k + 1) := by
  refine ⟨fun i f hi hf => ?_, fun i a b hi ha hb => ?_⟩
  · by_cases ei : i = k
    · subst ei; rw [he] at hf; cases hf; exact h1
    · exact h.1 i f (by omega) hf
  · by_cases ei : i + 1 = k
    · subst ei
      rw [he] at hb
      cases hb
      exact cmp_neg.2 (h2 a (by omega) (by simpa using ha))
    · exact h.2 i a b (by omega) ha hb
theorem bad_p {l : List flP.Pr} {k : Nat} {e : flP.Pr} (he : l[k]? = some e) (h1 : ¬ okP e) : ¬ OkL l := fun h => h1 (h.po k e he)
theorem bad_up {l : List flP.Pr} {k : Nat} {p e : flP.Pr} (hp : l[k]? = some p) (he : l[k + 1]? = some e) (h1 : lt p.k e.k = false) : ¬ OkL l := fun h => by
  have := cmp_neg.1 (h.up k p e (List.getElem?_eq_some_iff.1 he).1 hp he)
  rw [h1] at this
  cases this
theorem emp_eq {v : ByteArray} (h : v ≠ ⟨#[]⟩) : (v.toList == ([] : List UInt8)) = false ∧ v.size ≠ 0 := by
  obtain ⟨⟨l⟩⟩ := v
  cases l with
  | nil => exact absurd rfl h
  | cons a r => exact ⟨by simp [ByteArray.toList_eq], by simp [ByteArray.size]⟩

set_option maxRecDepth 100000 in
set_option maxHeartbeats 4000000 in
theorem spec_run (l : List flP.Pr) (a : Option Addr) (cap : Nat) (w : World) (hl : l.length ≤ 1048576) (hS : Row flP.c 3 w w.heap.size a l) :
    Calls Try.prog 36 #[.slice a l.length cap] w fun r w' => (∃ b : Bool, r = .returned (.bool b) ∧ (b = true ↔ OkL l)) ∧ Below w.heap.size w w' := by
  rcases hS with rfl | ⟨b, off, rfl, hlt, hc⟩
  · go_enter Try.func36, Try.ntmps36
    go_wp2
    refine wp_loop_rounds 1 ?_
    rw [rounds_succ]
    go_wp2
    go_ret
    exact ⟨⟨true, rfl, by simp; exact ⟨by simp, fun i e h => by simp at h, fun i a b _ h => by simp at h⟩⟩, Below.refl _ _⟩
  · have HC : Hid (∀ (i : Nat) (e : flP.Pr), l[i]? = some e → ∀ (j : Nat) (v : Value), (flP.c e)[j]? = some v → w.cell? ⟨b, off + i * 3 + j, none⟩ = some v) := hc
    clear hc
    go_enter Try.func36, Try.ntmps36
    go_wp2
    go_loopw [3, 4] (fun v _ wr => ∃ k : Nat, k ≤ l.length ∧ v = .int .i64 k ∧ Hid (GoodL l k) ∧ Below w.heap.size w wr) (fun v _ _ => l.length - (intOf v).toNat)
    case atStart => exact ⟨0, Nat.zero_le _, rfl, ⟨fun i e h => by omega, fun i a b h => by omega⟩, Below.refl _ _⟩
    case round =>
      obtain ⟨k, hk, rfl, hgood, hbel⟩ := hrel
      have hbsz := hbel.size
      by_cases hkl : k < l.length
      · have HG : Hid (l[k]? = some l[k]) := List.getElem?_eq_getElem hkl
        obtain ⟨⟨pk, pv, pg⟩, he⟩ : ∃ e, l[k] = e := ⟨_, rfl⟩
        rw [he] at HG
        have c0 : wr.cell? ⟨b, off + k * 3, none⟩ = some (.string pk) := (hbel.cell (p := ⟨b, off + k * 3, none⟩) hlt).trans (HC.out k _ HG.out 0 _ rfl)
        have c1 : wr.cell? ⟨b, off + k * 3 + 1, none⟩ = some (.string pv) := (hbel.cell (p := ⟨b, off + k * 3 + 1, none⟩) hlt).trans (HC.out k _ HG.out 1 _ rfl)
        have c2 : wr.cell? ⟨b, off + k * 3 + 2, none⟩ = some (.bool pg) := (hbel.cell (p := ⟨b, off + k * 3 + 2, none⟩) hlt).trans (HC.out k _ HG.out 2 _ rfl)
        have hbX : Below w.heap.size w (wr.alloc (.cells #[.string pk, .string pv, .bool pg] 40)) := hbel.alloc hbsz _
        have hx1 := bnew wr #[.string pk, .string pv, .bool pg] 40
        obtain ⟨X1, hX1⟩ : ∃ X1, wr.alloc (.cells #[.string pk, .string pv, .bool pg] 40) = X1 := ⟨_, rfl⟩
        rw [hX1] at hbX hx1
        have hxl := (Array.getElem?_eq_some_iff.1 hx1).1
        have x0 := fun N : qi.Cls X1 => (Below.cell N.h (p := ⟨wr.heap.size, 0, none⟩) hxl).trans (bcell hx1 (show _ = some (.string pk) from rfl))
        have x1 := fun N : qi.Cls X1 => (Below.cell N.h (p := ⟨wr.heap.size, 1, none⟩) hxl).trans (bcell hx1 (show _ = some (.string pv) from rfl))
        have x2 := fun N : qi.Cls X1 => (Below.cell N.h (p := ⟨wr.heap.size, 2, none⟩) hxl).trans (bcell hx1 (show _ = some (.bool pg) from rfl))
        have kin := fun N : qi.Cls X1 => in' (pk.size : Int) 1 100 N
        clear he hx1
        go_wp2
        clear hX1 c0 c1 c2
        by_cases hs1 : 1 ≤ pk.size ∧ pk.size ≤ 100
        case neg =>
          have hdk : decide ((1 : Int) ≤ (pk.size : Int) ∧ (pk.size : Int) ≤ 100) = false := by simp; omega
          simp only [hdk] at kin
          have hbad : ¬ OkL l := bad_p HG.out (fun h => hs1 ⟨h.1, h.2.1⟩)
          clear hdk
          refine qi.region_in X1 (qi.T.refl X1) (by kernel_rfl) (by kernel_rfl) ?_
          repeat (go_big_quiet_step (first | (go_at_call 47; refine (kin _).mono ?_; rintro e wx ⟨rfl, hTx⟩; exact ⟨rfl, ⟨wx, hTx⟩, rfl⟩)))
          refine wpQuiet_nil ?_
          rintro _ ⟨N, rfl⟩
          have hN := N.h
          generalize N.x = wN at hN ⊢
          clear N kin x0 x1 x2
          have hbN : Below w.heap.size w wN := hbX.trans (Below.mono hN hbX.size)
          go_wp2
          go_ret
          exact ⟨⟨false, rfl, by simp; exact hbad⟩, hbN⟩
        case pos =>
          have hdk : decide ((1 : Int) ≤ (pk.size : Int) ∧ (pk.size : Int) ≤ 100) = true := by simp; omega
          simp only [hdk] at kin
          clear hdk
          by_cases hs2 : 4000 < pv.size
          case pos =>
            have hd2 : decide ((4000 : Int) < (pv.size : Int)) = true := by simp; omega
            have hbad : ¬ OkL l := bad_p HG.out (fun h => by have := h.2.2.1; simp only at this; omega)
            refine qi.region_in X1 (qi.T.refl X1) (by kernel_rfl) (by kernel_rfl) ?_
            repeat (go_big_quiet_step (first | (go_at_call 47; refine (kin _).mono ?_; rintro e wx ⟨rfl, hTx⟩; exact ⟨rfl, ⟨wx, hTx⟩, rfl⟩)))
            refine wpQuiet_nil ?_
            rintro _ ⟨N, rfl⟩
            have hN := N.h
            generalize N.x = wN at hN ⊢
            clear N kin x0 x1 x2
            have hbN : Below w.heap.size w wN := hbX.trans (Below.mono hN hbX.size)
            go_wp2
            go_ret
            exact ⟨⟨false, rfl, by simp; exact hbad⟩, hbN⟩
          case neg =>
            have hd2 : decide ((4000 : Int) < (pv.size : Int)) = false := by simp; omega
            by_cases hs3 : pg = true ∧ pv ≠ ⟨#[]⟩
            case pos =>
              obtain ⟨rfl, hv⟩ := hs3
              obtain ⟨hv1, hv2⟩ := emp_eq hv
              have hbad : ¬ OkL l := bad_p HG.out (fun h => hv (h.2.2.2 rfl))
              refine qi.region_in X1 (qi.T.refl X1) (by kernel_rfl) (by kernel_rfl) ?_
              repeat (go_big_quiet_step (first | (go_at_call 47; refine (kin _).mono ?_; rintro e wx ⟨rfl, hTx⟩; exact ⟨rfl, ⟨wx, hTx⟩, rfl⟩)))
              refine wpQuiet_nil ?_
              rintro _ ⟨N, rfl⟩
              have hN := N.h
              generalize N.x = wN at hN ⊢
              clear N kin x0 x1 x2
              have hbN : Below w.heap.size w wN := hbX.trans (Below.mono hN hbX.size)
              go_wp2
              go_ret
              exact ⟨⟨false, rfl, by simp; exact hbad⟩, hbN⟩
            case neg =>
              have hokp : okP ⟨pk, pv, pg⟩ := ⟨hs1.1, hs1.2, by show pv.size ≤ 4000; omega, fun h => Classical.byContradiction fun h2 => hs3 ⟨h, h2⟩⟩
              have hs3' : pg = false ∨ (pg = true ∧ pv = ⟨#[]⟩) := by
                cases pg with
                | false => exact .inl rfl
                | true => exact .inr ⟨rfl, Classical.byContradiction fun h2 => hs3 ⟨rfl, h2⟩⟩
              have HOK : Hid (okP ⟨pk, pv, pg⟩) := hokp
              clear hs3 hokp
              by_cases hk0 : k = 0
              · subst hk0
                have hnext : Hid (GoodL l (0 + 1)) := good_next hgood.out HG.out HOK.out (fun p h => absurd rfl h)
                rcases hs3' with rfl | ⟨rfl, rfl⟩
                all_goals
                  refine qi.region_in X1 (qi.T.refl X1) (by kernel_rfl) (by kernel_rfl) ?_
                  repeat (go_big_quiet_step (first | (go_at_call 47; refine (kin _).mono ?_; rintro e wx ⟨rfl, hTx⟩; exact ⟨rfl, ⟨wx, hTx⟩, rfl⟩)))
                  refine wpQuiet_nil ?_
                  rintro _ ⟨N, rfl⟩
                  have hN := N.h
                  generalize N.x = wN at hN ⊢
                  clear N kin x0 x1 x2
                  have hbN : Below w.heap.size w wN := hbX.trans (Below.mono hN hbX.size)
                  go_wp2
                  go_roundw
                  case rel => exact ⟨0 + 1, by omega, by go_num, hnext, hbN⟩
                  case measure => simp [intOf]; omega
              · obtain ⟨m, rfl⟩ : ∃ m, k = m + 1 := ⟨k - 1, by omega⟩
                have HG1 : Hid (l[m]? = some l[m]) := List.getElem?_eq_getElem (by omega)
                obtain ⟨⟨qk, qv, qg⟩, hpe⟩ : ∃ e, l[m] = e := ⟨_, rfl⟩
                rw [hpe] at HG1
                have hltX : b < X1.heap.size := Nat.lt_of_lt_of_le hlt hbX.size
                have d0 : X1.cell? ⟨b, off + m * 3, none⟩ = some (.string qk) := (hbX.cell (p := ⟨b, off + m * 3, none⟩) hlt).trans (HC.out m _ HG1.out 0 _ rfl)
                have P0 : ∀ N : qi.Cls X1, N.x.cell? ⟨b, off + m * 3, none⟩ = some (.string qk) := fun N => (Below.cell N.h (p := ⟨b, off + m * 3, none⟩) hltX).trans d0
                have i1 : IntKind.i64.wrap (m : Int) = (m : Int) := by rw [IntKind.wrap_i64]; omega
                have i2 : (m : Int) < (l.length : Int) := by omega
                clear hpe d0
                cases hq : (Op.bytesLess pk.toList qk.toList || pk.toList == qk.toList) with
                | true =>
                  have hbad : ¬ OkL l := bad_up HG1.out HG.out (by
                    cases h : lt qk pk with
                    | false => rfl
                    | true => have h2 := above.2 h; have h3 : (lt pk qk || pk.toList == qk.toList) = true := hq; rw [h3] at h2; cases h2)
                  rcases hs3' with rfl | ⟨rfl, rfl⟩
                  all_goals
                    refine qi.region_in X1 (qi.T.refl X1) (by kernel_rfl) (by kernel_rfl) ?_
                    repeat (go_big_quiet_step (first | (go_at_call 47; refine (kin _).mono ?_; rintro e wx ⟨rfl, hTx⟩; exact ⟨rfl, ⟨wx, hTx⟩, rfl⟩)))
                    refine wpQuiet_nil ?_
                    rintro _ ⟨N, rfl⟩
                    have hN := N.h
                    generalize N.x = wN at hN ⊢
                    clear N kin x0 x1 x2 P0
                    have hbN : Below w.heap.size w wN := hbX.trans (Below.mono hN hbX.size)
                    go_wp2
                    go_ret
                    exact ⟨⟨false, rfl, by simp; exact hbad⟩, hbN⟩
                | false =>
                  have hnext : Hid (GoodL l (m + 1 + 1)) := good_next hgood.out HG.out HOK.out (fun p _ hp => by
                    have hp : l[m]? = some p := by simpa using hp
                    rw [HG1.out] at hp
                    cases hp
                    exact above.1 hq)
                  rcases hs3' with rfl | ⟨rfl, rfl⟩
                  all_goals
                    refine qi.region_in X1 (qi.T.refl X1) (by kernel_rfl) (by kernel_rfl) ?_
                    repeat (go_big_quiet_step (first | (go_at_call 47; refine (kin _).mono ?_; rintro e wx ⟨rfl, hTx⟩; exact ⟨rfl, ⟨wx, hTx⟩, rfl⟩)))
                    refine wpQuiet_nil ?_
                    rintro _ ⟨N, rfl⟩
                    have hN := N.h
                    generalize N.x = wN at hN ⊢
                    clear N kin x0 x1 x2 P0
                    have hbN : Below w.heap.size w wN := hbX.trans (Below.mono hN hbX.size)
                    go_wp2
                    go_roundw
                    case rel => exact ⟨m + 1 + 1, by omega, by go_num, hnext, hbN⟩
                    case measure => simp [intOf]; omega
      · obtain rfl : k = l.length := by omega
        go_wp2
        go_ret
        refine ⟨⟨decide ((l.length : Int) ≤ 300), rfl, ?_⟩, hbel⟩
        simp only [decide_eq_true_eq]
        exact ⟨fun h => ⟨by omega, fun i e he => hgood.out.1 i e (List.getElem?_eq_some_iff.1 he).1 he, hgood.out.2⟩, fun h => by have := h.ll; omega⟩
end Go.Proofs.Ytokaoafbgebelaa.tk
