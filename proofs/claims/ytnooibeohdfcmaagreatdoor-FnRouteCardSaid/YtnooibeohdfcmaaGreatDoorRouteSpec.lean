/- The specification's RoutesOk: true just where the routes are in order; new memory alone. -/
import Derived.Test.YtnooibeohdfcmaaGreatDoorRouteOrder
import Derived.Test.YtnooibeohdfcmaaGreatDoorQuietIn
namespace Go.Proofs.YtnooibeohdfcmaaGreatDoor.rk
open Go.ChangeShapes Go.WideShapes Go.ChangeAt Go.RowKit Go.Proofs.YtnooibeohdfcmaaGreatDoor.rc Go.Proofs.YtnooibeohdfcmaaGreatDoor.rr Go.Proofs.YtnooibeohdfcmaaGreatDoor.rf Go.Proofs.YtnooibeohdfcmaaGreatDoor.rs Go.Proofs.YtnooibeohdfcmaaGreatDoor.ro
set_option linter.unusedVariables false

/-- the first k exchanges are right -/
def GoodE (es : List Ex) (k : Nat) : Prop := (∀ (i : Nat) e, i < k → es[i]? = some e → exOk e = true) ∧ UpE es k
theorem good_next {es : List Ex} {k : Nat} {e : Ex} (h : GoodE es k) (he : es[k]? = some e) (h1 : exOk e = true) (h2 : ∀ p, k ≠ 0 → es[k - 1]? = some p → lt p.n e.n = true) : GoodE es (k + 1) := by
  refine ⟨fun i f hi hf => ?_, fun i a b hi ha hb => ?_⟩
  · by_cases ei : i = k
    · subst ei; rw [he] at hf; cases hf; exact h1
    · exact h.1 i f (by omega) hf
  · by_cases ei : i + 1 = k
    · subst ei
      rw [he] at hb
      cases hb
      exact cmp_neg.2 (h2 a (by omega) (by simpa using ha))
    · exact h.2 i a b (by omega) ha hb
theorem bad_ex {es : List Ex} {bs : List Bi} {k : Nat} {e : Ex} (he : es[k]? = some e) (h1 : exOk e = false) : ¬ OkR es bs := fun h => by have := h.eo k e he; rw [h1] at this; cases this
theorem bad_up {es : List Ex} {bs : List Bi} {k : Nat} {p e : Ex} (hp : es[k]? = some p) (he : es[k + 1]? = some e) (h1 : lt p.n e.n = false) : ¬ OkR es bs := fun h => by
  have := cmp_neg.1 (h.eu k p e (List.getElem?_eq_some_iff.1 he).1 hp he)
  rw [h1] at this
  cases this
/-- the first k bindings are right -/
def GoodB (es : List Ex) (bs : List Bi) (k : Nat) : Prop := (∀ (i : Nat) b, i < k → bs[i]? = some b → 0 ≤ kindOf es b.x ∧ ky.good b.k = true ∧ nm.good b.q = true) ∧ UpB bs k
theorem goodB_next {es : List Ex} {bs : List Bi} {k : Nat} {e : Bi} (h : GoodB es bs k) (he : bs[k]? = some e) (h1 : 0 ≤ kindOf es e.x ∧ ky.good e.k = true ∧ nm.good e.q = true) (h2 : ∀ p, k ≠ 0 → bs[k - 1]? = some p → before p e = true) : GoodB es bs (k + 1) := by
  refine ⟨fun i f hi hf => ?_, fun i a b hi ha hb => ?_⟩
  · by_cases ei : i = k
    · subst ei; rw [he] at hf; cases hf; exact h1
    · exact h.1 i f (by omega) hf
  · by_cases ei : i + 1 = k
    · subst ei
      rw [he] at hb
      cases hb
      exact before_cmp.1 (h2 a (by omega) (by simpa using ha))
    · exact h.2 i a b (by omega) ha hb
theorem name' (s : ByteArray) (hs : s.size ≤ 1048576) {w : World} (N : qi.Cls w) : Calls Tryz.prog 43 #[.string s] N.x fun e w' => e = .returned (.bool (nm.good s)) ∧ qi.T w w' :=
  (nm.spec_name s N.x hs).mono fun e w' ⟨h1, h2⟩ => ⟨h1, by rw [← h2]; exact N.h⟩
theorem key' (s : ByteArray) (hs : s.size ≤ 1048576) {w : World} (N : qi.Cls w) : Calls Tryz.prog 32 #[.string s] N.x fun e w' => e = .returned (.bool (ky.good s)) ∧ qi.T w w' :=
  (ky.spec_key s N.x hs).mono fun e w' ⟨h1, h2⟩ => ⟨h1, by rw [← h2]; exact N.h⟩
theorem in' (x a b : Int) {w : World} (N : qi.Cls w) : Calls Tryz.prog 48 #[.int .i64 x, .int .i64 a, .int .i64 b] N.x fun e w' => e = .returned (.bool (decide (a ≤ x ∧ x ≤ b))) ∧ qi.T w w' :=
  (ky.within x a b N.x).mono fun e w' ⟨h1, h2⟩ => ⟨h1, by rw [← h2]; exact N.h⟩

set_option maxRecDepth 100000 in
set_option maxHeartbeats 4000000 in
theorem spec_routes (es : List Ex) (bs : List Bi) (ge ce gb cb : Nat) (w : World) (hel : es.length ≤ 1048576) (hbl : bs.length ≤ 1048576) (hes : ∀ e ∈ es, e.n.size ≤ 1048576) (hbs : ∀ b ∈ bs, b.x.size ≤ 1048576 ∧ b.k.size ≤ 1048576 ∧ b.q.size ≤ 1048576) (hE : RE w ge es) (hB : RB w gb bs) (ea ba : Option Addr) (hea : Hid (apa.NQ ea ⟨ge, 0, none⟩ es.length ce)) (hba : Hid (apa.NQ ba ⟨gb, 0, none⟩ bs.length cb)) :
    Calls Tryz.prog 17 #[.agg #[.slice ea es.length ce, .slice ba bs.length cb]] w fun r w' => (∃ b : Bool, r = .returned (.bool b) ∧ (b = true ↔ OkR es bs)) ∧ Below w.heap.size w w' := by
  have hb : Below w.heap.size w (w.alloc (.cells #[.slice ea es.length ce, .slice ba bs.length cb] 27)) := (Below.refl _ _).alloc (Nat.le_refl _) _
  have hRb := heap_alloc_new w (.cells #[.slice ea es.length ce, .slice ba bs.length cb] 27)
  have HE : Hid (RE (w.alloc (.cells #[.slice ea es.length ce, .slice ba bs.length cb] 27)) ge es) := hE.below hb
  have HB : Hid (RB (w.alloc (.cells #[.slice ea es.length ce, .slice ba bs.length cb] 27)) gb bs) := hB.below hb
  have hlt : w.heap.size < (w.alloc (.cells #[.slice ea es.length ce, .slice ba bs.length cb] 27)).heap.size := by simp
  obtain ⟨W, hW⟩ : ∃ W, w.alloc (.cells #[.slice ea es.length ce, .slice ba bs.length cb] 27) = W := ⟨_, rfl⟩
  rw [hW] at hb hRb HE HB hlt
  have HRb : Hid (W.heap[w.heap.size]? = some (.cells #[.slice ea es.length ce, .slice ba bs.length cb] 27 (0, 0))) := hRb
  have HES : Hid (∀ e ∈ es, e.n.size ≤ 1048576) := hes
  have HBS : Hid (∀ b ∈ bs, b.x.size ≤ 1048576 ∧ b.k.size ≤ 1048576 ∧ b.q.size ≤ 1048576) := hbs
  have box : ∀ wr, Below W.heap.size W wr → wr.cell? ⟨w.heap.size, 0, none⟩ = some (.slice ea es.length ce) ∧ wr.cell? ⟨w.heap.size, 1, none⟩ = some (.slice ba bs.length cb) := fun wr h => by
    have h1 := (h.block w.heap.size hlt).trans HRb.out
    exact ⟨by simp [World.cell?, h1], by simp [World.cell?, h1]⟩
  have BOX : Hid (∀ wr, Below W.heap.size W wr → wr.cell? ⟨w.heap.size, 0, none⟩ = some (.slice ea es.length ce) ∧ wr.cell? ⟨w.heap.size, 1, none⟩ = some (.slice ba bs.length cb)) := box
  clear hE hB hRb hes hbs box
  go_enter Tryz.func17, Tryz.ntmps17
  go_wp2
  clear hW
  go_loopw [3, 4] (fun v _ wr => ∃ k : Nat, k ≤ es.length ∧ v = .int .i64 k ∧ Hid (GoodE es k) ∧ Below W.heap.size W wr) (fun v _ _ => es.length - (intOf v).toNat)
  case atStart => exact ⟨0, Nat.zero_le _, rfl, ⟨fun i e h => by omega, fun i a b h => by omega⟩, Below.refl _ _⟩
  case round =>
    obtain ⟨k, hk, rfl, hgood, hbel⟩ := hrel
    have hbsz := hbel.size
    obtain ⟨c0, c1⟩ := BOX.out wr hbel
    by_cases hkl : k < es.length
    · have g0 : es[k]? = some es[k] := List.getElem?_eq_getElem hkl
      have hqa : ea = some ⟨ge, 0, none⟩ := hea.out.at (by omega)
      have hsz := HES.out es[k] (List.getElem_mem hkl)
      obtain ⟨a0, a1⟩ := (HE.out.below hbel).2 k _ g0
      have HG : Hid (es[k]? = some es[k]) := g0
      obtain ⟨⟨en, ek⟩, he⟩ : ∃ e, es[k] = e := ⟨_, rfl⟩
      rw [he] at a0 a1 HG hsz
      have hbX : Below W.heap.size W (wr.alloc (.cells #[.string en, .int .i64 ek] 75)) := hbel.alloc hbsz _
      have hx1 := heap_alloc_new wr (.cells #[.string en, .int .i64 ek] 75)
      have hxl : wr.heap.size < (wr.alloc (.cells #[.string en, .int .i64 ek] 75)).heap.size := by simp
      obtain ⟨X1, hX1⟩ : ∃ X1, wr.alloc (.cells #[.string en, .int .i64 ek] 75) = X1 := ⟨_, rfl⟩
      rw [hX1] at hbX hx1 hxl
      have x0 : ∀ N : qi.Cls X1, N.x.cell? ⟨wr.heap.size, 0, none⟩ = some (.string en) := fun N => by
        have h1 := (Below.block N.h wr.heap.size hxl).trans hx1
        simp [World.cell?, h1]
      have x1 : ∀ N : qi.Cls X1, N.x.cell? ⟨wr.heap.size, 1, none⟩ = some (.int .i64 ek) := fun N => by
        have h1 := (Below.block N.h wr.heap.size hxl).trans hx1
        simp [World.cell?, h1]
      have r0 : ∀ N : qi.Cls X1, N.x.cell? ⟨w.heap.size, 0, none⟩ = some (.slice ea es.length ce) := fun N => (BOX.out N.x (hbX.trans (Below.mono N.h hbX.size))).1
      have kn := fun N : qi.Cls X1 => name' en hsz N
      have kin := fun N : qi.Cls X1 => in' ek 0 2 N
      clear g0 he hx1
      have p0 : True := trivial
      cases hgn : nm.good en with
      | false =>
        have hbad : ¬ OkR es bs := bad_ex HG.out (by simp [exOk, hgn])
        simp only [hgn] at kn
        go_wp2
        refine qi.region_in X1 (qi.T.refl X1) (by kernel_rfl) (by kernel_rfl) ?_
        repeat (go_big_quiet_step (first | (go_at_call 43; refine (kn _).mono ?_; rintro e wx ⟨rfl, hTx⟩; exact ⟨rfl, ⟨wx, hTx⟩, rfl⟩) | (go_at_call 48; refine (kin _).mono ?_; rintro e wx ⟨rfl, hTx⟩; exact ⟨rfl, ⟨wx, hTx⟩, rfl⟩)))
        refine wpQuiet_nil ?_
        rintro _ ⟨N, rfl⟩
        have hN := N.h
        generalize N.x = wN at hN ⊢
        clear N kn kin x0 x1 p0 r0
        have hbN : Below W.heap.size W wN := hbX.trans (Below.mono hN hbX.size)
        go_wp2
        go_ret
        exact ⟨⟨false, rfl, by simp; exact hbad⟩, hb.trans (hbN.mono hb.size)⟩
      | true =>
        simp only [hgn] at kn
        by_cases hkd : 0 ≤ ek ∧ ek ≤ 2
        · have hdk : decide ((0 : Int) ≤ ek ∧ ek ≤ 2) = true := by simp; exact hkd
          simp only [hdk] at kin
          have hexo : exOk ⟨en, ek⟩ = true := by simp [exOk, hgn]; exact hkd
          clear hdk
          by_cases hk0 : k = 0
          · subst hk0
            have hnext : Hid (GoodE es (0 + 1)) := good_next hgood.out HG.out hexo (fun p h => absurd rfl h)
            go_wp2
            refine qi.region_in X1 (qi.T.refl X1) (by kernel_rfl) (by kernel_rfl) ?_
            repeat (go_big_quiet_step (first | (go_at_call 43; refine (kn _).mono ?_; rintro e wx ⟨rfl, hTx⟩; exact ⟨rfl, ⟨wx, hTx⟩, rfl⟩) | (go_at_call 48; refine (kin _).mono ?_; rintro e wx ⟨rfl, hTx⟩; exact ⟨rfl, ⟨wx, hTx⟩, rfl⟩)))
            refine wpQuiet_nil ?_
            rintro _ ⟨N, rfl⟩
            have hN := N.h
            generalize N.x = wN at hN ⊢
            clear N kn kin x0 x1 p0 r0
            have hbN : Below W.heap.size W wN := hbX.trans (Below.mono hN hbX.size)
            go_wp2
            try rw [← hqa]
            try rw [← hqb]
            go_roundw
            case rel => exact ⟨0 + 1, by omega, by go_num, hnext, hbN⟩
            case measure => simp [intOf]; omega
          · obtain ⟨m, rfl⟩ : ∃ m, k = m + 1 := ⟨k - 1, by omega⟩
            have g1 : es[m]? = some es[m] := List.getElem?_eq_getElem (by omega)
            obtain ⟨d0, d1⟩ := (HE.out.below hbX).2 m _ g1
            have HG1 : Hid (es[m]? = some es[m]) := g1
            obtain ⟨⟨pn, pk⟩, hpe⟩ : ∃ e, es[m] = e := ⟨_, rfl⟩
            rw [hpe] at d0 d1 HG1
            have hgeX := (HE.out.below hbX).1
            have P0 : ∀ N : qi.Cls X1, N.x.cell? ⟨ge, m * 2, none⟩ = some (.string pn) := fun N => (Below.cell N.h (p := ⟨ge, m * 2, none⟩) hgeX).trans d0
            have i1 : IntKind.i64.wrap (m : Int) = (m : Int) := by rw [IntKind.wrap_i64]; omega
            have i2 : (m : Int) < (es.length : Int) := by omega
            clear g1 hpe d0 d1
            cases hq : (Op.bytesLess en.toList pn.toList || en.toList == pn.toList) with
            | true =>
              have hbad : ¬ OkR es bs := bad_up HG1.out HG.out (by
                cases h : lt pn en with
                | false => rfl
                | true => have h2 := above.2 h; have h3 : (lt en pn || en.toList == pn.toList) = true := hq; rw [h2] at h3; cases h3)
              go_wp2
              refine qi.region_in X1 (qi.T.refl X1) (by kernel_rfl) (by kernel_rfl) ?_
              repeat (go_big_quiet_step (first | (go_at_call 43; refine (kn _).mono ?_; rintro e wx ⟨rfl, hTx⟩; exact ⟨rfl, ⟨wx, hTx⟩, rfl⟩) | (go_at_call 48; refine (kin _).mono ?_; rintro e wx ⟨rfl, hTx⟩; exact ⟨rfl, ⟨wx, hTx⟩, rfl⟩)))
              refine wpQuiet_nil ?_
              rintro _ ⟨N, rfl⟩
              have hN := N.h
              generalize N.x = wN at hN ⊢
              clear N kn kin x0 x1 p0 r0 P0
              have hbN : Below W.heap.size W wN := hbX.trans (Below.mono hN hbX.size)
              go_wp2
              go_ret
              exact ⟨⟨false, rfl, by simp; exact hbad⟩, hb.trans (hbN.mono hb.size)⟩
            | false =>
              have hnext : Hid (GoodE es (m + 1 + 1)) := good_next hgood.out HG.out hexo (fun p _ hp => by
                have hp2 : es[m]? = some p := hp
                rw [HG1.out] at hp2
                cases hp2
                exact above.1 hq)
              go_wp2
              refine qi.region_in X1 (qi.T.refl X1) (by kernel_rfl) (by kernel_rfl) ?_
              repeat (go_big_quiet_step (first | (go_at_call 43; refine (kn _).mono ?_; rintro e wx ⟨rfl, hTx⟩; exact ⟨rfl, ⟨wx, hTx⟩, rfl⟩) | (go_at_call 48; refine (kin _).mono ?_; rintro e wx ⟨rfl, hTx⟩; exact ⟨rfl, ⟨wx, hTx⟩, rfl⟩)))
              refine wpQuiet_nil ?_
              rintro _ ⟨N, rfl⟩
              have hN := N.h
              generalize N.x = wN at hN ⊢
              clear N kn kin x0 x1 p0 r0 P0
              have hbN : Below W.heap.size W wN := hbX.trans (Below.mono hN hbX.size)
              go_wp2
              try rw [← hqa]
              try rw [← hqb]
              go_roundw
              case rel => exact ⟨m + 1 + 1, by omega, by go_num, hnext, hbN⟩
              case measure => simp [intOf]; omega
        · have hdk : decide ((0 : Int) ≤ ek ∧ ek ≤ 2) = false := by simp; omega
          have hbad : ¬ OkR es bs := bad_ex HG.out (by simp only [exOk, hdk, Bool.and_false])
          simp only [hdk] at kin
          clear hdk
          go_wp2
          refine qi.region_in X1 (qi.T.refl X1) (by kernel_rfl) (by kernel_rfl) ?_
          repeat (go_big_quiet_step (first | (go_at_call 43; refine (kn _).mono ?_; rintro e wx ⟨rfl, hTx⟩; exact ⟨rfl, ⟨wx, hTx⟩, rfl⟩) | (go_at_call 48; refine (kin _).mono ?_; rintro e wx ⟨rfl, hTx⟩; exact ⟨rfl, ⟨wx, hTx⟩, rfl⟩)))
          refine wpQuiet_nil ?_
          rintro _ ⟨N, rfl⟩
          have hN := N.h
          generalize N.x = wN at hN ⊢
          clear N kn kin x0 x1 p0 r0
          have hbN : Below W.heap.size W wN := hbX.trans (Below.mono hN hbX.size)
          go_wp2
          go_ret
          exact ⟨⟨false, rfl, by simp; exact hbad⟩, hb.trans (hbN.mono hb.size)⟩
    · obtain rfl : k = es.length := by omega
      have HGE : Hid (GoodE es es.length) := hgood
      clear hgood hk hkl
      go_wp2
      go_loopw [5, 6] (fun v _ wq => ∃ k : Nat, k ≤ bs.length ∧ v = .int .i64 k ∧ Hid (GoodB es bs k) ∧ Below W.heap.size W wq) (fun v _ _ => bs.length - (intOf v).toNat)
      case atStart => exact ⟨0, Nat.zero_le _, rfl, ⟨fun i e h => by omega, fun i a b h => by omega⟩, hbel⟩
      case round =>
        clear hbel hbsz c0 c1
        obtain ⟨k, hk, rfl, hgood, hbel⟩ := hrel
        have hbsz := hbel.size
        obtain ⟨c0, c1⟩ := BOX.out wr hbel
        by_cases hkl : k < bs.length
        · have g0 : bs[k]? = some bs[k] := List.getElem?_eq_getElem hkl
          have hqb : ba = some ⟨gb, 0, none⟩ := hba.out.at (by omega)
          obtain ⟨z1, z2, z3⟩ := HBS.out bs[k] (List.getElem_mem hkl)
          obtain ⟨a0, a1, a2⟩ := (HB.out.below hbel).2 k _ g0
          have HG : Hid (bs[k]? = some bs[k]) := g0
          obtain ⟨⟨bx, bk, bq⟩, he⟩ : ∃ e, bs[k] = e := ⟨_, rfl⟩
          rw [he] at a0 a1 a2 HG z1 z2 z3
          have hbX : Below W.heap.size W (wr.alloc (.cells #[.string bx, .string bk, .string bq] 45)) := hbel.alloc hbsz _
          have hx1 := heap_alloc_new wr (.cells #[.string bx, .string bk, .string bq] 45)
          have hxl : wr.heap.size < (wr.alloc (.cells #[.string bx, .string bk, .string bq] 45)).heap.size := by simp
          obtain ⟨X1, hX1⟩ : ∃ X1, wr.alloc (.cells #[.string bx, .string bk, .string bq] 45) = X1 := ⟨_, rfl⟩
          rw [hX1] at hbX hx1 hxl
          have HX1 : Hid (X1.heap[wr.heap.size]? = some (.cells #[.string bx, .string bk, .string bq] 45 (0, 0))) := hx1
          have x0 : ∀ N : qi.Cls X1, N.x.cell? ⟨wr.heap.size, 0, none⟩ = some (.string bx) := fun N => by
            have h1 := (Below.block N.h wr.heap.size hxl).trans HX1.out
            simp [World.cell?, h1]
          have x1 : ∀ N : qi.Cls X1, N.x.cell? ⟨wr.heap.size, 1, none⟩ = some (.string bk) := fun N => by
            have h1 := (Below.block N.h wr.heap.size hxl).trans HX1.out
            simp [World.cell?, h1]
          have x2 : ∀ N : qi.Cls X1, N.x.cell? ⟨wr.heap.size, 2, none⟩ = some (.string bq) := fun N => by
            have h1 := (Below.block N.h wr.heap.size hxl).trans HX1.out
            simp [World.cell?, h1]
          have r0 : ∀ N : qi.Cls X1, N.x.cell? ⟨w.heap.size, 0, none⟩ = some (.slice ea es.length ce) := fun N => (BOX.out N.x (hbX.trans (Below.mono N.h hbX.size))).1
          have r1 : ∀ N : qi.Cls X1, N.x.cell? ⟨w.heap.size, 1, none⟩ = some (.slice ba bs.length cb) := fun N => (BOX.out N.x (hbX.trans (Below.mono N.h hbX.size))).2
          have kk : ∀ N : qi.Cls X1, Calls Tryz.prog 33 #[.agg #[.slice ea es.length ce, .slice (some ⟨gb, 0, none⟩) bs.length cb], .string bx] N.x fun e w' => e = .returned (.int .i64 (kindOf es bx)) ∧ qi.T X1 w' := fun N => (spec_kind es ge ce (some ⟨gb, 0, none⟩) bs.length cb bx N.x hel (HE.out.below (hbX.trans (Below.mono N.h hbX.size))) ea hea).mono fun e w' ⟨h1, h2⟩ => ⟨h1, N.h.next h2⟩
          have kq := fun N : qi.Cls X1 => key' bk z2 N
          have kn := fun N : qi.Cls X1 => name' bq z3 N
          clear g0 he hx1
          obtain ⟨kd, hkd⟩ : ∃ kd, kindOf es bx = kd := ⟨_, rfl⟩
          simp only [hkd] at kk
          have HKD : Hid (kindOf es bx = kd) := hkd
          clear hkd
          by_cases hneg : kd < 0
          · have hdn : decide (kd < (0 : Int)) = true := by simp; omega
            have hbad : ¬ OkR es bs := fun h => by have h1 := (h.bo k _ HG.out).1; have h2 : 0 ≤ kindOf es bx := h1; rw [HKD.out] at h2; omega
            go_wp2
            refine qi.region_in X1 (qi.T.refl X1) (by kernel_rfl) (by kernel_rfl) ?_
            repeat (go_big_quiet_step (first | (go_at_call 33; refine (kk _).mono ?_; rintro e wx ⟨rfl, hTx⟩; exact ⟨rfl, ⟨wx, hTx⟩, rfl⟩) | (go_at_call 32; refine (kq _).mono ?_; rintro e wx ⟨rfl, hTx⟩; exact ⟨rfl, ⟨wx, hTx⟩, rfl⟩) | (go_at_call 43; refine (kn _).mono ?_; rintro e wx ⟨rfl, hTx⟩; exact ⟨rfl, ⟨wx, hTx⟩, rfl⟩)))
            refine wpQuiet_nil ?_
            rintro _ ⟨N, rfl⟩
            have hN := N.h
            generalize N.x = wN at hN ⊢
            clear N kk kq kn x0 x1 x2 r0 r1
            have hbN : Below W.heap.size W wN := hbX.trans (Below.mono hN hbX.size)
            go_wp2
            go_ret
            exact ⟨⟨false, rfl, by simp; exact hbad⟩, hb.trans (hbN.mono hb.size)⟩
          have hge0 : (0 : Int) ≤ kd := by omega
          have hdn : decide (kd < (0 : Int)) = false := by simp; omega
          cases hgk : ky.good bk with
          | false =>
            have hbad : ¬ OkR es bs := fun h => by have h1 := (h.bo k _ HG.out).2.1; have h2 : ky.good bk = true := h1; rw [hgk] at h2; cases h2
            simp only [hgk] at kq
            go_wp2
            refine qi.region_in X1 (qi.T.refl X1) (by kernel_rfl) (by kernel_rfl) ?_
            repeat (go_big_quiet_step (first | (go_at_call 33; refine (kk _).mono ?_; rintro e wx ⟨rfl, hTx⟩; exact ⟨rfl, ⟨wx, hTx⟩, rfl⟩) | (go_at_call 32; refine (kq _).mono ?_; rintro e wx ⟨rfl, hTx⟩; exact ⟨rfl, ⟨wx, hTx⟩, rfl⟩) | (go_at_call 43; refine (kn _).mono ?_; rintro e wx ⟨rfl, hTx⟩; exact ⟨rfl, ⟨wx, hTx⟩, rfl⟩)))
            refine wpQuiet_nil ?_
            rintro _ ⟨N, rfl⟩
            have hN := N.h
            generalize N.x = wN at hN ⊢
            clear N kk kq kn x0 x1 x2 r0 r1
            have hbN : Below W.heap.size W wN := hbX.trans (Below.mono hN hbX.size)
            go_wp2
            go_ret
            exact ⟨⟨false, rfl, by simp; exact hbad⟩, hb.trans (hbN.mono hb.size)⟩
          | true =>
          simp only [hgk] at kq
          cases hgq : nm.good bq with
          | false =>
            have hbad : ¬ OkR es bs := fun h => by have h1 := (h.bo k _ HG.out).2.2; have h2 : nm.good bq = true := h1; rw [hgq] at h2; cases h2
            simp only [hgq] at kn
            go_wp2
            refine qi.region_in X1 (qi.T.refl X1) (by kernel_rfl) (by kernel_rfl) ?_
            repeat (go_big_quiet_step (first | (go_at_call 33; refine (kk _).mono ?_; rintro e wx ⟨rfl, hTx⟩; exact ⟨rfl, ⟨wx, hTx⟩, rfl⟩) | (go_at_call 32; refine (kq _).mono ?_; rintro e wx ⟨rfl, hTx⟩; exact ⟨rfl, ⟨wx, hTx⟩, rfl⟩) | (go_at_call 43; refine (kn _).mono ?_; rintro e wx ⟨rfl, hTx⟩; exact ⟨rfl, ⟨wx, hTx⟩, rfl⟩)))
            refine wpQuiet_nil ?_
            rintro _ ⟨N, rfl⟩
            have hN := N.h
            generalize N.x = wN at hN ⊢
            clear N kk kq kn x0 x1 x2 r0 r1
            have hbN : Below W.heap.size W wN := hbX.trans (Below.mono hN hbX.size)
            go_wp2
            go_ret
            exact ⟨⟨false, rfl, by simp; exact hbad⟩, hb.trans (hbN.mono hb.size)⟩
          | true =>
          simp only [hgq] at kn
          have hthis : 0 ≤ kindOf es bx ∧ ky.good bk = true ∧ nm.good bq = true := ⟨by rw [HKD.out]; exact hge0, hgk, hgq⟩
          have HTH : Hid (0 ≤ kindOf es bx ∧ ky.good bk = true ∧ nm.good bq = true) := hthis
          clear hthis hgk hgq
          by_cases hk0 : k = 0
          · subst hk0
            have hnext : Hid (GoodB es bs (0 + 1)) := goodB_next hgood.out HG.out HTH.out (fun p h => absurd rfl h)
            go_wp2
            refine qi.region_in X1 (qi.T.refl X1) (by kernel_rfl) (by kernel_rfl) ?_
            repeat (go_big_quiet_step (first | (go_at_call 33; refine (kk _).mono ?_; rintro e wx ⟨rfl, hTx⟩; exact ⟨rfl, ⟨wx, hTx⟩, rfl⟩) | (go_at_call 32; refine (kq _).mono ?_; rintro e wx ⟨rfl, hTx⟩; exact ⟨rfl, ⟨wx, hTx⟩, rfl⟩) | (go_at_call 43; refine (kn _).mono ?_; rintro e wx ⟨rfl, hTx⟩; exact ⟨rfl, ⟨wx, hTx⟩, rfl⟩)))
            refine wpQuiet_nil ?_
            rintro _ ⟨N, rfl⟩
            have hN := N.h
            generalize N.x = wN at hN ⊢
            clear N kk kq kn x0 x1 x2 r0 r1
            have hbN : Below W.heap.size W wN := hbX.trans (Below.mono hN hbX.size)
            go_wp2
            try rw [← hqa]
            try rw [← hqb]
            go_roundw
            case rel => exact ⟨0 + 1, by omega, by go_num, hnext, hbN⟩
            case measure => simp [intOf]; omega
          · obtain ⟨m, rfl⟩ : ∃ m, k = m + 1 := ⟨k - 1, by omega⟩
            have g1 : bs[m]? = some bs[m] := List.getElem?_eq_getElem (by omega)
            obtain ⟨d0, d1, d2⟩ := (HB.out.below hbX).2 m _ g1
            have HG1 : Hid (bs[m]? = some bs[m]) := g1
            obtain ⟨⟨px, pk, pq⟩, hpe⟩ : ∃ e, bs[m] = e := ⟨_, rfl⟩
            rw [hpe] at d0 d1 d2 HG1
            have hgbX := (HB.out.below hbX).1
            have P0 : ∀ N : qi.Cls X1, N.x.cell? ⟨gb, m * 3, none⟩ = some (.string px) := fun N => (Below.cell N.h (p := ⟨gb, m * 3, none⟩) hgbX).trans d0
            have P1 : ∀ N : qi.Cls X1, N.x.cell? ⟨gb, m * 3 + 1, none⟩ = some (.string pk) := fun N => (Below.cell N.h (p := ⟨gb, m * 3 + 1, none⟩) hgbX).trans d1
            have P2 : ∀ N : qi.Cls X1, N.x.cell? ⟨gb, m * 3 + 2, none⟩ = some (.string pq) := fun N => (Below.cell N.h (p := ⟨gb, m * 3 + 2, none⟩) hgbX).trans d2
            have i1 : IntKind.i64.wrap (m : Int) = (m : Int) := by rw [IntKind.wrap_i64]; omega
            have i2 : (m : Int) < (bs.length : Int) := by omega
            have kb : ∀ N : qi.Cls X1, Calls Tryz.prog 44 #[.agg #[.string px, .string pk, .string pq], .agg #[.string bx, .string bk, .string bq]] N.x fun e w' => e = .returned (.bool (before ⟨px, pk, pq⟩ ⟨bx, bk, bq⟩)) ∧ qi.T X1 w' := fun N => (spec_before ⟨px, pk, pq⟩ ⟨bx, bk, bq⟩ N.x).mono fun e w' ⟨h1, h2⟩ => ⟨h1, N.h.next h2⟩
            clear g1 hpe d0 d1 d2
            cases hbf : before ⟨px, pk, pq⟩ ⟨bx, bk, bq⟩ with
            | false =>
              have hbad : ¬ OkR es bs := fun h => by
                have h1 := before_cmp.2 (h.bu m _ _ (by omega) HG1.out HG.out)
                rw [hbf] at h1
                cases h1
              simp only [hbf] at kb
              go_wp2
              refine qi.region_in X1 (qi.T.refl X1) (by kernel_rfl) (by kernel_rfl) ?_
              repeat (go_big_quiet_step (first | (go_at_call 33; refine (kk _).mono ?_; rintro e wx ⟨rfl, hTx⟩; exact ⟨rfl, ⟨wx, hTx⟩, rfl⟩) | (go_at_call 32; refine (kq _).mono ?_; rintro e wx ⟨rfl, hTx⟩; exact ⟨rfl, ⟨wx, hTx⟩, rfl⟩) | (go_at_call 43; refine (kn _).mono ?_; rintro e wx ⟨rfl, hTx⟩; exact ⟨rfl, ⟨wx, hTx⟩, rfl⟩) | (go_at_call 44; refine (kb _).mono ?_; rintro e wx ⟨rfl, hTx⟩; exact ⟨rfl, ⟨wx, hTx⟩, rfl⟩)))
              refine wpQuiet_nil ?_
              rintro _ ⟨N, rfl⟩
              have hN := N.h
              generalize N.x = wN at hN ⊢
              clear N kk kq kn x0 x1 x2 r0 r1 kb P0 P1 P2
              have hbN : Below W.heap.size W wN := hbX.trans (Below.mono hN hbX.size)
              go_wp2
              go_ret
              exact ⟨⟨false, rfl, by simp; exact hbad⟩, hb.trans (hbN.mono hb.size)⟩
            | true =>
              have hnext : Hid (GoodB es bs (m + 1 + 1)) := goodB_next hgood.out HG.out HTH.out (fun p _ hp => by
                have hp2 : bs[m]? = some p := hp
                rw [HG1.out] at hp2
                cases hp2
                exact hbf)
              simp only [hbf] at kb
              go_wp2
              refine qi.region_in X1 (qi.T.refl X1) (by kernel_rfl) (by kernel_rfl) ?_
              repeat (go_big_quiet_step (first | (go_at_call 33; refine (kk _).mono ?_; rintro e wx ⟨rfl, hTx⟩; exact ⟨rfl, ⟨wx, hTx⟩, rfl⟩) | (go_at_call 32; refine (kq _).mono ?_; rintro e wx ⟨rfl, hTx⟩; exact ⟨rfl, ⟨wx, hTx⟩, rfl⟩) | (go_at_call 43; refine (kn _).mono ?_; rintro e wx ⟨rfl, hTx⟩; exact ⟨rfl, ⟨wx, hTx⟩, rfl⟩) | (go_at_call 44; refine (kb _).mono ?_; rintro e wx ⟨rfl, hTx⟩; exact ⟨rfl, ⟨wx, hTx⟩, rfl⟩)))
              refine wpQuiet_nil ?_
              rintro _ ⟨N, rfl⟩
              have hN := N.h
              generalize N.x = wN at hN ⊢
              clear N kk kq kn x0 x1 x2 r0 r1 kb P0 P1 P2
              have hbN : Below W.heap.size W wN := hbX.trans (Below.mono hN hbX.size)
              go_wp2
              try rw [← hqa]
              try rw [← hqb]
              go_roundw
              case rel => exact ⟨m + 1 + 1, by omega, by go_num, hnext, hbN⟩
              case measure => simp [intOf]; omega
        · obtain rfl : k = bs.length := by omega
          have hiff : Hid ((es.length ≤ 60 ∧ bs.length ≤ 60) ↔ OkR es bs) := ⟨fun ⟨h1, h2⟩ => ⟨h1, h2, fun i e he => HGE.out.1 i e (List.getElem?_eq_some_iff.1 he).1 he, HGE.out.2, fun i b hb => hgood.out.1 i b (List.getElem?_eq_some_iff.1 hb).1 hb, hgood.out.2⟩, fun h => ⟨h.el, h.bl⟩⟩
          by_cases h1 : es.length ≤ 60
          · have d1 : decide ((es.length : Int) ≤ 60) = true := by simp; omega
            by_cases h2 : bs.length ≤ 60
            · have d2 : decide ((bs.length : Int) ≤ 60) = true := by simp; omega
              go_wp2
              go_ret
              exact ⟨⟨true, rfl, by simp; exact hiff.out.1 ⟨h1, h2⟩⟩, hb.trans (hbel.mono hb.size)⟩
            · have d2 : decide ((bs.length : Int) ≤ 60) = false := by simp; omega
              go_wp2
              go_ret
              exact ⟨⟨false, rfl, by simp; exact fun h => h2 (hiff.out.2 h).2⟩, hb.trans (hbel.mono hb.size)⟩
          · have d1 : decide ((es.length : Int) ≤ 60) = false := by simp; omega
            go_wp2
            go_ret
            exact ⟨⟨false, rfl, by simp; exact fun h => h1 (hiff.out.2 h).1⟩, hb.trans (hbel.mono hb.size)⟩
end Go.Proofs.YtnooibeohdfcmaaGreatDoor.rk
