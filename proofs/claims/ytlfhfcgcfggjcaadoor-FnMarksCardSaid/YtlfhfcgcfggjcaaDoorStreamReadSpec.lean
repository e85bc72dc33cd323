/- StreamRead, the specification's and the program's: entries from an offset on, at most so many; new memory alone. -/
import Derived.Test.YtlfhfcgcfggjcaaDoorStreamOkSpec
import Derived.Test.YtlfhfcgcfggjcaaDoorStreamOkImpl
import Derived.Test.YtlfhfcgcfggjcaaDoorCopyEntries
import Derived.Test.YtlfhfcgcfggjcaaDoorFlatOwn
namespace Go.Proofs.YtlfhfcgcfggjcaaDoor.srd
open Go.ChangeShapes Go.WideShapes Go.ChangeAt Go.RowKit Go.Proofs.YtlfhfcgcfggjcaaDoor.fl Go.Proofs.YtlfhfcgcfggjcaaDoor.fo Go.Proofs.YtlfhfcgcfggjcaaDoor.rr Go.Proofs.YtlfhfcgcfggjcaaDoor.st Go.Proofs.YtlfhfcgcfggjcaaDoor.ce
set_option linter.unusedVariables false

def skip (lo off : Int) : Nat := (max off lo - lo).toNat
noncomputable def read (sn : ByteArray) (lo nx : Int) (es : List flY.En) (ms : List Ex) (off most : Int) : List flY.En := if okB sn lo nx es ms = true then (es.drop (skip lo off)).take most.toNat else []
theorem own_form {w : World} {B n : Nat} {U : TypeId} {s : Nat} {v : Value} {xs : List Value} (h : w.ownsRow B U s v (n + 1) xs) : ∃ g cap, v = .slice (some ⟨g, 0, none⟩) (n + 1) cap := by
  obtain ⟨_, ⟨rfl, h0⟩ | ⟨g, cap, cur, rfl, _⟩⟩ := h
  · omega
  · exact ⟨g, cap, rfl⟩
theorem own_empty (w : World) (B : Nat) (U : TypeId) (s : Nat) (hB : B ≤ w.heap.size) : (w.alloc (.cells #[] U)).ownsRow B U s (.slice (some ⟨w.heap.size, 0, none⟩) 0 0) 0 [] :=
  ⟨by simp, .inr ⟨w.heap.size, 0, #[], rfl, hB, bnew w _ _, Nat.le_refl _, by unfold maxLen; omega, by simp, by simp⟩⟩
theorem own_stay {w w' : World} {B n : Nat} {U : TypeId} {s g cap : Nat} {xs : List Value} (h : w.ownsRow B U s (.slice (some ⟨g, 0, none⟩) n cap) n xs) (hb : Below w.heap.size w w') : w'.ownsRow B U s (.slice (some ⟨g, 0, none⟩) n cap) n xs := by
  obtain ⟨h0, ⟨h1, _⟩ | ⟨g', cap', cur, h1, h2, h3, h4⟩⟩ := h
  · cases h1
  · cases h1
    exact ⟨h0, .inr ⟨g, cap, cur, rfl, h2, bstay h3 hb (Array.getElem?_eq_some_iff.1 h3).1, h4⟩⟩
theorem cells_new (w : World) (e : flY.En) : ∀ (j : Nat) (u : Value), (flY.c e)[j]? = some u → (w.alloc (.cells #[.int .i64 e.o, .int .i64 e.t, .string e.b] 43)).cell? ((⟨w.heap.size, 0, none⟩ : Addr).add j) = some u := fun j u hu => by
  have h := bnew w #[.int .i64 e.o, .int .i64 e.t, .string e.b] 43
  have e1 : (⟨w.heap.size, 0, none⟩ : Addr).add j = ⟨w.heap.size, j, none⟩ := by unfold Addr.add; split <;> simp_all
  rw [e1]
  exact bcell h (by simpa [flY.c] using hu)
/-- one more is read, or it is too early -/
theorem take_more {es : List flY.En} {d k : Nat} {e : flY.En} (he : es[k]? = some e) (hd : d ≤ k) : (es.drop d).take (k + 1 - d) = (es.drop d).take (k - d) ++ [e] := by
  rw [show k + 1 - d = (k - d) + 1 by omega, List.take_add_one, List.getElem?_drop, show d + (k - d) = k by omega, he]
  rfl
theorem take_none {es : List flY.En} {d k : Nat} (hd : k < d) : (es.drop d).take (k + 1 - d) = (es.drop d).take (k - d) := by
  rw [show k + 1 - d = 0 by omega, show k - d = 0 by omega]
theorem skip_iff {lo off : Int} {k : Nat} : off ≤ lo + (k : Int) ↔ skip lo off ≤ k := by unfold skip; omega

theorem lenEq {es l : List flY.En} {d k : Nat} (h : l = (es.drop d).take (k - d)) (hk : k ≤ es.length) : l.length = k - d := by
  rw [h, List.length_take, List.length_drop]
  omega
theorem lenLe {es l : List flY.En} {d k : Nat} (h : l = (es.drop d).take (k - d)) : l.length ≤ k := by
  rw [h, List.length_take]
  omega

set_option maxRecDepth 100000 in
set_option maxHeartbeats 4000000 in
theorem spec_read (sn : ByteArray) (lo nx : Int) (es : List flY.En) (ms : List Ex) (g h cg ch : Nat) (off most : Int) (w : World) (F : Fit sn es ms) (hY : RY w g es) (hE : RE w h ms) (ga ha : Option Addr) (hga : Hid (0 < es.length → ga = some ⟨g, 0, none⟩)) (hha : Hid (0 < ms.length → ha = some ⟨h, 0, none⟩)) :
    Calls Tryd.prog 10 #[.agg #[.string sn, .int .i64 lo, .int .i64 nx, .slice ga es.length cg, .slice ha ms.length ch], .int .i64 off, .int .i64 most] w fun e w' => ∃ a cap, e = .returned (.slice a (read sn lo nx es ms off most).length cap) ∧ Row flY.c 3 w' w'.heap.size a (read sn lo nx es ms off most) ∧ Below w.heap.size w w' := by
  have hb : Below w.heap.size w (w.alloc (.cells #[.string sn, .int .i64 lo, .int .i64 nx, .slice ga es.length cg, .slice ha ms.length ch] 27)) := (Below.refl _ _).alloc (Nat.le_refl _) _
  have hA := bnew w #[.string sn, .int .i64 lo, .int .i64 nx, .slice ga es.length cg, .slice ha ms.length ch] 27
  have hlt : w.heap.size < (w.alloc (.cells #[.string sn, .int .i64 lo, .int .i64 nx, .slice ga es.length cg, .slice ha ms.length ch] 27)).heap.size := by simp
  have hY2 : RY (w.alloc (.cells #[.string sn, .int .i64 lo, .int .i64 nx, .slice ga es.length cg, .slice ha ms.length ch] 27)) g es := hY.below hb
  have hE2 : RE (w.alloc (.cells #[.string sn, .int .i64 lo, .int .i64 nx, .slice ga es.length cg, .slice ha ms.length ch] 27)) h ms := hE.below hb
  obtain ⟨W, hW⟩ : ∃ W, w.alloc (.cells #[.string sn, .int .i64 lo, .int .i64 nx, .slice ga es.length cg, .slice ha ms.length ch] 27) = W := ⟨_, rfl⟩
  rw [hW] at hb hA hY2 hE2 hlt
  have BOX : Hid (∀ wr, Below W.heap.size W wr → wr.cell? ⟨w.heap.size, 0, none⟩ = some (.string sn) ∧ wr.cell? ⟨w.heap.size, 1, none⟩ = some (.int .i64 lo) ∧ wr.cell? ⟨w.heap.size, 2, none⟩ = some (.int .i64 nx) ∧ wr.cell? ⟨w.heap.size, 3, none⟩ = some (.slice ga es.length cg) ∧ wr.cell? ⟨w.heap.size, 4, none⟩ = some (.slice ha ms.length ch)) := fun wr hr => by
    have h1 := bstay hA hr hlt
    exact ⟨bcell h1 rfl, bcell h1 rfl, bcell h1 rfl, bcell h1 rfl, bcell h1 rfl⟩
  have hb2 : Below W.heap.size W (W.alloc (.cells #[] 43)) := (Below.refl _ _).alloc (Nat.le_refl _) _
  have ho2 := own_empty W W.heap.size 43 3 (Nat.le_refl _)
  have hY3 := hY2.below hb2
  have hok := sts.spec_ok sn lo nx es ms g h cg ch (W.alloc (.cells #[] 43)) F hY3 (hE2.below hb2) ga ha hga hha
  obtain ⟨W2, hW2⟩ : ∃ W2, W.alloc (.cells #[] 43) = W2 := ⟨_, rfl⟩
  rw [hW2] at hb2 ho2 hok hY3
  obtain ⟨c0, c1, c2, c3, c4⟩ := BOX.out W2 hb2
  have HY : Hid (RY W g es) := hY2
  have HO2 : Hid (W2.ownsRow W.heap.size 43 3 (.slice (some ⟨W.heap.size, 0, none⟩) 0 0) 0 []) := ho2
  have HRD : Hid (read sn lo nx es ms off most = if okB sn lo nx es ms = true then (es.drop (skip lo off)).take most.toNat else []) := rfl
  obtain ⟨A, hAns⟩ : ∃ A, read sn lo nx es ms off most = A := ⟨_, rfl⟩
  rw [hAns] at HRD
  simp only [hAns]
  have hel := F.el
  clear hY hE hY2 hE2 hA F hAns hY3 ho2
  cases hob : okB sn lo nx es ms with
  | false =>
    rw [hob] at hok HRD
    obtain rfl : A = [] := HRD.out
    clear HRD
    go_enter Tryd.func10, Tryd.ntmps10
    go_wp2_with (go_at_call 30; refine hok.mono ?_; rintro e w1 ⟨rfl, hb1⟩)
    go_ret
    exact ⟨some ⟨W.heap.size, 0, none⟩, 0, rfl, .inl rfl, hb.trans ((hb2.trans (hb1.mono hb2.size)).mono hb.size)⟩
  | true =>
    rw [hob] at hok HRD
    have HA : Hid (A = (es.drop (skip lo off)).take most.toNat) := HRD.out
    have HOK : Hid (OkT sn lo nx es ms) := okB_true.1 hob
    obtain ⟨d, hd⟩ : ∃ d, skip lo off = d := ⟨_, rfl⟩
    have HD : Hid (∀ k : Nat, off ≤ lo + (k : Int) ↔ d ≤ k) := fun k => hd ▸ skip_iff
    rw [hd] at HA
    obtain ⟨i0, hi, hz0, hz1, hz2⟩ : ∃ i0, Tryd.prog.info? 43 = some i0 ∧ i0.zero = some (.agg #[.int .i64 0, .int .i64 0, .string ByteArray.empty]) ∧ i0.size = 3 ∧ i0.bytes = 32 := by
      have h := flY.info
      cases hh : Tryd.prog.info? 43 with
      | none => rw [hh] at h; cases h
      | some i => rw [hh] at h; simp at h; exact ⟨i, rfl, h.1, h.2.1, h.2.2⟩
    clear HRD hob hd
    go_enter Tryd.func10, Tryd.ntmps10
    go_wp2_with (go_at_call 30; fail)
    clear hW hW2 c0 c1 c2 c3 c4
    refine hok.mono ?_
    rintro e w1 ⟨rfl, hb1⟩
    have hbW1 : Below W.heap.size W w1 := hb2.trans (hb1.mono hb2.size)
    have HO1 : Hid (w1.ownsRow W.heap.size 43 3 (.slice (some ⟨W.heap.size, 0, none⟩) 0 0) 0 []) := own_stay HO2.out hb1
    clear hok HO2
    obtain ⟨c0, c1, c2, c3, c4⟩ := BOX.out w1 hbW1
    go_wp2
    clear c0 c1 c2 c3 c4
    go_loopw [8, 7] (fun x y wr => ∃ (k : Nat) (l : List flY.En) (g' cap : Nat), k ≤ es.length ∧ x = .int .i64 k ∧ y = .slice (some ⟨g', 0, none⟩) l.length cap ∧ Hid (l = (es.drop d).take (k - d) ∧ (l = [] ∨ (l.length : Int) ≤ most)) ∧ l.length ≤ es.length ∧ Hid (wr.ownsRow W.heap.size 43 3 (.slice (some ⟨g', 0, none⟩) l.length cap) l.length (l.flatMap flY.c)) ∧ Below W.heap.size W wr) (fun x _ _ => es.length - (intOf x).toNat)
    case atStart => exact ⟨0, [], W.heap.size, 0, Nat.zero_le _, rfl, rfl, ⟨by simp, .inl rfl⟩, Nat.zero_le _, HO1, hbW1⟩
    case round =>
      clear HO1 hbW1
      obtain ⟨k, l, g', cap, hk, rfl, rfl, hl, hll, hown, hbel⟩ := hrel
      have hbs := hbel.size
      obtain ⟨c0, c1, c2, c3, c4⟩ := BOX.out wr hbel
      by_cases hkl : k < es.length
      · by_cases hm : (l.length : Int) < most
        · have f1 : decide ((l.length : Int) < most) = true := decide_eq_true hm
          have f0 : decide ((k : Int) < (es.length : Int)) = true := by simp; omega
          have g0 : es[k]? = some es[k] := List.getElem?_eq_getElem hkl
          have hqa : ga = some ⟨g, 0, none⟩ := hga.out (by omega)
          have hYr : RY wr g es := HY.out.below hbel
          obtain ⟨a0, a1, a2⟩ := hYr.2 k _ g0
          have HG : Hid (es[k]? = some es[k]) := g0
          obtain ⟨⟨eo, et, eb⟩, he⟩ : ∃ e, es[k] = e := ⟨_, rfl⟩
          rw [he] at a0 a1 a2 HG
          have heo : eo = lo + (k : Int) := (HOK.out.eo k _ HG.out).1
          have i2 : (k : Int) < (es.length : Int) := by omega
          clear g0 he hYr
          by_cases hq : off ≤ eo
          · have f2 : decide (off ≤ eo) = true := decide_eq_true hq
            have hdk : d ≤ k := (HD.out k).1 (by rw [← heo]; exact hq)
            have hl2 : Hid (l ++ [⟨eo, et, eb⟩] = (es.drop d).take (k + 1 - d) ∧ (l ++ [⟨eo, et, eb⟩] = [] ∨ ((l ++ [⟨eo, et, eb⟩] : List flY.En).length : Int) ≤ most)) := ⟨by rw [take_more HG.out hdk, ← hl.out.1], .inr (by simp; omega)⟩
            have hown1 := hown.out
            clear heo
            go_wp2_with (at_builtin; refine wpList_append_own _ rfl _ _ 24 rfl W.heap.size 43 i0 (.agg #[.int .i64 0, .int .i64 0, .string ByteArray.empty]) 3 32 Tryd.underlying24 hi hz0 hz1 hz2 rfl (by decide) _ _ _ rfl (hown1.alloc _) ⟨wr.heap.size, 0, none⟩ 1 1 [.int .i64 eo, .int .i64 et, .string eb] rfl rfl ?c1 ?c2 ?c3 ?c4 ?c5 ?_)
            case c2 => exact ⟨rfl, rfl, rfl⟩
            case c3 => unfold maxLen; omega
            case c4 => omega
            case c5 => omega
            intro v' w2 hown' hgrow _
            obtain ⟨g2, cap2, rfl⟩ := own_form hown'
            have hbel' : Below W.heap.size W w2 := (hbel.alloc hbs _).grown hgrow (by simp; omega) (fun k hk => ((hown1.alloc (.cells #[.int .i64 eo, .int .i64 et, .string eb] 43)).lt k hk).1)
            have hown2 : Hid (w2.ownsRow W.heap.size 43 3 (.slice (some ⟨g2, 0, none⟩) (l ++ [⟨eo, et, eb⟩] : List flY.En).length cap2) (l ++ [⟨eo, et, eb⟩] : List flY.En).length ((l ++ [⟨eo, et, eb⟩] : List flY.En).flatMap flY.c)) := by
              unfold Hid
              rw [List.flatMap_append, List.length_append]
              exact hown'
            clear hown1 hown' hgrow hbel hown
            go_wp2
            try rw [← hqa]
            try rw [← hqh]
            go_roundw
            case rel => exact ⟨k + 1, l ++ [⟨eo, et, eb⟩], g2, cap2, by omega, by go_num, by rw [List.length_append]; rfl, hl2, by rw [List.length_append]; show l.length + 1 ≤ es.length; have := lenLe hl.out.1; omega, hown2, hbel'⟩
            case measure => simp [intOf]; omega
          · have f2 : decide (off ≤ eo) = false := decide_eq_false hq
            have hdk : k < d := by
              have := HD.out k
              rw [← heo] at this
              have h2 : ¬ d ≤ k := fun h => hq (this.2 h)
              omega
            have hl2 : Hid (l = (es.drop d).take (k + 1 - d) ∧ (l = [] ∨ (l.length : Int) ≤ most)) := ⟨by rw [take_none hdk, ← hl.out.1], hl.out.2⟩
            clear heo
            go_wp2
            try rw [← hqa]
            try rw [← hqh]
            go_roundw
            case rel => exact ⟨k + 1, l, g', cap, by omega, by go_num, rfl, hl2, hll, hown, hbel⟩
            case measure => simp [intOf]; omega
        · have f1 : decide ((l.length : Int) < most) = false := decide_eq_false hm
          have f0 : decide ((k : Int) < (es.length : Int)) = true := by simp; omega
          obtain rfl : l = A := by
            rw [HA.out]
            rcases hl.out.2 with h0 | h1
            · rw [h0]
              rw [h0] at hm
              rw [show most.toNat = 0 by simp at hm; omega]
              simp
            · have h2 := lenEq hl.out.1 hk
              rw [show most.toNat = l.length by omega, h2]
              rw [← h2]
              exact hl.out.1.trans (by rw [h2])
          obtain ⟨a', cap', hv, hrow⟩ := own_row flY.c_len hown.out
          cases hv
          clear hl
          go_wp2
          go_ret
          first | exact ⟨_, _, rfl, hrow, hb.trans (hbel.mono hb.size)⟩ | exact ⟨_, rfl, hrow, hb.trans (hbel.mono hb.size)⟩ | exact ⟨_, ⟨_, rfl⟩, hrow, hb.trans (hbel.mono hb.size)⟩
      · obtain rfl : k = es.length := by omega
        have f0 : decide ((es.length : Int) < (es.length : Int)) = false := by simp
        obtain rfl : l = A := by
          rw [HA.out]
          have h2 := lenEq hl.out.1 hk
          rcases hl.out.2 with h0 | h1
          · rw [h0] at h2 ⊢
            rw [List.drop_eq_nil_of_le (by simp at h2; omega)]
            simp
          · rw [List.take_of_length_le (by rw [List.length_drop]; omega)]
            exact hl.out.1.trans (List.take_of_length_le (by rw [List.length_drop]; omega))
        obtain ⟨a', cap', hv, hrow⟩ := own_row flY.c_len hown.out
        cases hv
        clear hl
        go_wp2
        go_ret
        first | exact ⟨_, _, rfl, hrow, hb.trans (hbel.mono hb.size)⟩ | exact ⟨_, rfl, hrow, hb.trans (hbel.mono hb.size)⟩ | exact ⟨_, ⟨_, rfl⟩, hrow, hb.trans (hbel.mono hb.size)⟩
end Go.Proofs.YtlfhfcgcfggjcaaDoor.srd
