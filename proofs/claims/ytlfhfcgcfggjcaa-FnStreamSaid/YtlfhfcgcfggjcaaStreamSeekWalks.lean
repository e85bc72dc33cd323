/- StreamSeek, the specification's and the program's: the offset of the first entry of a time or a later one; new memory alone. -/
import Derived.Test.YtlfhfcgcfggjcaaStreamOkSpec
import Derived.Test.YtlfhfcgcfggjcaaStreamOkImpl
namespace Go.Proofs.Ytlfhfcgcfggjcaa.ssk
open Go.ChangeShapes Go.WideShapes Go.ChangeAt Go.RowKit Go.Proofs.Ytlfhfcgcfggjcaa.fl Go.Proofs.Ytlfhfcgcfggjcaa.rc Go.Proofs.Ytlfhfcgcfggjcaa.rr Go.Proofs.Ytlfhfcgcfggjcaa.st
set_option linter.unusedVariables false

/-- the place of the first entry of a time or a later one -/
def first : List flY.En → Int → Nat
  | [], _ => 0
  | e :: r, t => if t ≤ e.t then 0 else first r t + 1
theorem first_eq {t : Int} : ∀ (l : List flY.En) (p : Nat), p ≤ l.length → (∀ (i : Nat) a, i < p → l[i]? = some a → a.t < t) → (∀ a, l[p]? = some a → t ≤ a.t) → first l t = p
  | [], p, hp, _, _ => by simp at hp; simp [first, hp]
  | e :: r, 0, _, _, h2 => by have := h2 e rfl; simp [first, this]
  | e :: r, p + 1, hp, h1, h2 => by
    have h0 := h1 0 e (by omega) rfl
    have hn : ¬ t ≤ e.t := by omega
    simp only [first, hn, if_false]
    rw [first_eq r p (by simp at hp; omega) (fun i a hi ha => h1 (i + 1) a (by omega) (by simpa using ha)) (fun a ha => h2 a (by simpa using ha))]
theorem first_le : ∀ (l : List flY.En) (t : Int), first l t ≤ l.length
  | [], _ => Nat.le_refl _
  | e :: r, t => by
    have := first_le r t
    simp only [first]
    split <;> simp <;> omega
theorem sorted {l : List flY.En} (h : ∀ (i : Nat) a b, l[i]? = some a → l[i + 1]? = some b → a.t ≤ b.t) : ∀ (d i : Nat) a b, l[i]? = some a → l[i + d]? = some b → a.t ≤ b.t
  | 0, i, a, b, ha, hb => by rw [Nat.add_zero, ha] at hb; cases hb; exact Int.le_refl _
  | d + 1, i, a, b, ha, hb => by
    have hlt := (List.getElem?_eq_some_iff.1 hb).1
    have hm : l[i + d]? = some l[i + d] := List.getElem?_eq_getElem (by omega)
    have h1 := sorted h d i a _ ha hm
    have h2 := h (i + d) _ b hm (by rw [← hb]; congr 1)
    omega

set_option maxRecDepth 100000 in
set_option maxHeartbeats 2000000 in
theorem first_from (es : List flY.En) (g c : Nat) (t : Int) (w : World) (hl : es.length ≤ 400) (hS : ∀ (i : Nat) a b, es[i]? = some a → es[i + 1]? = some b → a.t ≤ b.t) (hY : RY w g es) (ga : Option Addr) (hga : Hid (0 < es.length → ga = some ⟨g, 0, none⟩)) :
    Calls Try.prog 22 #[.slice ga es.length c, .int .i64 t] w fun r w' => r = .returned (.int .i64 (first es t)) ∧ w' = w := by
  have HY : Hid (RY w g es) := hY
  have HS : Hid (∀ (d i : Nat) a b, es[i]? = some a → es[i + d]? = some b → a.t ≤ b.t) := sorted hS
  obtain ⟨p, hp⟩ : ∃ p, first es t = p := ⟨_, rfl⟩
  rw [hp]
  have HP : Hid (∀ q, q ≤ es.length → (∀ (i : Nat) a, i < q → es[i]? = some a → a.t < t) → (∀ (i : Nat) a, q ≤ i → es[i]? = some a → t ≤ a.t) → p = q) := fun q h1 h2 h3 => hp ▸ first_eq es q h1 h2 (fun a ha => h3 q a (Nat.le_refl _) ha)
  clear hY hS hp
  go_enter Try.func22, Try.ntmps22
  go_wp2
  go_step3
  go_wp2
  go_step3
  go_wp2
  go_loopw [5, 6, 7] (fun v x _ wr => ∃ (i j : Nat), i ≤ j ∧ j ≤ es.length ∧ v = .int .i64 i ∧ x = .int .i64 j ∧ Hid ((∀ (k : Nat) a, k < i → es[k]? = some a → a.t < t) ∧ ∀ (k : Nat) a, j ≤ k → es[k]? = some a → t ≤ a.t) ∧ wr = w) (fun v x _ _ => (intOf x).toNat - (intOf v).toNat)
  case atStart => exact ⟨0, es.length, Nat.zero_le _, Nat.le_refl _, rfl, rfl, ⟨fun k a h => by omega, fun k a h ha => by have := (List.getElem?_eq_some_iff.1 ha).1; omega⟩, rfl⟩
  case round =>
    obtain ⟨i, j, hij, hjl, rfl, rfl, hinv, hwr⟩ := hrel
    obtain rfl := hwr.symm
    obtain ⟨h, hh, hh1, hh2, hh3, hh4⟩ : ∃ h : Nat, Int.tdiv ((i : Int) + (j : Int)) 2 = (h : Int) ∧ i ≤ h ∧ h ≤ j ∧ 2 * h ≤ i + j ∧ i + j ≤ 2 * h + 1 := ⟨(i + j) / 2, by rw [Int.tdiv_eq_ediv_of_nonneg (by omega)]; omega, by omega, by omega, by omega, by omega⟩
    have i1 : IntKind.i64.wrap ((i : Int) + (j : Int)) = (i : Int) + (j : Int) := by rw [IntKind.wrap_i64]; omega
    have i2 : IntKind.i64.wrap (h : Int) = (h : Int) := by rw [IntKind.wrap_i64]; omega
    by_cases hlt : i < j
    · have hne : ((i : Int) == (j : Int)) = false := by simp; omega
      have hne2 : ¬ (i : Int) = (j : Int) := by omega
      have hhl : h < es.length := by omega
      have hqa : ga = some ⟨g, 0, none⟩ := hga.out (by omega)
      have g0 : es[h]? = some es[h] := List.getElem?_eq_getElem hhl
      obtain ⟨a0, a1, a2⟩ := HY.out.2 h _ g0
      have HG : Hid (es[h]? = some es[h]) := g0
      obtain ⟨⟨eo, et, eb⟩, he⟩ : ∃ e, es[h] = e := ⟨_, rfl⟩
      rw [he] at a0 a1 a2 HG
      have i3 : (h : Int) < (es.length : Int) := by omega
      clear g0 he
      by_cases hq : et < t
      · have hd : decide (et < t) = true := by simpa using hq
        have hinv2 : Hid ((∀ (k : Nat) a, k < h + 1 → es[k]? = some a → a.t < t) ∧ ∀ (k : Nat) a, j ≤ k → es[k]? = some a → t ≤ a.t) := ⟨fun k a hk ha => by
          have := HS.out (h - k) k a _ ha (by rw [show k + (h - k) = h by omega]; exact HG.out)
          have h2 : a.t ≤ et := this
          omega, hinv.out.2⟩
        have hhj : h < j := by omega
        go_wp2
        try rw [← hqa]
        try rw [← hqh]
        go_roundw
        case rel => exact ⟨h + 1, j, by omega, hjl, by go_num, rfl, hinv2, by first | rfl | trivial⟩
        case measure => simp [intOf]; omega
      · have hd : decide (et < t) = false := by simp; omega
        have hinv2 : Hid ((∀ (k : Nat) a, k < i → es[k]? = some a → a.t < t) ∧ ∀ (k : Nat) a, h ≤ k → es[k]? = some a → t ≤ a.t) := ⟨hinv.out.1, fun k a hk ha => by
          have := HS.out (k - h) h _ a HG.out (by rw [show h + (k - h) = k by omega]; exact ha)
          have h2 : et ≤ a.t := this
          omega⟩
        go_wp2
        try rw [← hqa]
        try rw [← hqh]
        go_roundw
        case rel => exact ⟨i, h, by omega, by omega, rfl, rfl, hinv2, by first | rfl | trivial⟩
        case measure => simp [intOf]; omega
    · obtain rfl : i = j := by omega
      obtain rfl := HP.out i hjl hinv.out.1 hinv.out.2
      go_wp2
      go_ret
      exact ⟨rfl, rfl⟩

noncomputable def seek (sn : ByteArray) (lo nx : Int) (es : List flY.En) (ms : List Ex) (t : Int) : Int := if okB sn lo nx es ms = true then lo + first es t else -1

set_option maxRecDepth 100000 in
set_option maxHeartbeats 2000000 in
theorem spec_seek (sn : ByteArray) (lo nx : Int) (es : List flY.En) (ms : List Ex) (g h cg ch : Nat) (t : Int) (w : World) (F : Fit sn es ms) (hY : RY w g es) (hE : RE w h ms) (ga ha : Option Addr) (hga : Hid (0 < es.length → ga = some ⟨g, 0, none⟩)) (hha : Hid (0 < ms.length → ha = some ⟨h, 0, none⟩)) :
    Calls Try.prog 14 #[.agg #[.string sn, .int .i64 lo, .int .i64 nx, .slice ga es.length cg, .slice ha ms.length ch], .int .i64 t] w fun e w' => e = .returned (.int .i64 (seek sn lo nx es ms t)) ∧ Below w.heap.size w w' := by
  have hb : Below w.heap.size w (w.alloc (.cells #[.string sn, .int .i64 lo, .int .i64 nx, .slice ga es.length cg, .slice ha ms.length ch] 27)) := (Below.refl _ _).alloc (Nat.le_refl _) _
  have hA := bnew w #[.string sn, .int .i64 lo, .int .i64 nx, .slice ga es.length cg, .slice ha ms.length ch] 27
  have hlt : w.heap.size < (w.alloc (.cells #[.string sn, .int .i64 lo, .int .i64 nx, .slice ga es.length cg, .slice ha ms.length ch] 27)).heap.size := by simp
  have hY2 : RY (w.alloc (.cells #[.string sn, .int .i64 lo, .int .i64 nx, .slice ga es.length cg, .slice ha ms.length ch] 27)) g es := hY.below hb
  have hE2 : RE (w.alloc (.cells #[.string sn, .int .i64 lo, .int .i64 nx, .slice ga es.length cg, .slice ha ms.length ch] 27)) h ms := hE.below hb
  obtain ⟨W, hW⟩ : ∃ W, w.alloc (.cells #[.string sn, .int .i64 lo, .int .i64 nx, .slice ga es.length cg, .slice ha ms.length ch] 27) = W := ⟨_, rfl⟩
  rw [hW] at hb hA hY2 hE2 hlt
  have BOX : Hid (∀ wr, Below W.heap.size W wr → wr.cell? ⟨w.heap.size, 0, none⟩ = some (.string sn) ∧ wr.cell? ⟨w.heap.size, 1, none⟩ = some (.int .i64 lo) ∧ wr.cell? ⟨w.heap.size, 2, none⟩ = some (.int .i64 nx) ∧ wr.cell? ⟨w.heap.size, 3, none⟩ = some (.slice ga es.length cg) ∧ wr.cell? ⟨w.heap.size, 4, none⟩ = some (.slice ha ms.length ch)) := fun wr hr => by
    have h1 := bstay hA hr hlt
    exact ⟨bcell h1 rfl, bcell h1 rfl, bcell h1 rfl, bcell h1 rfl, bcell h1 rfl⟩
  obtain ⟨c0, c1, c2, c3, c4⟩ := BOX.out W (Below.refl _ _)
  have hok := sts.spec_ok sn lo nx es ms g h cg ch W F hY2 hE2 ga ha hga hha
  have HY : Hid (RY W g es) := hY2
  have HSK : Hid (seek sn lo nx es ms t = if okB sn lo nx es ms = true then lo + first es t else -1) := rfl
  obtain ⟨z, hz⟩ : ∃ z, seek sn lo nx es ms t = z := ⟨_, rfl⟩
  rw [hz] at HSK ⊢
  clear hY hE hY2 hE2 hA F hz
  cases hob : okB sn lo nx es ms with
  | false =>
    rw [hob] at hok HSK
    obtain rfl : z = -1 := HSK.out
    clear HSK
    go_enter Try.func14, Try.ntmps14
    go_wp2_with (go_at_call 16; refine hok.mono ?_; rintro e w1 ⟨rfl, hb1⟩)
    go_ret
    exact ⟨rfl, hb.trans (hb1.mono hb.size)⟩
  | true =>
    rw [hob] at hok HSK
    have HZ : Hid (z = lo + first es t) := HSK.out
    have HOK : Hid (OkT sn lo nx es ms) := okB_true.1 hob
    have q1 : es.length ≤ 400 := HOK.out.el
    have q2 : 0 ≤ lo := HOK.out.lo0.1
    have q3 : nx ≤ 1000000000 := HOK.out.nx0.2
    have q4 : lo ≤ nx := HOK.out.lo0.2
    clear HSK hob
    go_enter Try.func14, Try.ntmps14
    go_wp2_with (go_at_call 16; fail)
    clear hW c0 c1 c2 c3 c4
    refine hok.mono ?_
    rintro e w1 ⟨rfl, hb1⟩
    clear hok
    obtain ⟨c0, c1, c2, c3, c4⟩ := BOX.out w1 hb1
    go_wp2
    go_loopw [5] (fun v wr => ∃ k : Nat, k ≤ es.length ∧ v = .int .i64 k ∧ Hid (∀ (i : Nat) a, i < k → es[i]? = some a → a.t < t) ∧ wr = w1) (fun v _ => es.length - (intOf v).toNat)
    case atStart => exact ⟨0, Nat.zero_le _, rfl, fun i a h => by omega, rfl⟩
    case round =>
      obtain ⟨k, hk, rfl, hn, hwr⟩ := hrel
      obtain rfl := hwr.symm
      by_cases hkl : k < es.length
      · have g0 : es[k]? = some es[k] := List.getElem?_eq_getElem hkl
        have hqa : ga = some ⟨g, 0, none⟩ := hga.out (by omega)
        obtain ⟨a0, a1, a2⟩ := (HY.out.below hb1).2 k _ g0
        have HG : Hid (es[k]? = some es[k]) := g0
        obtain ⟨⟨eo, et, eb⟩, he⟩ : ∃ e, es[k] = e := ⟨_, rfl⟩
        rw [he] at a0 a1 a2 HG
        have i2 : (k : Int) < (es.length : Int) := by omega
        clear g0 he
        by_cases hq : t ≤ et
        · have hd : decide (t ≤ et) = true := by simpa using hq
          obtain rfl : eo = z := by
            rw [HZ.out, first_eq es k hk hn.out (fun a ha => by rw [HG.out] at ha; cases ha; exact hq)]
            exact (HOK.out.eo k _ HG.out).1
          go_wp2
          go_ret
          exact ⟨rfl, hb.trans (hb1.mono hb.size)⟩
        · have hd : decide (t ≤ et) = false := by simp; omega
          have hn2 : Hid (∀ (i : Nat) a, i < k + 1 → es[i]? = some a → a.t < t) := fun i a hi ha => by
            by_cases ei : i = k
            · subst ei; rw [HG.out] at ha; cases ha; show et < t; omega
            · exact hn.out i a (by omega) ha
          go_wp2
          try rw [← hqa]
          try rw [← hqh]
          go_roundw
          case rel => exact ⟨k + 1, by omega, by go_num, hn2, by first | rfl | trivial⟩
          case measure => simp [intOf]; omega
      · obtain rfl : k = es.length := by omega
        obtain rfl : nx = z := by
          rw [HZ.out, first_eq es es.length hk hn.out (fun a ha => by have := (List.getElem?_eq_some_iff.1 ha).1; omega)]
          have := HOK.out.len
          omega
        go_wp2
        go_ret
        exact ⟨rfl, hb.trans (hb1.mono hb.size)⟩

set_option maxRecDepth 100000 in
set_option maxHeartbeats 2000000 in
theorem impl_seek (sn : ByteArray) (lo nx : Int) (es : List flY.En) (ms : List Ex) (g h cg ch : Nat) (t : Int) (w : World) (F : Fit sn es ms) (hY : RY w g es) (hE : RE w h ms) (ga ha : Option Addr) (hga : Hid (0 < es.length → ga = some ⟨g, 0, none⟩)) (hha : Hid (0 < ms.length → ha = some ⟨h, 0, none⟩)) :
    Calls Try.prog 12 #[.agg #[.string sn, .int .i64 lo, .int .i64 nx, .slice ga es.length cg, .slice ha ms.length ch], .int .i64 t] w fun e w' => e = .returned (.int .i64 (seek sn lo nx es ms t)) ∧ Below w.heap.size w w' := by
  have hb : Below w.heap.size w (w.alloc (.cells #[.string sn, .int .i64 lo, .int .i64 nx, .slice ga es.length cg, .slice ha ms.length ch] 27)) := (Below.refl _ _).alloc (Nat.le_refl _) _
  have hA := bnew w #[.string sn, .int .i64 lo, .int .i64 nx, .slice ga es.length cg, .slice ha ms.length ch] 27
  have hlt : w.heap.size < (w.alloc (.cells #[.string sn, .int .i64 lo, .int .i64 nx, .slice ga es.length cg, .slice ha ms.length ch] 27)).heap.size := by simp
  have hY2 : RY (w.alloc (.cells #[.string sn, .int .i64 lo, .int .i64 nx, .slice ga es.length cg, .slice ha ms.length ch] 27)) g es := hY.below hb
  have hE2 : RE (w.alloc (.cells #[.string sn, .int .i64 lo, .int .i64 nx, .slice ga es.length cg, .slice ha ms.length ch] 27)) h ms := hE.below hb
  obtain ⟨W, hW⟩ : ∃ W, w.alloc (.cells #[.string sn, .int .i64 lo, .int .i64 nx, .slice ga es.length cg, .slice ha ms.length ch] 27) = W := ⟨_, rfl⟩
  rw [hW] at hb hA hY2 hE2 hlt
  have BOX : Hid (∀ wr, Below W.heap.size W wr → wr.cell? ⟨w.heap.size, 0, none⟩ = some (.string sn) ∧ wr.cell? ⟨w.heap.size, 1, none⟩ = some (.int .i64 lo) ∧ wr.cell? ⟨w.heap.size, 2, none⟩ = some (.int .i64 nx) ∧ wr.cell? ⟨w.heap.size, 3, none⟩ = some (.slice ga es.length cg) ∧ wr.cell? ⟨w.heap.size, 4, none⟩ = some (.slice ha ms.length ch)) := fun wr hr => by
    have h1 := bstay hA hr hlt
    exact ⟨bcell h1 rfl, bcell h1 rfl, bcell h1 rfl, bcell h1 rfl, bcell h1 rfl⟩
  obtain ⟨c0, c1, c2, c3, c4⟩ := BOX.out W (Below.refl _ _)
  have hok := sti.impl_ok sn lo nx es ms g h cg ch W F hY2 hE2 ga ha hga hha
  have HY : Hid (RY W g es) := hY2
  have HSK : Hid (seek sn lo nx es ms t = if okB sn lo nx es ms = true then lo + first es t else -1) := rfl
  obtain ⟨z, hz⟩ : ∃ z, seek sn lo nx es ms t = z := ⟨_, rfl⟩
  rw [hz] at HSK ⊢
  clear hY hE hY2 hE2 hA F hz
  cases hob : okB sn lo nx es ms with
  | false =>
    rw [hob] at hok HSK
    obtain rfl : z = -1 := HSK.out
    clear HSK
    go_enter Try.func12, Try.ntmps12
    go_wp2_with (go_at_call 15; refine hok.mono ?_; rintro e w1 ⟨rfl, hb1⟩)
    go_ret
    exact ⟨rfl, hb.trans (hb1.mono hb.size)⟩
  | true =>
    rw [hob] at hok HSK
    have HZ : Hid (z = lo + first es t) := HSK.out
    have HOK : Hid (OkT sn lo nx es ms) := okB_true.1 hob
    have q1 : es.length ≤ 400 := HOK.out.el
    have q2 : 0 ≤ lo := HOK.out.lo0.1
    have q3 : nx ≤ 1000000000 := HOK.out.nx0.2
    have q4 : lo ≤ nx := HOK.out.lo0.2
    clear HSK hob
    go_enter Try.func12, Try.ntmps12
    go_wp2_with (go_at_call 15; fail)
    clear hW c0 c1 c2 c3 c4
    refine hok.mono ?_
    rintro e w1 ⟨rfl, hb1⟩
    clear hok
    obtain ⟨c0, c1, c2, c3, c4⟩ := BOX.out w1 hb1
    have C1 : ∀ N : qi.Cls w1, N.x.cell? ⟨w.heap.size, 1, none⟩ = some (.int .i64 lo) := fun N => (BOX.out N.x (hb1.trans (Below.mono N.h hb1.size))).2.1
    have C3 : ∀ N : qi.Cls w1, N.x.cell? ⟨w.heap.size, 3, none⟩ = some (.slice ga es.length cg) := fun N => (BOX.out N.x (hb1.trans (Below.mono N.h hb1.size))).2.2.2.1
    have HF : ∀ N : qi.Cls w1, Calls Try.prog 22 #[.slice ga es.length cg, .int .i64 t] N.x fun e w' => e = .returned (.int .i64 (first es t)) ∧ qi.T w1 w' := fun N =>
      (first_from es g cg t N.x q1 HOK.out.eu ((HY.out.below hb1).below N.h) ga hga).mono fun e w' ⟨h1, h2⟩ => ⟨h1, h2 ▸ N.h⟩
    have hfl : first es t ≤ es.length := first_le es t
    obtain ⟨p, hp⟩ : ∃ p, first es t = p := ⟨_, rfl⟩
    rw [hp] at HF HZ hfl
    obtain rfl := HZ.out
    have i1 : IntKind.i64.wrap (lo + (p : Int)) = lo + (p : Int) := by rw [IntKind.wrap_i64]; omega
    clear hp c0 c1 c2 c3 c4 HZ
    go_wp2
    refine qi.region_in w1 (qi.T.refl w1) (by kernel_rfl) (by kernel_rfl) ?_
    repeat (go_big_quiet_step (first | (go_at_call 22; refine (HF _).mono ?_; rintro e wx ⟨rfl, hTx⟩; exact ⟨rfl, ⟨wx, hTx⟩, rfl⟩)))
    refine wpQuiet_nil ?_
    rintro _ ⟨N, rfl⟩
    have hN := N.h
    generalize N.x = wN at hN ⊢
    clear N HF C1 C3
    go_wp2
    go_ret
    exact ⟨rfl, hb.trans ((hb1.trans (Below.mono hN hb1.size)).mono hb.size)⟩
end Go.Proofs.Ytlfhfcgcfggjcaa.ssk
