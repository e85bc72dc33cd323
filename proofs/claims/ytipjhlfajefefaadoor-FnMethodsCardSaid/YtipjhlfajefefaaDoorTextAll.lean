/- The program's MethodText, out of its writer's words and the library's Join; it lays new memory alone. -/
import Derived.Test.YtipjhlfajefefaaDoorRows
import Derived.WalkKit
import Derived.WalkLawsBesides
import Derived.WalkSpells
import Derived.ProofKit
import Derived.OpenShut
import Derived.ShutString
import Derived.Lib.ItoaNum
import Derived.Test.YtipjhlfajefefaaDoorPutMethodSpec
import Derived.Test.YtipjhlfajefefaaDoorBuilderLaid
import Derived.Test.YtipjhlfajefefaaDoorGrowLaid
import Derived.Below
import Derived.OwnWalk
import Derived.Lib.Builder
import Derived.Lib.AppendStr
import Derived.Laws.Externs
import Derived.Test.YtipjhlfajefefaaDoorMethodImpl

/- The specification's writer of a decimal number answers the library's own numeral at every int; no world is changed. -/
namespace Go.Proofs.YtipjhlfajefefaaDoor.dt
open Go.ChangeShapes Go.WideShapes Go.ChangeAt Go.RowKit

/-- the numeral of what is left: nothing for 0 -/
def pre (a : Nat) : List UInt8 := if a = 0 then [] else Lib.decDigits a
theorem pre_step {a : Nat} (h : a ≠ 0) : pre a = pre (a / 10) ++ [UInt8.ofNat (48 + a % 10)] := by
  unfold pre
  rw [if_neg h, Lib.decDigits]
  by_cases h10 : a < 10
  · rw [dif_pos h10, if_pos (by omega), Nat.mod_eq_of_lt h10]; rfl
  · rw [dif_neg h10, if_neg (by omega)]
theorem digits_le : ∀ (k u : Nat), u < 10 ^ (k + 1) → (Lib.decDigits u).length ≤ k + 1
  | 0, u, h => by rw [Lib.decDigits, dif_pos (by omega)]; simp
  | k + 1, u, h => by
    rw [Lib.decDigits]
    by_cases h10 : u < 10
    · rw [dif_pos h10]; simp
    · rw [dif_neg h10]
      have := digits_le k (u / 10) (by rw [Nat.pow_succ] at h; omega)
      simp
      omega

/-- one digit's text -/
theorem digit_text (r : Nat) (h : r < 10) : (⟨#[48, 49, 50, 51, 52, 53, 54, 55, 56, 57]⟩ : ByteArray).extract r (r + 1) = ⟨#[UInt8.ofNat (48 + r)]⟩ := by
  have : r = 0 ∨ r = 1 ∨ r = 2 ∨ r = 3 ∨ r = 4 ∨ r = 5 ∨ r = 6 ∨ r = 7 ∨ r = 8 ∨ r = 9 := by omega
  rcases this with rfl | rfl | rfl | rfl | rfl | rfl | rfl | rfl | rfl | rfl <;> decide +kernel

theorem spec_pos (n : Nat) (w : World) (hn : (n : Int) ≤ 9223372036854775807) (h0 : n ≠ 0) :
    Calls Tryd.prog 64 #[.int .i64 n] w fun e w' => e = .returned (.string ⟨(Lib.decDigits n).toArray⟩) ∧ w = w' := by
  have hne : ((n : Int) == 0) = false := by simp; omega
  have hD : Hid ((Lib.decDigits n).length ≤ 20) := digits_le 19 n (by omega)
  go_enter Tryd.func64, Tryd.ntmps64
  go_wp2
  go_loop [3, 4, 5] (fun o m _ => ∃ (a : Nat) (l : List UInt8), a ≤ n ∧ m = .int .i64 a ∧ o = .string ⟨l.toArray⟩ ∧ Hid (pre a ++ l = Lib.decDigits n)) (fun _ m _ => (intOf m).toNat)
  case atStart => exact ⟨n, [], Nat.le_refl _, rfl, rfl, by unfold Hid; simp [pre, h0]⟩
  case round =>
    obtain ⟨a, l, ha, rfl, rfl, hl⟩ := hrel
    by_cases haz : a = 0
    · subst haz
      have hll : l = Lib.decDigits n := by simpa [Hid, pre] using hl
      subst hll
      go_wp2
      go_ret
      exact ⟨rfl, rfl⟩
    · have hq : (((a : Nat) : Int) != 0) = true := by simp; omega
      have hls : l.length ≤ 20 := by
        have h1 := congrArg List.length hl.out
        have h2 := hD.out
        simp at h1
        omega
      have hd0 : decide (((a : Nat) : Int) % 10 < 0) = false := by simp; omega
      go_wp2
      go_round
      case rel => exact ⟨a / 10, UInt8.ofNat (48 + a % 10) :: l, by omega, by go_num, by rw [digit_text _ (Nat.mod_lt _ (by decide))]; exact congrArg Value.string (ByteArray.ext (by simp)), by unfold Hid; rw [← hl.out, pre_step haz]; simp⟩
      case measure => simp [intOf]; omega

theorem spec_neg (n : Nat) (w : World) (hn : (n : Int) ≤ 9223372036854775808) (h0 : n ≠ 0) :
    Calls Tryd.prog 64 #[.int .i64 (-(n : Int))] w fun e w' => e = .returned (.string ⟨(45 :: Lib.decDigits n).toArray⟩) ∧ w = w' := by
  have hne : (-(n : Int) == 0) = false := by simp; omega
  have hD : Hid ((Lib.decDigits n).length ≤ 20) := digits_le 19 n (by omega)
  go_enter Tryd.func64, Tryd.ntmps64
  go_wp2
  go_loop [3, 4, 5] (fun o m _ => ∃ (a : Nat) (l : List UInt8), a ≤ n ∧ m = .int .i64 (-(a : Int)) ∧ o = .string ⟨l.toArray⟩ ∧ Hid (pre a ++ l = Lib.decDigits n)) (fun _ m _ => (-(intOf m)).toNat)
  case atStart => exact ⟨n, [], Nat.le_refl _, rfl, rfl, by unfold Hid; simp [pre, h0]⟩
  case round =>
    obtain ⟨a, l, ha, rfl, rfl, hl⟩ := hrel
    have hls : l.length ≤ 20 := by
      have h1 := congrArg List.length hl.out
      have h2 := hD.out
      simp at h1
      omega
    by_cases haz : a = 0
    · subst haz
      have hll : l = Lib.decDigits n := by simpa [Hid, pre] using hl
      subst hll
      go_wp2
      go_ret
      exact ⟨congrArg (fun s => Ending.returned (Value.string s)) (ByteArray.ext (by simp)), rfl⟩
    · have hq : ((-((a : Nat) : Int)) != 0) = true := by simp; omega
      go_wp2
      · go_round
        case rel => exact ⟨a / 10, UInt8.ofNat (48 + a % 10) :: l, by omega, by go_num, by rw [digit_text _ (Nat.mod_lt _ (by decide))]; exact congrArg Value.string (ByteArray.ext (by simp)), by unfold Hid; rw [← hl.out, pre_step haz]; simp⟩
        case measure => simp [intOf]; omega
      · have hz : ((a : Nat) : Int) % 10 ≤ 0 := by assumption
        have e1 : (-(((a : Nat) : Int) % 10)).toNat = a % 10 := by omega
        have e2 : (-(((a : Nat) : Int) % 10) + 1).toNat = a % 10 + 1 := by omega
        go_round
        case rel => exact ⟨a / 10, UInt8.ofNat (48 + a % 10) :: l, by omega, by go_num, by rw [e1, e2, digit_text _ (Nat.mod_lt _ (by decide))]; exact congrArg Value.string (ByteArray.ext (by simp)), by unfold Hid; rw [← hl.out, pre_step haz]; simp⟩
        case measure => simp [intOf]; omega

theorem spec_zero (w : World) : Calls Tryd.prog 64 #[.int .i64 0] w fun e w' => e = .returned (.string ⟨#[48]⟩) ∧ w = w' := by
  go_enter Tryd.func64, Tryd.ntmps64
  go_wp2
  go_ret
  exact ⟨rfl, rfl⟩

theorem spec_dec (n : Int) (w : World) (h0 : -9223372036854775808 ≤ n) (h1 : n ≤ 9223372036854775807) :
    Calls Tryd.prog 64 #[.int .i64 n] w fun e w' => e = .returned (.string ⟨(Lib.itoa n).toArray⟩) ∧ w = w' := by
  by_cases hneg : n < 0
  · obtain ⟨u, rfl⟩ : ∃ u : Nat, n = -(u : Int) := ⟨n.natAbs, by omega⟩
    have e : Lib.itoa (-(u : Int)) = 45 :: Lib.decDigits u := by
      unfold Lib.itoa
      rw [if_pos hneg, show (-(u : Int)).natAbs = u by omega]
    rw [e]
    exact spec_neg u w (by omega) (by omega)
  · obtain ⟨u, rfl⟩ : ∃ u : Nat, n = (u : Int) := ⟨n.toNat, by omega⟩
    have e : Lib.itoa (u : Int) = Lib.decDigits u := by
      unfold Lib.itoa
      rw [if_neg hneg, show ((u : Int)).toNat = u by omega]
    rw [e]
    by_cases hz : u = 0
    · subst hz
      have : Lib.decDigits 0 = [48] := by rw [Lib.decDigits, dif_pos (by decide)]; rfl
      rw [this]
      exact spec_zero w
    · exact spec_pos u w h1 hz
end Go.Proofs.YtipjhlfajefefaaDoor.dt

/- The specification's MethodText answers the words of a method, as the program's writer has them, with a blank between two; it lays new memory alone. -/
namespace Go.Proofs.YtipjhlfajefefaaDoor.mx
set_option linter.unusedVariables false
open Go.ChangeShapes Go.WideShapes Go.ChangeAt Go.RowKit Go.Proofs.YtipjhlfajefefaaDoor.ls Go.Proofs.YtipjhlfajefefaaDoor.me Go.Proofs.YtipjhlfajefefaaDoor.mp Go.Proofs.YtipjhlfajefefaaDoor.wm Go.Proofs.YtipjhlfajefefaaDoor.wd Go.Proofs.YtipjhlfajefefaaDoor.wt Go.Proofs.YtipjhlfajefefaaDoor.pm

/-- words, each with a blank ahead of it -/
def rest : List ByteArray → ByteArray
  | [] => ByteArray.empty
  | x :: r => (⟨#[32]⟩ ++ x) ++ rest r
/-- WHAT IT ANSWERS -/
def outT (c i : Int) (ts : List ByteArray) (ns : List Int) : ByteArray := if ok c i ts ns then (decOf c ++ ⟨#[32]⟩ ++ decOf i) ++ rest (wordsL (F c i) ts ns) else ByteArray.empty

theorem spell_text (o x r : ByteArray) : o ++ ⟨#[32, 61]⟩ ++ x ++ r = o ++ ((⟨#[32]⟩ ++ eqTo x) ++ r) := by
  unfold eqTo
  apply ByteArray.ext
  apply Array.toList_inj.1
  simp
theorem spell_num (o x r : ByteArray) : o ++ ⟨#[32]⟩ ++ x ++ r = o ++ ((⟨#[32]⟩ ++ x) ++ r) := by
  apply ByteArray.ext
  apply Array.toList_inj.1
  simp
theorem dec_size (n : Int) (h0 : -9223372036854775808 ≤ n) (h1 : n ≤ 9223372036854775807) : (decOf n).size ≤ 20 := by
  have hd := sm.digits_le 18 n.natAbs (by omega)
  have hd2 := sm.digits_le 18 n.toNat (by omega)
  unfold decOf Lib.itoa
  show (List.toArray _).size ≤ 20
  split <;> simp <;> omega
theorem cDec {w : World} (n : Int) (W : World) (hT : qi.T w W) (h0 : -9223372036854775808 ≤ n) (h1 : n ≤ 9223372036854775807) :
    Calls Tryd.prog 64 #[.int .i64 n] W fun e w' => e = .returned (.string (decOf n)) ∧ qi.T w w' :=
  (dt.spec_dec n W h0 h1).mono fun _ _ h => ⟨h.1, h.2 ▸ hT⟩

theorem spec_no (c i : Int) (ts : List ByteArray) (ns : List Int) (ta na : Option Addr) (tc nc : Nat) (w : World) (hl : ts.length ≤ 1048576) (hx : ∀ x ∈ ts, x.size ≤ 1048576) (hn : ns.length ≤ 1048576) (hnw : ∀ x ∈ ns, (Lit.int .i64 x).wf = true)
    (hS : Sl Value.string w w.heap.size ta ts) (hI : Sl (Value.int .i64) w w.heap.size na ns) (hok : ok c i ts ns = false) :
    Calls Tryd.prog 25 #[.agg #[.int .i64 c, .int .i64 i, .slice ta ts.length tc, .slice na ns.length nc]] w fun e w' => e = .returned (.string (outT c i ts ns)) ∧ Below w.heap.size w w' := by
  have hb : Below w.heap.size w (w.alloc (.cells #[.int .i64 c, .int .i64 i, .slice ta ts.length tc, .slice na ns.length nc] 27)) := (Below.refl _ _).alloc (Nat.le_refl _) _
  have h1 := ms.spec_ok c i ts ns ta na tc nc _ hl hx hn hnw (inn hS hb) (inn hI hb)
  rw [hok] at h1
  have HO : Hid (outT c i ts ns = ⟨#[]⟩) := by unfold Hid outT; rw [hok]; rfl
  clear hok hx hnw hS hI
  go_enter Tryd.func25, Tryd.ntmps25
  go_wp2_with (go_at_call 23; refine h1.mono ?_; rintro e w1 ⟨rfl, hb1⟩)
  go_ret
  exact ⟨by rw [HO.out]; rfl, hb.trans (hb1.mono (by simp))⟩

set_option maxRecDepth 100000 in
set_option maxHeartbeats 2000000 in
theorem spec_yes (c i : Int) (ts : List ByteArray) (ns : List Int) (ta na : Option Addr) (tc nc : Nat) (w : World) (wc : (Lit.int .i64 c).wf = true) (wi : (Lit.int .i64 i).wf = true) (hl : ts.length ≤ 1048576) (hx : ∀ x ∈ ts, x.size ≤ 1048576) (hn : ns.length ≤ 1048576) (hnw : ∀ x ∈ ns, (Lit.int .i64 x).wf = true)
    (hS : Sl Value.string w w.heap.size ta ts) (hI : Sl (Value.int .i64) w w.heap.size na ns) (hok : ok c i ts ns = true) :
    Calls Tryd.prog 25 #[.agg #[.int .i64 c, .int .i64 i, .slice ta ts.length tc, .slice na ns.length nc]] w fun e w' => e = .returned (.string (outT c i ts ns)) ∧ Below w.heap.size w w' := by
  have hb : Below w.heap.size w (w.alloc (.cells #[.int .i64 c, .int .i64 i, .slice ta ts.length tc, .slice na ns.length nc] 27)) := (Below.refl _ _).alloc (Nat.le_refl _) _
  have h1 := ms.spec_ok c i ts ns ta na tc nc _ hl hx hn hnw (inn hS hb) (inn hI hb)
  rw [hok] at h1
  have HO : Hid (outT c i ts ns = (decOf c ++ ⟨#[32]⟩ ++ decOf i) ++ rest (wordsL (F c i) ts ns)) := by unfold Hid outT; rw [hok]; rfl
  have hk : (fo.known c i).isSome = true := by unfold ok at hok; simp only [Bool.and_eq_true] at hok; exact hok.1
  have HL : Hid (okL (F c i) ts ns = true) := by unfold ok at hok; simp only [Bool.and_eq_true] at hok; exact hok.2
  obtain ⟨fs, hfs⟩ : ∃ fs, fo.letters c i = fs := ⟨_, rfl⟩
  have hform := fun W => fo.spec_form c i W
  simp only [hk, hfs] at hform
  have hF5 := F_length c i
  have HF : Hid (F c i = fs.data.toList) := by unfold Hid F; rw [hfs]
  have hfl : fs.size ≤ 5 := by rw [HF.out] at hF5; simpa using hF5
  obtain ⟨bc1, bc2⟩ := bounds_i64 wc
  obtain ⟨bi1, bi2⟩ := bounds_i64 wi
  have s1 := dec_size c bc1 bc2
  have s2 := dec_size i bi1 bi2
  have HS : Hid (Sl Value.string w w.heap.size ta ts) := hS
  have HI : Hid (Sl (Value.int .i64) w w.heap.size na ns) := hI
  have HN : Hid (∀ x ∈ ns, (Lit.int .i64 x).wf = true) := hnw
  clear hok hx hnw hS hI hfs hk hF5 wc wi
  go_enter Tryd.func25, Tryd.ntmps25
  go_wp2_with fail
  refine h1.mono ?_
  rintro e w1 ⟨rfl, hb1⟩
  have hT1 : qi.T (w.alloc (.cells #[.int .i64 c, .int .i64 i, .slice ta ts.length tc, .slice na ns.length nc] 27)) w1 := hb1
  obtain ⟨q0, q1, q2, q3⟩ := box_at hT1
  go_wp2_with (go_at_call 19; refine (hform _).mono ?_; rintro e _ ⟨rfl, rfl⟩)
  have hg0 := fun N : qi.Cls (w.alloc (.cells #[.int .i64 c, .int .i64 i, .slice ta ts.length tc, .slice na ns.length nc] 27)) => (box_at N.h).1
  have hg1 := fun N : qi.Cls (w.alloc (.cells #[.int .i64 c, .int .i64 i, .slice ta ts.length tc, .slice na ns.length nc] 27)) => (box_at N.h).2.1
  have hg3 := fun N : qi.Cls (w.alloc (.cells #[.int .i64 c, .int .i64 i, .slice ta ts.length tc, .slice na ns.length nc] 27)) => (box_at N.h).2.2.2
  clear q0 q1 q2 q3 hb1 h1 hform
  refine qi.region_in _ hT1 (by kernel_rfl) (by kernel_rfl) ?_
  repeat (go_big_quiet_step ((go_at_call 64; refine (cDec _ _ (qi.Cls.h _) (by first | assumption | omega) (by first | assumption | omega)).mono ?_; rintro e wx ⟨rfl, hTx⟩; exact ⟨rfl, ⟨wx, hTx⟩, rfl⟩)))
  refine wpQuiet_nil ?_
  rintro _ ⟨N, rfl⟩
  have hN := N.h
  generalize N.x = wN at hN ⊢
  clear N hT1
  go_wp2
  go_loopw [5, 6, 7, 8] (fun so st sn sk wr => ∃ (t n k : Nat) (o : ByteArray), t ≤ ts.length ∧ n ≤ ns.length ∧ k ≤ fs.size ∧ so = .string o ∧ st = .int .i64 t ∧ sn = .int .i64 n ∧ sk = .int .i64 k ∧ Hid (okL (fs.data.toList.drop k) (ts.drop t) (ns.drop n) = true) ∧
    Hid (o ++ rest (wordsL (fs.data.toList.drop k) (ts.drop t) (ns.drop n)) = (decOf c ++ ⟨#[32]⟩ ++ decOf i) ++ rest (wordsL fs.data.toList ts ns)) ∧ o.size ≤ 60 + 264 * k ∧ qi.T (w.alloc (.cells #[.int .i64 c, .int .i64 i, .slice ta ts.length tc, .slice na ns.length nc] 27)) wr) (fun _ _ _ sk _ => fs.size - (intOf sk).toNat)
  case atStart => exact ⟨0, 0, 0, _, by omega, by omega, by omega, rfl, rfl, rfl, rfl, by have := HL.out; rw [HF.out] at this; exact this, rfl, by rw [ByteArray.size_append, ByteArray.size_append]; have : (⟨#[32]⟩ : ByteArray).size = 1 := rfl; omega, hN⟩
  case round =>
    obtain ⟨t, n, k, o, ht, hnn, hk, rfl, rfl, rfl, rfl, hol, hob, hos, hT⟩ := hrel
    obtain ⟨q0, q1, q2, q3⟩ := box_at hT
    clear q0 q1
    by_cases hkf : k < fs.size
    · have hd : fs.data.toList.drop k = fs[k] :: fs.data.toList.drop (k + 1) := by rw [drop_cons (by simpa using hkf)]; rfl
      have HOL := hol.out
      have HOB := hob.out
      rw [hd] at HOL HOB
      clear hd hol hob
      by_cases hsl : fs[k] = 115
      · rw [hsl] at HOL HOB
        obtain ⟨x, r, hts, hx5, hol'⟩ := okL_s HOL
        obtain ⟨htl, hxe, hre⟩ := lt_of_drop hts
        have HOL' : Hid (okL (fs.data.toList.drop (k + 1)) (ts.drop (t + 1)) (ns.drop n) = true) := by unfold Hid; rw [hre]; exact hol'
        have HOB' : Hid (o ++ ⟨#[32, 61]⟩ ++ x ++ rest (wordsL (fs.data.toList.drop (k + 1)) (ts.drop (t + 1)) (ns.drop n)) = (decOf c ++ ⟨#[32]⟩ ++ decOf i) ++ rest (wordsL fs.data.toList ts ns)) := by
          unfold Hid
          rw [← HOB, hts, hre]
          simp only [wordsL, if_true, rest]
          exact spell_text _ _ _
        have hbb : ((fs[k].toNat : Int) == 115) = true := by simp [hsl]
        obtain ⟨b0, off, rfl, hlt, hc⟩ := HS.out.resolve_left (by rintro rfl; simp at htl)
        have hcell := old_at hT hlt (hc t ts[t] (List.getElem?_eq_getElem htl))
        rw [hxe] at hcell
        have e61 : (⟨#[32, 61]⟩ : ByteArray).size = 2 := rfl
        clear HOL HOB hsl hts hxe hre hol' hc
        go_wp2
        go_roundw
        case rel => exact ⟨t + 1, n, k + 1, _, by omega, by omega, by omega, rfl, by go_num, rfl, by go_num, HOL', HOB', by rw [ByteArray.size_append, ByteArray.size_append]; omega, hT⟩
        case measure => simp [intOf]; omega
      · obtain ⟨x, r, hns, hft, hol'⟩ := okL_n hsl HOL
        obtain ⟨hnl, hxe, hre⟩ := lt_of_drop hns
        have HOL' : Hid (okL (fs.data.toList.drop (k + 1)) (ts.drop t) (ns.drop (n + 1)) = true) := by unfold Hid; rw [hre]; exact hol'
        have HOB' : Hid (o ++ ⟨#[32]⟩ ++ decOf x ++ rest (wordsL (fs.data.toList.drop (k + 1)) (ts.drop t) (ns.drop (n + 1))) = (decOf c ++ ⟨#[32]⟩ ++ decOf i) ++ rest (wordsL fs.data.toList ts ns)) := by
          unfold Hid
          rw [← HOB, hns, hre]
          simp only [wordsL, hsl, if_false, rest]
          exact spell_num _ _ _
        have hbb : ((fs[k].toNat : Int) == 115) = false := by
          rw [beq_eq_false_iff_ne]
          intro e
          apply hsl
          have e2 : fs[k].toNat = 115 := by omega
          exact UInt8.toNat_inj.1 e2
        have hb255 : fs[k].toNat ≤ 255 := by have := fs[k].toNat_lt; omega
        obtain ⟨b0, off, rfl, hlt, hc⟩ := HI.out.resolve_left (by rintro rfl; simp at hnl)
        have hcell0 := hc n ns[n] (List.getElem?_eq_getElem hnl)
        rw [hxe] at hcell0
        have hcell := old_at hT hlt hcell0
        have hxw := (bounds_i64 (HN.out x (by rw [← hxe]; exact List.getElem_mem hnl))).2
        have hxl := (bounds_i64 (HN.out x (by rw [← hxe]; exact List.getElem_mem hnl))).1
        have hts8 := dec_size x hxl hxw
        have e32 : (⟨#[32]⟩ : ByteArray).size = 1 := rfl
        clear HOL HOB hsl hns hxe hre hol' hc hcell0 hft
        have hni : (0 : Int) ≤ (n : Int) := by omega
        have hni2 : (n : Int) < (ns.length : Int) := by omega
        go_wp2_with (go_at_call 64; refine (cDec x wr hT hxl hxw).mono ?_; rintro e w2 ⟨rfl, hN2⟩)
        go_roundw
        case rel => exact ⟨t, n + 1, k + 1, _, by omega, by omega, by omega, rfl, rfl, by go_num, by go_num, HOL', HOB', by rw [ByteArray.size_append, ByteArray.size_append]; omega, hN2⟩
        case measure => simp [intOf]; omega
    · obtain rfl : k = fs.size := by omega
      have hdr : fs.data.toList.drop fs.size = [] := List.drop_of_length_le (by simp)
      have HOE : Hid (outT c i ts ns = o) := by
        have h := hob.out
        rw [hdr] at h
        unfold Hid
        rw [HO.out, HF.out, ← h]
        simp [wordsL, rest]
      clear hol hob hdr
      go_wp2
      go_ret
      exact ⟨by rw [HOE.out]; rfl, ((Below.refl _ _).alloc (Nat.le_refl _) _).trans (Below.mono hT (by simp))⟩

theorem spec_text (c i : Int) (ts : List ByteArray) (ns : List Int) (ta na : Option Addr) (tc nc : Nat) (w : World) (wc : (Lit.int .i64 c).wf = true) (wi : (Lit.int .i64 i).wf = true) (hl : ts.length ≤ 1048576) (hx : ∀ x ∈ ts, x.size ≤ 1048576) (hn : ns.length ≤ 1048576) (hnw : ∀ x ∈ ns, (Lit.int .i64 x).wf = true)
    (hS : Sl Value.string w w.heap.size ta ts) (hI : Sl (Value.int .i64) w w.heap.size na ns) :
    Calls Tryd.prog 25 #[.agg #[.int .i64 c, .int .i64 i, .slice ta ts.length tc, .slice na ns.length nc]] w fun e w' => e = .returned (.string (outT c i ts ns)) ∧ Below w.heap.size w w' := by
  cases hok : ok c i ts ns with
  | false => exact spec_no c i ts ns ta na tc nc w hl hx hn hnw hS hI hok
  | true => exact spec_yes c i ts ns ta na tc nc w wc wi hl hx hn hnw hS hI hok
end Go.Proofs.YtipjhlfajefefaaDoor.mx

/- A builder of the library, step by step, where the shelf's contracts do not lay: its check, a text written behind what it has, room made in a new one. -/
namespace Go.Proofs.YtipjhlfajefefaaDoor.jb
set_option linter.unusedVariables false
open Go.ChangeShapes Go.WideShapes Go.ChangeAt Go.RowKit

theorem sizeBuilder : (Tryd.prog.info? 149).map (·.size) = some 2 := by kernel_rfl

set_option maxHeartbeats 1000000 in
set_option maxRecDepth 100000 in
theorem fresh (b : Nat) (w : World) (h0 : w.cell? ⟨b, 0, none⟩ = some (.pointer none)) (hsh : w.shape? b = some (149, 2)) (hfz : w.frozen? ⟨b, 0, none⟩ = false) :
    Calls Tryd.prog 141 #[.pointer (some ⟨b, 0, none⟩)] w fun e w' => e = .returned (.tuple #[]) ∧ w' = w.setCell ⟨b, 0, none⟩ (.pointer (some ⟨b, 0, none⟩)) := by
  obtain ⟨j, hj, hjs⟩ := Option.map_eq_some_iff.1 sizeBuilder
  go_enter Tryd.func141, Tryd.ntmps141
  go_wp2
  rw [Lib.run_to_unsafe w ⟨b, 0, none⟩ Tryd.underlying147 Tryd.underlying202 hj (by rw [hjs]; decide) hsh (Nat.zero_lt_succ 1)]
  simp only [Result.andThen]
  rw [Oper.upon_value]
  go_wp2
  rw [run_callFunc_extern Tryd.func166 (by kernel_rfl) (by kernel_rfl) (by kernel_rfl) (e := Extern.AbiNoEscape.same) (by kernel_rfl), Lib.run_noEscape]
  simp only [Result.andThen]
  rw [Oper.upon_value]
  go_wp2
  rw [Lib.run_from_unsafe w ⟨b, 0, none⟩ Tryd.underlying202 Tryd.underlying147 hj hsh (by kernel_rfl)]
  simp only [Result.andThen]
  rw [Oper.upon_value]
  go_wp2
  go_end0
  exact ⟨rfl, rfl⟩

theorem infoByte : (Tryd.prog.info? 5).map (fun i => (i.zero, i.size, i.bytes)) = some (some (.int .u8 0), 1, 1) := by kernel_rfl


set_option maxRecDepth 100000 in
theorem used (b : Nat) (w : World) (h0 : w.cell? ⟨b, 0, none⟩ = some (.pointer (some ⟨b, 0, none⟩))) :
    Calls Tryd.prog 141 #[.pointer (some ⟨b, 0, none⟩)] w fun e w' => e = .returned (.tuple #[]) ∧ w' = w := by
  obtain ⟨j, hj, hjs⟩ := Option.map_eq_some_iff.1 sizeBuilder
  go_enter Tryd.func141, Tryd.ntmps141
  go_wp2
  rw [Lib.run_neq_ptr_same w _ Tryd.underlying147 hj]
  simp only [Result.andThen]
  rw [Oper.upon_value]
  go_wp2
  go_end0
  exact ⟨rfl, rfl⟩

set_option maxHeartbeats 1000000 in
set_option maxRecDepth 100000 in
theorem writeS (b B : Nat) (bs : List Value) (s : ByteArray) (w : World) (h : Lib.BuilderAt 149 5 B b (.pointer (some ⟨b, 0, none⟩)) bs w) (hl : bs.length + s.size ≤ 1048576) (hBw : B ≤ w.heap.size) :
    Calls Tryd.prog 114 #[.pointer (some ⟨b, 0, none⟩), .string s] w fun e w' => e = .returned (.tuple #[.int .i64 s.size, .nilIface]) ∧ Lib.BuilderAt 149 5 B b (.pointer (some ⟨b, 0, none⟩)) (bs ++ Lib.strCells s) w' ∧ Below B w w' := by
  obtain ⟨i0, hi, hz0, hz1, hz2⟩ := info_parts infoByte
  obtain ⟨hB, v, hbk, hown, hne⟩ := h
  have hlt : b < w.heap.size := (Array.getElem?_eq_some_iff.1 hbk).1
  have c0 : w.cell? ⟨b, 0, none⟩ = some (.pointer (some ⟨b, 0, none⟩)) := by simp [World.cell?, hbk]
  have c1 : w.cell? ⟨b, 1, none⟩ = some v := by simp [World.cell?, hbk]
  have hcc := used b w c0
  have HB : Hid (w.heap[b]? = some (.cells #[.pointer (some ⟨b, 0, none⟩), v] 149 (0, 0))) := hbk
  clear hbk
  go_enter Tryd.func114, Tryd.ntmps114
  go_wp2_with (first | (go_at_call 141; refine hcc.mono ?_; rintro e w0 ⟨rfl, hw0⟩; obtain rfl := hw0.symm; clear hcc) | (at_builtin; refine Lib.wpList_append_own_string _ rfl _ _ 22 9 rfl B 5 i0 Tryd.underlying22 Tryd.underlying9 hi hz0 hz1 hz2 _ _ _ rfl hown s rfl ?c3 ?c4 ?c5 ?_))
  case c3 => unfold maxLen; omega
  case c4 => omega
  case c5 => omega
  intro v' w2 hown' hgrow _
  have hb2 : w2.heap[b]? = some (.cells #[.pointer (some ⟨b, 0, none⟩), v] 149 (0, 0)) := by
    rw [hgrow.block b hlt (Ne.symm hne)]
    exact HB.out
  have d1 : w2.cell? ⟨b, 1, none⟩ = some v := by simp [World.cell?, hb2]
  have f1 : w2.frozen? ⟨b, 1, none⟩ = false := by simp [World.frozen?, hb2]
  obtain ⟨ao, n', cap, rfl⟩ : ∃ ao n' cap, v' = .slice ao n' cap := by
    rcases hown'.2 with ⟨hv, _⟩ | ⟨g, cap, cur, hv, _⟩
    · exact ⟨_, _, _, hv⟩
    · exact ⟨_, _, _, hv⟩
  have hT : (149 : TypeId) ≠ 5 := by decide
  have hput := Lib.BuilderAt.put (T := 149) (e := 5) hB hb2 (bs' := bs ++ Lib.strCells s) (by simpa [Lib.strCells_length] using hown') hT
  have hend : Below B w (w2.setCell ⟨b, 1, none⟩ (.slice ao n' cap)) := ((Below.refl B w).grown hgrow hBw (fun k hk => (hown.lt k hk).1)).setCell (p := ⟨b, 1, none⟩) hB _
  have HP : Hid (Lib.BuilderAt 149 5 B b (.pointer (some ⟨b, 0, none⟩)) (bs ++ Lib.strCells s) (w2.setCell ⟨b, 1, none⟩ (.slice ao n' cap))) := hput
  clear hput hb2 hgrow hown' hown HB
  go_wp2
  go_ret2
  exact ⟨rfl, HP.out, hend⟩

set_option maxHeartbeats 1000000 in
set_option maxRecDepth 100000 in
theorem growN (b B n : Nat) (w : World) (hbk : w.heap[b]? = some (.cells #[.pointer none, .slice none 0 0] 149 (0, 0))) (hB : B ≤ b) (hBw : B ≤ w.heap.size) (hn0 : 1 ≤ n) (hn : n ≤ 1048576) :
    Calls Tryd.prog 113 #[.pointer (some ⟨b, 0, none⟩), .int .i64 n] w fun e w' => e = .returned (.tuple #[]) ∧ Lib.BuilderAt 149 5 B b (.pointer (some ⟨b, 0, none⟩)) [] w' ∧ Below B w w' := by
  have hlt : b < w.heap.size := (Array.getElem?_eq_some_iff.1 hbk).1
  have hcc := fresh b w (by simp [World.cell?, hbk]) (by simp [World.shape?, hbk]) (by simp [World.frozen?, hbk])
  have hbk1 := heap_setCell_same w b 0 _ _ (.pointer (some ⟨b, 0, none⟩)) hbk
  have hb1 : Below B w (w.setCell ⟨b, 0, none⟩ (.pointer (some ⟨b, 0, none⟩))) := (Below.refl _ _).setCell (p := ⟨b, 0, none⟩) hB _
  generalize w.setCell ⟨b, 0, none⟩ (.pointer (some ⟨b, 0, none⟩)) = w1 at hcc hbk1 hb1
  have hbk2 : w1.heap[b]? = some (.cells #[.pointer (some ⟨b, 0, none⟩), .slice none 0 0] 149 (0, 0)) := hbk1
  have c1 : w1.cell? ⟨b, 1, none⟩ = some (.slice none 0 0) := by simp [World.cell?, hbk2]
  have hs1 := hb1.size
  have hgr := fun W (h : W.heap[b]? = some (.cells #[.pointer (some ⟨b, 0, none⟩), .slice none 0 0] 149 (0, 0))) (h2 : B ≤ W.heap.size) => shGrowLaid.Builder_grow_fresh B b n W hB h h2 (by omega)
  have HB : Hid (w1.heap[b]? = some (.cells #[.pointer (some ⟨b, 0, none⟩), .slice none 0 0] 149 (0, 0))) := hbk2
  clear hbk hbk1 hbk2
  go_enter Tryd.func113, Tryd.ntmps113
  go_wp2_with (go_at_call 141; refine hcc.mono ?_; rintro e w0 ⟨rfl, hw0⟩; obtain rfl := hw0.symm; clear hcc)
  go_region
  all_goals go_wp2_with fail
  all_goals (refine (hgr w1.drew HB.out (show B ≤ w1.heap.size by omega)).mono ?_; rintro e w2 ⟨rfl, h2, hb2⟩)
  all_goals go_wp2
  all_goals go_end0
  all_goals exact ⟨rfl, h2, hb1.drew.trans hb2⟩
end Go.Proofs.YtipjhlfajefefaaDoor.jb

/- The library's strings.Join of at least two short words with a blank between two; new memory alone. -/
namespace Go.Proofs.YtipjhlfajefefaaDoor.jw
set_option linter.unusedVariables false
open Go.ChangeShapes Go.WideShapes Go.ChangeAt Go.RowKit Go.Proofs.YtipjhlfajefefaaDoor.mx

def cellsOf (s : ByteArray) : List Value := Lib.strCells s
theorem cells_app (a b : ByteArray) : Lib.strCells a ++ Lib.strCells b = Lib.strCells (a ++ b) := by simp [Lib.strCells]
theorem cells_byte (a : ByteArray) : Lib.strCells a = Lib.byteCells a.data.toList := rfl
theorem rest_snoc (l : List ByteArray) (x : ByteArray) : rest (l ++ [x]) = rest l ++ (⟨#[32]⟩ ++ x) := by
  induction l with
  | nil =>
    simp only [List.nil_append, rest]
    apply ByteArray.ext
    apply Array.toList_inj.1
    simp
  | cons y l ih => simp only [List.cons_append, rest, ih, ByteArray.append_assoc]
theorem rest_size (l : List ByteArray) (h : ∀ x ∈ l, x.size ≤ 1000) : (rest l).size ≤ 1001 * l.length := by
  induction l with
  | nil => simp [rest]
  | cons y l ih =>
    have h1 := ih fun x hx => h x (by simp [hx])
    have h2 := h y (by simp)
    have h3 : (⟨#[32]⟩ : ByteArray).size = 1 := rfl
    simp only [rest, ByteArray.size_append, List.length_cons]
    omega

set_option maxRecDepth 100000 in
set_option maxHeartbeats 2000000 in
theorem join (x0 : ByteArray) (r : List ByteArray) (bk c : Nat) (w : World) (hcells : ∀ (j : Nat) x, (x0 :: r)[j]? = some x → w.cell? ⟨bk, j, none⟩ = some (.string x)) (hbk : bk < w.heap.size) (h1 : 1 ≤ r.length) (hr : r.length ≤ 100) (h0 : x0.size ≤ 1000) (hx : ∀ x ∈ r, x.size ≤ 1000) (hc : r.length + 1 ≤ c) :
    Calls Tryd.prog 63 #[.slice (some ⟨bk, 0, none⟩) (r.length + 1) c, .string ⟨#[32]⟩] w fun e w' => e = .returned (.string (x0 ++ rest r)) ∧ Below w.heap.size w w' := by
  have HC : Hid (∀ (j : Nat) x, (x0 :: r)[j]? = some x → w.cell? ⟨bk, j, none⟩ = some (.string x)) := hcells
  have HX : Hid (∀ x ∈ r, x.size ≤ 1000) := hx
  have hq : (2 : Int) ≤ 9223372036854775807 / (r.length : Int) := by
    rw [Int.le_ediv_iff_mul_le (by omega)]
    omega
  have hq2 : ¬ (9223372036854775807 / (r.length : Int) ≤ 1) := by omega
  have k0 : w.cell? ⟨bk, 0, none⟩ = some (.string x0) := HC.out 0 x0 rfl
  have hne0 : ((r.length : Int) + 1 == 0) = false := beq_eq_false_iff_ne.2 (by omega)
  have hne1 : ((r.length : Int) + 1 == 1) = false := beq_eq_false_iff_ne.2 (by omega)
  clear hcells hx
  go_enter Tryd.func63, Tryd.ntmps63
  go_wp2
  go_loopw [5, 41] (fun n i wr => ∃ k m : Nat, k ≤ r.length + 1 ∧ i = .int .i64 k ∧ n = .int .i64 m ∧ 1 ≤ m ∧ m ≤ 100 + 1000 * k ∧ wr = w) (fun _ i _ => r.length + 1 - (intOf i).toNat)
  case atStart => exact ⟨0, r.length, by omega, rfl, by go_num, by omega, by omega, rfl⟩
  case round =>
    obtain ⟨k, m, hk, rfl, rfl, hm1, hm2, rfl⟩ := hrel
    by_cases hkl : k < r.length + 1
    · obtain ⟨x, hxx⟩ : ∃ x, (x0 :: r)[k]? = some x := ⟨_, List.getElem?_eq_getElem (by simpa using hkl)⟩
      have ck := HC.out k x hxx
      have hxs : x.size ≤ 1000 := by
        have hm := List.mem_of_getElem? hxx
        simp at hm
        rcases hm with rfl | hm
        · exact h0
        · exact HX.out x hm
      clear hxx
      go_wp2
      go_roundw
      case rel => exact ⟨k + 1, m + x.size, by omega, by go_num, by go_num, by omega, by omega, by trivial⟩
      case measure => simp [intOf]; omega
    · obtain rfl : k = r.length + 1 := by omega
      clear hkl hk hne0 hne1 hq hq2
      have hal : Below wr.heap.size wr (wr.alloc (.cells #[.pointer none, .slice none 0 0] 149)) := (Below.refl _ _).alloc (Nat.le_refl _) _
      have hgr := jb.growN wr.heap.size wr.heap.size m (wr.alloc (.cells #[.pointer none, .slice none 0 0] 149)) (heap_alloc_new wr _) (Nat.le_refl _) (by simp) (by omega) (by omega)
      clear k0
      go_wp2_with fail
      refine hgr.mono ?_
      rintro e w1 ⟨rfl, hB1, hb1⟩
      have hbw1 := hal.trans hb1
      have k0 : w1.cell? ⟨bk, 0, none⟩ = some (.string x0) := (hbw1.cell (p := ⟨bk, 0, none⟩) hbk).trans (HC.out 0 x0 rfl)
      have hw1 := jb.writeS wr.heap.size wr.heap.size [] x0 w1 hB1 (by simp; omega) hbw1.size
      clear hgr hB1
      go_wp2_with fail
      refine hw1.mono ?_
      rintro e w2 ⟨rfl, hB2, hb2⟩
      have hbw2 := hbw1.trans hb2
      have HB2 : Hid (Lib.BuilderAt 149 5 wr.heap.size wr.heap.size (.pointer (some ⟨wr.heap.size, 0, none⟩)) (Lib.strCells (x0 ++ rest (r.take 0))) w2) := by
        unfold Hid
        simpa [rest] using hB2
      clear hB2 hw1 hal hb1 k0
      go_wp2
      obtain ⟨B, hBe⟩ : ∃ B, wr.heap.size = B := ⟨_, rfl⟩
      rw [hBe] at HB2 hbw2 hbk ⊢
      clear hbw1 hb2
      obtain ⟨v0, rfl⟩ : ∃ v0, v0 = wr := ⟨wr, rfl⟩
      go_loopw [10, 65] (fun _ i wx => ∃ k : Nat, k ≤ r.length ∧ i = .int .i64 k ∧ Hid (Lib.BuilderAt 149 5 B B (.pointer (some ⟨B, 0, none⟩)) (Lib.strCells (x0 ++ rest (r.take k))) wx) ∧ Below B v0 wx) (fun _ i _ => r.length - (intOf i).toNat)
      case atStart => exact ⟨0, by omega, rfl, HB2, hbw2⟩
      case round =>
        obtain ⟨k, hk, rfl, hB, hbw⟩ := hrel
        have hsz := hbw.size
        by_cases hkl : k < r.length
        · obtain ⟨x, hxx⟩ : ∃ x, r[k]? = some x := ⟨_, List.getElem?_eq_getElem hkl⟩
          have ck := (hbw.cell (p := ⟨bk, 1 + k, none⟩) hbk).trans (HC.out (1 + k) x (by rw [Nat.add_comm]; simpa using hxx))
          have hxs : x.size ≤ 1000 := HX.out x (List.mem_of_getElem? hxx)
          have hrs := rest_size (r.take k) (fun y hy => HX.out y (List.mem_of_mem_take hy))
          have htk : (r.take k).length ≤ k := by simp; omega
          have e32 : (⟨#[32]⟩ : ByteArray).size = 1 := rfl
          have hlen : (Lib.strCells (x0 ++ rest (r.take k))).length ≤ 200000 := by rw [Lib.strCells_length, ByteArray.size_append]; omega
          have hnx : x0 ++ rest (r.take (k + 1)) = x0 ++ rest (r.take k) ++ ⟨#[32]⟩ ++ x := by
            rw [List.take_add_one, hxx]
            simp only [Option.toList_some, rest_snoc, ByteArray.append_assoc]
          have h1w := jb.writeS B B _ ⟨#[32]⟩ wr hB.out (by omega) (by omega)
          have HNX : Hid (x0 ++ rest (r.take (k + 1)) = x0 ++ rest (r.take k) ++ ⟨#[32]⟩ ++ x) := hnx
          clear hxx hrs hnx htk hB
          go_wp2_with fail
          refine h1w.mono ?_
          rintro e w3 ⟨rfl, hB3, hb3⟩
          have hs3 := hb3.size
          have h2w := jb.writeS B B _ x w3 hB3 (by rw [List.length_append, Lib.strCells_length ⟨#[32]⟩]; omega) (by omega)
          clear h1w hB3 ck
          go_wp2_with fail
          refine h2w.mono ?_
          rintro e w4 ⟨rfl, hB4, hb4⟩
          have HB4 : Hid (Lib.BuilderAt 149 5 B B (.pointer (some ⟨B, 0, none⟩)) (Lib.strCells (x0 ++ rest (r.take (k + 1)))) w4) := by
            unfold Hid
            rw [HNX.out, ← cells_app, ← cells_app]
            exact hB4
          have hb34 := (hbw.trans hb3).trans hb4
          clear h2w hB4 hlen
          go_wp2
          go_roundw
          case rel => exact ⟨k + 1, by omega, by go_num, HB4, hb34⟩
          case measure => simp [intOf]; omega
        · obtain rfl : k = r.length := by omega
          have hst := shBuilderLaid.Builder_String_any B B (x0 ++ rest r).data.toList wr (.inr (by have := hB.out; rw [List.take_length] at this; exact this)) (by omega)
          clear hB
          go_wp2_with fail
          refine hst.mono ?_
          rintro e w5 ⟨rfl, hb5⟩
          go_wp2
          go_ret
          rw [hBe]
          exact ⟨rfl, hbw.trans hb5⟩
end Go.Proofs.YtipjhlfajefefaaDoor.jw

/- The program's MethodText, out of its writer's words and the library's Join; it lays new memory alone. -/
namespace Go.Proofs.YtipjhlfajefefaaDoor.mt
set_option linter.unusedVariables false
open Go.ChangeShapes Go.WideShapes Go.ChangeAt Go.RowKit Go.Proofs.YtipjhlfajefefaaDoor.ls Go.Proofs.YtipjhlfajefefaaDoor.me Go.Proofs.YtipjhlfajefefaaDoor.mp Go.Proofs.YtipjhlfajefefaaDoor.wm Go.Proofs.YtipjhlfajefefaaDoor.wd Go.Proofs.YtipjhlfajefefaaDoor.wt Go.Proofs.YtipjhlfajefefaaDoor.mi Go.Proofs.YtipjhlfajefefaaDoor.mx

theorem words_ok (f : List UInt8) : ∀ (ts : List ByteArray) (ns : List Int), okL f ts ns = true → (∀ x ∈ ns, (Lit.int .i64 x).wf = true) → (wordsL f ts ns).length ≤ f.length ∧ ∀ x ∈ wordsL f ts ns, x.size ≤ 1000 := by
  induction f with
  | nil => intro ts ns _ _; simp [wordsL]
  | cons c f ih =>
    intro ts ns h hn
    by_cases hc : c = 115
    · subst hc
      obtain ⟨x, r, rfl, hx, h'⟩ := pm.okL_s h
      obtain ⟨h1, h2⟩ := ih r ns h' hn
      have he : (eqTo x).size = 1 + x.size := by unfold eqTo; rw [ByteArray.size_append]; rfl
      simp only [wordsL, if_true, List.length_cons, List.mem_cons]
      refine ⟨by omega, ?_⟩
      rintro y (rfl | hy)
      · omega
      · exact h2 y hy
    · obtain ⟨x, r, rfl, hx, h'⟩ := pm.okL_n hc h
      obtain ⟨h1, h2⟩ := ih ts r h' (fun y hy => hn y (by simp [hy]))
      obtain ⟨b1, b2⟩ := bounds_i64 (hn x (by simp))
      have hd := dec_size x b1 b2
      simp only [wordsL, hc, if_false, List.length_cons, List.mem_cons]
      refine ⟨by omega, ?_⟩
      rintro y (rfl | hy)
      · omega
      · exact h2 y hy

theorem join_none (a : Option Addr) (c : Nat) (w : World) : Calls Tryd.prog 63 #[.slice a 0 c, .string ⟨#[32]⟩] w fun e w' => e = .returned (.string ⟨#[]⟩) ∧ w' = w := by
  go_enter Tryd.func63, Tryd.ntmps63
  go_wp2
  go_ret
  exact ⟨rfl, rfl⟩

/-- Join of the writer's words -/
theorem joined (c i : Int) (ts : List ByteArray) (ns : List Int) (wc : (Lit.int .i64 c).wf = true) (wi : (Lit.int .i64 i).wf = true) (hn : ∀ x ∈ ns, (Lit.int .i64 x).wf = true) (B : Nat) (v : Value) (w : World) (h : w.ownsRow B 9 1 v (outW c i ts ns).length ((outW c i ts ns).map Value.string)) :
    Calls Tryd.prog 63 #[v, .string ⟨#[32]⟩] w fun e w' => e = .returned (.string (outT c i ts ns)) ∧ Below w.heap.size w w' := by
  cases hok : ok c i ts ns with
  | false =>
    have h0 : outW c i ts ns = [] := by unfold outW; rw [hok]; rfl
    have ht : outT c i ts ns = ⟨#[]⟩ := by unfold outT; rw [hok]; rfl
    rw [h0] at h
    have hv : ∃ a c, v = .slice a 0 c := by
      obtain ⟨_, ⟨rfl, _⟩ | ⟨g, cap, cur, rfl, _⟩⟩ := h
      · exact ⟨none, 0, rfl⟩
      · exact ⟨_, cap, rfl⟩
    obtain ⟨a, c', rfl⟩ := hv
    refine (join_none a c' w).mono ?_
    rintro e _ ⟨rfl, rfl⟩
    exact ⟨by rw [ht], Below.refl _ _⟩
  | true =>
    have hW : outW c i ts ns = decOf c :: decOf i :: wordsL (F c i) ts ns := by unfold outW; rw [hok]; rfl
    have hT : outT c i ts ns = decOf c ++ rest (decOf i :: wordsL (F c i) ts ns) := by
      unfold outT
      rw [hok, if_pos rfl]
      simp only [rest]
      exact spell_num _ _ _
    have hL : okL (F c i) ts ns = true := by unfold ok at hok; simp only [Bool.and_eq_true] at hok; exact hok.2
    obtain ⟨l1, l2⟩ := words_ok (F c i) ts ns hL hn
    have l5 := F_length c i
    obtain ⟨b1, b2⟩ := bounds_i64 wc
    obtain ⟨b3, b4⟩ := bounds_i64 wi
    have s1 := dec_size c b1 b2
    have s2 := dec_size i b3 b4
    rw [hW] at h
    obtain ⟨_, ⟨_, h0⟩ | ⟨g, cap, cur, rfl, _, hc, hcap, _, _, htk⟩⟩ := id h
    · simp at h0
    · refine (jw.join (decOf c) (decOf i :: wordsL (F c i) ts ns) g cap w ?_ (Array.getElem?_eq_some_iff.1 hc).1 (by simp) (by simp; omega) (by omega) ?_ (by simpa using hcap)).mono ?_
      · intro j x hj
        have hcells := h.cells (g := g) rfl j (.string x) (by rw [List.getElem?_map, hj]; rfl)
        have e : (⟨g, 0, none⟩ : Addr).add j = ⟨g, j, none⟩ := by unfold Addr.add; split <;> simp_all
        rwa [e] at hcells
      · intro x hx
        simp only [List.mem_cons] at hx
        rcases hx with rfl | hx
        · omega
        · exact l2 x hx
      · rintro e w' ⟨rfl, hb⟩
        exact ⟨by rw [hT], hb⟩

theorem impl_text (c i : Int) (ts : List ByteArray) (ns : List Int) (ta na : Option Addr) (tc nc : Nat) (w : World) (h : M w c i ts ns ta na tc nc) (ht : Tab w) :
    Calls Tryd.prog 24 #[.agg #[.int .i64 c, .int .i64 i, .slice ta ts.length tc, .slice na ns.length nc]] w fun e w' => e = .returned (.string (outT c i ts ns)) ∧ Below w.heap.size w w' := by
  have hb : Below w.heap.size w (w.alloc (.cells #[.int .i64 c, .int .i64 i, .slice ta ts.length tc, .slice na ns.length nc] 27)) := (Below.refl _ _).alloc (Nat.le_refl _) _
  have hw := write c i ts ns ta na tc nc _ (h.on hb) (tab_on ht hb)
  have HJ : Hid (∀ (B : Nat) (v : Value) (W : World), W.ownsRow B 9 1 v (outW c i ts ns).length ((outW c i ts ns).map Value.string) → Calls Tryd.prog 63 #[v, .string ⟨#[32]⟩] W fun e w' => e = .returned (.string (outT c i ts ns)) ∧ Below W.heap.size W w') := fun B v W hh => joined c i ts ns h.wc h.wi h.nw B v W hh
  clear h ht
  go_enter Tryd.func24, Tryd.ntmps24
  go_wp2_with (first | (go_at_call 51; refine hw.mono ?_; rintro e w1 ⟨a1, a2, a3, l1, l2, l3, c1, c2, c3, rfl, hown, hb1⟩; clear hw) | (go_at_call 63; refine (HJ.out _ _ _ (hown.alloc _)).mono ?_; rintro e w2 ⟨rfl, hb2⟩))
  go_ret
  have hbw := hb.trans (hb1.mono (by simp))
  have hal := hbw.alloc (o := .cells #[.slice a1 l1 c1, .slice a2 l2 c2, .string (outB c i ts ns), .slice a3 l3 c3] 75) hbw.size
  exact ⟨rfl, hal.trans (hb2.mono (by have := hbw.size; simp; omega))⟩
end Go.Proofs.YtipjhlfajefefaaDoor.mt
