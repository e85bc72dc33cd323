/- The specification's MethodText answers the words of a method, as the program's writer has them, with a blank between two; it lays new memory alone. -/
import Derived.Test.YtljaogecddmfjaaDoorPutMethodSpec
import Derived.Test.YtljaogecddmfjaaDoorDecTextWalks
namespace Go.Proofs.YtljaogecddmfjaaDoor.mx
set_option linter.unusedVariables false
open Go.ChangeShapes Go.WideShapes Go.ChangeAt Go.RowKit Go.Proofs.YtljaogecddmfjaaDoor.ls Go.Proofs.YtljaogecddmfjaaDoor.me Go.Proofs.YtljaogecddmfjaaDoor.mp Go.Proofs.YtljaogecddmfjaaDoor.wm Go.Proofs.YtljaogecddmfjaaDoor.wd Go.Proofs.YtljaogecddmfjaaDoor.wt Go.Proofs.YtljaogecddmfjaaDoor.pm

/-- words, each with a blank ahead of it -/
def rest : List ByteArray → ByteArray
  | [] => ByteArray.empty
  | x :: r => (⟨#[32]⟩ ++ x) ++ rest r
/-- WHAT IT ANSWERS -/
def outT (c i : Int) (ts : List ByteArray) (ns : List Int) : ByteArray := if ok c i ts ns then (decOf c ++ ⟨#[32]⟩ ++ decOf i) ++ rest (wordsL (F c i) ts ns) else ByteArray.empty

theorem spell_text (o x r : ByteArray) : o ++ ⟨#[32, 61]⟩ ++ x ++ r = o ++ ((⟨#[32]⟩ ++ eqTo x) ++ r) := by
  unfold eqTo
  apply ByteArray.ext
  apply Array.toList_inj.1
  simp
theorem spell_num (o x r : ByteArray) : o ++ ⟨#[32]⟩ ++ x ++ r = o ++ ((⟨#[32]⟩ ++ x) ++ r) := by
  apply ByteArray.ext
  apply Array.toList_inj.1
  simp
theorem dec_size (n : Int) (h0 : -9223372036854775808 ≤ n) (h1 : n ≤ 9223372036854775807) : (decOf n).size ≤ 20 := by
  have hd := sm.digits_le 18 n.natAbs (by omega)
  have hd2 := sm.digits_le 18 n.toNat (by omega)
  unfold decOf Lib.itoa
  show (List.toArray _).size ≤ 20
  split <;> simp <;> omega
theorem cDec {w : World} (n : Int) (W : World) (hT : qi.T w W) (h0 : -9223372036854775808 ≤ n) (h1 : n ≤ 9223372036854775807) :
    Calls Tryd.prog 47 #[.int .i64 n] W fun e w' => e = .returned (.string (decOf n)) ∧ qi.T w w' :=
  (dt.spec_dec n W h0 h1).mono fun _ _ h => ⟨h.1, h.2 ▸ hT⟩

theorem spec_no (c i : Int) (ts : List ByteArray) (ns : List Int) (ta na : Option Addr) (tc nc : Nat) (w : World) (hl : ts.length ≤ 1048576) (hx : ∀ x ∈ ts, x.size ≤ 1048576) (hn : ns.length ≤ 1048576) (hnw : ∀ x ∈ ns, (Lit.int .i64 x).wf = true)
    (hS : Sl Value.string w w.heap.size ta ts) (hI : Sl (Value.int .i64) w w.heap.size na ns) (hok : ok c i ts ns = false) :
    Calls Tryd.prog 22 #[.agg #[.int .i64 c, .int .i64 i, .slice ta ts.length tc, .slice na ns.length nc]] w fun e w' => e = .returned (.string (outT c i ts ns)) ∧ Below w.heap.size w w' := by
  have hb : Below w.heap.size w (w.alloc (.cells #[.int .i64 c, .int .i64 i, .slice ta ts.length tc, .slice na ns.length nc] 27)) := (Below.refl _ _).alloc (Nat.le_refl _) _
  have h1 := ms.spec_ok c i ts ns ta na tc nc _ hl hx hn hnw (inn hS hb) (inn hI hb)
  rw [hok] at h1
  have HO : Hid (outT c i ts ns = ⟨#[]⟩) := by unfold Hid outT; rw [hok]; rfl
  clear hok hx hnw hS hI
  go_enter Tryd.func22, Tryd.ntmps22
  go_wp2_with (go_at_call 20; refine h1.mono ?_; rintro e w1 ⟨rfl, hb1⟩)
  go_ret
  exact ⟨by rw [HO.out]; rfl, hb.trans (hb1.mono (by simp))⟩

set_option maxRecDepth 100000 in
set_option maxHeartbeats 2000000 in
theorem spec_yes (c i : Int) (ts : List ByteArray) (ns : List Int) (ta na : Option Addr) (tc nc : Nat) (w : World) (wc : (Lit.int .i64 c).wf = true) (wi : (Lit.int .i64 i).wf = true) (hl : ts.length ≤ 1048576) (hx : ∀ x ∈ ts, x.size ≤ 1048576) (hn : ns.length ≤ 1048576) (hnw : ∀ x ∈ ns, (Lit.int .i64 x).wf = true)
    (hS : Sl Value.string w w.heap.size ta ts) (hI : Sl (Value.int .i64) w w.heap.size na ns) (hok : ok c i ts ns = true) :
    Calls Tryd.prog 22 #[.agg #[.int .i64 c, .int .i64 i, .slice ta ts.length tc, .slice na ns.length nc]] w fun e w' => e = .returned (.string (outT c i ts ns)) ∧ Below w.heap.size w w' := by
  have hb : Below w.heap.size w (w.alloc (.cells #[.int .i64 c, .int .i64 i, .slice ta ts.length tc, .slice na ns.length nc] 27)) := (Below.refl _ _).alloc (Nat.le_refl _) _
  have h1 := ms.spec_ok c i ts ns ta na tc nc _ hl hx hn hnw (inn hS hb) (inn hI hb)
  rw [hok] at h1
  have HO : Hid (outT c i ts ns = (decOf c ++ ⟨#[32]⟩ ++ decOf i) ++ rest (wordsL (F c i) ts ns)) := by unfold Hid outT; rw [hok]; rfl
  have hk : (fo.known c i).isSome = true := by unfold ok at hok; simp only [Bool.and_eq_true] at hok; exact hok.1
  have HL : Hid (okL (F c i) ts ns = true) := by unfold ok at hok; simp only [Bool.and_eq_true] at hok; exact hok.2
  obtain ⟨fs, hfs⟩ : ∃ fs, fo.letters c i = fs := ⟨_, rfl⟩
  have hform := fun W => fo.spec_form c i W
  simp only [hk, hfs] at hform
  have hF5 := F_length c i
  have HF : Hid (F c i = fs.data.toList) := by unfold Hid F; rw [hfs]
  have hfl : fs.size ≤ 5 := by rw [HF.out] at hF5; simpa using hF5
  obtain ⟨bc1, bc2⟩ := bounds_i64 wc
  obtain ⟨bi1, bi2⟩ := bounds_i64 wi
  have s1 := dec_size c bc1 bc2
  have s2 := dec_size i bi1 bi2
  have HS : Hid (Sl Value.string w w.heap.size ta ts) := hS
  have HI : Hid (Sl (Value.int .i64) w w.heap.size na ns) := hI
  have HN : Hid (∀ x ∈ ns, (Lit.int .i64 x).wf = true) := hnw
  clear hok hx hnw hS hI hfs hk hF5 wc wi
  go_enter Tryd.func22, Tryd.ntmps22
  go_wp2_with fail
  refine h1.mono ?_
  rintro e w1 ⟨rfl, hb1⟩
  have hT1 : qi.T (w.alloc (.cells #[.int .i64 c, .int .i64 i, .slice ta ts.length tc, .slice na ns.length nc] 27)) w1 := hb1
  obtain ⟨q0, q1, q2, q3⟩ := box_at hT1
  go_wp2_with (go_at_call 16; refine (hform _).mono ?_; rintro e _ ⟨rfl, rfl⟩)
  have hg0 := fun N : qi.Cls (w.alloc (.cells #[.int .i64 c, .int .i64 i, .slice ta ts.length tc, .slice na ns.length nc] 27)) => (box_at N.h).1
  have hg1 := fun N : qi.Cls (w.alloc (.cells #[.int .i64 c, .int .i64 i, .slice ta ts.length tc, .slice na ns.length nc] 27)) => (box_at N.h).2.1
  have hg3 := fun N : qi.Cls (w.alloc (.cells #[.int .i64 c, .int .i64 i, .slice ta ts.length tc, .slice na ns.length nc] 27)) => (box_at N.h).2.2.2
  clear q0 q1 q2 q3 hb1 h1 hform
  refine qi.region_in _ hT1 (by kernel_rfl) (by kernel_rfl) ?_
  repeat (go_big_quiet_step ((go_at_call 47; refine (cDec _ _ (qi.Cls.h _) (by first | assumption | omega) (by first | assumption | omega)).mono ?_; rintro e wx ⟨rfl, hTx⟩; exact ⟨rfl, ⟨wx, hTx⟩, rfl⟩)))
  refine wpQuiet_nil ?_
  rintro _ ⟨N, rfl⟩
  have hN := N.h
  generalize N.x = wN at hN ⊢
  clear N hT1
  go_wp2
  go_loopw [5, 6, 7, 8] (fun so st sn sk wr => ∃ (t n k : Nat) (o : ByteArray), t ≤ ts.length ∧ n ≤ ns.length ∧ k ≤ fs.size ∧ so = .string o ∧ st = .int .i64 t ∧ sn = .int .i64 n ∧ sk = .int .i64 k ∧ Hid (okL (fs.data.toList.drop k) (ts.drop t) (ns.drop n) = true) ∧
    Hid (o ++ rest (wordsL (fs.data.toList.drop k) (ts.drop t) (ns.drop n)) = (decOf c ++ ⟨#[32]⟩ ++ decOf i) ++ rest (wordsL fs.data.toList ts ns)) ∧ o.size ≤ 60 + 264 * k ∧ qi.T (w.alloc (.cells #[.int .i64 c, .int .i64 i, .slice ta ts.length tc, .slice na ns.length nc] 27)) wr) (fun _ _ _ sk _ => fs.size - (intOf sk).toNat)
  case atStart => exact ⟨0, 0, 0, _, by omega, by omega, by omega, rfl, rfl, rfl, rfl, by have := HL.out; rw [HF.out] at this; exact this, rfl, by rw [ByteArray.size_append, ByteArray.size_append]; have : (⟨#[32]⟩ : ByteArray).size = 1 := rfl; omega, hN⟩
  case round =>
    obtain ⟨t, n, k, o, ht, hnn, hk, rfl, rfl, rfl, rfl, hol, hob, hos, hT⟩ := hrel
    obtain ⟨q0, q1, q2, q3⟩ := box_at hT
    clear q0 q1
    by_cases hkf : k < fs.size
    · have hd : fs.data.toList.drop k = fs[k] :: fs.data.toList.drop (k + 1) := by rw [drop_cons (by simpa using hkf)]; rfl
      have HOL := hol.out
      have HOB := hob.out
      rw [hd] at HOL HOB
      clear hd hol hob
      by_cases hsl : fs[k] = 115
      · rw [hsl] at HOL HOB
        obtain ⟨x, r, hts, hx5, hol'⟩ := okL_s HOL
        obtain ⟨htl, hxe, hre⟩ := lt_of_drop hts
        have HOL' : Hid (okL (fs.data.toList.drop (k + 1)) (ts.drop (t + 1)) (ns.drop n) = true) := by unfold Hid; rw [hre]; exact hol'
        have HOB' : Hid (o ++ ⟨#[32, 61]⟩ ++ x ++ rest (wordsL (fs.data.toList.drop (k + 1)) (ts.drop (t + 1)) (ns.drop n)) = (decOf c ++ ⟨#[32]⟩ ++ decOf i) ++ rest (wordsL fs.data.toList ts ns)) := by
          unfold Hid
          rw [← HOB, hts, hre]
          simp only [wordsL, if_true, rest]
          exact spell_text _ _ _
        have hbb : ((fs[k].toNat : Int) == 115) = true := by simp [hsl]
        obtain ⟨b0, off, rfl, hlt, hc⟩ := HS.out.resolve_left (by rintro rfl; simp at htl)
        have hcell := old_at hT hlt (hc t ts[t] (List.getElem?_eq_getElem htl))
        rw [hxe] at hcell
        have e61 : (⟨#[32, 61]⟩ : ByteArray).size = 2 := rfl
        clear HOL HOB hsl hts hxe hre hol' hc
        go_wp2
        go_roundw
        case rel => exact ⟨t + 1, n, k + 1, _, by omega, by omega, by omega, rfl, by go_num, rfl, by go_num, HOL', HOB', by rw [ByteArray.size_append, ByteArray.size_append]; omega, hT⟩
        case measure => simp [intOf]; omega
      · obtain ⟨x, r, hns, hft, hol'⟩ := okL_n hsl HOL
        obtain ⟨hnl, hxe, hre⟩ := lt_of_drop hns
        have HOL' : Hid (okL (fs.data.toList.drop (k + 1)) (ts.drop t) (ns.drop (n + 1)) = true) := by unfold Hid; rw [hre]; exact hol'
        have HOB' : Hid (o ++ ⟨#[32]⟩ ++ decOf x ++ rest (wordsL (fs.data.toList.drop (k + 1)) (ts.drop t) (ns.drop (n + 1))) = (decOf c ++ ⟨#[32]⟩ ++ decOf i) ++ rest (wordsL fs.data.toList ts ns)) := by
          unfold Hid
          rw [← HOB, hns, hre]
          simp only [wordsL, hsl, if_false, rest]
          exact spell_num _ _ _
        have hbb : ((fs[k].toNat : Int) == 115) = false := by
          rw [beq_eq_false_iff_ne]
          intro e
          apply hsl
          have e2 : fs[k].toNat = 115 := by omega
          exact UInt8.toNat_inj.1 e2
        have hb255 : fs[k].toNat ≤ 255 := by have := fs[k].toNat_lt; omega
        obtain ⟨b0, off, rfl, hlt, hc⟩ := HI.out.resolve_left (by rintro rfl; simp at hnl)
        have hcell0 := hc n ns[n] (List.getElem?_eq_getElem hnl)
        rw [hxe] at hcell0
        have hcell := old_at hT hlt hcell0
        have hxw := (bounds_i64 (HN.out x (by rw [← hxe]; exact List.getElem_mem hnl))).2
        have hxl := (bounds_i64 (HN.out x (by rw [← hxe]; exact List.getElem_mem hnl))).1
        have hts8 := dec_size x hxl hxw
        have e32 : (⟨#[32]⟩ : ByteArray).size = 1 := rfl
        clear HOL HOB hsl hns hxe hre hol' hc hcell0 hft
        have hni : (0 : Int) ≤ (n : Int) := by omega
        have hni2 : (n : Int) < (ns.length : Int) := by omega
        go_wp2_with (go_at_call 47; refine (cDec x wr hT hxl hxw).mono ?_; rintro e w2 ⟨rfl, hN2⟩)
        go_roundw
        case rel => exact ⟨t, n + 1, k + 1, _, by omega, by omega, by omega, rfl, rfl, by go_num, by go_num, HOL', HOB', by rw [ByteArray.size_append, ByteArray.size_append]; omega, hN2⟩
        case measure => simp [intOf]; omega
    · obtain rfl : k = fs.size := by omega
      have hdr : fs.data.toList.drop fs.size = [] := List.drop_of_length_le (by simp)
      have HOE : Hid (outT c i ts ns = o) := by
        have h := hob.out
        rw [hdr] at h
        unfold Hid
        rw [HO.out, HF.out, ← h]
        simp [wordsL, rest]
      clear hol hob hdr
      go_wp2
      go_ret
      exact ⟨by rw [HOE.out]; rfl, ((Below.refl _ _).alloc (Nat.le_refl _) _).trans (Below.mono hT (by simp))⟩

theorem spec_text (c i : Int) (ts : List ByteArray) (ns : List Int) (ta na : Option Addr) (tc nc : Nat) (w : World) (wc : (Lit.int .i64 c).wf = true) (wi : (Lit.int .i64 i).wf = true) (hl : ts.length ≤ 1048576) (hx : ∀ x ∈ ts, x.size ≤ 1048576) (hn : ns.length ≤ 1048576) (hnw : ∀ x ∈ ns, (Lit.int .i64 x).wf = true)
    (hS : Sl Value.string w w.heap.size ta ts) (hI : Sl (Value.int .i64) w w.heap.size na ns) :
    Calls Tryd.prog 22 #[.agg #[.int .i64 c, .int .i64 i, .slice ta ts.length tc, .slice na ns.length nc]] w fun e w' => e = .returned (.string (outT c i ts ns)) ∧ Below w.heap.size w w' := by
  cases hok : ok c i ts ns with
  | false => exact spec_no c i ts ns ta na tc nc w hl hx hn hnw hS hI hok
  | true => exact spec_yes c i ts ns ta na tc nc w wc wi hl hx hn hnw hS hI hok
end Go.Proofs.YtljaogecddmfjaaDoor.mx
