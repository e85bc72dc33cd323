/- The specification's PutMethod answers the bytes of a method, as the program's writer does; it lays new memory alone. -/
import Derived.Test.YtnmooolnmhidbaaDoorMethodOkSpec
import Derived.Test.YtnmooolnmhidbaaDoorWriteWalks
import Derived.Test.YtnmooolnmhidbaaDoorQuietIn
namespace Go.Proofs.YtnmooolnmhidbaaDoor.pm
set_option linter.unusedVariables false
open Go.ChangeShapes Go.WideShapes Go.ChangeAt Go.RowKit Go.Proofs.YtnmooolnmhidbaaDoor.ls Go.Proofs.YtnmooolnmhidbaaDoor.me Go.Proofs.YtnmooolnmhidbaaDoor.mp Go.Proofs.YtnmooolnmhidbaaDoor.wm Go.Proofs.YtnmooolnmhidbaaDoor.wd Go.Proofs.YtnmooolnmhidbaaDoor.wt

theorem okL_s {f : List UInt8} {ts : List ByteArray} {ns : List Int} (h : okL (115 :: f) ts ns = true) : ∃ x r, ts = x :: r ∧ x.size ≤ 255 ∧ okL f r ns = true := by
  cases ts with
  | nil => simp [okL] at h
  | cons x r => simp [okL] at h; exact ⟨x, r, rfl, h.1, h.2⟩
theorem okL_n {c : UInt8} {f : List UInt8} {ts : List ByteArray} {ns : List Int} (hc : c ≠ 115) (h : okL (c :: f) ts ns = true) : ∃ x r, ns = x :: r ∧ pi.fits x ((c.toNat : Int) - 48) = true ∧ okL f ts r = true := by
  cases ns with
  | nil => simp [okL, hc] at h
  | cons x r => simp [okL, hc] at h; exact ⟨x, r, rfl, h.1, h.2⟩
theorem lt_of_drop {α : Type} {l : List α} {t : Nat} {x : α} {r : List α} (h : l.drop t = x :: r) : ∃ ht : t < l.length, l[t] = x ∧ l.drop (t + 1) = r := by
  have ht : t < l.length := by
    rcases Nat.lt_or_ge t l.length with h' | h'
    · exact h'
    · rw [List.drop_of_length_le h'] at h; cases h
  rw [drop_cons ht] at h
  exact ⟨ht, (List.cons.inj h).1, (List.cons.inj h).2⟩

theorem cPutS {w : World} (n z : Int) (W : World) (hT : qi.T w W) (hn : n ≤ 9223372036854775807) :
    Calls Tryd.prog 36 #[.int .i64 n, .int .i64 z] W fun e w' => e = .returned (.string (pi.text n z)) ∧ qi.T w w' :=
  (pi.spec_put n z W hn).mono fun _ _ h => ⟨h.1, hT.next h.2⟩

theorem box_at {w W : World} {v0 v1 v2 v3 : Value} {t : TypeId} (h : qi.T (w.alloc (.cells #[v0, v1, v2, v3] t)) W) :
    W.cell? ⟨w.heap.size, 0, none⟩ = some v0 ∧ W.cell? ⟨w.heap.size, 1, none⟩ = some v1 ∧ W.cell? ⟨w.heap.size, 2, none⟩ = some v2 ∧ W.cell? ⟨w.heap.size, 3, none⟩ = some v3 := by
  have h' : Below (w.heap.size + 1) (w.alloc (.cells #[v0, v1, v2, v3] t)) W := by simpa [qi.T] using h
  have hb := (h'.block w.heap.size (by omega)).trans (MapKept.heap_alloc w _).1
  exact ⟨cell_of (o := 0) hb rfl, cell_of (o := 1) hb rfl, cell_of (o := 2) hb rfl, cell_of (o := 3) hb rfl⟩
theorem old_at {w W : World} {o : Obj} (h : qi.T (w.alloc o) W) {b off : Nat} (hb : b < w.heap.size) {v : Value} (hv : w.cell? ⟨b, off, none⟩ = some v) : W.cell? ⟨b, off, none⟩ = some v := by
  have hbw : Below w.heap.size w W := ((Below.refl _ _).alloc (Nat.le_refl _) _).trans (Below.mono h (by simp))
  exact (hbw.cell (p := ⟨b, off, none⟩) hb).trans hv

theorem spec_no (c i : Int) (ts : List ByteArray) (ns : List Int) (ta na : Option Addr) (tc nc : Nat) (w : World) (hl : ts.length ≤ 1048576) (hx : ∀ x ∈ ts, x.size ≤ 1048576) (hn : ns.length ≤ 1048576) (hnw : ∀ x ∈ ns, (Lit.int .i64 x).wf = true)
    (hS : Sl Value.string w w.heap.size ta ts) (hI : Sl (Value.int .i64) w w.heap.size na ns) (hok : ok c i ts ns = false) :
    Calls Tryd.prog 13 #[.agg #[.int .i64 c, .int .i64 i, .slice ta ts.length tc, .slice na ns.length nc]] w fun e w' => e = .returned (.string (outB c i ts ns)) ∧ Below w.heap.size w w' := by
  have hb : Below w.heap.size w (w.alloc (.cells #[.int .i64 c, .int .i64 i, .slice ta ts.length tc, .slice na ns.length nc] 28)) := (Below.refl _ _).alloc (Nat.le_refl _) _
  have h1 := ms.spec_ok c i ts ns ta na tc nc _ hl hx hn hnw (inn hS hb) (inn hI hb)
  rw [hok] at h1
  have HO : Hid (outB c i ts ns = ⟨#[]⟩) := by unfold Hid outB; rw [hok]; rfl
  clear hok hx hnw hS hI
  go_enter Tryd.func13, Tryd.ntmps13
  go_wp2_with (go_at_call 9; refine h1.mono ?_; rintro e w1 ⟨rfl, hb1⟩)
  go_ret
  exact ⟨by rw [HO.out]; rfl, hb.trans (hb1.mono (by simp))⟩

set_option maxRecDepth 100000 in
set_option maxHeartbeats 2000000 in
theorem spec_yes (c i : Int) (ts : List ByteArray) (ns : List Int) (ta na : Option Addr) (tc nc : Nat) (w : World) (wc : (Lit.int .i64 c).wf = true) (wi : (Lit.int .i64 i).wf = true) (hl : ts.length ≤ 1048576) (hx : ∀ x ∈ ts, x.size ≤ 1048576) (hn : ns.length ≤ 1048576) (hnw : ∀ x ∈ ns, (Lit.int .i64 x).wf = true)
    (hS : Sl Value.string w w.heap.size ta ts) (hI : Sl (Value.int .i64) w w.heap.size na ns) (hok : ok c i ts ns = true) :
    Calls Tryd.prog 13 #[.agg #[.int .i64 c, .int .i64 i, .slice ta ts.length tc, .slice na ns.length nc]] w fun e w' => e = .returned (.string (outB c i ts ns)) ∧ Below w.heap.size w w' := by
  have hb : Below w.heap.size w (w.alloc (.cells #[.int .i64 c, .int .i64 i, .slice ta ts.length tc, .slice na ns.length nc] 28)) := (Below.refl _ _).alloc (Nat.le_refl _) _
  have h1 := ms.spec_ok c i ts ns ta na tc nc _ hl hx hn hnw (inn hS hb) (inn hI hb)
  rw [hok] at h1
  have HO : Hid (outB c i ts ns = (pi.text c 2 ++ pi.text i 2) ++ bytesL (F c i) ts ns) := by unfold Hid outB; rw [hok]; rfl
  have hk : (fo.known c i).isSome = true := by unfold ok at hok; simp only [Bool.and_eq_true] at hok; exact hok.1
  have HL : Hid (okL (F c i) ts ns = true) := by unfold ok at hok; simp only [Bool.and_eq_true] at hok; exact hok.2
  obtain ⟨fs, hfs⟩ : ∃ fs, fo.letters c i = fs := ⟨_, rfl⟩
  have hform := fun W => fo.spec_form c i W
  simp only [hk, hfs] at hform
  have hF5 := F_length c i
  have HF : Hid (F c i = fs.data.toList) := by unfold Hid F; rw [hfs]
  have hfl : fs.size ≤ 5 := by rw [HF.out] at hF5; simpa using hF5
  obtain ⟨bc1, bc2⟩ := bounds_i64 wc
  obtain ⟨bi1, bi2⟩ := bounds_i64 wi
  have s1 := pi.text_size c 2
  have s2 := pi.text_size i 2
  have HS : Hid (Sl Value.string w w.heap.size ta ts) := hS
  have HI : Hid (Sl (Value.int .i64) w w.heap.size na ns) := hI
  have HN : Hid (∀ x ∈ ns, (Lit.int .i64 x).wf = true) := hnw
  clear hok hx hnw hS hI hfs hk hF5 wc wi
  go_enter Tryd.func13, Tryd.ntmps13
  go_wp2_with fail
  refine h1.mono ?_
  rintro e w1 ⟨rfl, hb1⟩
  have hT1 : qi.T (w.alloc (.cells #[.int .i64 c, .int .i64 i, .slice ta ts.length tc, .slice na ns.length nc] 28)) w1 := hb1
  obtain ⟨q0, q1, q2, q3⟩ := box_at hT1
  go_wp2_with (go_at_call 28; refine (hform _).mono ?_; rintro e _ ⟨rfl, rfl⟩)
  have hg0 := fun N : qi.Cls (w.alloc (.cells #[.int .i64 c, .int .i64 i, .slice ta ts.length tc, .slice na ns.length nc] 28)) => (box_at N.h).1
  have hg1 := fun N : qi.Cls (w.alloc (.cells #[.int .i64 c, .int .i64 i, .slice ta ts.length tc, .slice na ns.length nc] 28)) => (box_at N.h).2.1
  have hg3 := fun N : qi.Cls (w.alloc (.cells #[.int .i64 c, .int .i64 i, .slice ta ts.length tc, .slice na ns.length nc] 28)) => (box_at N.h).2.2.2
  clear q0 q1 q2 q3 hb1 h1 hform
  refine qi.region_in _ hT1 (by kernel_rfl) (by kernel_rfl) ?_
  repeat (go_big_quiet_step ((go_at_call 36; refine (cPutS _ _ _ (qi.Cls.h _) (by first | assumption | omega)).mono ?_; rintro e wx ⟨rfl, hTx⟩; exact ⟨rfl, ⟨wx, hTx⟩, rfl⟩)))
  refine wpQuiet_nil ?_
  rintro _ ⟨N, rfl⟩
  have hN := N.h
  generalize N.x = wN at hN ⊢
  clear N hT1
  go_wp2
  go_loopw [5, 6, 7, 8] (fun so st sn sk wr => ∃ (t n k : Nat) (o : ByteArray), t ≤ ts.length ∧ n ≤ ns.length ∧ k ≤ fs.size ∧ so = .string o ∧ st = .int .i64 t ∧ sn = .int .i64 n ∧ sk = .int .i64 k ∧ Hid (okL (fs.data.toList.drop k) (ts.drop t) (ns.drop n) = true) ∧
    Hid (o ++ bytesL (fs.data.toList.drop k) (ts.drop t) (ns.drop n) = (pi.text c 2 ++ pi.text i 2) ++ bytesL fs.data.toList ts ns) ∧ o.size ≤ 16 + 264 * k ∧ qi.T (w.alloc (.cells #[.int .i64 c, .int .i64 i, .slice ta ts.length tc, .slice na ns.length nc] 28)) wr) (fun _ _ _ sk _ => fs.size - (intOf sk).toNat)
  case atStart => exact ⟨0, 0, 0, _, by omega, by omega, by omega, rfl, rfl, rfl, rfl, by have := HL.out; rw [HF.out] at this; exact this, rfl, by rw [ByteArray.size_append]; omega, hN⟩
  case round =>
    obtain ⟨t, n, k, o, ht, hnn, hk, rfl, rfl, rfl, rfl, hol, hob, hos, hT⟩ := hrel
    obtain ⟨q0, q1, q2, q3⟩ := box_at hT
    clear q0 q1
    by_cases hkf : k < fs.size
    · have hd : fs.data.toList.drop k = fs[k] :: fs.data.toList.drop (k + 1) := by rw [drop_cons (by simpa using hkf)]; rfl
      have HOL := hol.out
      have HOB := hob.out
      rw [hd] at HOL HOB
      clear hd hol hob
      by_cases hsl : fs[k] = 115
      · rw [hsl] at HOL HOB
        obtain ⟨x, r, hts, hx5, hol'⟩ := okL_s HOL
        obtain ⟨htl, hxe, hre⟩ := lt_of_drop hts
        have HOL' : Hid (okL (fs.data.toList.drop (k + 1)) (ts.drop (t + 1)) (ns.drop n) = true) := by unfold Hid; rw [hre]; exact hol'
        have HOB' : Hid (o ++ ps.out x ++ bytesL (fs.data.toList.drop (k + 1)) (ts.drop (t + 1)) (ns.drop n) = (pi.text c 2 ++ pi.text i 2) ++ bytesL fs.data.toList ts ns) := by
          unfold Hid
          rw [← HOB, hts, hre]
          simp [bytesL, ByteArray.append_assoc]
        have hbb : ((fs[k].toNat : Int) == 115) = true := by simp [hsl]
        obtain ⟨b0, off, rfl, hlt, hc⟩ := HS.out.resolve_left (by rintro rfl; simp at htl)
        have hcell := old_at hT hlt (hc t ts[t] (List.getElem?_eq_getElem htl))
        rw [hxe] at hcell
        have hso := out_size hx5
        have hps := ps.spec_putShort x wr (by omega)
        clear HOL HOB hsl hts hxe hre hol' hc
        go_wp2_with (go_at_call 37; refine hps.mono ?_; rintro e w2 ⟨rfl, hb2⟩)
        go_roundw
        case rel => exact ⟨t + 1, n, k + 1, _, by omega, by omega, by omega, rfl, by go_num, rfl, by go_num, HOL', HOB', by rw [ByteArray.size_append]; omega, hT.next hb2⟩
        case measure => simp [intOf]; omega
      · obtain ⟨x, r, hns, hft, hol'⟩ := okL_n hsl HOL
        obtain ⟨hnl, hxe, hre⟩ := lt_of_drop hns
        have HOL' : Hid (okL (fs.data.toList.drop (k + 1)) (ts.drop t) (ns.drop (n + 1)) = true) := by unfold Hid; rw [hre]; exact hol'
        have HOB' : Hid (o ++ pi.text x ((fs[k].toNat : Int) - 48) ++ bytesL (fs.data.toList.drop (k + 1)) (ts.drop t) (ns.drop (n + 1)) = (pi.text c 2 ++ pi.text i 2) ++ bytesL fs.data.toList ts ns) := by
          unfold Hid
          rw [← HOB, hns, hre]
          simp [bytesL, hsl, ByteArray.append_assoc]
        have hbb : ((fs[k].toNat : Int) == 115) = false := by
          rw [beq_eq_false_iff_ne]
          intro e
          apply hsl
          have e2 : fs[k].toNat = 115 := by omega
          exact UInt8.toNat_inj.1 e2
        have hb255 : fs[k].toNat ≤ 255 := by have := fs[k].toNat_lt; omega
        obtain ⟨b0, off, rfl, hlt, hc⟩ := HI.out.resolve_left (by rintro rfl; simp at hnl)
        have hcell0 := hc n ns[n] (List.getElem?_eq_getElem hnl)
        rw [hxe] at hcell0
        have hgx := fun N : qi.Cls (w.alloc (.cells #[.int .i64 c, .int .i64 i, .slice ta ts.length tc, .slice (some ⟨b0, off, none⟩) ns.length nc] 28)) => old_at N.h hlt hcell0
        have hxw := (bounds_i64 (HN.out x (by rw [← hxe]; exact List.getElem_mem hnl))).2
        have hts8 := pi.text_size x ((fs[k].toNat : Int) - 48)
        clear HOL HOB hsl hns hxe hre hol' hc hcell0 hft
        have hni : (0 : Int) ≤ (n : Int) := by omega
        have hni2 : (n : Int) < (ns.length : Int) := by omega
        go_wp2
        refine qi.region_in _ hT (by kernel_rfl) (by kernel_rfl) ?_
        repeat (go_big_quiet_step ((go_at_call 36; refine (cPutS _ _ _ (qi.Cls.h _) (by first | assumption | omega)).mono ?_; rintro e wx ⟨rfl, hTx⟩; exact ⟨rfl, ⟨wx, hTx⟩, rfl⟩)))
        refine wpQuiet_nil ?_
        rintro _ ⟨N, rfl⟩
        have hN2 := N.h
        generalize N.x = wM at hN2 ⊢
        clear N
        go_wp2
        go_roundw
        case rel => exact ⟨t, n + 1, k + 1, _, by omega, by omega, by omega, rfl, rfl, by go_num, by go_num, HOL', HOB', by rw [ByteArray.size_append]; omega, hN2⟩
        case measure => simp [intOf]; omega
    · obtain rfl : k = fs.size := by omega
      have hdr : fs.data.toList.drop fs.size = [] := List.drop_of_length_le (by simp)
      have HOE : Hid (outB c i ts ns = o) := by
        have h := hob.out
        rw [hdr] at h
        unfold Hid
        rw [HO.out, HF.out, ← h]
        simp [bytesL]
      clear hol hob hdr
      go_wp2
      go_ret
      exact ⟨by rw [HOE.out]; rfl, ((Below.refl _ _).alloc (Nat.le_refl _) _).trans (Below.mono hT (by simp))⟩

theorem spec_put (c i : Int) (ts : List ByteArray) (ns : List Int) (ta na : Option Addr) (tc nc : Nat) (w : World) (wc : (Lit.int .i64 c).wf = true) (wi : (Lit.int .i64 i).wf = true) (hl : ts.length ≤ 1048576) (hx : ∀ x ∈ ts, x.size ≤ 1048576) (hn : ns.length ≤ 1048576) (hnw : ∀ x ∈ ns, (Lit.int .i64 x).wf = true)
    (hS : Sl Value.string w w.heap.size ta ts) (hI : Sl (Value.int .i64) w w.heap.size na ns) :
    Calls Tryd.prog 13 #[.agg #[.int .i64 c, .int .i64 i, .slice ta ts.length tc, .slice na ns.length nc]] w fun e w' => e = .returned (.string (outB c i ts ns)) ∧ Below w.heap.size w w' := by
  cases hok : ok c i ts ns with
  | false => exact spec_no c i ts ns ta na tc nc w hl hx hn hnw hS hI hok
  | true => exact spec_yes c i ts ns ta na tc nc w wc wi hl hx hn hnw hS hI hok
end Go.Proofs.YtnmooolnmhidbaaDoor.pm
