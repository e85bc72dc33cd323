/- The specification's MethodOk answers whether the texts and numbers are as the form's letters tell; it lays new memory alone. -/
import Derived.Test.YtnmooolnmhidbaaDoorMethodPlain
import Derived.Test.YtnmooolnmhidbaaDoorMeths
import Derived.BigQuiet
import Derived.Deep.QuietTactic
namespace Go.Proofs.YtnmooolnmhidbaaDoor.ms
open Go.ChangeShapes Go.WideShapes Go.ChangeAt Go.RowKit Go.Proofs.YtnmooolnmhidbaaDoor.ls Go.Proofs.YtnmooolnmhidbaaDoor.me Go.Proofs.YtnmooolnmhidbaaDoor.mp

theorem in_any (x a b : Int) (w : World) : Calls Tryd.prog 29 #[.int .i64 x, .int .i64 a, .int .i64 b] w fun e w' => e = .returned (.bool (decide (a ≤ x) && decide (x ≤ b))) ∧ w = w' := by
  by_cases h : a ≤ x
  · by_cases h' : x ≤ b
    · go_enter Tryd.func29, Tryd.ntmps29
      go_wp2
      go_ret
      exact ⟨by simp [h, h'], rfl⟩
    · have hd : decide (x ≤ b) = false := by simp; omega
      go_enter Tryd.func29, Tryd.ntmps29
      go_wp2
      go_ret
      exact ⟨by simp, rfl⟩
  · have hd : decide (a ≤ x) = false := by simp; omega
    go_enter Tryd.func29, Tryd.ntmps29
    go_wp2
    go_ret
    exact ⟨by simp, rfl⟩

theorem bdrewN {B : Nat} {a w : World} (h : Below B a w) (n : Nat) : Below B a (w.drewN n) := ⟨h.os, h.tape, h.output, h.size, h.block⟩

theorem most' (z : Int) (w : World) : Calls Tryd.prog 30 #[.int .i64 z] w fun e w' => e = .returned (.int .i64 (sz.mostOf z)) ∧ w' = w := (sz.most z w).mono fun _ _ ⟨h1, h2⟩ => ⟨h1, h2.symm⟩
theorem in' (x a b : Int) (w : World) : Calls Tryd.prog 29 #[.int .i64 x, .int .i64 a, .int .i64 b] w fun e w' => e = .returned (.bool (decide (a ≤ x) && decide (x ≤ b))) ∧ w' = w := (in_any x a b w).mono fun _ _ ⟨h1, h2⟩ => ⟨h1, h2.symm⟩

theorem spec_ok (c i : Int) (ts : List ByteArray) (ns : List Int) (ta na : Option Addr) (tc nc : Nat) (w : World) (hl : ts.length ≤ 1048576) (hx : ∀ x ∈ ts, x.size ≤ 1048576) (hn : ns.length ≤ 1048576) (hnw : ∀ x ∈ ns, (Lit.int .i64 x).wf = true)
    (hS : Sl Value.string w w.heap.size ta ts) (hI : Sl (Value.int .i64) w w.heap.size na ns) :
    Calls Tryd.prog 9 #[.agg #[.int .i64 c, .int .i64 i, .slice ta ts.length tc, .slice na ns.length nc]] w fun e w' => e = .returned (.bool (ok c i ts ns)) ∧ Below w.heap.size w w' := by
  have hF5 := F_length c i
  obtain ⟨kn, hkn⟩ : ∃ kn, (fo.known c i).isSome = kn := ⟨_, rfl⟩
  obtain ⟨fs, hfs⟩ : ∃ fs, fo.letters c i = fs := ⟨_, rfl⟩
  have hform := fun W => fo.spec_form c i W
  simp only [hkn, hfs] at hform
  have HOK : Hid (ok c i ts ns = (kn && okL fs.data.toList ts ns)) := by unfold Hid ok F; rw [hkn, hfs]
  have hfl : fs.size ≤ 5 := by unfold F at hF5; rw [hfs] at hF5; simpa using hF5
  clear hF5 hkn hfs
  have HS : Hid (Sl Value.string w w.heap.size ta ts) := hS
  have HI : Hid (Sl (Value.int .i64) w w.heap.size na ns) := hI
  have HX : Hid (∀ x ∈ ts, x.size ≤ 1048576) := hx
  have HN : Hid (∀ x ∈ ns, (Lit.int .i64 x).wf = true) := hnw
  clear hS hI hx hnw
  go_enter Tryd.func9, Tryd.ntmps9
  go_wp2_with (go_at_call 28; refine (hform _).mono ?_; rintro e w1 ⟨rfl, rfl⟩)
  go_loopw [5, 6, 7] (fun st sn sk wr => ∃ t n k : Nat, t ≤ ts.length ∧ n ≤ ns.length ∧ k ≤ fs.size ∧ st = .int .i64 t ∧ sn = .int .i64 n ∧ sk = .int .i64 k ∧ Hid (okL (fs.data.toList.drop k) (ts.drop t) (ns.drop n) = okL fs.data.toList ts ns) ∧
    Below (w.heap.size + 1) (w.alloc (.cells #[.int .i64 c, .int .i64 i, .slice ta ts.length tc, .slice na ns.length nc] 28)) wr) (fun _ _ sk _ => fs.size - (intOf sk).toNat)
  case atStart => exact ⟨0, 0, 0, by omega, by omega, by omega, rfl, rfl, rfl, rfl, Below.refl _ _⟩
  case round =>
    obtain ⟨t, n, k, ht, hnn, hk, rfl, rfl, rfl, hrl, hbel⟩ := hrel
    have hbw : Below w.heap.size w wr := ((Below.refl _ _).alloc (Nat.le_refl _) _).trans (hbel.mono (by omega))
    have q2 : wr.cell? ⟨w.heap.size, 2, none⟩ = some (.slice ta ts.length tc) := by rw [hbel.cell (by simp)]; simp
    have q3 : wr.cell? ⟨w.heap.size, 3, none⟩ = some (.slice na ns.length nc) := by rw [hbel.cell (by simp)]; simp
    by_cases hkf : k < fs.size
    · have hd : fs.data.toList.drop k = fs[k] :: fs.data.toList.drop (k + 1) := by rw [drop_cons (by simpa using hkf)]; rfl
      have HRL : Hid (okL (fs[k] :: fs.data.toList.drop (k + 1)) (ts.drop t) (ns.drop n) = okL fs.data.toList ts ns) := by unfold Hid; rw [← hd]; exact hrl.out
      clear hd hrl
      by_cases hsl : fs[k] = 115
      · have hb : ((fs[k].toNat : Int) == 115) = true := by simp [hsl]
        rw [hsl] at HRL
        clear hsl
        by_cases htl : t < ts.length
        · obtain ⟨b0, off, rfl, hlt, hc⟩ := HS.out.resolve_left (by rintro rfl; simp at htl)
          have hcell := (hbw.cell (p := ⟨b0, off + t, none⟩) hlt).trans (hc t ts[t] (List.getElem?_eq_getElem htl))
          have hxs := HX.out ts[t] (List.getElem_mem htl)
          rw [drop_cons htl] at HRL
          obtain ⟨x, hxx⟩ : ∃ x, ts[t] = x := ⟨_, rfl⟩
          rw [hxx] at hcell hxs HRL
          clear hxx hc
          have hge : decide ((ts.length : Int) ≤ t) = false := by simp; omega
          by_cases hx5 : x.size ≤ 255
          · have HRL' : Hid (okL (fs.data.toList.drop (k + 1)) (ts.drop (t + 1)) (ns.drop n) = okL fs.data.toList ts ns) := by unfold Hid; rw [← HRL.out, okL_text hx5]
            go_wp2
            go_roundw
            case rel => exact ⟨t + 1, n, k + 1, by omega, by omega, by omega, by go_num, rfl, by go_num, HRL', hbel⟩
            case measure => simp [intOf]; omega
          · have HF : Hid (ok c i ts ns = false) := by unfold Hid; rw [HOK.out, ← HRL.out, okL_long (by omega), Bool.and_false]
            go_wp2
            go_ret
            exact ⟨by rw [HF.out]; rfl, hbw⟩
        · have HF : Hid (ok c i ts ns = false) := by unfold Hid; rw [HOK.out, ← HRL.out, show ts.drop t = [] from List.drop_of_length_le (by omega), okL_none, Bool.and_false]
          have hge : decide ((ts.length : Int) ≤ t) = true := by simp; omega
          go_wp2
          go_ret
          exact ⟨by rw [HF.out]; rfl, hbw⟩
      · have hb : ((fs[k].toNat : Int) == 115) = false := by
          rw [beq_eq_false_iff_ne]
          intro e
          apply hsl
          have e2 : fs[k].toNat = 115 := by omega
          exact UInt8.toNat_inj.1 e2
        have hb255 : fs[k].toNat ≤ 255 := by have := fs[k].toNat_lt; omega
        by_cases hnl : n < ns.length
        · obtain ⟨b0, off, rfl, hlt, hc⟩ := HI.out.resolve_left (by rintro rfl; simp at hnl)
          have hcell := (hbw.cell (p := ⟨b0, off + n, none⟩) hlt).trans (hc n ns[n] (List.getElem?_eq_getElem hnl))
          have hwf := bounds_i64 (HN.out ns[n] (List.getElem_mem hnl))
          rw [drop_cons hnl] at HRL
          obtain ⟨x, hxx⟩ : ∃ x, ns[n] = x := ⟨_, rfl⟩
          rw [hxx] at hcell hwf HRL
          clear hxx hc
          have hge : decide ((ns.length : Int) ≤ n) = false := by simp; omega
          by_cases hft : pi.fits x ((fs[k].toNat : Int) - 48) = true
          · have HRL' : Hid (okL (fs.data.toList.drop (k + 1)) (ts.drop t) (ns.drop (n + 1)) = okL fs.data.toList ts ns) := by unfold Hid; rw [← HRL.out, okL_num hsl hft]
            have hfd : (decide (0 ≤ x) && decide (x ≤ sz.mostOf ((fs[k].toNat : Int) - 48))) = true := hft
            clear HRL hft hsl
            obtain ⟨hwf1, hwf2⟩ := hwf
            have hge' : decide (ns.length ≤ n) = false := by simp; omega
            go_wp2
            go_quiet ((first | (go_at_call 30; exact Calls.quiet_of_same (most' _ _)) | (go_at_call 29; exact Calls.quiet_of_same (in' _ _ _ _))))
            go_wp2
            go_roundw
            case rel => exact ⟨t, n + 1, k + 1, by omega, by omega, by omega, rfl, by go_num, by go_num, HRL', bdrewN hbel _⟩
            case measure => simp [intOf]; omega
          · have HF : Hid (ok c i ts ns = false) := by unfold Hid; rw [HOK.out, ← HRL.out, okL_nonum hsl (by simpa using hft), Bool.and_false]
            have hfd : (decide (0 ≤ x) && decide (x ≤ sz.mostOf ((fs[k].toNat : Int) - 48))) = false := by simpa [pi.fits] using hft
            clear HRL hft hsl
            obtain ⟨hwf1, hwf2⟩ := hwf
            have hge' : decide (ns.length ≤ n) = false := by simp; omega
            go_wp2
            go_quiet ((first | (go_at_call 30; exact Calls.quiet_of_same (most' _ _)) | (go_at_call 29; exact Calls.quiet_of_same (in' _ _ _ _))))
            go_wp2
            go_ret
            exact ⟨by rw [HF.out]; rfl, bdrewN hbw _⟩
        · have HF : Hid (ok c i ts ns = false) := by unfold Hid; rw [HOK.out, ← HRL.out, show ns.drop n = [] from List.drop_of_length_le (by omega), okL_nonums hsl, Bool.and_false]
          have hge : decide ((ns.length : Int) ≤ n) = true := by simp; omega
          have hge' : decide (ns.length ≤ n) = true := by simp; omega
          clear HRL hsl
          go_wp2
          go_quiet (fail)
          go_wp2
          go_ret
          exact ⟨by rw [HF.out]; rfl, bdrewN hbw _⟩
    · obtain rfl : k = fs.size := by omega
      have HF : Hid (ok c i ts ns = (kn && (((t : Int) == (ts.length : Int)) && ((n : Int) == (ns.length : Int))))) := by
        unfold Hid
        rw [HOK.out, ← hrl.out, show fs.data.toList.drop fs.size = [] from List.drop_of_length_le (by simp)]
        congr 1
        rw [okL]
        congr 1
        · rw [Bool.eq_iff_iff]; simp; omega
        · rw [Bool.eq_iff_iff]; simp; omega
      clear hrl HOK
      cases kn with
      | false =>
        go_wp2
        go_ret
        exact ⟨by rw [HF.out]; rfl, hbw⟩
      | true =>
        by_cases e1 : t = ts.length
        · have h1 : ((t : Int) == (ts.length : Int)) = true := by simp [e1]
          subst e1
          go_wp2
          go_ret
          exact ⟨by rw [HF.out]; simp, hbw⟩
        · have h1 : ((t : Int) == (ts.length : Int)) = false := by simp; omega
          go_wp2
          go_ret
          exact ⟨by rw [HF.out, h1]; rfl, hbw⟩
end Go.Proofs.YtnmooolnmhidbaaDoor.ms
