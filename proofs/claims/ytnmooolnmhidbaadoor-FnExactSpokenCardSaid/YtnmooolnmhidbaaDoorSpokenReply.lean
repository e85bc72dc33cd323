/- The frames of one reply, and the program's Spoken; new memory alone. -/
import Derived.Test.YtnmooolnmhidbaaDoorSpokenSpec
namespace Go.Proofs.YtnmooolnmhidbaaDoor.spi
open Go.ChangeShapes Go.WideShapes Go.ChangeAt Go.RowKit Go.Proofs.YtnmooolnmhidbaaDoor.fl Go.Proofs.YtnmooolnmhidbaaDoor.rp Go.Proofs.YtnmooolnmhidbaaDoor.spk Go.Proofs.YtnmooolnmhidbaaDoor.sps
set_option linter.unusedVariables false

set_option maxRecDepth 100000 in
set_option maxHeartbeats 2000000 in
theorem impl_reply (no c i : Int) (ts : List ByteArray) (ns : List Int) (ta na : Option Addr) (tc nc : Nat) (hb : Bool) (b_ : ByteArray) (w : World) (hn : no ≤ 9223372036854775807) (hF : Fit ⟨c, i, ta, tc, ts, na, nc, ns, hb, b_⟩) (hS : ls.Sl Value.string w w.heap.size ta ts ∧ ls.Sl (Value.int .i64) w w.heap.size na ns) (ht : mi.Tab w) :
    Calls Tryd.prog 55 #[.int .i64 no, .agg #[.int .i64 c, .int .i64 i, .slice ta ts.length tc, .slice na ns.length nc, .bool hb, .string b_]] w fun e w' => e = .returned (.string (rep no ⟨c, i, ta, tc, ts, na, nc, ns, hb, b_⟩)) ∧ Below w.heap.size w w' := by
  have hal : Below w.heap.size w (w.alloc (.cells #[.int .i64 c, .int .i64 i, .slice ta ts.length tc, .slice na ns.length nc, .bool hb, .string b_] 83)) := (Below.refl _ _).alloc (Nat.le_refl _) _
  have hA := bnew w #[.int .i64 c, .int .i64 i, .slice ta ts.length tc, .slice na ns.length nc, .bool hb, .string b_] 83
  obtain ⟨W, hW⟩ : ∃ W, w.alloc (.cells #[.int .i64 c, .int .i64 i, .slice ta ts.length tc, .slice na ns.length nc, .bool hb, .string b_] 83) = W := ⟨_, rfl⟩
  rw [hW] at hal hA
  have hlt := (Array.getElem?_eq_some_iff.1 hA).1
  have hsay := sy.impl_say no c i ts ns ta na tc nc W hn (fit_m hF ⟨me.inn hS.1 hal, me.inn hS.2 hal⟩) (mi.tab_on ht hal)
  have hbsz : b_.size ≤ 1048576 := hF.bs
  have x0 : W.cell? ⟨w.heap.size, 0, none⟩ = some (.int .i64 c) := fl.bcell hA rfl
  have x1 : W.cell? ⟨w.heap.size, 1, none⟩ = some (.int .i64 i) := fl.bcell hA rfl
  have x2 : W.cell? ⟨w.heap.size, 2, none⟩ = some (.slice ta ts.length tc) := fl.bcell hA rfl
  have x3 : W.cell? ⟨w.heap.size, 3, none⟩ = some (.slice na ns.length nc) := fl.bcell hA rfl
  have HBX : Hid (∀ V, Below W.heap.size W V → V.cell? ⟨w.heap.size, 4, none⟩ = some (.bool hb) ∧ V.cell? ⟨w.heap.size, 5, none⟩ = some (.string b_)) := fun V hV => ⟨fl.bcell (bstay hA hV hlt) rfl, fl.bcell (bstay hA hV hlt) rfl⟩
  have hfs := first_size no ⟨c, i, ta, tc, ts, na, nc, ns, hb, b_⟩
  have HFI : Hid (first no ⟨c, i, ta, tc, ts, na, nc, ns, hb, b_⟩ = sy.said no (wm.outB c i ts ns)) := rfl
  obtain ⟨fst, hfst⟩ : ∃ f, first no ⟨c, i, ta, tc, ts, na, nc, ns, hb, b_⟩ = f := ⟨_, rfl⟩
  rw [hfst] at HFI hfs
  have HFS : Hid (∀ _ : Unit, first no ⟨c, i, ta, tc, ts, na, nc, ns, hb, b_⟩ = fst) := fun _ => hfst
  rw [← HFI.out] at hsay
  clear hfst hA hS hF ht
  go_enter Tryd.func55, Tryd.ntmps55
  go_wp2_with (go_at_call 20; fail)
  clear hW x0 x1 x2 x3
  refine hsay.mono ?_
  rintro e w1 ⟨rfl, hb1⟩
  have hB1 : Below w.heap.size w w1 := hal.trans (hb1.mono hal.size)
  clear hsay
  obtain ⟨c4, c5⟩ := HBX.out w1 hb1
  cases hb with
  | false =>
    have HN : Hid (∀ _ : Unit, rep no ⟨c, i, ta, tc, ts, na, nc, ns, false, b_⟩ = fst) := fun _ => by rw [rep_false, HFS.out ()]
    clear c5
    go_wp2
    go_ret
    exact ⟨by rw [HN.out ()]; rfl, hB1⟩
  | true =>
    have hh := hdw.impl_header (b_.size : Int) w1
    obtain ⟨hd, hhd⟩ : ∃ h, hdw.hdr (b_.size : Int) = h := ⟨_, rfl⟩
    rw [hhd] at hh
    go_wp2_with (go_at_call 71; fail)
    refine hh.mono ?_
    rintro e w2 ⟨rfl, hb2⟩
    have hB2 : Below W.heap.size W w2 := hb1.trans (hb2.mono hb1.size)
    have hfr := pf.impl_put 2 no hd w2 (by omega) hn
    have hfz := pf.bytes_size 2 no hd
    obtain ⟨hf, hhf⟩ : ∃ f, pf.bytes 2 no hd = f := ⟨_, rfl⟩
    rw [hhf] at hfr hfz
    have HBD : Hid (∀ _ : Unit, body no b_ = hf ++ cat (pieces no b_)) := fun _ => by unfold body; rw [hhd, hhf]
    clear hh hhd hhf c4 c5
    go_wp2_with (go_at_call 48; fail)
    refine hfr.mono ?_
    rintro e w3 ⟨rfl, hb3⟩
    have hB3 : Below W.heap.size W w3 := hB2.trans (hb3.mono hB2.size)
    obtain ⟨_, c5⟩ := HBX.out w3 hB3
    have hcut := ct.impl_all b_ 1000 w3 hbsz
    clear hfr
    go_wp2_with (go_at_call 72; fail)
    refine hcut.mono ?_
    rintro e w4 ⟨⟨v, rfl, hrw⟩, hb4⟩
    have hB4' : Below W.heap.size W w4 := hB3.trans (hb4.mono hB3.size)
    have hB4 : Below w.heap.size w w4 := hal.trans (hB4'.mono hal.size)
    have hpt := fun j => pieces_take no b_ hbsz j
    have HPC : Hid (pieces no b_ = (ct.cuts b_ 1000).map (pf.bytes 3 no)) := rfl
    have hpl := ct.cuts_length b_ 1000
    obtain ⟨PL, hPL⟩ : ∃ PL, ct.cuts b_ 1000 = PL := ⟨_, rfl⟩
    rw [hPL] at hrw HPC hpl
    obtain ⟨av, cv, rfl, hsl⟩ := rowed_sl hrw
    have HN : Hid (∀ _ : Unit, fst ++ hf ++ cat ((pieces no b_).take PL.length) = rep no ⟨c, i, ta, tc, ts, na, nc, ns, true, b_⟩) := fun _ => by
      rw [rep_true, HFS.out (), HBD.out (), show PL.length = (pieces no b_).length by rw [HPC.out, List.length_map], List.take_length, app_assoc]
    have hw4 := hB4.size
    clear hcut hrw hPL c5
    rcases hsl with hnil | ⟨b2, off2, rfl, hlt2, hc2⟩
    · subst hnil
      have HN2 : Hid (∀ _ : Unit, fst ++ hf = rep no ⟨c, i, ta, tc, ts, na, nc, ns, true, b_⟩) := fun _ => by rw [← HN.out ()]; simp only [List.length_nil, List.take_zero, cat]; rw [app_nil]
      clear hpt
      go_wp2
      refine wp_loop_rounds 1 ?_
      rw [rounds_succ]
      go_wp2
      go_ret
      exact ⟨by rw [← HN2.out ()]; rfl, hB4⟩
    · have HC2 : Hid (∀ (i : Nat) (x : ByteArray), PL[i]? = some x → w4.cell? ⟨b2, off2 + i, none⟩ = some (.string x)) := hc2
      clear hc2
      go_wp2
      go_loopw [5, 29] (fun o x wi => ∃ (j : Nat) (s2 : ByteArray), j ≤ PL.length ∧ x = .int .i64 j ∧ o = .string s2 ∧ Hid (∀ _ : Unit, s2 = fst ++ hf ++ cat ((pieces no b_).take j)) ∧ Hid (Below w4.heap.size w4 wi)) (fun _ x _ => PL.length - (intOf x).toNat)
      case atStart => exact ⟨0, _, Nat.zero_le _, rfl, rfl, fun _ => by simp only [List.take_zero, cat]; rw [app_nil], Below.refl _ _⟩
      case round =>
        obtain ⟨j, s2, hj, rfl, rfl, hs2, hbw⟩ := hrel
        have hs2z : s2.size ≤ 4236255120 := by rw [hs2.out (), ByteArray.size_append, ByteArray.size_append]; have := hpt j; omega
        by_cases hjl : j < PL.length
        · have HGJ : Hid (PL[j]? = some PL[j]) := List.getElem?_eq_getElem hjl
          obtain ⟨pc, hpc⟩ : ∃ p, PL[j] = p := ⟨_, rfl⟩
          rw [hpc] at HGJ
          have q0 : wr.cell? ⟨b2, off2 + j, none⟩ = some (.string pc) := (hbw.out.cell (p := ⟨b2, off2 + j, none⟩) hlt2).trans (HC2.out j _ HGJ.out)
          have hji : (j : Int) < (PL.length : Int) := by omega
          have hfr := pf.impl_put 3 no pc wr (by omega) hn
          have hfz2 := pf.bytes_size 3 no pc
          obtain ⟨f3, hf3⟩ : ∃ f, pf.bytes 3 no pc = f := ⟨_, rfl⟩
          rw [hf3] at hfr hfz2
          have HN3 : Hid (∀ _ : Unit, s2 ++ f3 = fst ++ hf ++ cat ((pieces no b_).take (j + 1))) := fun _ => by
            rw [cat_take (x := f3) (by rw [HPC.out, List.getElem?_map, HGJ.out, ← hf3]; rfl), hs2.out (), app_assoc (fst ++ hf)]
          clear hpc hf3 hpt
          go_wp2_with (go_at_call 48; fail)
          refine hfr.mono ?_
          rintro e w5 ⟨rfl, hb5⟩
          have hbw2 : Hid (Below w4.heap.size w4 w5) := hbw.out.trans (hb5.mono hbw.out.size)
          clear hfr q0
          go_wp2
          go_roundw
          case rel => exact ⟨j + 1, _, by omega, by go_num, rfl, HN3, hbw2⟩
          case measure => simp [intOf]; omega
        · obtain rfl : j = PL.length := by omega
          have HN4 : Hid (∀ _ : Unit, s2 = rep no ⟨c, i, ta, tc, ts, na, nc, ns, true, b_⟩) := fun _ => by rw [hs2.out (), HN.out ()]
          have hBW := hB4.trans (hbw.out.mono hw4)
          clear hpt hs2
          go_wp2
          go_ret
          exact ⟨by rw [← HN4.out ()]; rfl, hBW⟩
end Go.Proofs.YtnmooolnmhidbaaDoor.spi
