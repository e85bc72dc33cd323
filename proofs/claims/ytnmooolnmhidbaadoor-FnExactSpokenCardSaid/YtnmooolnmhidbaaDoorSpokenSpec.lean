/- The specification's Spoken: the frames of replies, one behind the other; new memory alone. -/
import Derived.Test.YtnmooolnmhidbaaDoorSpokenPure
import Derived.Test.YtnmooolnmhidbaaDoorReplyTos
namespace Go.Proofs.YtnmooolnmhidbaaDoor.sps
open Go.ChangeShapes Go.WideShapes Go.ChangeAt Go.RowKit Go.Proofs.YtnmooolnmhidbaaDoor.fl Go.Proofs.YtnmooolnmhidbaaDoor.rp Go.Proofs.YtnmooolnmhidbaaDoor.spk
set_option linter.unusedVariables false

theorem spec_frame (k no : Int) (p : ByteArray) (w : World) (hk : k ≤ 9223372036854775807) (hn : no ≤ 9223372036854775807) :
    Calls Tryd.prog 50 #[.int .i64 k, .int .i64 no, .string p] w fun e w' => e = .returned (.string (pf.bytes k no p)) ∧ Below w.heap.size w w' := by
  have h := pf.spec_put k no p w hk hn
  go_enter Tryd.func50, Tryd.ntmps50
  go_wp2_with (go_at_call 68; refine h.mono ?_; rintro e w1 ⟨rfl, hb1⟩)
  go_ret
  exact ⟨rfl, hb1⟩

theorem rowed_sl {w : World} {B : Nat} {v : Value} {l : List ByteArray} (h : ct.Rowed w B v l) : ∃ av cv, v = .slice av l.length cv ∧ ls.Sl Value.string w w.heap.size av l := by
  rcases h with ⟨rfl, a, c, rfl⟩ | ⟨g, cap, rfl, _, hh⟩
  · exact ⟨a, c, rfl, .inl rfl⟩
  · exact ⟨_, cap, rfl, rp.has_sl hh⟩
theorem rep_false (no c i : Int) (ta na : Option Addr) (tc nc : Nat) (ts : List ByteArray) (ns : List Int) (b : ByteArray) : rep no ⟨c, i, ta, tc, ts, na, nc, ns, false, b⟩ = first no ⟨c, i, ta, tc, ts, na, nc, ns, false, b⟩ := rfl
theorem rep_true (no c i : Int) (ta na : Option Addr) (tc nc : Nat) (ts : List ByteArray) (ns : List Int) (b : ByteArray) : rep no ⟨c, i, ta, tc, ts, na, nc, ns, true, b⟩ = first no ⟨c, i, ta, tc, ts, na, nc, ns, true, b⟩ ++ body no b := rfl

set_option maxRecDepth 100000 in
set_option maxHeartbeats 2000000 in
theorem spec_spoken (no : Int) (l : List Rp) (a : Option Addr) (cap : Nat) (w : World) (hn : no ≤ 9223372036854775807) (hl : l.length ≤ 1048576) (hF : ∀ r ∈ l, Fit r) (hS : VP w w.heap.size a l) :
    Calls Tryd.prog 22 #[.int .i64 no, .slice a l.length cap] w fun e w' => e = .returned (.string (spoken no l)) ∧ Below w.heap.size w w' := by
  have HVR : Hid (∀ r ∈ l, ls.Sl Value.string w w.heap.size r.ta r.ts ∧ ls.Sl (Value.int .i64) w w.heap.size r.na r.ns) := hS.2
  have HF : Hid (∀ r ∈ l, Fit r) := hF
  rcases hS.1 with rfl | ⟨b, off, rfl, hlt, hc⟩
  · go_enter Tryd.func22, Tryd.ntmps22
    go_wp2
    refine wp_loop_rounds 1 ?_
    rw [rounds_succ]
    go_wp2
    go_ret
    exact ⟨rfl, Below.refl _ _⟩
  have HC : Hid (∀ (i : Nat) (e : Rp), l[i]? = some e → ∀ (j : Nat) (v : Value), (cP e)[j]? = some v → w.cell? ⟨b, off + i * 6 + j, none⟩ = some v) := hc
  clear hc hF hS
  go_enter Tryd.func22, Tryd.ntmps22
  go_wp2
  go_loopw [5, 6] (fun o x wr => ∃ (k : Nat) (s : ByteArray), k ≤ l.length ∧ x = .int .i64 k ∧ o = .string s ∧ Hid (∀ _ : Unit, s = cat ((l.map (rep no)).take k)) ∧ Below w.heap.size w wr) (fun _ x _ => l.length - (intOf x).toNat)
  case atStart => exact ⟨0, ⟨#[]⟩, Nat.zero_le _, rfl, rfl, fun _ => rfl, Below.refl _ _⟩
  case round =>
    obtain ⟨k, s, hk, rfl, rfl, hs, hbel⟩ := hrel
    have hbs := hbel.size
    have hss : s.size ≤ 4442035448709120 := by rw [hs.out ()]; exact take_size no l hl (fun r hr => (HF.out r hr).bs) k
    by_cases hkl : k < l.length
    · have HG : Hid (l[k]? = some l[k]) := List.getElem?_eq_getElem hkl
      have hfit := HF.out l[k] (List.getElem_mem hkl)
      have hrow := HVR.out l[k] (List.getElem_mem hkl)
      have hi2 : (k : Int) < (l.length : Int) := by omega
      obtain ⟨⟨c, i, ta, tc, ts, na, nc, ns, hb, b_⟩, he⟩ : ∃ e, l[k] = e := ⟨_, rfl⟩
      rw [he] at HG hfit hrow
      have HFT : Hid (Fit ⟨c, i, ta, tc, ts, na, nc, ns, hb, b_⟩) := hfit
      have HCW : Hid (∀ W, Below w.heap.size w W → W.cell? ⟨b, off + k * 6, none⟩ = some (.int .i64 c) ∧ W.cell? ⟨b, off + k * 6 + 1, none⟩ = some (.int .i64 i) ∧ W.cell? ⟨b, off + k * 6 + 2, none⟩ = some (.slice ta ts.length tc) ∧ W.cell? ⟨b, off + k * 6 + 3, none⟩ = some (.slice na ns.length nc) ∧ W.cell? ⟨b, off + k * 6 + 4, none⟩ = some (.bool hb) ∧ W.cell? ⟨b, off + k * 6 + 5, none⟩ = some (.string b_)) := fun W hW =>
        ⟨(hW.cell (p := ⟨b, off + k * 6, none⟩) hlt).trans (HC.out k _ HG.out 0 _ rfl), (hW.cell (p := ⟨b, off + k * 6 + 1, none⟩) hlt).trans (HC.out k _ HG.out 1 _ rfl), (hW.cell (p := ⟨b, off + k * 6 + 2, none⟩) hlt).trans (HC.out k _ HG.out 2 _ rfl), (hW.cell (p := ⟨b, off + k * 6 + 3, none⟩) hlt).trans (HC.out k _ HG.out 3 _ rfl), (hW.cell (p := ⟨b, off + k * 6 + 4, none⟩) hlt).trans (HC.out k _ HG.out 4 _ rfl), (hW.cell (p := ⟨b, off + k * 6 + 5, none⟩) hlt).trans (HC.out k _ HG.out 5 _ rfl)⟩
      have hsay := fun W (hW : Below w.heap.size w W) => sy.spec_say no c i ts ns ta na tc nc W hn (fit_m hfit ⟨me.inn hrow.1 hW, me.inn hrow.2 hW⟩)
      have HMK : Hid ((l.map (rep no))[k]? = some (rep no ⟨c, i, ta, tc, ts, na, nc, ns, hb, b_⟩)) := by show _ = _; rw [List.getElem?_map, HG.out]; rfl
      obtain ⟨c0, c1, c2, c3, c4, c5⟩ := HCW.out wr hbel
      have hfs := first_size no ⟨c, i, ta, tc, ts, na, nc, ns, hb, b_⟩
      have HFI : Hid (first no ⟨c, i, ta, tc, ts, na, nc, ns, hb, b_⟩ = sy.said no (wm.outB c i ts ns)) := rfl
      obtain ⟨fst, hfst⟩ : ∃ f, first no ⟨c, i, ta, tc, ts, na, nc, ns, hb, b_⟩ = f := ⟨_, rfl⟩
      rw [hfst] at HFI hfs
      have HFS : Hid (∀ _ : Unit, first no ⟨c, i, ta, tc, ts, na, nc, ns, hb, b_⟩ = fst) := fun _ => hfst
      rw [← HFI.out] at hsay
      clear he hfit hrow hfst
      have hsay0 := hsay wr hbel
      have HSL : Hid (∀ _ : Unit, s = cat ((l.map (rep no)).take k)) := hs
      clear hsay hs
      go_wp2_with (go_at_call 19; fail)
      refine hsay0.mono ?_
      rintro e w1 ⟨rfl, hb1⟩
      have hB1 : Below w.heap.size w w1 := hbel.trans (hb1.mono hbs)
      clear hsay0 c0 c1 c2 c3 c4 c5
      obtain ⟨c0, c1, c2, c3, c4, c5⟩ := HCW.out w1 hB1
      clear c0 c1 c2 c3
      cases hb with
      | false =>
        have HN : Hid (∀ _ : Unit, s ++ fst = cat ((l.map (rep no)).take (k + 1))) := fun _ => by rw [cat_take HMK.out, ← HSL.out (), rep_false, HFS.out ()]
        clear c5
        go_wp2
        go_roundw
        case rel => exact ⟨k + 1, _, by omega, by go_num, rfl, HN, hB1⟩
        case measure => simp [intOf]; omega
      | true =>
        have hbsz : b_.size ≤ 1048576 := HFT.out.bs
        have hh := hdw.spec_header (b_.size : Int) w1
        obtain ⟨hd, hhd⟩ : ∃ h, hdw.hdr (b_.size : Int) = h := ⟨_, rfl⟩
        rw [hhd] at hh
        go_wp2_with (go_at_call 51; fail)
        refine hh.mono ?_
        rintro e w2 ⟨rfl, hb2⟩
        have hB2 : Below w.heap.size w w2 := hB1.trans (hb2.mono hB1.size)
        have hfr := spec_frame 2 no hd w2 (by omega) hn
        have hfz := pf.bytes_size 2 no hd
        obtain ⟨hf, hhf⟩ : ∃ f, pf.bytes 2 no hd = f := ⟨_, rfl⟩
        rw [hhf] at hfr hfz
        have HBD : Hid (∀ _ : Unit, body no b_ = hf ++ cat (pieces no b_)) := fun _ => by unfold body; rw [hhd, hhf]
        clear hh hhd hhf c4 c5
        go_wp2_with (go_at_call 50; fail)
        refine hfr.mono ?_
        rintro e w3 ⟨rfl, hb3⟩
        have hB3 : Below w.heap.size w w3 := hB2.trans (hb3.mono hB2.size)
        obtain ⟨_, _, _, _, _, c5⟩ := HCW.out w3 hB3
        have hcut := ct.spec_all b_ 1000 w3 hbsz
        clear hfr
        go_wp2_with (go_at_call 52; fail)
        refine hcut.mono ?_
        rintro e w4 ⟨⟨v, rfl, hrw⟩, hb4⟩
        have hB4 : Below w.heap.size w w4 := hB3.trans (hb4.mono hB3.size)
        have hpt := fun j => pieces_take no b_ hbsz j
        have HPC : Hid (pieces no b_ = (ct.cuts b_ 1000).map (pf.bytes 3 no)) := rfl
        have hpl := ct.cuts_length b_ 1000
        obtain ⟨PL, hPL⟩ : ∃ PL, ct.cuts b_ 1000 = PL := ⟨_, rfl⟩
        rw [hPL] at hrw HPC hpl
        obtain ⟨av, cv, rfl, hsl⟩ := rowed_sl hrw
        have HN : Hid (∀ _ : Unit, s ++ fst ++ hf ++ cat ((pieces no b_).take PL.length) = cat ((l.map (rep no)).take (k + 1))) := fun _ => by
          rw [cat_take HMK.out, ← HSL.out (), rep_true, HFS.out (), HBD.out (), show PL.length = (pieces no b_).length by rw [HPC.out, List.length_map], List.take_length, app_assoc, app_assoc]
        have hw4 := hB4.size
        clear hcut hrw hPL c5
        rcases hsl with hnil | ⟨b2, off2, rfl, hlt2, hc2⟩
        · subst hnil
          have HN2 : Hid (∀ _ : Unit, s ++ fst ++ hf = cat ((l.map (rep no)).take (k + 1))) := fun _ => by rw [← HN.out ()]; simp only [List.length_nil, List.take_zero, cat]; rw [app_nil]
          clear hpt
          go_wp2
          refine wp_loop_rounds 1 ?_
          rw [rounds_succ]
          go_wp2
          go_roundw
          case rel => exact ⟨k + 1, _, by omega, by go_num, rfl, HN2, hB4⟩
          case measure => simp [intOf]; omega
        · have HC2 : Hid (∀ (i : Nat) (x : ByteArray), PL[i]? = some x → w4.cell? ⟨b2, off2 + i, none⟩ = some (.string x)) := hc2
          have hs0 : s.size ≤ 4442035448709120 := hss
          clear hc2 hss
          go_wp2
          go_loopw [5, 8] (fun o x wi => ∃ (j : Nat) (s2 : ByteArray), j ≤ PL.length ∧ x = .int .i64 j ∧ o = .string s2 ∧ Hid (∀ _ : Unit, s2 = s ++ fst ++ hf ++ cat ((pieces no b_).take j)) ∧ Hid (Below w4.heap.size w4 wi)) (fun _ x _ => PL.length - (intOf x).toNat)
          case atStart => exact ⟨0, _, Nat.zero_le _, rfl, rfl, fun _ => by simp only [List.take_zero, cat]; rw [app_nil], Below.refl _ _⟩
          case round =>
            obtain ⟨j, s2, hj, rfl, rfl, hs2, hbw⟩ := hrel
            have hs2z : s2.size ≤ 4442039684964240 := by rw [hs2.out (), ByteArray.size_append, ByteArray.size_append, ByteArray.size_append]; have := hpt j; omega
            by_cases hjl : j < PL.length
            · have HGJ : Hid (PL[j]? = some PL[j]) := List.getElem?_eq_getElem hjl
              obtain ⟨pc, hpc⟩ : ∃ p, PL[j] = p := ⟨_, rfl⟩
              rw [hpc] at HGJ
              have q0 : wr.cell? ⟨b2, off2 + j, none⟩ = some (.string pc) := (hbw.out.cell (p := ⟨b2, off2 + j, none⟩) hlt2).trans (HC2.out j _ HGJ.out)
              have hji : (j : Int) < (PL.length : Int) := by omega
              have hfr := spec_frame 3 no pc wr (by omega) hn
              have hfz2 := pf.bytes_size 3 no pc
              obtain ⟨f3, hf3⟩ : ∃ f, pf.bytes 3 no pc = f := ⟨_, rfl⟩
              rw [hf3] at hfr hfz2
              have HN3 : Hid (∀ _ : Unit, s2 ++ f3 = s ++ fst ++ hf ++ cat ((pieces no b_).take (j + 1))) := fun _ => by
                rw [cat_take (x := f3) (by rw [HPC.out, List.getElem?_map, HGJ.out, ← hf3]; rfl), hs2.out (), app_assoc (s ++ fst ++ hf)]
              clear hpc hf3 hpt
              go_wp2_with (go_at_call 50; fail)
              refine hfr.mono ?_
              rintro e w5 ⟨rfl, hb5⟩
              have hbw2 : Hid (Below w4.heap.size w4 w5) := hbw.out.trans (hb5.mono hbw.out.size)
              clear hfr q0
              go_wp2
              go_roundw
              case rel => exact ⟨j + 1, _, by omega, by go_num, rfl, HN3, hbw2⟩
              case measure => simp [intOf]; omega
            · obtain rfl : j = PL.length := by omega
              have HN4 : Hid (∀ _ : Unit, s2 = cat ((l.map (rep no)).take (k + 1))) := fun _ => by rw [hs2.out (), HN.out ()]
              have hBW := hB4.trans (hbw.out.mono hw4)
              clear hpt hs2
              go_wp2
              go_roundw
              case rel => exact ⟨k + 1, _, by omega, by go_num, rfl, HN4, hBW⟩
              case measure => simp [intOf]; omega
    · obtain rfl : k = l.length := by omega
      have HE : Hid (∀ _ : Unit, s = spoken no l) := fun _ => by rw [hs.out ()]; unfold spoken; rw [show l.length = (l.map (rep no)).length by rw [List.length_map], List.take_length]
      clear hs
      go_wp2
      go_ret
      exact ⟨by rw [HE.out ()]; rfl, hbel⟩
end Go.Proofs.YtnmooolnmhidbaaDoor.sps
