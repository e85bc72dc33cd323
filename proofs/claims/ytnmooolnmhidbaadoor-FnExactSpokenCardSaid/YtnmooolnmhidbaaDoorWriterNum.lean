/- The program's writer of a method, part by part: a number, put as bytes and as words; it turns nothing that lay ahead of it. -/
import Derived.Test.YtnmooolnmhidbaaDoorWriterLib
namespace Go.Proofs.YtnmooolnmhidbaaDoor.wt
set_option linter.unusedVariables false
open Go.ChangeShapes Go.WideShapes Go.ChangeAt Go.RowKit Go.Proofs.YtnmooolnmhidbaaDoor.ls Go.Proofs.YtnmooolnmhidbaaDoor.me Go.Proofs.YtnmooolnmhidbaaDoor.mp

theorem num_none (ts : List ByteArray) (bs : ByteArray) (ws : List ByteArray) (B wb g : Nat) (z : Int) (w : World) (h : Wr w B wb g ts [] bs ws) :
    Calls Tryd.prog 65 #[.pointer (some ⟨wb, 0, none⟩), .int .i64 z] w fun e w' => e = .returned (.bool false) ∧ w' = w := by
  obtain ⟨ta, na, tc, nc, wc, hblk, _⟩ := h
  have k0 : w.cell? ⟨wb, 1, none⟩ = some (.slice na 0 nc) := cell_of (o := 1) hblk rfl
  clear hblk
  go_enter Tryd.func65, Tryd.ntmps65
  go_wp2
  go_ret
  exact ⟨rfl, rfl⟩

theorem num_bad (n : Int) (r : List Int) (ts : List ByteArray) (bs : ByteArray) (ws : List ByteArray) (B wb g : Nat) (z : Int) (w : World) (h : Wr w B wb g ts (n :: r) bs ws) (hn : n ≤ 9223372036854775807) (hf : pi.fits n z = false) (hr : r.length ≤ 1048576) :
    Calls Tryd.prog 65 #[.pointer (some ⟨wb, 0, none⟩), .int .i64 z] w fun e w' => e = .returned (.bool false) ∧ Below w.heap.size w w' := by
  obtain ⟨ta, na, tc, nc, wc, hblk, hS, hI, hown, hgw, hB1, hB2, htc, hnc⟩ := h
  obtain ⟨b, off, rfl, hlt, hc⟩ := hI.resolve_left (by simp)
  have k0 : w.cell? ⟨wb, 1, none⟩ = some (.slice (some ⟨b, off, none⟩) (r.length + 1 : Nat) nc) := cell_of (o := 1) hblk rfl
  have kx : w.cell? ⟨b, off, none⟩ = some (.int .i64 n) := hc 0 n rfl
  have hput := pi.impl_put n z w hn
  have hout : pi.text n z = ⟨#[]⟩ := by unfold pi.text; rw [hf]; rfl
  rw [hout] at hput
  clear hblk hc hS hown hout
  go_enter Tryd.func65, Tryd.ntmps65
  go_wp2_with (go_at_call 58; refine hput.mono ?_; rintro e w1 ⟨rfl, hb1⟩)
  go_ret
  exact ⟨rfl, hb1⟩

theorem ne_empty {s : ByteArray} (h : 1 ≤ s.size) : s.toList.isEmpty = false ∧ (s.toList = []) = False := by
  have hl : s.toList.length = s.size := by rw [Lib.toList_data]; simp
  have hne : s.toList ≠ [] := fun e => by rw [e] at hl; simp at hl; omega
  exact ⟨by cases he : s.toList with | nil => exact absurd he hne | cons a b => rfl, by simpa using hne⟩

def decOf (n : Int) : ByteArray := ⟨(Lib.itoa n).toArray⟩

def finN (wb b off g nc wc rl wl : Nat) (z n : Int) (o d bs : ByteArray) (s : Gh) : Act := Act.mk (tmps := #[.pointer (some ⟨wb, 0, none⟩), .int .i64 z, undef, undef, .bool false, .string o, .pointer (some ⟨wb, 0, none⟩), .pointer (some ⟨wb, 0, none⟩), .pointer (some ⟨wb, 1, none⟩), .slice (some ⟨b, off, none⟩) (rl + 1) nc, .int .i64 (rl + 1), .bool false, .pointer (some ⟨wb, 0, none⟩), .pointer (some ⟨wb, 0, none⟩), .pointer (some ⟨wb, 1, none⟩), .slice (some ⟨b, off, none⟩) (rl + 1) nc, .pointer (some ⟨b, off, none⟩), .int .i64 n, .int .i64 z, .string o, .string o, .bool false, .pointer (some ⟨wb, 0, none⟩), .pointer (some ⟨wb, 0, none⟩), .pointer (some ⟨wb, 2, none⟩), .string bs, .string o, .string (bs ++ o), .pointer (some ⟨wb, 0, none⟩), .pointer (some ⟨wb, 2, none⟩), .pointer (some ⟨wb, 0, none⟩), .pointer (some ⟨wb, 0, none⟩), .pointer (some ⟨wb, 0, none⟩), .pointer (some ⟨wb, 3, none⟩), .slice (some ⟨g, 0, none⟩) wl wc, .pointer (some ⟨wb, 0, none⟩), .pointer (some ⟨wb, 0, none⟩), .pointer (some ⟨wb, 1, none⟩), .slice (some ⟨b, off, none⟩) (rl + 1) nc, .pointer (some ⟨b, off, none⟩), .int .i64 n, .string d, .slice (some ⟨s.h, 0, none⟩) 1 1, .slice (some ⟨s.gg, 0, none⟩) (wl + 1) s.cap, .pointer (some ⟨wb, 0, none⟩), .pointer (some ⟨wb, 3, none⟩), undef, undef, undef, undef, undef, undef, undef, undef]) (defers := [])

set_option maxRecDepth 100000 in
set_option maxHeartbeats 1000000 in
theorem num_put (n : Int) (r : List Int) (ts : List ByteArray) (bs : ByteArray) (ws : List ByteArray) (B wb g : Nat) (z : Int) (w : World) (h : Wr w B wb g ts (n :: r) bs ws) (hn1 : -9223372036854775808 ≤ n) (hn : n ≤ 9223372036854775807) (hf : pi.fits n z = true) (hr : r.length ≤ 1048576) (hbs : bs.size ≤ 1048576) (hws : ws.length ≤ 1048576)
    (htab : Lib.TabBelow Tryd.prog B w "internal/strconv.uint64pow10" .u64 Lib.pow10Tab) :
    Calls Tryd.prog 65 #[.pointer (some ⟨wb, 0, none⟩), .int .i64 z] w fun e w' => e = .returned (.bool true) ∧ (∃ g', Wr w' B wb g' ts r (bs ++ pi.text n z) (ws ++ [decOf n]) ∧ (g' = g ∨ w.heap.size ≤ g') ∧ ∀ k, k < w.heap.size → k ≠ wb → k ≠ g → w'.heap[k]? = w.heap[k]?) ∧ Below B w w' := by
  obtain ⟨ta, na, tc, nc, wc, hblk, hS, hI, hown, hgw, hB1, hB2, htc, hnc⟩ := h
  obtain ⟨b, off, rfl, hlt, hc⟩ := hI.resolve_left (by simp)
  have hwl : wb < w.heap.size := (Array.getElem?_eq_some_iff.1 hblk).1
  have k0 : w.cell? ⟨wb, 1, none⟩ = some (.slice (some ⟨b, off, none⟩) (r.length + 1 : Nat) nc) := cell_of (o := 1) hblk rfl
  have kx : w.cell? ⟨b, off, none⟩ = some (.int .i64 n) := hc 0 n rfl
  have hput := pi.impl_put n z w hn
  have hos : (pi.text n z).size ≤ 8 := pi.text_size n z
  have hone := ne_empty (s := pi.text n z) (by
    have h1 := np.text_size hf
    have hf' := hf
    simp only [pi.fits, Bool.and_eq_true, decide_eq_true_eq] at hf'
    have := sz.size_of z (by omega)
    omega)
  obtain ⟨o, ho⟩ : ∃ o, pi.text n z = o := ⟨_, rfl⟩
  obtain ⟨d, hd⟩ : ∃ d, decOf n = d := ⟨_, rfl⟩
  have HD : Hid (decOf n = d) := hd
  rw [ho] at hput hos hone ⊢
  rw [hd]
  clear ho hd
  obtain ⟨hem, hnl⟩ := hone
  have HC : Hid (∀ (i : Nat) (y : Int), (n :: r)[i]? = some y → w.cell? ⟨b, off + i, none⟩ = some (.int .i64 y)) := hc
  have HS : Hid (Sl Value.string w B ta ts) := hS
  have HT0 : Hid (Lib.TabBelow Tryd.prog B w "internal/strconv.uint64pow10" .u64 Lib.pow10Tab) := htab
  have HOW : Hid (w.ownsRow B 9 1 (.slice (some ⟨g, 0, none⟩) ws.length wc) ws.length (ws.map Value.string)) := hown
  have HBK : Hid (w.heap[wb]? = some (.cells #[.slice ta ts.length tc, .slice (some ⟨b, off, none⟩) (n :: r).length nc, .string bs, .slice (some ⟨g, 0, none⟩) ws.length wc] 55 (0, 0))) := hblk
  clear hc hI hown hblk hS htab
  go_enter Tryd.func65, Tryd.ntmps65
  go_wp2_with (go_at_call 58; refine hput.mono ?_; rintro e w1 ⟨rfl, hb1⟩; have hblk1 := (hb1.block wb hwl).trans HBK.out; have j2 := cell_of (o := 2) hblk1 rfl; have f2 := free_of (o := 2) hblk1; clear hblk1)
  have hblk1 := (hb1.block wb hwl).trans HBK.out
  have blkW := heap_setCell_same w1 wb 2 _ _ (.string (bs ++ o)) hblk1
  have hs1 := hb1.size
  have hgl : g < w.heap.size := by
    obtain ⟨_, h | ⟨g', cap', cur, hv, _, hg, _⟩⟩ := HOW.out
    · simp at h
    · simp at hv; obtain ⟨rfl, _⟩ := hv; exact (Array.getElem?_eq_some_iff.1 hg).1
  have HOWW : Hid ((w1.setCell ⟨wb, 2, none⟩ (.string (bs ++ o))).ownsRow B 9 1 (.slice (some ⟨g, 0, none⟩) ws.length wc) ws.length (ws.map Value.string)) := by
    obtain ⟨hlen, h | ⟨g', cap', cur, hv, h1, hg, h2⟩⟩ := HOW.out
    · simp at h
    · refine ⟨hlen, .inr ⟨g', cap', cur, hv, h1, ?_, h2⟩⟩
      simp at hv
      rw [RowKit.Below.heap_setCell _ _ _ _ (by simp; rw [← hv.1]; exact hgw), hb1.block _ (by rw [← hv.1]; exact hgl)]
      exact hg
  have hbW : Below B w (w1.setCell ⟨wb, 2, none⟩ (.string (bs ++ o))) := (hb1.mono (by omega)).setCell hB1 _
  have hWs : (w1.setCell ⟨wb, 2, none⟩ (.string (bs ++ o))).heap.size = w1.heap.size := by simp
  have hkW : ∀ k, k < w.heap.size → k ≠ wb → (w1.setCell ⟨wb, 2, none⟩ (.string (bs ++ o))).heap[k]? = w.heap[k]? := fun k hk h1 => by rw [RowKit.Below.heap_setCell _ _ _ _ h1]; exact hb1.block k hk
  obtain ⟨W, hW⟩ : ∃ W, w1.setCell ⟨wb, 2, none⟩ (.string (bs ++ o)) = W := ⟨_, rfl⟩
  rw [hW] at blkW HOWW hbW hWs hkW ⊢
  have HKW : Hid (∀ k, k < w.heap.size → k ≠ wb → W.heap[k]? = w.heap[k]?) := hkW
  have hwW : w.heap.size ≤ W.heap.size := by omega
  clear hkW
  simp at blkW
  clear hW hblk1 j2 f2 HOW HBK hput hem hnl
  have kx' : W.cell? ⟨b, off, none⟩ = some (.int .i64 n) := (hbW.cell (p := ⟨b, off, none⟩) hlt).trans kx
  have k0' : W.cell? ⟨wb, 1, none⟩ = some (.slice (some ⟨b, off, none⟩) (r.length + 1) nc) := cell_of (o := 1) blkW rfl
  have k3' : W.cell? ⟨wb, 3, none⟩ = some (.slice (some ⟨g, 0, none⟩) ws.length wc) := cell_of (o := 3) blkW rfl
  have f3' : W.frozen? ⟨wb, 3, none⟩ = false := free_of (o := 3) blkW
  have HBW : Hid (W.heap[wb]? = some (.cells #[.slice ta ts.length tc, .slice (some ⟨b, off, none⟩) (r.length + 1) nc, .string (bs ++ o), .slice (some ⟨g, 0, none⟩) ws.length wc] 55 (0, 0))) := blkW
  clear blkW k0 kx
  have lw : wb < W.heap.size := by omega
  have lb : b < W.heap.size := by omega
  have ag' : g ≠ b := by omega
  have hgW : g < W.heap.size := by omega
  have hBW : B ≤ W.heap.size := by omega
  have hdec : ∀ w' : World, W.grownBy w' none → Calls Tryd.prog 59 #[.int .i64 n] w' fun e w'' => e = .returned (.string d) ∧ Below w'.heap.size w' w'' := fun w' hg => by
    have hbw' : Below B w w' := hbW.trans ⟨hg.os, hg.tape, hg.output, hg.size, fun i hi => hg.block i (by omega) (by simp)⟩
    have := di.impl_dec n w' hn1 hn (HT0.out w' hbw')
    rw [← HD.out]
    exact this
  refine gh.region_ghost (finN wb b off g nc wc r.length ws.length z n o d bs) (Done W B wb g ws d) ⟨0, 0, 0⟩ ?x1 ?x2 ?x3 ?x4 [0, 1, 2, 3, 4, 5, 6, 7, 8, 9, 10, 11, 12, 13, 14, 15, 16, 17, 18, 19, 20, 21, 22, 23, 24, 25, 26, 27, 28, 29, 46, 47, 48, 49, 50, 51, 52, 53] ?x5 ?x6 ?x7 ?each ?fin
  case x1 => kernel_rfl
  case x2 => kernel_rfl
  case x3 => rfl
  case x4 => exact fun _ => by kernel_rfl
  case x5 => kernel_rfl
  case x7 => exact done_start (W := W) (w' := W.drew) ⟨rfl, rfl, rfl, Nat.le_refl _, fun _ _ _ => rfl⟩ _
  case x6 =>
    intro _
    repeat (first | exact trivial | refine ⟨rfl, ?_⟩)
  case each =>
    refine ⟨st_move (by decide) (by decide) (by decide) _ rfl (by rintro s _ ⟨⟩; rfl), ?_⟩
    refine ⟨st_move (by decide) (by decide) (by decide) _ rfl (by rintro s _ ⟨⟩; rfl), ?_⟩
    refine ⟨st_nil (by decide) (by decide) (by decide) _ ⟨wb, 0, none⟩ rfl (fun _ => rfl) (by rintro s _ ⟨⟩; rfl), ?_⟩
    refine ⟨st_field (by decide) (by decide) (by decide) _ _ _ wb 3 rfl (fun _ => rfl) (fun w' => by kernel_rfl) (by rintro s _ ⟨⟩; rfl), ?_⟩
    refine ⟨st_load (by decide) (by decide) (by decide) _ _ wb 3 _ rfl (fun _ => rfl) (fun w' h => by simp [execOp, go_sem, h]) k3' lw (Ne.symm hgw) (.inr (.inr rfl)) (by rintro s _ ⟨⟩; rfl), ?_⟩
    refine ⟨st_move (by decide) (by decide) (by decide) _ rfl (by rintro s _ ⟨⟩; rfl), ?_⟩
    refine ⟨st_nil (by decide) (by decide) (by decide) _ ⟨wb, 0, none⟩ rfl (fun _ => rfl) (by rintro s _ ⟨⟩; rfl), ?_⟩
    refine ⟨st_field (by decide) (by decide) (by decide) _ _ _ wb 1 rfl (fun _ => rfl) (fun w' => by kernel_rfl) (by rintro s _ ⟨⟩; rfl), ?_⟩
    refine ⟨st_load (by decide) (by decide) (by decide) _ _ wb 1 _ rfl (fun _ => rfl) (fun w' h => by simp [execOp, go_sem, h]) k0' lw (Ne.symm hgw) (.inr (.inl (by decide))) (by rintro s _ ⟨⟩; rfl), ?_⟩
    refine ⟨st_index (by decide) (by decide) (by decide) _ _ _ b off (r.length + 1) nc rfl (fun _ => rfl) (fun _ => rfl) (fun w' => by simp [go_sem]) (by rintro s _ ⟨⟩; rfl), ?_⟩
    refine ⟨st_load (by decide) (by decide) (by decide) _ _ b off _ rfl (fun _ => rfl) (fun w' h => by simp [execOp, go_sem, h]) kx' lb (Ne.symm ag') (.inl (by omega)) (by rintro s _ ⟨⟩; rfl), ?_⟩
    refine ⟨st_call 59 _ (.int .i64 n) rfl (fun _ => rfl) rfl (fun _ => rfl) (fun w' => by simp [go_sem]) hdec, ?_⟩
    refine ⟨st_build _ rfl (fun _ => rfl) rfl (by kernel_rfl) (fun s h => ⟨gh.agree_of 42 (.slice (some ⟨h, 0, none⟩) 1 1) rfl rfl, rfl⟩), ?_⟩
    refine ⟨st_append _ _ rfl rfl (fun _ => rfl) (fun _ => rfl) rfl (by kernel_rfl) (by kernel_rfl) HOWW.out hws hgW hBW (fun s gg cap => ⟨gh.agree_of 43 (.slice (some ⟨gg, 0, none⟩) (ws.length + 1) cap) rfl rfl, rfl⟩), ?_⟩
    refine ⟨st_nil (by decide) (by decide) (by decide) _ ⟨wb, 0, none⟩ rfl (fun _ => rfl) (by rintro s _ ⟨⟩; rfl), ?_⟩
    refine ⟨st_field (by decide) (by decide) (by decide) _ _ _ wb 3 rfl (fun _ => rfl) (fun w' => by kernel_rfl) (by rintro s _ ⟨⟩; rfl), ?_⟩
    refine ⟨st_store _ _ rfl rfl (fun _ => rfl) (fun _ => rfl) (by kernel_rfl) lw hgw (by rw [k3']; rfl) f3', ?_⟩
    exact trivial
  case fin =>
    intro s L w' hL hC
    obtain ⟨blk, hown, hne, hBg, hbW', hgg, hkp⟩ := done_end hC (hL 13 (of_decide_eq_true (by kernel_rfl))) (hL 16 (of_decide_eq_true (by kernel_rfl))) HBW.out hgw hB1 hB2 hBW
    have m0 : w'.cell? ⟨wb, 1, none⟩ = some (.slice (some ⟨b, off, none⟩) (r.length + 1) nc) := cell_of (o := 1) blk rfl
    have q0 : w'.frozen? ⟨wb, 1, none⟩ = false := free_of (o := 1) blk
    have HB2 : Hid (w'.heap[wb]? = some (.cells #[.slice ta ts.length tc, .slice (some ⟨b, off, none⟩) (r.length + 1) nc, .string (bs ++ o), .slice (some ⟨s.gg, 0, none⟩) (ws.length + 1) s.cap] 55 (0, 0))) := blk
    have HO2 : Hid (w'.ownsRow B 9 1 (.slice (some ⟨s.gg, 0, none⟩) (ws.length + 1) s.cap) (ws.length + 1) (ws.map Value.string ++ [.string d])) := hown
    clear blk hown hC k0' k3' kx' f3' hdec
    have hbA := hbW.trans hbW'
    have HKP : Hid (∀ k, k < w.heap.size → k ≠ wb → k ≠ g → w'.heap[k]? = w.heap[k]?) := fun k hk h1 h2 => (hkp k (by omega) h1 h2).trans (HKW.out k hk h1)
    have HGG : Hid (s.gg = g ∨ w.heap.size ≤ s.gg) := hgg.imp id (fun h => by omega)
    clear hkp hgg
    have hS' := HS.out.below hbA
    have HT : Hid (Sl (Value.int .i64) w' B (some ⟨b, off + 1, none⟩) r) := tail_sl HC.out hbA hlt
    unfold finN
    by_cases ht1 : nc = 1
    · have hr0 : r = [] := List.eq_nil_of_length_eq_zero (by simp at hnc; omega)
      subst hr0 ht1
      go_wp2
      go_ret
      exact ⟨rfl, ⟨s.gg, close_num HB2.out HO2.out hS' (.inl rfl) hne hB1 hBg htc (by simp), HGG.out, fun k hk h1 h2 => by rw [RowKit.Below.heap_setCell _ _ _ _ h1]; exact HKP.out k hk h1 h2⟩, hbA.setCell hB1 _⟩
    · have ht2 : r.length + 1 ≤ nc := by simpa using hnc
      go_wp2
      go_ret
      exact ⟨rfl, ⟨s.gg, close_num HB2.out HO2.out hS' HT.out hne hB1 hBg htc (by omega), HGG.out, fun k hk h1 h2 => by rw [RowKit.Below.heap_setCell _ _ _ _ h1]; exact HKP.out k hk h1 h2⟩, hbA.setCell hB1 _⟩
end Go.Proofs.YtnmooolnmhidbaaDoor.wt
