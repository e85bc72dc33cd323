/- The program's writer of a method, part by part: a text, put as bytes and as words; it turns nothing that lay ahead of it. -/
import Derived.Test.YtnmooolnmhidbaaDoorWriterLib
namespace Go.Proofs.YtnmooolnmhidbaaDoor.wt
set_option linter.unusedVariables false
open Go.ChangeShapes Go.WideShapes Go.ChangeAt Go.RowKit Go.Proofs.YtnmooolnmhidbaaDoor.ls Go.Proofs.YtnmooolnmhidbaaDoor.me Go.Proofs.YtnmooolnmhidbaaDoor.mp

theorem text_none (ns : List Int) (bs : ByteArray) (ws : List ByteArray) (B wb g : Nat) (z : Int) (w : World) (h : Wr w B wb g [] ns bs ws) :
    Calls Tryd.prog 63 #[.pointer (some ⟨wb, 0, none⟩), .int .i64 z] w fun e w' => e = .returned (.bool false) ∧ w' = w := by
  obtain ⟨ta, na, tc, nc, wc, hblk, _⟩ := h
  have k0 : w.cell? ⟨wb, 0, none⟩ = some (.slice ta 0 tc) := cell_of (o := 0) hblk rfl
  clear hblk
  go_enter Tryd.func63, Tryd.ntmps63
  go_wp2
  go_ret
  exact ⟨rfl, rfl⟩

theorem text_long (x : ByteArray) (r : List ByteArray) (ns : List Int) (bs : ByteArray) (ws : List ByteArray) (B wb g : Nat) (z : Int) (w : World) (h : Wr w B wb g (x :: r) ns bs ws) (hx : 255 < x.size) (hx2 : x.size ≤ 1048576) (hr : r.length ≤ 1048576) :
    Calls Tryd.prog 63 #[.pointer (some ⟨wb, 0, none⟩), .int .i64 z] w fun e w' => e = .returned (.bool false) ∧ Below w.heap.size w w' := by
  obtain ⟨ta, na, tc, nc, wc, hblk, hS, hI, hown, hgw, hB1, hB2, htc, hnc⟩ := h
  obtain ⟨b, off, rfl, hlt, hc⟩ := hS.resolve_left (by simp)
  have k0 : w.cell? ⟨wb, 0, none⟩ = some (.slice (some ⟨b, off, none⟩) (r.length + 1 : Nat) tc) := cell_of (o := 0) hblk rfl
  have kx : w.cell? ⟨b, off, none⟩ = some (.string x) := hc 0 x rfl
  have hput := ps.impl_putShort x w hx2
  have hout : ps.out x = ⟨#[]⟩ := by unfold ps.out; rw [if_neg (by omega)]; rfl
  rw [hout] at hput
  clear hblk hc hI hown hout
  go_enter Tryd.func63, Tryd.ntmps63
  go_wp2_with (go_at_call 74; refine hput.mono ?_; rintro e w1 ⟨rfl, hb1⟩)
  go_ret
  exact ⟨rfl, hb1⟩

def eqTo (x : ByteArray) : ByteArray := ⟨#[61]⟩ ++ x

theorem out_size {x : ByteArray} (h : x.size ≤ 255) : (ps.out x).size = 1 + x.size := by
  have hf : pi.fits (x.size : Int) 1 = true := by simp only [pi.fits, sz.mostOf, Bool.and_eq_true, decide_eq_true_eq]; simp; omega
  have := np.text_size hf
  unfold ps.out
  rw [if_pos h, ByteArray.size_append]
  omega
theorem not_empty {s : ByteArray} (h : 1 ≤ s.size) : s.toList.isEmpty = false ∧ (s.toList = []) = False := by
  have hl : s.toList.length = s.size := by rw [Lib.toList_data]; simp
  have hne : s.toList ≠ [] := fun e => by rw [e] at hl; simp at hl; omega
  exact ⟨by cases he : s.toList with | nil => exact absurd he hne | cons a b => rfl, by simpa using hne⟩

def finT (wb b off g tc wc rl wl : Nat) (z : Int) (o x bs : ByteArray) (s : Gh) : Act := Act.mk (tmps := #[.pointer (some ⟨wb, 0, none⟩), .int .i64 z, undef, undef, .bool false, .string o, .pointer (some ⟨wb, 0, none⟩), .pointer (some ⟨wb, 0, none⟩), .pointer (some ⟨wb, 0, none⟩),
      .slice (some ⟨b, off, none⟩) (rl + 1) tc, .int .i64 (rl + 1), .bool false, .pointer (some ⟨wb, 0, none⟩), .pointer (some ⟨wb, 0, none⟩), .pointer (some ⟨wb, 0, none⟩), .slice (some ⟨b, off, none⟩) (rl + 1) tc, .pointer (some ⟨b, off, none⟩), .string x, .string o, .string o,
      .bool false, .pointer (some ⟨wb, 0, none⟩), .pointer (some ⟨wb, 0, none⟩), .pointer (some ⟨wb, 2, none⟩), .string bs, .string o, .string (bs ++ o), .pointer (some ⟨wb, 0, none⟩), .pointer (some ⟨wb, 2, none⟩),
      .pointer (some ⟨wb, 0, none⟩), .pointer (some ⟨wb, 0, none⟩), .pointer (some ⟨wb, 0, none⟩), .pointer (some ⟨wb, 3, none⟩), .slice (some ⟨g, 0, none⟩) wl wc, .pointer (some ⟨wb, 0, none⟩), .pointer (some ⟨wb, 0, none⟩), .pointer (some ⟨wb, 0, none⟩), .slice (some ⟨b, off, none⟩) (rl + 1) tc, .pointer (some ⟨b, off, none⟩), .string x, .string (⟨#[61]⟩ ++ x), .slice (some ⟨s.h, 0, none⟩) 1 1, .slice (some ⟨s.gg, 0, none⟩) (wl + 1) s.cap, .pointer (some ⟨wb, 0, none⟩), .pointer (some ⟨wb, 3, none⟩),
      undef, undef, undef, undef, undef, undef, undef, undef]) (defers := [])

set_option maxRecDepth 100000 in
set_option maxHeartbeats 1000000 in
theorem text_put (x : ByteArray) (r : List ByteArray) (ns : List Int) (bs : ByteArray) (ws : List ByteArray) (B wb g : Nat) (z : Int) (w : World) (h : Wr w B wb g (x :: r) ns bs ws) (hx : x.size ≤ 255) (hr : r.length ≤ 1048576) (hbs : bs.size ≤ 1048576) (hws : ws.length ≤ 1048576) :
    Calls Tryd.prog 63 #[.pointer (some ⟨wb, 0, none⟩), .int .i64 z] w fun e w' => e = .returned (.bool true) ∧ (∃ g', Wr w' B wb g' r ns (bs ++ ps.out x) (ws ++ [eqTo x]) ∧ (g' = g ∨ w.heap.size ≤ g') ∧ ∀ k, k < w.heap.size → k ≠ wb → k ≠ g → w'.heap[k]? = w.heap[k]?) ∧ Below B w w' := by
  obtain ⟨i0, hi, hz0, hz1, hz2⟩ := info_parts info9
  obtain ⟨ta, na, tc, nc, wc, hblk, hS, hI, hown, hgw, hB1, hB2, htc, hnc⟩ := h
  obtain ⟨b, off, rfl, hlt, hc⟩ := hS.resolve_left (by simp)
  have hwl : wb < w.heap.size := (Array.getElem?_eq_some_iff.1 hblk).1
  have k0 : w.cell? ⟨wb, 0, none⟩ = some (.slice (some ⟨b, off, none⟩) (r.length + 1 : Nat) tc) := cell_of (o := 0) hblk rfl
  have kx : w.cell? ⟨b, off, none⟩ = some (.string x) := hc 0 x rfl
  have hput := ps.impl_putShort x w (by omega)
  have hos : (ps.out x).size ≤ 264 := by rw [out_size hx]; omega
  have hone := not_empty (s := ps.out x) (by rw [out_size hx]; omega)
  obtain ⟨o, ho⟩ : ∃ o, ps.out x = o := ⟨_, rfl⟩
  rw [ho] at hput hos hone ⊢
  clear ho
  obtain ⟨hem, hnl⟩ := hone
  have HC : Hid (∀ (i : Nat) (y : ByteArray), (x :: r)[i]? = some y → w.cell? ⟨b, off + i, none⟩ = some (.string y)) := hc
  have HI : Hid (Sl (Value.int .i64) w B na ns) := hI
  have HOW : Hid (w.ownsRow B 9 1 (.slice (some ⟨g, 0, none⟩) ws.length wc) ws.length (ws.map Value.string)) := hown
  have HBK : Hid (w.heap[wb]? = some (.cells #[.slice (some ⟨b, off, none⟩) (x :: r).length tc, .slice na ns.length nc, .string bs, .slice (some ⟨g, 0, none⟩) ws.length wc] 55 (0, 0))) := hblk
  clear hc hI hown hblk hS
  go_enter Tryd.func63, Tryd.ntmps63
  go_wp2_with (go_at_call 74; refine hput.mono ?_; rintro e w1 ⟨rfl, hb1⟩; have hblk1 := (hb1.block wb hwl).trans HBK.out; have j2 := cell_of (o := 2) hblk1 rfl; have f2 := free_of (o := 2) hblk1; clear hblk1)
  have hblk1 := (hb1.block wb hwl).trans HBK.out
  have blkW := heap_setCell_same w1 wb 2 _ _ (.string (bs ++ o)) hblk1
  have hs1 := hb1.size
  have hgl : g < w.heap.size := by
    obtain ⟨_, h | ⟨g', cap', cur, hv, _, hg, _⟩⟩ := HOW.out
    · simp at h
    · simp at hv; obtain ⟨rfl, _⟩ := hv; exact (Array.getElem?_eq_some_iff.1 hg).1
  have HOWW : Hid ((w1.setCell ⟨wb, 2, none⟩ (.string (bs ++ o))).ownsRow B 9 1 (.slice (some ⟨g, 0, none⟩) ws.length wc) ws.length (ws.map Value.string)) := by
    obtain ⟨hlen, h | ⟨g', cap', cur, hv, h1, hg, h2⟩⟩ := HOW.out
    · simp at h
    · refine ⟨hlen, .inr ⟨g', cap', cur, hv, h1, ?_, h2⟩⟩
      simp at hv
      rw [RowKit.Below.heap_setCell _ _ _ _ (by simp; rw [← hv.1]; exact hgw), hb1.block _ (by rw [← hv.1]; exact hgl)]
      exact hg
  have hbW : Below B w (w1.setCell ⟨wb, 2, none⟩ (.string (bs ++ o))) := (hb1.mono (by omega)).setCell hB1 _
  have hWs : (w1.setCell ⟨wb, 2, none⟩ (.string (bs ++ o))).heap.size = w1.heap.size := by simp
  have hkW : ∀ k, k < w.heap.size → k ≠ wb → (w1.setCell ⟨wb, 2, none⟩ (.string (bs ++ o))).heap[k]? = w.heap[k]? := fun k hk h1 => by rw [RowKit.Below.heap_setCell _ _ _ _ h1]; exact hb1.block k hk
  obtain ⟨W, hW⟩ : ∃ W, w1.setCell ⟨wb, 2, none⟩ (.string (bs ++ o)) = W := ⟨_, rfl⟩
  rw [hW] at blkW HOWW hbW hWs hkW ⊢
  have HKW : Hid (∀ k, k < w.heap.size → k ≠ wb → W.heap[k]? = w.heap[k]?) := hkW
  have hwW : w.heap.size ≤ W.heap.size := by omega
  clear hkW
  simp at blkW
  clear hW hblk1 j2 f2 HOW HBK hput hem hnl
  have kx' : W.cell? ⟨b, off, none⟩ = some (.string x) := (hbW.cell (p := ⟨b, off, none⟩) hlt).trans kx
  have k0' : W.cell? ⟨wb, 0, none⟩ = some (.slice (some ⟨b, off, none⟩) (r.length + 1) tc) := cell_of (o := 0) blkW rfl
  have k3' : W.cell? ⟨wb, 3, none⟩ = some (.slice (some ⟨g, 0, none⟩) ws.length wc) := cell_of (o := 3) blkW rfl
  have f3' : W.frozen? ⟨wb, 3, none⟩ = false := free_of (o := 3) blkW
  have HBW : Hid (W.heap[wb]? = some (.cells #[.slice (some ⟨b, off, none⟩) (r.length + 1) tc, .slice na ns.length nc, .string (bs ++ o), .slice (some ⟨g, 0, none⟩) ws.length wc] 55 (0, 0))) := blkW
  clear blkW k0 kx
  have lw : wb < W.heap.size := by omega
  have lb : b < W.heap.size := by omega
  have ag : (Value.slice (some ⟨g, 0, none⟩) ws.length wc).ownBlock ≠ some wb := by simp [Value.ownBlock]; exact hgw
  have ab : (Value.slice (some ⟨g, 0, none⟩) ws.length wc).ownBlock ≠ some b := by simp [Value.ownBlock]; omega
  have hadd : ∀ W' : World, (Op.stringOp .add ⟨#[61]⟩ x).run Tryd.prog W' = .ok (.string (⟨#[61]⟩ ++ x)) W' := fun W' => run_string_add W' ⟨#[61]⟩ x (by decide) (by omega)
  have hno : (9223372036854775807 < 1 + x.size) = False := by simp; omega
  have hfz : ∀ ob : Obj, (W.alloc ob).frozen? ⟨wb, 3, none⟩ = false := fun ob => (World.frozen?_alloc_old W ob ⟨wb, 3, none⟩ (by simp; omega)).trans f3'
  have ag' : g ≠ b := by omega
  have hgW : g < W.heap.size := by omega
  refine gh.region_ghost (finT wb b off g tc wc r.length ws.length z o x bs) (Done W B wb g ws (⟨#[61]⟩ ++ x)) ⟨0, 0, 0⟩ ?x1 ?x2 ?x3 ?x4 [0, 1, 2, 3, 4, 5, 6, 7, 8, 9, 10, 11, 12, 13, 14, 15, 16, 17, 18, 19, 20, 21, 22, 23, 24, 25, 26, 27, 28, 45, 46, 47, 48, 49, 50, 51, 52] ?x5 ?x6 ?x7 ?each ?fin
  case x1 => kernel_rfl
  case x2 => kernel_rfl
  case x3 => rfl
  case x4 => exact fun _ => by kernel_rfl
  case x5 => kernel_rfl
  case x7 => exact done_start (W := W) (w' := W.drew) ⟨rfl, rfl, rfl, Nat.le_refl _, fun _ _ _ => rfl⟩ _
  case x6 =>
    intro _
    repeat (first | exact trivial | refine ⟨rfl, ?_⟩)
  case each =>
    refine ⟨st_move (by decide) (by decide) (by decide) _ rfl (by rintro s _ ⟨⟩; rfl), ?_⟩
    refine ⟨st_move (by decide) (by decide) (by decide) _ rfl (by rintro s _ ⟨⟩; rfl), ?_⟩
    refine ⟨st_nil (by decide) (by decide) (by decide) _ ⟨wb, 0, none⟩ rfl (fun _ => rfl) (by rintro s _ ⟨⟩; rfl), ?_⟩
    refine ⟨st_field (by decide) (by decide) (by decide) _ _ _ wb 3 rfl (fun _ => rfl) (fun w' => by kernel_rfl) (by rintro s _ ⟨⟩; rfl), ?_⟩
    refine ⟨st_load (by decide) (by decide) (by decide) _ _ wb 3 _ rfl (fun _ => rfl) (fun w' h => by simp [execOp, go_sem, h]) k3' lw (Ne.symm hgw) (.inr (.inr rfl)) (by rintro s _ ⟨⟩; rfl), ?_⟩
    refine ⟨st_move (by decide) (by decide) (by decide) _ rfl (by rintro s _ ⟨⟩; rfl), ?_⟩
    refine ⟨st_nil (by decide) (by decide) (by decide) _ ⟨wb, 0, none⟩ rfl (fun _ => rfl) (by rintro s _ ⟨⟩; rfl), ?_⟩
    refine ⟨st_field (by decide) (by decide) (by decide) _ _ _ wb 0 rfl (fun _ => rfl) (fun w' => by kernel_rfl) (by rintro s _ ⟨⟩; rfl), ?_⟩
    refine ⟨st_load (by decide) (by decide) (by decide) _ _ wb 0 _ rfl (fun _ => rfl) (fun w' h => by simp [execOp, go_sem, h]) k0' lw (Ne.symm hgw) (.inr (.inl (by decide))) (by rintro s _ ⟨⟩; rfl), ?_⟩
    refine ⟨st_index (by decide) (by decide) (by decide) _ _ _ b off (r.length + 1) tc rfl (fun _ => rfl) (fun _ => rfl) (fun w' => by simp [go_sem]) (by rintro s _ ⟨⟩; rfl), ?_⟩
    refine ⟨st_load (by decide) (by decide) (by decide) _ _ b off _ rfl (fun _ => rfl) (fun w' h => by simp [execOp, go_sem, h]) kx' lb (Ne.symm ag') (.inl (by omega)) (by rintro s _ ⟨⟩; rfl), ?_⟩
    refine ⟨st_add (by decide) (by decide) (by decide) _ _ _ _ ⟨#[61]⟩ x rfl (fun _ => rfl) (fun _ => rfl) (by have : (⟨#[61]⟩ : ByteArray).size = 1 := rfl; omega) (by rintro s _ ⟨⟩; rfl), ?_⟩
    refine ⟨st_build _ rfl (fun _ => rfl) rfl (by kernel_rfl) (fun s h => ⟨gh.agree_of 41 (.slice (some ⟨h, 0, none⟩) 1 1) rfl rfl, rfl⟩), ?_⟩
    refine ⟨st_append _ _ rfl rfl (fun _ => rfl) (fun _ => rfl) rfl (by kernel_rfl) (by kernel_rfl) HOWW.out hws hgW (by omega) (fun s gg cap => ⟨gh.agree_of 42 (.slice (some ⟨gg, 0, none⟩) (ws.length + 1) cap) rfl rfl, rfl⟩), ?_⟩
    refine ⟨st_nil (by decide) (by decide) (by decide) _ ⟨wb, 0, none⟩ rfl (fun _ => rfl) (by rintro s _ ⟨⟩; rfl), ?_⟩
    refine ⟨st_field (by decide) (by decide) (by decide) _ _ _ wb 3 rfl (fun _ => rfl) (fun w' => by kernel_rfl) (by rintro s _ ⟨⟩; rfl), ?_⟩
    refine ⟨st_store _ _ rfl rfl (fun _ => rfl) (fun _ => rfl) (by kernel_rfl) lw hgw (by rw [k3']; rfl) f3', ?_⟩
    exact trivial
  case fin =>
    intro s L w' hL hC
    obtain ⟨blk, hown, hne, hBg, hbW', hgg, hkp⟩ := done_end hC (hL 13 (of_decide_eq_true (by kernel_rfl))) (hL 16 (of_decide_eq_true (by kernel_rfl))) HBW.out hgw hB1 hB2 (by omega)
    have m0 : w'.cell? ⟨wb, 0, none⟩ = some (.slice (some ⟨b, off, none⟩) (r.length + 1) tc) := cell_of (o := 0) blk rfl
    have q0 : w'.frozen? ⟨wb, 0, none⟩ = false := free_of (o := 0) blk
    have HB2 : Hid (w'.heap[wb]? = some (.cells #[.slice (some ⟨b, off, none⟩) (r.length + 1) tc, .slice na ns.length nc, .string (bs ++ o), .slice (some ⟨s.gg, 0, none⟩) (ws.length + 1) s.cap] 55 (0, 0))) := blk
    have HO2 : Hid (w'.ownsRow B 9 1 (.slice (some ⟨s.gg, 0, none⟩) (ws.length + 1) s.cap) (ws.length + 1) (ws.map Value.string ++ [.string (⟨#[61]⟩ ++ x)])) := hown
    clear blk hown hC hadd hfz hno k0' k3' kx' f3'
    have hbA := hbW.trans hbW'
    have HKP : Hid (∀ k, k < w.heap.size → k ≠ wb → k ≠ g → w'.heap[k]? = w.heap[k]?) := fun k hk h1 h2 => (hkp k (by omega) h1 h2).trans (HKW.out k hk h1)
    have HGG : Hid (s.gg = g ∨ w.heap.size ≤ s.gg) := hgg.imp id (fun h => by omega)
    clear hkp hgg
    have hI' := HI.out.below hbA
    have HT : Hid (Sl Value.string w' B (some ⟨b, off + 1, none⟩) r) := tail_sl HC.out hbA hlt
    unfold finT
    by_cases ht1 : tc = 1
    · have hr0 : r = [] := List.eq_nil_of_length_eq_zero (by simp at htc; omega)
      subst hr0 ht1
      go_wp2
      go_ret
      exact ⟨rfl, ⟨s.gg, close_text HB2.out HO2.out (.inl rfl) hI' hne hB1 hBg (by simp) hnc, HGG.out, fun k hk h1 h2 => by rw [RowKit.Below.heap_setCell _ _ _ _ h1]; exact HKP.out k hk h1 h2⟩, hbA.setCell hB1 _⟩
    · have ht2 : r.length + 1 ≤ tc := by simpa using htc
      go_wp2
      go_ret
      exact ⟨rfl, ⟨s.gg, close_text HB2.out HO2.out HT.out hI' hne hB1 hBg (by omega) hnc, HGG.out, fun k hk h1 h2 => by rw [RowKit.Below.heap_setCell _ _ _ _ h1]; exact HKP.out k hk h1 h2⟩, hbA.setCell hB1 _⟩
end Go.Proofs.YtnmooolnmhidbaaDoor.wt
