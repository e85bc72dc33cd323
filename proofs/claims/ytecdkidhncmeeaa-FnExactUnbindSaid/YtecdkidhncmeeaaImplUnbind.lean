/- The program's Unbind: the exchanges as they are, and the bindings but for one queue's, in rows of their own. -/
import Derived.Test.YtecdkidhncmeeaaDelBind
namespace Go.Proofs.Ytecdkidhncmeeaa.iu
open Go.ChangeShapes Go.WideShapes Go.ChangeAt Go.RowKit Go.Proofs.Ytecdkidhncmeeaa.rr Go.Proofs.Ytecdkidhncmeeaa.ra Go.Proofs.Ytecdkidhncmeeaa.rt Go.Proofs.Ytecdkidhncmeeaa.fl Go.Proofs.Ytecdkidhncmeeaa.db
set_option linter.unusedVariables false

set_option maxRecDepth 100000 in
set_option maxHeartbeats 2000000 in
theorem impl_unbind (q : ByteArray) (es : List Ex) (bs : List Bi) (a0 b0 ec bc : Nat) (w : World) (hel : es.length ≤ 1048576) (hbl : bs.length ≤ 1048576) (hes : ∀ e ∈ es, e.n.size ≤ 1048576) (hbs : ∀ b ∈ bs, b.x.size ≤ 1048576 ∧ b.k.size ≤ 1048576 ∧ b.q.size ≤ 1048576) (hE : RE w a0 es) (hB : RB w b0 bs) :
    Calls Try.prog 45 #[.agg #[.slice (some ⟨a0, 0, none⟩) es.length ec, .slice (some ⟨b0, 0, none⟩) bs.length bc], .string q] w fun r w' => ∃ g h, r = .returned (.agg #[.slice (some ⟨g, 0, none⟩) es.length es.length, .slice (some ⟨h, 0, none⟩) (bs.filter fun b => !mine q b).length bs.length]) ∧ w.heap.size ≤ g ∧ w.heap.size ≤ h ∧ g ≠ h ∧ FE w' g es es.length ∧ FB w' h (bs.filter fun b => !mine q b) (bs.filter fun b => !mine q b).length ∧ Below w.heap.size w w' := by
  have hb0 : Below w.heap.size w (((w.alloc (.cells #[.slice (some ⟨a0, 0, none⟩) es.length ec, .slice (some ⟨b0, 0, none⟩) bs.length bc] 56)).alloc (.cells #[.string q] 9)).alloc (.cells #[.slice none 0 0, .slice none 0 0] 56)) := (((Below.refl _ _).alloc (Nat.le_refl _) _).alloc (by simp) _).alloc (by simp; omega) _
  have hbox := bold (bold (bnew w #[.slice (some ⟨a0, 0, none⟩) es.length ec, .slice (some ⟨b0, 0, none⟩) bs.length bc] 56) (.cells #[.string q] 9)) (.cells #[.slice none 0 0, .slice none 0 0] 56)
  have hqb := bold (bnew (w.alloc (.cells #[.slice (some ⟨a0, 0, none⟩) es.length ec, .slice (some ⟨b0, 0, none⟩) bs.length bc] 56)) #[.string q] 9) (.cells #[.slice none 0 0, .slice none 0 0] 56)
  have hres := bnew ((w.alloc (.cells #[.slice (some ⟨a0, 0, none⟩) es.length ec, .slice (some ⟨b0, 0, none⟩) bs.length bc] 56)).alloc (.cells #[.string q] 9)) #[.slice none 0 0, .slice none 0 0] 56
  rw [World.size_alloc] at hqb
  rw [World.size_alloc, World.size_alloc] at hres
  obtain ⟨W, hW⟩ : ∃ W, ((w.alloc (.cells #[.slice (some ⟨a0, 0, none⟩) es.length ec, .slice (some ⟨b0, 0, none⟩) bs.length bc] 56)).alloc (.cells #[.string q] 9)).alloc (.cells #[.slice none 0 0, .slice none 0 0] 56) = W := ⟨_, rfl⟩
  rw [hW] at hb0 hbox hqb hres
  have hsz := (Array.getElem?_eq_some_iff.1 hres).1
  have hcr := cr.copy_routes es bs a0 b0 ec bc W hel hbl hes hbs (hE.below hb0) (hB.below hb0)
  have x0 : W.cell? ⟨w.heap.size, 0, none⟩ = some (.slice (some ⟨a0, 0, none⟩) es.length ec) := bcell hbox rfl
  have x1 : W.cell? ⟨w.heap.size, 1, none⟩ = some (.slice (some ⟨b0, 0, none⟩) bs.length bc) := bcell hbox rfl
  have HQ : Hid (W.heap[w.heap.size + 1]? = some (.cells #[.string q] 9 (0, 0))) := hqb
  have HR : Hid (W.heap[w.heap.size + 1 + 1]? = some (.cells #[.slice none 0 0, .slice none 0 0] 56 (0, 0))) := hres
  clear hbox hqb hres hE hB hes hbs
  go_enter Try.func45, Try.ntmps45
  go_wp2_with (go_at_call 103; fail)
  clear hW
  refine hcr.mono ?_
  rintro e w1 ⟨g, h, rfl, hg, hh, hgh, fe, fb, hb1⟩
  have hs1 := hb1.size
  have hal : Below w1.heap.size w1 (w1.alloc (.cells #[.slice (some ⟨g, 0, none⟩) es.length es.length, .slice (some ⟨h, 0, none⟩) bs.length bs.length] 56)) := (Below.refl _ _).alloc (Nat.le_refl _) _
  have hn := bnew w1 #[.slice (some ⟨g, 0, none⟩) es.length es.length, .slice (some ⟨h, 0, none⟩) bs.length bs.length] 56
  have hq2 := bold (bstay HQ.out hb1 (by omega)) (.cells #[.slice (some ⟨g, 0, none⟩) es.length es.length, .slice (some ⟨h, 0, none⟩) bs.length bs.length] 56)
  have hr2 := bold (bstay HR.out hb1 (by omega)) (.cells #[.slice (some ⟨g, 0, none⟩) es.length es.length, .slice (some ⟨h, 0, none⟩) bs.length bs.length] 56)
  have fe2 := fe.below hal fe.lt
  have fb2 := fb.below hal fb.lt
  have hdf := delete_func q bs h bs.length (w.heap.size + 1) _ hbl (Nat.le_refl _) (bcell hq2 rfl) (by omega) fb2
  have hfl := fe.lt
  have hhl := fb.lt
  obtain ⟨W2, hW2⟩ : ∃ W2, w1.alloc (.cells #[.slice (some ⟨g, 0, none⟩) es.length es.length, .slice (some ⟨h, 0, none⟩) bs.length bs.length] 56) = W2 := ⟨_, rfl⟩
  rw [hW2] at hal hn hr2 fe2 hdf
  have y1 : W2.cell? ⟨w1.heap.size, 1, none⟩ = some (.slice (some ⟨h, 0, none⟩) bs.length bs.length) := bcell hn rfl
  have HN : Hid (W2.heap[w1.heap.size]? = some (.cells #[.slice (some ⟨g, 0, none⟩) es.length es.length, .slice (some ⟨h, 0, none⟩) bs.length bs.length] 56 (0, 0))) := hn
  have HR2 : Hid (W2.heap[w.heap.size + 1 + 1]? = some (.cells #[.slice none 0 0, .slice none 0 0] 56 (0, 0))) := hr2
  have HFE : Hid (FE W2 g es es.length) := fe2
  have hbw : Below w.heap.size w W2 := (hb0.trans (hb1.mono hb0.size)).trans (hal.mono (by omega))
  have hln := (Array.getElem?_eq_some_iff.1 hn).1
  clear hcr x0 x1 hn hr2 hq2 fe fb fe2 fb2
  go_wp2_with (go_at_call 113; fail)
  clear hW2
  refine hdf.mono ?_
  rintro e w3 ⟨rfl, hf3, hg3⟩
  have hb3 : Below w.heap.size w w3 := hbw.grown hg3 hbw.size fun b hb => by simp at hb; omega
  have n3 : w3.heap[w1.heap.size]? = some (.cells #[.slice (some ⟨g, 0, none⟩) es.length es.length, .slice (some ⟨h, 0, none⟩) bs.length bs.length] 56 (0, 0)) := by
    rw [hg3.block _ hln (by simp; omega)]; exact HN.out
  have r3 : w3.heap[w.heap.size + 1 + 1]? = some (.cells #[.slice none 0 0, .slice none 0 0] 56 (0, 0)) := by
    rw [hg3.block _ (by omega) (by simp; omega)]; exact HR2.out
  have fe3 : FE w3 g es es.length := cr.FE.keptE HFE.out (hg3.block g (by omega) (by simpa using hgh))
  have n30 : w3.cell? ⟨w1.heap.size, 0, none⟩ = some (.slice (some ⟨g, 0, none⟩) es.length es.length) := bcell n3 rfl
  have n31 : w3.cell? ⟨w1.heap.size, 1, none⟩ = some (.slice (some ⟨h, 0, none⟩) bs.length bs.length) := bcell n3 rfl
  have n3f := bfree n3 1
  have r30 : w3.cell? ⟨w.heap.size + 1 + 1, 0, none⟩ = some (.slice none 0 0) := bcell r3 rfl
  have r31 : w3.cell? ⟨w.heap.size + 1 + 1, 1, none⟩ = some (.slice none 0 0) := bcell r3 rfl
  have rf0 := bfree r3 0
  have rf1 := bfree r3 1
  have hne : w1.heap.size ≠ w.heap.size + 1 + 1 := by omega
  obtain ⟨F, hF⟩ : ∃ F, (bs.filter fun b => !mine q b) = F := ⟨_, rfl⟩
  have HF : Hid ((bs.filter fun b => !mine q b) = F) := hF
  rw [hF] at hf3 ⊢
  have HF3 : Hid (FB w3 h F F.length) := hf3
  have HFE3 : Hid (FE w3 g es es.length) := fe3
  clear hF hdf y1 n3 r3 hf3 fe3
  go_wp2
  refine bodyPost_ret (v := .agg #[.slice (some ⟨g, 0, none⟩) es.length es.length, .slice (some ⟨h, 0, none⟩) F.length bs.length]) (by simp [results, Try.results45, go_sem, r30, r31]) rfl ?_
  rw [HF.out]
  refine ⟨g, h, rfl, by omega, by omega, hgh, ?_, ?_, ?_⟩
  · exact cr.FE.keptE (cr.FE.keptE (cr.FE.keptE HFE3.out (Below.heap_setCell _ _ _ _ (by show g ≠ w1.heap.size; omega))) (Below.heap_setCell _ _ _ _ (by show g ≠ w.heap.size + 1 + 1; omega))) (Below.heap_setCell _ _ _ _ (by show g ≠ w.heap.size + 1 + 1; omega))
  · exact cr.FB.keptB (cr.FB.keptB (cr.FB.keptB HF3.out (Below.heap_setCell _ _ _ _ (by show h ≠ w1.heap.size; omega))) (Below.heap_setCell _ _ _ _ (by show h ≠ w.heap.size + 1 + 1; omega))) (Below.heap_setCell _ _ _ _ (by show h ≠ w.heap.size + 1 + 1; omega))
  · exact ((hb3.setCell (by show w.heap.size ≤ w1.heap.size; omega) _).setCell (by show w.heap.size ≤ w.heap.size + 1 + 1; omega) _).setCell (by show w.heap.size ≤ w.heap.size + 1 + 1; omega) _
end Go.Proofs.Ytecdkidhncmeeaa.iu
