/- FnTable: the contracts in the words of its walk: a table that was drawn, or that was answered, and what is asked of it. -/
import Derived.Test.YtokaoafbgebelaaTd17
import Derived.Test.YtokaoafbgebelaaTd05
import Derived.Test.YtokaoafbgebelaaTd02
import Derived.Test.YtokaoafbgebelaaTd15
import Derived.Test.YtokaoafbgebelaaTd16
import Derived.Test.YtokaoafbgebelaaTd12
import Derived.Test.YtokaoafbgebelaaTd11

/- The program's withYoung, TablePut and TableDrop. -/
namespace Go.Proofs.Ytokaoafbgebelaa.pti
open Go.ChangeShapes Go.WideShapes Go.ChangeAt Go.RowKit Go.Proofs.Ytokaoafbgebelaa.fl Go.Proofs.Ytokaoafbgebelaa.fo Go.Proofs.Ytokaoafbgebelaa.rn Go.Proofs.Ytokaoafbgebelaa.tko Go.Proofs.Ytokaoafbgebelaa.ptp Go.Proofs.Ytokaoafbgebelaa.tan Go.Proofs.Ytokaoafbgebelaa.fls
set_option linter.unusedVariables false

theorem own_owns {α : Type} {c : α → List Value} {n B g : Nat} {U : TypeId} {l : List α} {w : World} (hn : ∀ e, (c e).length = n) (ho : Own c n U w g l l.length) (hB : B ≤ g) (hl : l.length ≤ maxLen) : w.ownsRow B U n (.slice (some ⟨g, 0, none⟩) l.length l.length) l.length (l.flatMap c) := by
  obtain ⟨cur, h1, h2, h3⟩ := ho
  refine ⟨flat_len hn l, .inr ⟨g, l.length, cur, rfl, hB, h1, Nat.le_refl _, hl, h2, ?_⟩⟩
  apply List.ext_getElem?
  intro j
  by_cases hj : j < l.length * n
  · rw [List.getElem?_take_of_lt hj]
    have hj2 : j < (l.flatMap c).length := by rw [flat_len hn]; exact hj
    obtain ⟨u, hu⟩ : ∃ u, (l.flatMap c)[j]? = some u := ⟨_, List.getElem?_eq_getElem hj2⟩
    obtain ⟨i, e, r, k1, k2, k3⟩ := flat_get hn l j _ hu
    rw [hu]
    subst k3
    have := h3 i e (List.getElem?_eq_some_iff.1 k1).1 k1 r _ k2
    simpa using this
  · rw [List.getElem?_eq_none (by rw [List.length_take]; omega), List.getElem?_eq_none (by rw [flat_len hn]; omega)]
theorem owns_ownO {α : Type} {c : α → List Value} {n B g cap : Nat} {U : TypeId} {l : List α} {w : World} (hn : ∀ e, (c e).length = n) (ho : w.ownsRow B U n (.slice (some ⟨g, 0, none⟩) l.length cap) l.length (l.flatMap c)) : OwnO c n U w g 0 l l.length := by
  obtain ⟨_, ⟨h1, _⟩ | ⟨g', cap', cur, h1, h2, h3, h4, h5, h6, h7⟩⟩ := ho
  · cases h1
  cases h1
  refine ⟨cur, h3, by rw [h6, Nat.zero_add]; exact Nat.mul_le_mul_right n h4, fun i e hi he j v hv => ?_⟩
  have hf := flat_at hn l i e he j v hv
  rw [← h7] at hf
  have hlt := (List.getElem?_eq_some_iff.1 hf).1
  rw [List.length_take] at hlt
  rw [List.getElem?_take_of_lt (by omega)] at hf
  rw [Nat.zero_add]
  simpa using hf
/-- a copy given back as it is -/
theorem ta_set {w' : World} {B r n g h : Nat} {ys : List flP.Pr} {ks : List Rn} (hn : n = ks.length) (hr : r < B) (ho : Own flP.c 3 40 w' g ys ys.length) (hor : OR w' B h n ks) (hg : B ≤ g) (hh : B ≤ h) (hne : ∀ (i : Nat) (r : Rn), ks[i]? = some r → r.a ≠ some ⟨g, 0, none⟩) (u v : Value) : TA ((w'.setCell ⟨r, 0, none⟩ u).setCell ⟨r, 1, none⟩ v) B (some ⟨g, 0, none⟩) (some ⟨h, 0, none⟩) ys ks := by
  subst hn
  exact of_own_runs (B' := B) ((ho.kept (Below.heap_setCell _ _ _ _ (show g ≠ r by omega))).kept (Below.heap_setCell _ _ _ _ (show g ≠ r by omega))) ((hor.set hr (by omega) _ _).set hr (by omega) _ _) hg hh (Nat.le_refl _) hne
theorem or_turn {w w' : World} {B h n : Nat} {ks : List Rn} (ho : OR w B h n ks) (hk : ∀ k, k = h ∨ (∃ (i : Nat) (r : Rn), ks[i]? = some r ∧ r.a = some ⟨k, 0, none⟩) → w'.heap[k]? = w.heap[k]?) : OR w' B h n ks := by
  obtain ⟨cur, h1, h2⟩ := ho.blk
  refine ⟨⟨cur, (hk h (.inl rfl)).trans h1, h2⟩, fun i r hr => ?_, ho.nd⟩
  obtain ⟨h', e, h3, h4, h5⟩ := ho.own i r hr
  exact ⟨h', e, h3, h4, h5.kept (hk h' (.inr ⟨i, r, hr, e⟩))⟩
/-- what stands when the pair is put in -/
structure NX (w : World) (BX : Array Value) (B n4 g2 n5 c2 h n : Nat) (ks : List Rn) (l : List flP.Pr) (X : World) : Prop where
  bel : Below w.heap.size w X
  box : X.heap[w.heap.size]? = some (.cells BX 27 (0, 0))
  res : X.heap[w.heap.size + 1 + 1]? = some (.cells #[.slice none 0 0, .slice none 0 0] 27 (0, 0))
  out : X.heap[n4]? = some (.cells #[.slice (some ⟨g2, 0, none⟩) n5 c2, .slice (some ⟨h, 0, none⟩) n n] 27 (0, 0))
  ow : X.ownsRow B 40 3 (.slice (some ⟨g2, 0, none⟩) n5 c2) n5 (l.flatMap flP.c)
  orr : OR X B h n ks
  ne : ∀ (i : Nat) (r : Rn), ks[i]? = some r → r.a ≠ some ⟨g2, 0, none⟩
theorem NX.on {w X X' : World} {BX : Array Value} {B n4 g2 n5 c2 h n : Nat} {ks : List Rn} {l : List flP.Pr} (hx : NX w BX B n4 g2 n5 c2 h n ks l X) (hb : Below X.heap.size X X') : NX w BX B n4 g2 n5 c2 h n ks l X' :=
  ⟨hx.bel.trans (hb.mono hx.bel.size), bstay hx.box hb (Array.getElem?_eq_some_iff.1 hx.box).1, bstay hx.res hb (Array.getElem?_eq_some_iff.1 hx.res).1, bstay hx.out hb (Array.getElem?_eq_some_iff.1 hx.out).1, pts.own_on hx.ow hb, hx.orr.on hb, hx.ne⟩
theorem nx_of {w W4 w5 w6 : World} {BX : Array Value} {B n4 g g2 n5 c2 h n : Nat} {ks : List Rn} {ys l : List flP.Pr} (h0 : Below w.heap.size w W4) (hA : W4.heap[w.heap.size]? = some (.cells BX 27 (0, 0))) (hR : W4.heap[w.heap.size + 1 + 1]? = some (.cells #[.slice none 0 0, .slice none 0 0] 27 (0, 0))) (hN : W4.heap[n4]? = some (.cells #[.slice (some ⟨g, 0, none⟩) ys.length ys.length, .slice (some ⟨h, 0, none⟩) n n] 27 (0, 0))) (hO : Own flP.c 3 40 W4 g ys ys.length) (hor : OR W4 B h n ks) (hne : ∀ (i : Nat) (r : Rn), ks[i]? = some r → r.a ≠ some ⟨g, 0, none⟩) (hw : w.heap.size + 3 ≤ n4) (hgB : w.heap.size + 3 ≤ g)
    (h5 : Below W4.heap.size W4 w5) (hown : w6.ownsRow B 40 3 (.slice (some ⟨g2, 0, none⟩) n5 c2) n5 (l.flatMap flP.c)) (hat : g2 = g ∨ w5.heap.size ≤ g2) (hgr : w5.grownBy w6 (some g)) : NX w BX B n4 g2 n5 c2 h n ks l (w6.setCell ⟨n4, 0, none⟩ (.slice (some ⟨g2, 0, none⟩) n5 c2)) := by
  have hs5 := h5.size
  have hng : n4 ≠ g := fun e => own_ne (by decide) hO hN e.symm
  obtain ⟨cu, hcu, _⟩ := hor.blk
  have hhg : h ≠ g := fun e => own_ne (by decide) hO hcu e.symm
  have hhn : h ≠ n4 := fun e => by subst e; rw [hN] at hcu; simp at hcu
  have blk6 : ∀ k, k < W4.heap.size → k ≠ g → w6.heap[k]? = W4.heap[k]? := fun k hk hkg => (hgr.block k (by omega) (fun e => hkg (Option.some.inj e))).trans (h5.block k hk)
  have hl := hor.lt
  have n6 : w6.heap[n4]? = _ := (blk6 n4 (Array.getElem?_eq_some_iff.1 hN).1 hng).trans hN
  have lA := (Array.getElem?_eq_some_iff.1 hA).1
  have lR := (Array.getElem?_eq_some_iff.1 hR).1
  have hb6 : Below w.heap.size w w6 := ⟨hgr.os.trans (h5.os.trans h0.os), hgr.tape.trans (h5.tape.trans h0.tape), hgr.output.trans (h5.output.trans h0.output), by have := hgr.size; have := h0.size; omega, fun k hk => (blk6 k (by have := h0.size; omega) (by omega)).trans (h0.block k hk)⟩
  refine ⟨hb6.setCell (show w.heap.size ≤ n4 by omega) _, boff ((blk6 _ lA (by omega)).trans hA) _ _ _ (by omega), boff ((blk6 _ lR (by omega)).trans hR) _ _ _ (by omega), bset n6 0 _, pts.own_set_ty hown n6 (by decide), or_turn hor (fun k hk => ?_), fun i r hr e => ?_⟩
  · rcases hk with rfl | ⟨i, r, hr, e⟩
    · exact (Below.heap_setCell _ _ _ _ hhn).trans (blk6 _ hl hhg)
    · obtain ⟨h', e', _, _, ho'⟩ := hor.own i r hr
      rw [e] at e'
      have e2 := congrArg Addr.block (Option.some.inj e')
      simp only at e2
      subst e2
      have hkg : k ≠ g := fun e3 => hne i r hr (by rw [e, e3])
      exact (Below.heap_setCell _ _ _ _ (own_ne (by decide) ho' hN)).trans (blk6 k ho'.lt hkg)
  · rcases hat with hat | hat
    · exact hne i r hr (by rw [e, hat])
    · obtain ⟨h', e', _, _, ho'⟩ := hor.own i r hr
      rw [e] at e'
      have e2 := congrArg Addr.block (Option.some.inj e')
      simp only at e2
      have := ho'.lt
      omega
/-- it is given back -/
theorem NX.ta {w X : World} {BX : Array Value} {B n4 g2 n5 c2 h n : Nat} {ks : List Rn} {l : List flP.Pr} (hx : NX w BX B n4 g2 n5 c2 h n ks l X) (hn : n = ks.length) (hl : l.length = n5) (hB : w.heap.size + 1 + 1 < B) (hh : B ≤ h) (u v : Value) : TA ((X.setCell ⟨w.heap.size + 1 + 1, 0, none⟩ u).setCell ⟨w.heap.size + 1 + 1, 1, none⟩ v) B (some ⟨g2, 0, none⟩) (some ⟨h, 0, none⟩) l ks := by
  subst hn
  subst hl
  have o1 := sct.own_set (j := 1) (u := v) (sct.own_set (j := 0) (u := u) hx.ow hB) hB
  have r1 := (hx.orr.set hB (by omega) 0 u).set hB (by omega) 1 v
  obtain ⟨cur, hc, _⟩ := r1.blk
  refine of_runs (.inr ⟨g2, 0, rfl, (o1.lt g2 rfl).1, owns_ownO flP.c_len o1⟩) hh hc r1.vr.1 (fun i r hr => ?_) r1.nd (fun i r hr k hk => ?_)
  · obtain ⟨h', e, _, hB', ho'⟩ := r1.own i r hr
    exact ⟨h', e, by omega, of_own ho'⟩
  · obtain ⟨_, g1, o1', a1, rfl⟩ := hk
    cases a1
    exact hx.ne i r hr

set_option maxRecDepth 100000 in
set_option maxHeartbeats 8000000 in
theorem impl_with (ys : List flP.Pr) (rs : List Rn) (ya ra : Option Addr) (yc rc : Nat) (pk pv : ByteArray) (pg : Bool) (w : World) (F : tb.Fit ys rs) (hpk : pk.size ≤ 1048576) (hpv : pv.size ≤ 1048576) (hY : Row flP.c 3 w w.heap.size ya ys) (hR : VR w w.heap.size ra rs) :
    Calls Try.prog 33 #[.agg #[.slice ya ys.length yc, .slice ra rs.length rc], .agg #[.string pk, .string pv, .bool pg]] w fun e w' => ∃ sa sc ta tc ks, e = .returned (.tuple #[.agg #[.slice sa (withY ys (rs.map (·.l)) ⟨pk, pv, pg⟩).length sc, .slice ta rs.length tc], .bool (withB ys (rs.map (·.l)) ⟨pk, pv, pg⟩)]) ∧ (ta.isSome = true ∧ ks.map (·.l) = rs.map (·.l)) ∧ TA w' (w.heap.size + 3) sa ta (withY ys (rs.map (·.l)) ⟨pk, pv, pg⟩) ks ∧ Below w.heap.size w w' := by
  have hb : Below w.heap.size w (((w.alloc (.cells #[.slice ya ys.length yc, .slice ra rs.length rc] 27)).alloc (.cells #[.string pk, .string pv, .bool pg] 40)).alloc (.cells #[.slice none 0 0, .slice none 0 0] 27)) := (((Below.refl _ _).alloc (Nat.le_refl _) _).alloc (by simp) _).alloc (by simp; omega) _
  have hA := bold (bold (bnew w #[.slice ya ys.length yc, .slice ra rs.length rc] 27) (.cells #[.string pk, .string pv, .bool pg] 40)) (.cells #[.slice none 0 0, .slice none 0 0] 27)
  have hPx := bold (bnew (w.alloc (.cells #[.slice ya ys.length yc, .slice ra rs.length rc] 27)) #[.string pk, .string pv, .bool pg] 40) (.cells #[.slice none 0 0, .slice none 0 0] 27)
  rw [World.size_alloc] at hPx
  have hRs := bnew ((w.alloc (.cells #[.slice ya ys.length yc, .slice ra rs.length rc] 27)).alloc (.cells #[.string pk, .string pv, .bool pg] 40)) #[.slice none 0 0, .slice none 0 0] 27
  rw [World.size_alloc, World.size_alloc] at hRs
  obtain ⟨W, hW⟩ : ∃ W, (((w.alloc (.cells #[.slice ya ys.length yc, .slice ra rs.length rc] 27)).alloc (.cells #[.string pk, .string pv, .bool pg] 40)).alloc (.cells #[.slice none 0 0, .slice none 0 0] 27)) = W := ⟨_, rfl⟩
  have hsW : W.heap.size = w.heap.size + 3 := by rw [← hW]; simp
  rw [hW] at hb hA hRs hPx
  have hok := impl_okb ys rs ya ra yc rc W F (hY.inn hb) (hR.inn hb)
  have HF : Hid (tb.Fit ys rs) := F
  have hrl := F.rl
  have hyl := F.yl
  have HY : Hid (Row flP.c 3 w w.heap.size ya ys) := hY
  have HR : Hid (VR w w.heap.size ra rs) := hR
  have HA : Hid (W.heap[w.heap.size]? = some (.cells #[.slice ya ys.length yc, .slice ra rs.length rc] 27 (0, 0))) := hA
  have HPX : Hid (W.heap[w.heap.size + 1]? = some (.cells #[.string pk, .string pv, .bool pg] 40 (0, 0))) := hPx
  have HRS : Hid (W.heap[w.heap.size + 1 + 1]? = some (.cells #[.slice none 0 0, .slice none 0 0] 27 (0, 0))) := hRs
  have p0 : W.cell? ⟨w.heap.size, 0, none⟩ = some (.slice ya ys.length yc) := bcell hA rfl
  have p1 : W.cell? ⟨w.heap.size, 1, none⟩ = some (.slice ra rs.length rc) := bcell hA rfl
  clear hY hR hA hRs hPx F
  go_enter Try.func33, Try.ntmps33
  go_wp2_with (go_at_call 12; fail)
  clear hW p0 p1
  refine hok.mono ?_
  rintro e w2 ⟨rfl, hb2⟩
  have b2 := bstay HA.out hb2 (by omega)
  have r2 := bstay HRS.out hb2 (by omega)
  have s2 := bstay HPX.out hb2 (by omega)
  have hBw2 : Below w.heap.size w w2 := hb.trans (hb2.mono hb.size)
  have hcp := cpt.copy_table ys rs ya ra yc rc w2 HF.out (HY.out.inn hBw2) (HR.out.inn hBw2)
  have x0 : w2.cell? ⟨w.heap.size, 0, none⟩ = some (.slice ya ys.length yc) := bcell b2 rfl
  have x1 : w2.cell? ⟨w.heap.size, 1, none⟩ = some (.slice ra rs.length rc) := bcell b2 rfl
  have HA2 : Hid (w2.heap[w.heap.size]? = some (.cells #[.slice ya ys.length yc, .slice ra rs.length rc] 27 (0, 0))) := b2
  have HP2 : Hid (w2.heap[w.heap.size + 1]? = some (.cells #[.string pk, .string pv, .bool pg] 40 (0, 0))) := s2
  have HR2 : Hid (w2.heap[w.heap.size + 1 + 1]? = some (.cells #[.slice none 0 0, .slice none 0 0] 27 (0, 0))) := r2
  have hs2 : w.heap.size + 3 ≤ w2.heap.size := by have := hb2.size; omega
  clear hok b2 r2 s2 HA HPX HRS hb2
  cases hob : okB ys (rs.map (·.l)) with
  | false =>
    have HC : Hid (withB ys (rs.map (·.l)) ⟨pk, pv, pg⟩ = false) := by show withB ys (rs.map (·.l)) ⟨pk, pv, pg⟩ = false; unfold withB; rw [hob]; rfl
    have HYQ : Hid (withY ys (rs.map (·.l)) ⟨pk, pv, pg⟩ = ys) := by show withY ys (rs.map (·.l)) ⟨pk, pv, pg⟩ = ys; unfold withY; rw [HC.out]; rfl
    clear hob
    go_wp2_with (go_at_call 43; fail)
    clear x0 x1
    refine hcp.mono ?_
    rintro e w3 ⟨g, h, ks, rfl, m3, hg3, hh3, ho3, hor3, hne3, hb3⟩
    have l3 : rs.length = ks.length := by have := congrArg List.length m3; simpa using this.symm
    have r3 := bstay HR2.out hb3 (by omega)
    have r0 : w3.cell? ⟨w.heap.size + 1 + 1, 0, none⟩ = some (.slice none 0 0) := bcell r3 rfl
    have r1 : w3.cell? ⟨w.heap.size + 1 + 1, 1, none⟩ = some (.slice none 0 0) := bcell r3 rfl
    have f0 := bfree r3 0
    have f1 := bfree r3 1
    have HTA : Hid (TA ((w3.setCell ⟨w.heap.size + 1 + 1, 0, none⟩ (.slice (some ⟨g, 0, none⟩) ys.length ys.length)).setCell ⟨w.heap.size + 1 + 1, 1, none⟩ (.slice (some ⟨h, 0, none⟩) rs.length rs.length)) (w.heap.size + 3) (some ⟨g, 0, none⟩) (some ⟨h, 0, none⟩) ys ks) := (ta_set (B := w2.heap.size + 2) l3 (by omega) ho3 hor3 hg3 hh3 hne3 _ _).wide (by omega)
    have HM : Hid (ks.map (·.l) = rs.map (·.l)) := m3
    have HB3 : Hid (Below w.heap.size w w3) := hBw2.trans (hb3.mono hBw2.size)
    clear hcp m3 ho3 hor3 hne3 l3 r3 hb3
    go_wp2
    exact bodyPost_ret (v := .tuple #[.agg #[.slice (some ⟨g, 0, none⟩) ys.length ys.length, .slice (some ⟨h, 0, none⟩) rs.length rs.length], .bool false]) (by simp [results, Try.results33, go_sem, r0, r1]) rfl ⟨some ⟨g, 0, none⟩, ys.length, some ⟨h, 0, none⟩, rs.length, ks, by rw [HYQ.out, HC.out], ⟨rfl, HM.out⟩, by rw [HYQ.out]; exact HTA.out, (HB3.out.setCell (show w.heap.size ≤ w.heap.size + 1 + 1 by omega) _).setCell (show w.heap.size ≤ w.heap.size + 1 + 1 by omega) _⟩
  | true =>
    have HOK : Hid (tk.OkT ys (rs.map (·.l))) := okB_true.1 hob
    have HOB : Hid (okB ys (rs.map (·.l)) = true) := hob
    clear hob
    go_wp2_with (go_at_call 43; fail)
    clear x0 x1
    refine hcp.mono ?_
    rintro e w3 ⟨g, h, ks, rfl, m3, hg3, hh3, ho3, hor3, hne3, hb3⟩
    have l3 : rs.length = ks.length := by have := congrArg List.length m3; simpa using this.symm
    have hal : Below w3.heap.size w3 (w3.alloc (.cells #[.slice (some ⟨g, 0, none⟩) ys.length ys.length, .slice (some ⟨h, 0, none⟩) rs.length rs.length] 27)) := (Below.refl _ _).alloc (Nat.le_refl _) _
    have hN := bnew w3 #[.slice (some ⟨g, 0, none⟩) ys.length ys.length, .slice (some ⟨h, 0, none⟩) rs.length rs.length] 27
    have of4 := ho3.below hal ho3.lt
    have or4 := hor3.on hal
    have hgl := ho3.lt
    have hs3 := hb3.size
    obtain ⟨W4, hW4⟩ : ∃ W4, w3.alloc (.cells #[.slice (some ⟨g, 0, none⟩) ys.length ys.length, .slice (some ⟨h, 0, none⟩) rs.length rs.length] 27) = W4 := ⟨_, rfl⟩
    have hsW4 : W4.heap.size = w3.heap.size + 1 := by rw [← hW4]; simp
    rw [hW4] at hal hN of4 or4
    have hB24 : Below w2.heap.size w2 W4 := hb3.trans (hal.mono hs3)
    have hBw4 : Below w.heap.size w W4 := hBw2.trans (hB24.mono hBw2.size)
    have a4 := bstay HA2.out hB24 (by omega)
    have s4 := bstay HP2.out hB24 (by omega)
    have hng : w3.heap.size ≠ g := fun e => own_ne (by decide) of4 hN e.symm
    obtain ⟨n5, hn5⟩ : ∃ n5, (setP ys ⟨pk, pv, pg⟩).length = n5 := ⟨_, rfl⟩
    have SO : Hid (∀ w5, Below W4.heap.size W4 w5 → Calls Try.prog 57 #[.slice (some ⟨g, 0, none⟩) ys.length ys.length, .agg #[.string pk, .string pv, .bool pg], .func (.func 41) #[] #[]] w5 fun e w' => ∃ g2 c2, e = .returned (.slice (some ⟨g2, 0, none⟩) n5 c2) ∧ w'.ownsRow (w2.heap.size + 2) 40 3 (.slice (some ⟨g2, 0, none⟩) n5 c2) n5 ((setP ys ⟨pk, pv, pg⟩).flatMap flP.c) ∧ (g2 = g ∨ w5.heap.size ≤ g2) ∧ w5.grownBy w' (some g)) := fun w5 h5 => by
      have := psi.impl_sorted ys g (w2.heap.size + 2) pk pv pg w5 hyl HOK.out.yo.up (by have := h5.size; omega) (own_owns flP.c_len (of4.below h5 (by omega)) hg3 (by unfold maxLen; omega))
      rw [hn5] at this
      exact this
    have N0 : Hid (∀ w5, Below W4.heap.size W4 w5 → w5.cell? ⟨w3.heap.size, 0, none⟩ = some (.slice (some ⟨g, 0, none⟩) ys.length ys.length)) := fun w5 h5 => bcell (bstay hN h5 (by omega)) rfl
    have N6 : Hid (∀ w5 w6, Below W4.heap.size W4 w5 → w5.grownBy w6 (some g) → w6.cell? ⟨w3.heap.size, 0, none⟩ = some (.slice (some ⟨g, 0, none⟩) ys.length ys.length) ∧ w6.frozen? ⟨w3.heap.size, 0, none⟩ = false) := fun w5 w6 h5 h6 => by
      have h := (h6.block _ (by have := h5.size; omega) (fun e => hng (Option.some.inj e))).trans (bstay hN h5 (by omega))
      exact ⟨bcell h rfl, bfree h 0⟩
    have hcpp := cpp.copy_pair ⟨pk, pv, pg⟩ W4.drew ⟨hpk, hpv⟩
    have c0 : W4.cell? ⟨w3.heap.size, 0, none⟩ = some (.slice (some ⟨g, 0, none⟩) ys.length ys.length) := bcell hN rfl
    have q0 : W4.cell? ⟨w.heap.size + 1, 0, none⟩ = some (.string pk) := bcell s4 rfl
    have q1 : W4.cell? ⟨w.heap.size + 1, 1, none⟩ = some (.string pv) := bcell s4 rfl
    have q2 : W4.cell? ⟨w.heap.size + 1, 2, none⟩ = some (.bool pg) := bcell s4 rfl
    have HA4 : Hid (W4.heap[w.heap.size]? = some (.cells #[.slice ya ys.length yc, .slice ra rs.length rc] 27 (0, 0))) := a4
    have HR4 : Hid (W4.heap[w.heap.size + 1 + 1]? = some (.cells #[.slice none 0 0, .slice none 0 0] 27 (0, 0))) := bstay HR2.out hB24 (by omega)
    have HN4 : Hid (W4.heap[w3.heap.size]? = some (.cells #[.slice (some ⟨g, 0, none⟩) ys.length ys.length, .slice (some ⟨h, 0, none⟩) rs.length rs.length] 27 (0, 0))) := hN
    have HOF4 : Hid (Own flP.c 3 40 W4 g ys ys.length) := of4
    have HOR4 : Hid (OR W4 (w2.heap.size + 2) h rs.length ks) := or4
    have HNE : Hid (∀ (i : Nat) (r : Rn), ks[i]? = some r → r.a ≠ some ⟨g, 0, none⟩) := hne3
    have HM : Hid (ks.map (·.l) = rs.map (·.l)) := m3
    have HL : Hid (rs.length = ks.length) := l3
    have HN5 : Hid ((setP ys ⟨pk, pv, pg⟩).length = n5) := hn5
    clear hcp ho3 hor3 hne3 hN of4 or4 m3 l3 hal a4 s4 hn5 HA2 HP2 HR2
    go_wp2
    clear hW4
    go_region_with (first | (go_at_call 39; refine hcpp.mono ?_; rintro e w5 ⟨rfl, hb5⟩; have hb5' : Below W4.heap.size W4 w5 := (Below.refl _ W4).drew.trans hb5; have hso := SO.out w5 hb5'; have n0 := N0.out w5 hb5') | (go_at_call 57; refine hso.mono ?_; rintro e w6 ⟨g2, c2, rfl, hown6, hat6, hgr6⟩; obtain ⟨m0, m1⟩ := N6.out w5 w6 hb5' hgr6))
    all_goals
      have hnx := nx_of hBw4 HA4.out HR4.out HN4.out HOF4.out HOR4.out HNE.out (by omega) (by omega) hb5' hown6 hat6 hgr6
      obtain ⟨X, hX⟩ : ∃ X, w6.setCell ⟨w3.heap.size, 0, none⟩ (.slice (some ⟨g2, 0, none⟩) n5 c2) = X := ⟨_, rfl⟩
      rw [hX] at hnx
      have HNX : Hid (NX w #[.slice ya ys.length yc, .slice ra rs.length rc] (w2.heap.size + 2) w3.heap.size g2 n5 c2 h rs.length ks (setP ys ⟨pk, pv, pg⟩) X) := hnx
      have hok2 := impl_okb (setP ys ⟨pk, pv, pg⟩) ks (some ⟨g2, 0, none⟩) (some ⟨h, 0, none⟩) c2 rs.length X ((fit_with HF.out HOK.out hpk hpv).of HM.out) (row_of flP.c_len rfl (by rw [HN5.out]; exact hnx.ow)) (OR.vr (by rw [← HL.out]; exact hnx.orr))
      rw [HM.out, HN5.out, ← HL.out] at hok2
      have t0 : X.cell? ⟨w3.heap.size, 0, none⟩ = some (.slice (some ⟨g2, 0, none⟩) n5 c2) := bcell hnx.out rfl
      have t1 : X.cell? ⟨w3.heap.size, 1, none⟩ = some (.slice (some ⟨h, 0, none⟩) rs.length rs.length) := bcell hnx.out rfl
      clear hnx hown6 hat6 hgr6 hso n0 hcpp c0 q0 q1 q2 SO N0 N6 hb5 hb5'
      go_wp2_with (go_at_call 12; fail)
      clear hX t0 t1 m0 m1
      refine hok2.mono ?_
      rintro e w7 ⟨rfl, hb7⟩
      have HX7 : Hid (NX w #[.slice ya ys.length yc, .slice ra rs.length rc] (w2.heap.size + 2) w3.heap.size g2 n5 c2 h rs.length ks (setP ys ⟨pk, pv, pg⟩) w7) := HNX.out.on hb7
      clear hok2 hb7 HNX
      cases hob2 : okB (setP ys ⟨pk, pv, pg⟩) (rs.map (·.l)) with
      | true =>
        have HC : Hid (withB ys (rs.map (·.l)) ⟨pk, pv, pg⟩ = true) := by show withB ys (rs.map (·.l)) ⟨pk, pv, pg⟩ = true; unfold withB; rw [HOB.out, hob2]; rfl
        have HYQ : Hid (withY ys (rs.map (·.l)) ⟨pk, pv, pg⟩ = setP ys ⟨pk, pv, pg⟩) := by show withY ys (rs.map (·.l)) ⟨pk, pv, pg⟩ = setP ys ⟨pk, pv, pg⟩; unfold withY; rw [HC.out]; rfl
        have y0 : w7.cell? ⟨w3.heap.size, 0, none⟩ = some (.slice (some ⟨g2, 0, none⟩) n5 c2) := bcell HX7.out.out rfl
        have y1 : w7.cell? ⟨w3.heap.size, 1, none⟩ = some (.slice (some ⟨h, 0, none⟩) rs.length rs.length) := bcell HX7.out.out rfl
        have r0 : w7.cell? ⟨w.heap.size + 1 + 1, 0, none⟩ = some (.slice none 0 0) := bcell HX7.out.res rfl
        have r1 : w7.cell? ⟨w.heap.size + 1 + 1, 1, none⟩ = some (.slice none 0 0) := bcell HX7.out.res rfl
        have f0 := bfree HX7.out.res 0
        have f1 := bfree HX7.out.res 1
        clear hob2
        go_wp2
        exact bodyPost_ret (v := .tuple #[.agg #[.slice (some ⟨g2, 0, none⟩) n5 c2, .slice (some ⟨h, 0, none⟩) rs.length rs.length], .bool true]) (by simp [results, Try.results33, go_sem, r0, r1]) rfl ⟨some ⟨g2, 0, none⟩, c2, some ⟨h, 0, none⟩, rs.length, ks, by rw [HYQ.out, HC.out, HN5.out], ⟨rfl, HM.out⟩, by rw [HYQ.out]; exact (HX7.out.ta HL.out HN5.out (by omega) hh3 _ _).wide (by omega), (HX7.out.bel.setCell (show w.heap.size ≤ w.heap.size + 1 + 1 by omega) _).setCell (show w.heap.size ≤ w.heap.size + 1 + 1 by omega) _⟩
      | false =>
        have HC : Hid (withB ys (rs.map (·.l)) ⟨pk, pv, pg⟩ = false) := by show withB ys (rs.map (·.l)) ⟨pk, pv, pg⟩ = false; unfold withB; rw [HOB.out, hob2]; rfl
        have HYQ : Hid (withY ys (rs.map (·.l)) ⟨pk, pv, pg⟩ = ys) := by show withY ys (rs.map (·.l)) ⟨pk, pv, pg⟩ = ys; unfold withY; rw [HC.out]; rfl
        have y0 : w7.cell? ⟨w.heap.size, 0, none⟩ = some (.slice ya ys.length yc) := bcell HX7.out.box rfl
        have y1 : w7.cell? ⟨w.heap.size, 1, none⟩ = some (.slice ra rs.length rc) := bcell HX7.out.box rfl
        have hcp := cpt.copy_table ys rs ya ra yc rc w7 HF.out (HY.out.inn HX7.out.bel) (HR.out.inn HX7.out.bel)
        have hs7 : w.heap.size + 1 + 1 < w7.heap.size := (Array.getElem?_eq_some_iff.1 HX7.out.res).1
        clear hob2
        go_wp2_with (go_at_call 43; fail)
        clear y0 y1
        refine hcp.mono ?_
        rintro e w8 ⟨g8, h8, k8, rfl, m8, hg8, hh8, ho8, hor8, hne8, hb8⟩
        have l8 : rs.length = k8.length := by have := congrArg List.length m8; simpa using this.symm
        have r8 := bstay HX7.out.res hb8 hs7
        have r0 : w8.cell? ⟨w.heap.size + 1 + 1, 0, none⟩ = some (.slice none 0 0) := bcell r8 rfl
        have r1 : w8.cell? ⟨w.heap.size + 1 + 1, 1, none⟩ = some (.slice none 0 0) := bcell r8 rfl
        have f0 := bfree r8 0
        have f1 := bfree r8 1
        have HTA : Hid (TA ((w8.setCell ⟨w.heap.size + 1 + 1, 0, none⟩ (.slice (some ⟨g8, 0, none⟩) ys.length ys.length)).setCell ⟨w.heap.size + 1 + 1, 1, none⟩ (.slice (some ⟨h8, 0, none⟩) rs.length rs.length)) (w.heap.size + 3) (some ⟨g8, 0, none⟩) (some ⟨h8, 0, none⟩) ys k8) := (ta_set (B := w7.heap.size + 2) l8 (by omega) ho8 hor8 hg8 hh8 hne8 _ _).wide (by omega)
        have HM8 : Hid (k8.map (·.l) = rs.map (·.l)) := m8
        have HB8 : Hid (Below w.heap.size w w8) := HX7.out.bel.trans (hb8.mono HX7.out.bel.size)
        clear hcp m8 ho8 hor8 hne8 l8 r8 hb8
        go_wp2
        exact bodyPost_ret (v := .tuple #[.agg #[.slice (some ⟨g8, 0, none⟩) ys.length ys.length, .slice (some ⟨h8, 0, none⟩) rs.length rs.length], .bool false]) (by simp [results, Try.results33, go_sem, r0, r1]) rfl ⟨some ⟨g8, 0, none⟩, ys.length, some ⟨h8, 0, none⟩, rs.length, k8, by rw [HYQ.out, HC.out], ⟨rfl, HM8.out⟩, by rw [HYQ.out]; exact HTA.out, (HB8.out.setCell (show w.heap.size ≤ w.heap.size + 1 + 1 by omega) _).setCell (show w.heap.size ≤ w.heap.size + 1 + 1 by omega) _⟩

set_option maxRecDepth 100000 in
set_option maxHeartbeats 4000000 in
theorem impl_put (ys : List flP.Pr) (rs : List Rn) (ya ra : Option Addr) (yc rc : Nat) (xk xv : ByteArray) (w : World) (F : tb.Fit ys rs) (hpk : xk.size ≤ 1048576) (hpv : xv.size ≤ 1048576) (hY : Row flP.c 3 w w.heap.size ya ys) (hR : VR w w.heap.size ra rs) :
    Calls Try.prog 7 #[.agg #[.slice ya ys.length yc, .slice ra rs.length rc], .string xk, .string xv] w fun e w' => ∃ sa sc ta tc ks, e = .returned (.tuple #[.agg #[.slice sa (putY ys (rs.map (·.l)) xk xv).length sc, .slice ta (putR ys (rs.map (·.l)) xk xv).length tc], .bool (putB ys (rs.map (·.l)) xk xv)]) ∧ (ta.isSome = true ∧ ks.map (·.l) = putR ys (rs.map (·.l)) xk xv) ∧ TA w' w.heap.size sa ta (putY ys (rs.map (·.l)) xk xv) ks ∧ Below w.heap.size w w' := by
  have hb : Below w.heap.size w ((w.alloc (.cells #[.slice ya ys.length yc, .slice ra rs.length rc] 27)).alloc (.cells #[.slice none 0 0, .slice none 0 0] 27)) := ((Below.refl _ _).alloc (Nat.le_refl _) _).alloc (by simp) _
  have hA := bold (bnew w #[.slice ya ys.length yc, .slice ra rs.length rc] 27) (.cells #[.slice none 0 0, .slice none 0 0] 27)
  have hRs := bnew (w.alloc (.cells #[.slice ya ys.length yc, .slice ra rs.length rc] 27)) #[.slice none 0 0, .slice none 0 0] 27
  rw [World.size_alloc] at hRs
  obtain ⟨W, hW⟩ : ∃ W, ((w.alloc (.cells #[.slice ya ys.length yc, .slice ra rs.length rc] 27)).alloc (.cells #[.slice none 0 0, .slice none 0 0] 27)) = W := ⟨_, rfl⟩
  rw [hW] at hb hA hRs
  have hwt := impl_with ys rs ya ra yc rc xk xv false W F hpk hpv (hY.inn hb) (hR.inn hb)
  have HRS : Hid (W.heap[w.heap.size + 1]? = some (.cells #[.slice none 0 0, .slice none 0 0] 27 (0, 0))) := hRs
  have hWs := (Array.getElem?_eq_some_iff.1 hRs).1
  have p0 : W.cell? ⟨w.heap.size, 0, none⟩ = some (.slice ya ys.length yc) := bcell hA rfl
  have p1 : W.cell? ⟨w.heap.size, 1, none⟩ = some (.slice ra rs.length rc) := bcell hA rfl
  unfold putY putR putB
  obtain ⟨AY, hAY⟩ : ∃ AY, withY ys (rs.map (·.l)) ⟨xk, xv, false⟩ = AY := ⟨_, rfl⟩
  obtain ⟨AB, hAB⟩ : ∃ AB, withB ys (rs.map (·.l)) ⟨xk, xv, false⟩ = AB := ⟨_, rfl⟩
  rw [hAY, hAB] at hwt ⊢
  clear hY hR hA hRs F hAY hAB
  go_enter Try.func7, Try.ntmps7
  go_wp2_with (go_at_call 33; fail)
  clear hW p0 p1
  refine hwt.mono ?_
  rintro e w2 ⟨sa, sc, ta, tc, ks, rfl, hm, hta, hb2⟩
  have r2 := bstay HRS.out hb2 hWs
  have r0 : w2.cell? ⟨w.heap.size + 1, 0, none⟩ = some (.slice none 0 0) := bcell r2 rfl
  have r1 : w2.cell? ⟨w.heap.size + 1, 1, none⟩ = some (.slice none 0 0) := bcell r2 rfl
  have f0 := bfree r2 0
  have f1 := bfree r2 1
  have HB : Hid (Below w.heap.size w w2) := hb.trans (hb2.mono hb.size)
  have HTA : Hid (TA w2 (W.heap.size + 3) sa ta AY ks) := hta
  have HM : Hid (ta.isSome = true ∧ ks.map (·.l) = rs.map (·.l)) := hm
  clear hwt r2 hta hm hb2
  go_wp2
  have htn : Tn w2 ((w2.setCell ⟨w.heap.size + 1, 0, none⟩ (.slice sa AY.length sc)).setCell ⟨w.heap.size + 1, 1, none⟩ (.slice ta rs.length tc)) (fun k => k = w.heap.size + 1) := Tn.set (Tn.set (Tn.refl w2 (fun k => k = w.heap.size + 1)) (S := fun k => k = w.heap.size + 1) rfl 0 _) rfl 1 _
  exact bodyPost_ret (v := .tuple #[.agg #[.slice sa AY.length sc, .slice ta rs.length tc], .bool AB]) (by simp [results, Try.results7, go_sem, r0, r1]) rfl ⟨sa, sc, ta, tc, ks, by rw [List.length_map], HM.out, (HTA.out.turn htn (fun k hk => by omega)).wide (by omega), (HB.out.setCell (Nat.le_succ _) _).setCell (Nat.le_succ _) _⟩

set_option maxRecDepth 100000 in
set_option maxHeartbeats 4000000 in
theorem impl_drop (ys : List flP.Pr) (rs : List Rn) (ya ra : Option Addr) (yc rc : Nat) (xk : ByteArray) (w : World) (F : tb.Fit ys rs) (hpk : xk.size ≤ 1048576) (hY : Row flP.c 3 w w.heap.size ya ys) (hR : VR w w.heap.size ra rs) :
    Calls Try.prog 9 #[.agg #[.slice ya ys.length yc, .slice ra rs.length rc], .string xk] w fun e w' => ∃ sa sc ta tc ks, e = .returned (.tuple #[.agg #[.slice sa (dropY ys (rs.map (·.l)) xk).length sc, .slice ta (dropR ys (rs.map (·.l)) xk).length tc], .bool (dropB ys (rs.map (·.l)) xk)]) ∧ (ta.isSome = true ∧ ks.map (·.l) = dropR ys (rs.map (·.l)) xk) ∧ TA w' w.heap.size sa ta (dropY ys (rs.map (·.l)) xk) ks ∧ Below w.heap.size w w' := by
  have hb : Below w.heap.size w ((w.alloc (.cells #[.slice ya ys.length yc, .slice ra rs.length rc] 27)).alloc (.cells #[.slice none 0 0, .slice none 0 0] 27)) := ((Below.refl _ _).alloc (Nat.le_refl _) _).alloc (by simp) _
  have hA := bold (bnew w #[.slice ya ys.length yc, .slice ra rs.length rc] 27) (.cells #[.slice none 0 0, .slice none 0 0] 27)
  have hRs := bnew (w.alloc (.cells #[.slice ya ys.length yc, .slice ra rs.length rc] 27)) #[.slice none 0 0, .slice none 0 0] 27
  rw [World.size_alloc] at hRs
  obtain ⟨W, hW⟩ : ∃ W, ((w.alloc (.cells #[.slice ya ys.length yc, .slice ra rs.length rc] 27)).alloc (.cells #[.slice none 0 0, .slice none 0 0] 27)) = W := ⟨_, rfl⟩
  rw [hW] at hb hA hRs
  have hwt := impl_with ys rs ya ra yc rc xk ⟨#[]⟩ true W F hpk (by decide) (hY.inn hb) (hR.inn hb)
  have HRS : Hid (W.heap[w.heap.size + 1]? = some (.cells #[.slice none 0 0, .slice none 0 0] 27 (0, 0))) := hRs
  have hWs := (Array.getElem?_eq_some_iff.1 hRs).1
  have p0 : W.cell? ⟨w.heap.size, 0, none⟩ = some (.slice ya ys.length yc) := bcell hA rfl
  have p1 : W.cell? ⟨w.heap.size, 1, none⟩ = some (.slice ra rs.length rc) := bcell hA rfl
  unfold dropY dropR dropB
  obtain ⟨AY, hAY⟩ : ∃ AY, withY ys (rs.map (·.l)) ⟨xk, ⟨#[]⟩, true⟩ = AY := ⟨_, rfl⟩
  obtain ⟨AB, hAB⟩ : ∃ AB, withB ys (rs.map (·.l)) ⟨xk, ⟨#[]⟩, true⟩ = AB := ⟨_, rfl⟩
  rw [hAY, hAB] at hwt ⊢
  clear hY hR hA hRs F hAY hAB
  go_enter Try.func9, Try.ntmps9
  go_wp2_with (go_at_call 33; fail)
  clear hW p0 p1
  refine hwt.mono ?_
  rintro e w2 ⟨sa, sc, ta, tc, ks, rfl, hm, hta, hb2⟩
  have r2 := bstay HRS.out hb2 hWs
  have r0 : w2.cell? ⟨w.heap.size + 1, 0, none⟩ = some (.slice none 0 0) := bcell r2 rfl
  have r1 : w2.cell? ⟨w.heap.size + 1, 1, none⟩ = some (.slice none 0 0) := bcell r2 rfl
  have f0 := bfree r2 0
  have f1 := bfree r2 1
  have HB : Hid (Below w.heap.size w w2) := hb.trans (hb2.mono hb.size)
  have HTA : Hid (TA w2 (W.heap.size + 3) sa ta AY ks) := hta
  have HM : Hid (ta.isSome = true ∧ ks.map (·.l) = rs.map (·.l)) := hm
  clear hwt r2 hta hm hb2
  go_wp2
  have htn : Tn w2 ((w2.setCell ⟨w.heap.size + 1, 0, none⟩ (.slice sa AY.length sc)).setCell ⟨w.heap.size + 1, 1, none⟩ (.slice ta rs.length tc)) (fun k => k = w.heap.size + 1) := Tn.set (Tn.set (Tn.refl w2 (fun k => k = w.heap.size + 1)) (S := fun k => k = w.heap.size + 1) rfl 0 _) rfl 1 _
  exact bodyPost_ret (v := .tuple #[.agg #[.slice sa AY.length sc, .slice ta rs.length tc], .bool AB]) (by simp [results, Try.results9, go_sem, r0, r1]) rfl ⟨sa, sc, ta, tc, ks, by rw [List.length_map], HM.out, (HTA.out.turn htn (fun k hk => by omega)).wide (by omega), (HB.out.setCell (Nat.le_succ _) _).setCell (Nat.le_succ _) _⟩

end Go.Proofs.Ytokaoafbgebelaa.pti

/- TableSize, of the specification and of the program: how many pairs there are; new memory alone. -/
namespace Go.Proofs.Ytokaoafbgebelaa.tsz
open Go.ChangeShapes Go.WideShapes Go.ChangeAt Go.RowKit Go.Proofs.Ytokaoafbgebelaa.fl Go.Proofs.Ytokaoafbgebelaa.rn
set_option linter.unusedVariables false

def ln (r : Rn) : Nat := r.l.length
def szT (ys : List flP.Pr) (ls : List (List flP.Pr)) : Nat := ys.length + bulk List.length ls
theorem bulk_ln : ∀ rs : List Rn, bulk List.length (rs.map (·.l)) = bulk ln rs
  | [] => rfl
  | r :: rs => by simp only [List.map_cons, bulk, bulk_ln rs, ln]
theorem bulk_small {rs : List Rn} (h : ∀ r ∈ rs, r.l.length ≤ 1048576) : bulk ln rs ≤ rs.length * 1048576 := by
  induction rs with
  | nil => simp [bulk]
  | cons r rs ih =>
    have h1 := h r (by simp)
    have h2 := ih (fun r hr => h r (by simp [hr]))
    simp only [bulk, List.length_cons, ln]
    omega
theorem bulk_take_small {rs : List Rn} (h : ∀ r ∈ rs, r.l.length ≤ 1048576) (hl : rs.length ≤ 1048577) (k : Nat) : bulk ln (rs.take k) ≤ 1099512676352 := by
  have h1 := bulk_small (rs := rs.take k) (fun r hr => h r (List.mem_of_mem_take hr))
  have h2 : (rs.take k).length ≤ rs.length := by rw [List.length_take]; omega
  omega

set_option maxRecDepth 100000 in
set_option maxHeartbeats 1000000 in
theorem spec_size (ys : List flP.Pr) (rs : List Rn) (ya ra : Option Addr) (yc rc : Nat) (w : World) (F : tb.Fit ys rs) (hY : Row flP.c 3 w w.heap.size ya ys) (hR : VR w w.heap.size ra rs) :
    Calls Try.prog 15 #[.agg #[.slice ya ys.length yc, .slice ra rs.length rc]] w fun r w' => r = .returned (.int .i64 (szT ys (rs.map (·.l)))) ∧ Below w.heap.size w w' := by
  have hb : Below w.heap.size w (w.alloc (.cells #[.slice ya ys.length yc, .slice ra rs.length rc] 27)) := (Below.refl _ _).alloc (Nat.le_refl _) _
  have hA := bnew w #[.slice ya ys.length yc, .slice ra rs.length rc] 27
  obtain ⟨W, hW⟩ : ∃ W, w.alloc (.cells #[.slice ya ys.length yc, .slice ra rs.length rc] 27) = W := ⟨_, rfl⟩
  rw [hW] at hb hA
  have HSM : Hid (∀ k, bulk ln (rs.take k) ≤ 1099512676352) := fun k => bulk_take_small (fun r hr => (F.ro r hr).1) (by have := F.rl; omega) k
  have HROW : Hid (Row cR 1 W W.heap.size ra rs) := (hR.inn hb).1
  have HSZ : Hid (szT ys (rs.map (·.l)) = ys.length + bulk ln rs) := by unfold Hid szT; rw [bulk_ln]
  have hrl := F.rl
  have hyl := F.yl
  have x0 : W.cell? ⟨w.heap.size, 0, none⟩ = some (.slice ya ys.length yc) := bcell hA rfl
  have x1 : W.cell? ⟨w.heap.size, 1, none⟩ = some (.slice ra rs.length rc) := bcell hA rfl
  obtain ⟨ST, hST⟩ : ∃ ST, szT ys (rs.map (·.l)) = ST := ⟨_, rfl⟩
  rw [hST] at HSZ
  simp only [hST]
  clear hY hR hA F hST
  go_enter Try.func15, Try.ntmps15
  go_wp2
  clear hW
  go_loopw [3, 4] (fun y v wr => ∃ k : Nat, k ≤ rs.length ∧ v = .int .i64 k ∧ y = .int .i64 ((ys.length + bulk ln (rs.take k) : Nat) : Int) ∧ wr = W) (fun _ v _ => rs.length - (intOf v).toNat)
  case atStart => exact ⟨0, Nat.zero_le _, rfl, by simp [bulk], rfl⟩
  case round =>
    obtain ⟨k, hk, rfl, rfl, hwr⟩ := hrel
    obtain rfl := hwr.symm
    by_cases hkl : k < rs.length
    · rcases HROW.out with h0 | ⟨b, off, rfl, hlt, hc⟩
      · rw [h0] at hkl; simp at hkl
      have HG : Hid (rs[k]? = some rs[k]) := List.getElem?_eq_getElem hkl
      have HBK : Hid (bulk ln (rs.take (k + 1)) = bulk ln (rs.take k) + ln rs[k]) := bulk_take ln hkl
      have hs1 := HSM.out (k + 1)
      obtain ⟨⟨qa, qc, ql⟩, he⟩ : ∃ e, rs[k] = e := ⟨_, rfl⟩
      rw [he] at HG HBK
      have HBK2 : Hid (bulk ln (rs.take (k + 1)) = bulk ln (rs.take k) + ql.length) := HBK
      have c0 : W.cell? ⟨b, off + k, none⟩ = some (.slice qa ql.length qc) := by have := hc k _ HG.out 0 _ rfl; simpa using this
      have i2 : (k : Int) < (rs.length : Int) := by omega
      obtain ⟨m, hm⟩ : ∃ m, bulk ln (rs.take k) = m := ⟨_, rfl⟩
      rw [hm] at HBK2 ⊢
      have hs2 : m + ql.length ≤ 1099512676352 := by have := HBK2.out; omega
      have i3 : IntKind.i64.wrap (((ys.length + m : Nat) : Int) + (ql.length : Int)) = ((ys.length + m : Nat) : Int) + (ql.length : Int) := by rw [IntKind.wrap_i64]; omega
      clear hc he hs1 hm HBK
      go_wp2
      go_roundw
      case rel => exact ⟨k + 1, by omega, by go_num, by rw [HBK2.out]; congr 1; omega, by first | rfl | trivial⟩
      case measure => simp [intOf]; omega
    · obtain rfl : k = rs.length := by omega
      rw [List.take_length]
      go_wp2
      go_ret
      exact ⟨by rw [HSZ.out]; rfl, hb⟩

set_option maxRecDepth 100000 in
set_option maxHeartbeats 1000000 in
theorem impl_size (ys : List flP.Pr) (rs : List Rn) (ya ra : Option Addr) (yc rc : Nat) (w : World) (F : tb.Fit ys rs) (q : Addr) (hRQ : apa.NQ ra q rs.length rc) (hY : Row flP.c 3 w w.heap.size ya ys) (hR : VR w w.heap.size ra rs) :
    Calls Try.prog 14 #[.agg #[.slice ya ys.length yc, .slice ra rs.length rc]] w fun r w' => r = .returned (.int .i64 (szT ys (rs.map (·.l)))) ∧ Below w.heap.size w w' := by
  have hb : Below w.heap.size w (w.alloc (.cells #[.slice ya ys.length yc, .slice ra rs.length rc] 27)) := (Below.refl _ _).alloc (Nat.le_refl _) _
  have hA := bnew w #[.slice ya ys.length yc, .slice ra rs.length rc] 27
  obtain ⟨W, hW⟩ : ∃ W, w.alloc (.cells #[.slice ya ys.length yc, .slice ra rs.length rc] 27) = W := ⟨_, rfl⟩
  rw [hW] at hb hA
  have hly := ly.layers ys rs ya ra yc rc W q hRQ F (hY.inn hb) (hR.inn hb)
  have HSM : Hid (∀ k, bulk ln ((⟨ya, yc, ys⟩ :: rs : List Rn).take k) ≤ 1099512676352) := fun k => bulk_take_small (fun r hr => by
    rcases List.mem_cons.1 hr with rfl | hr
    · exact F.yl
    · exact (F.ro r hr).1) (by have := F.rl; simp; omega) k
  have HSZ : Hid (szT ys (rs.map (·.l)) = bulk ln (⟨ya, yc, ys⟩ :: rs : List Rn)) := by unfold Hid szT; rw [bulk_ln]; rfl
  have hrl := F.rl
  have x0 : W.cell? ⟨w.heap.size, 0, none⟩ = some (.slice ya ys.length yc) := bcell hA rfl
  have x1 : W.cell? ⟨w.heap.size, 1, none⟩ = some (.slice ra rs.length rc) := bcell hA rfl
  obtain ⟨ST, hST⟩ : ∃ ST, szT ys (rs.map (·.l)) = ST := ⟨_, rfl⟩
  rw [hST] at HSZ
  simp only [hST]
  obtain ⟨L, hL⟩ : ∃ L, (⟨ya, yc, ys⟩ :: rs : List Rn) = L := ⟨_, rfl⟩
  have hLl : L.length = rs.length + 1 := by rw [← hL]; rfl
  rw [hL] at HSM HSZ hly
  rw [← hLl] at hly
  have HLL : Hid (L.length = rs.length + 1) := hLl
  clear hY hR hA F hST hL
  go_enter Try.func14, Try.ntmps14
  go_wp2_with (go_at_call 37; fail)
  clear hW x0 x1
  refine hly.mono ?_
  rintro e w1 ⟨g, c, rfl, hvr, hb1⟩
  have hbw : Below w.heap.size w w1 := hb.trans (hb1.mono hb.size)
  have HROW : Hid (Row cR 1 w1 w1.heap.size (some ⟨g, 0, none⟩) L) := hvr.1
  have hll : L.length ≤ 1048577 := by omega
  clear hly hvr hLl
  go_wp2
  go_loopw [3, 5, 9] (fun y _ v wr => ∃ k : Nat, k ≤ L.length ∧ v = .int .i64 k ∧ y = .int .i64 ((bulk ln (L.take k) : Nat) : Int) ∧ wr = w1) (fun _ _ v _ => L.length - (intOf v).toNat)
  case atStart => exact ⟨0, Nat.zero_le _, rfl, by simp [bulk], rfl⟩
  case round =>
    obtain ⟨k, hk, rfl, rfl, hwr⟩ := hrel
    obtain rfl := hwr.symm
    by_cases hkl : k < L.length
    · rcases HROW.out with h0 | ⟨b, off, hq, hlt, hc⟩
      · rw [h0] at hkl; simp at hkl
      cases hq
      have HG : Hid (L[k]? = some L[k]) := List.getElem?_eq_getElem hkl
      have HBK : Hid (bulk ln (L.take (k + 1)) = bulk ln (L.take k) + ln L[k]) := bulk_take ln hkl
      have hs1 := HSM.out (k + 1)
      obtain ⟨⟨qa, qc, ql⟩, he⟩ : ∃ e, L[k] = e := ⟨_, rfl⟩
      rw [he] at HG HBK
      have HBK2 : Hid (bulk ln (L.take (k + 1)) = bulk ln (L.take k) + ql.length) := HBK
      have c0 : w1.cell? ⟨g, k, none⟩ = some (.slice qa ql.length qc) := by have := hc k _ HG.out 0 _ rfl; simpa using this
      have i2 : (k : Int) < (L.length : Int) := by omega
      obtain ⟨m, hm⟩ : ∃ m, bulk ln (L.take k) = m := ⟨_, rfl⟩
      rw [hm] at HBK2 ⊢
      have hs2 : m + ql.length ≤ 1099512676352 := by have := HBK2.out; omega
      have i3 : IntKind.i64.wrap ((m : Int) + (ql.length : Int)) = (m : Int) + (ql.length : Int) := by rw [IntKind.wrap_i64]; omega
      clear hc he hs1 hm HBK
      go_wp2
      go_roundw
      case rel => exact ⟨k + 1, by omega, by go_num, by rw [HBK2.out]; congr 1, by first | rfl | trivial⟩
      case measure => simp [intOf]; omega
    · obtain rfl : k = L.length := by omega
      rw [List.take_length]
      go_wp2
      go_ret
      exact ⟨by rw [HSZ.out]; rfl, hbw⟩
end Go.Proofs.Ytokaoafbgebelaa.tsz

/- FnTable: the contracts in the words of its walk: a table that was drawn, or that was answered, and what is asked of it. -/
namespace Go.Proofs.Ytokaoafbgebelaa.ttp
open Go.ChangeShapes Go.WideShapes Go.ChangeAt Go.RowKit Go.Proofs.Ytokaoafbgebelaa.fl Go.Proofs.Ytokaoafbgebelaa.fo Go.Proofs.Ytokaoafbgebelaa.rn Go.Proofs.Ytokaoafbgebelaa.rc Go.Proofs.Ytokaoafbgebelaa.ro Go.Proofs.Ytokaoafbgebelaa.tk Go.Proofs.Ytokaoafbgebelaa.tko Go.Proofs.Ytokaoafbgebelaa.tan Go.Proofs.Ytokaoafbgebelaa.ptp Go.Proofs.Ytokaoafbgebelaa.dlt Go.Proofs.Ytokaoafbgebelaa.tgi Go.Proofs.Ytokaoafbgebelaa.sci
set_option linter.unusedVariables false

/-- a table as it lies, drawn -/
def It (W : World) (ys : List flP.Pr) (ks : List Rn) (ya : Option Addr) (yc : Nat) (ra : Option Addr) (rc : Nat) : Prop := ∃ yq rq, Us W ys ks ya yc ra rc yq rq
/-- a table as it lies, answered -/
structure Iu (W : World) (ys : List flP.Pr) (ks : List Rn) (ya : Option Addr) (ra : Option Addr) (rc : Nat) : Prop where
  hy : Row flP.c 3 W W.heap.size ya ys
  hr : VR W W.heap.size ra ks
  nr : ∃ rq, apa.NQ ra rq ks.length rc
/-- its rows alone -/
structure Ir (W : World) (ys : List flP.Pr) (ks : List Rn) (ya ra : Option Addr) : Prop where
  hy : Row flP.c 3 W W.heap.size ya ys
  hr : VR W W.heap.size ra ks
section
variable {B : Nat} {W W' : World} {ys : List flP.Pr} {ks : List Rn} {ya ra : Option Addr} {yc rc : Nat} {R : List (List flP.Pr)}
theorem It.below (h : It W ys ks ya yc ra rc) (hb : Below W.heap.size W W') : It W' ys ks ya yc ra rc := by
  obtain ⟨yq, rq, U⟩ := h
  exact ⟨yq, rq, U.ny, U.nr, U.nra, U.rs, U.hy.inn hb, U.hr.inn hb, U.yl, U.kl⟩
theorem Iu.below (h : Iu W ys ks ya ra rc) (hb : Below W.heap.size W W') : Iu W' ys ks ya ra rc := ⟨h.hy.inn hb, h.hr.inn hb, h.nr⟩
theorem Ir.below (h : Ir W ys ks ya ra) (hb : Below W.heap.size W W') : Ir W' ys ks ya ra := ⟨h.hy.inn hb, h.hr.inn hb⟩
theorem It.iu (h : It W ys ks ya yc ra rc) : Iu W ys ks ya ra rc := by
  obtain ⟨yq, rq, U⟩ := h
  exact ⟨U.hy, U.hr, rq, U.nr⟩
theorem Iu.ir (h : Iu W ys ks ya ra rc) : Ir W ys ks ya ra := ⟨h.hy, h.hr⟩
theorem tb_it (h : Tb B W ys ks ya yc ra rc) : It W ys ks ya yc ra rc := h.use
/-- a table with one more pair fits -/
theorem fit_put {e : flP.Pr} (h : Sm 500 ys R) (hm : ks.map (·.l) = R) (hk : e.k.size ≤ 101 ∧ e.v.size ≤ 4001) : tb.Fit (withY ys R e) ks := by
  subst hm
  have h1 := h.tt
  have h2 := with_le ys (ks.map (·.l)) e
  have h3 := h.fit (by omega)
  refine ⟨by omega, h3.rl, fun f hf => ?_, h3.ro⟩
  unfold withY at hf
  split at hf
  · rcases setP_mem hf with hf | hf
    · exact h3.yo f hf
    · rw [hf]; omega
  · exact h3.yo f hf
theorem t_put (h : It W ys ks ya yc ra rc) (hs : Sm 500 ys (ks.map (·.l))) (k v : ByteArray) (hk : k.size ≤ 101) (hv : v.size ≤ 4001) : Calls Try.prog 7 #[.agg #[.slice ya ys.length yc, .slice ra ks.length rc], .string k, .string v] W fun e w' =>
    ∃ sa sc ta tc K, e = .returned (.tuple #[.agg #[.slice sa (putY ys (ks.map (·.l)) k v).length sc, .slice ta ks.length tc], .bool (putB ys (ks.map (·.l)) k v)]) ∧ K.map (·.l) = ks.map (·.l) ∧ Iu w' (putY ys (ks.map (·.l)) k v) K sa ta tc ∧ Below W.heap.size W w' := by
  obtain ⟨yq, rq, U⟩ := h
  refine (pti.impl_put ys ks ya ra yc rc k v W (hs.fit (by omega)) (by omega) (by omega) U.hy U.hr).mono ?_
  rintro e w' ⟨sa, sc, ta, tc, K, rfl, ⟨h1, h2⟩, h3, hb⟩
  obtain ⟨q, rfl⟩ : ∃ q, ta = some q := Option.isSome_iff_exists.1 h1
  exact ⟨sa, sc, _, tc, K, by unfold putR; rw [List.length_map], h2, ⟨h3.rows.1, h3.rows.2, q, .inl rfl⟩, hb⟩
theorem s_put (h : It W ys ks ya yc ra rc) (hs : Sm 500 ys (ks.map (·.l))) (k v : ByteArray) (hk : k.size ≤ 101) (hv : v.size ≤ 4001) : Calls Try.prog 8 #[.agg #[.slice ya ys.length yc, .slice ra ks.length rc], .string k, .string v] W fun e w' =>
    ∃ sa sc ta tc K, e = .returned (.tuple #[.agg #[.slice sa (putY ys (ks.map (·.l)) k v).length sc, .slice ta ks.length tc], .bool (putB ys (ks.map (·.l)) k v)]) ∧ K.map (·.l) = ks.map (·.l) ∧ Ir w' (putY ys (ks.map (·.l)) k v) K sa ta ∧ Below W.heap.size W w' := by
  obtain ⟨yq, rq, U⟩ := h
  refine (pts.spec_put ys ks ya ra yc rc yq U.ny U.nra k v W (hs.fit (by omega)) (by omega) (by omega) U.hy U.hr U.rs).mono ?_
  rintro e w' ⟨sa, sc, ta, tc, K, rfl, h2, h3, hb⟩
  exact ⟨sa, sc, ta, tc, K, by unfold putR; rw [List.length_map], h2, ⟨h3.row.1, h3.row.2⟩, hb⟩
theorem t_drop (h : It W ys ks ya yc ra rc) (hs : Sm 500 ys (ks.map (·.l))) (k : ByteArray) (hk : k.size ≤ 101) : Calls Try.prog 9 #[.agg #[.slice ya ys.length yc, .slice ra ks.length rc], .string k] W fun e w' =>
    ∃ sa sc ta tc K, e = .returned (.tuple #[.agg #[.slice sa (dropY ys (ks.map (·.l)) k).length sc, .slice ta ks.length tc], .bool (dropB ys (ks.map (·.l)) k)]) ∧ K.map (·.l) = ks.map (·.l) ∧ Iu w' (dropY ys (ks.map (·.l)) k) K sa ta tc ∧ Below W.heap.size W w' := by
  obtain ⟨yq, rq, U⟩ := h
  refine (pti.impl_drop ys ks ya ra yc rc k W (hs.fit (by omega)) (by omega) U.hy U.hr).mono ?_
  rintro e w' ⟨sa, sc, ta, tc, K, rfl, ⟨h1, h2⟩, h3, hb⟩
  obtain ⟨q, rfl⟩ : ∃ q, ta = some q := Option.isSome_iff_exists.1 h1
  exact ⟨sa, sc, _, tc, K, by unfold dropR; rw [List.length_map], h2, ⟨h3.rows.1, h3.rows.2, q, .inl rfl⟩, hb⟩
theorem s_drop (h : It W ys ks ya yc ra rc) (hs : Sm 500 ys (ks.map (·.l))) (k : ByteArray) (hk : k.size ≤ 101) : Calls Try.prog 10 #[.agg #[.slice ya ys.length yc, .slice ra ks.length rc], .string k] W fun e w' =>
    ∃ sa sc ta tc K, e = .returned (.tuple #[.agg #[.slice sa (dropY ys (ks.map (·.l)) k).length sc, .slice ta ks.length tc], .bool (dropB ys (ks.map (·.l)) k)]) ∧ K.map (·.l) = ks.map (·.l) ∧ Ir w' (dropY ys (ks.map (·.l)) k) K sa ta ∧ Below W.heap.size W w' := by
  obtain ⟨yq, rq, U⟩ := h
  refine (pts.spec_drop ys ks ya ra yc rc yq U.ny U.nra k W (hs.fit (by omega)) (by omega) U.hy U.hr U.rs).mono ?_
  rintro e w' ⟨sa, sc, ta, tc, K, rfl, h2, h3, hb⟩
  exact ⟨sa, sc, ta, tc, K, by unfold dropR; rw [List.length_map], h2, ⟨h3.row.1, h3.row.2⟩, hb⟩
theorem t_ok (h : It W ys ks ya yc ra rc) (hs : Sm 500 ys (ks.map (·.l))) : Calls Try.prog 12 #[.agg #[.slice ya ys.length yc, .slice ra ks.length rc]] W fun e w' => e = .returned (.bool (okB ys (ks.map (·.l)))) ∧ Below W.heap.size W w' := by
  obtain ⟨yq, rq, U⟩ := h
  exact impl_okb ys ks ya ra yc rc W (hs.fit (by omega)) U.hy U.hr
theorem s_ok (h : It W ys ks ya yc ra rc) (hs : Sm 500 ys (ks.map (·.l))) : Calls Try.prog 13 #[.agg #[.slice ya ys.length yc, .slice ra ks.length rc]] W fun e w' => e = .returned (.bool (okB ys (ks.map (·.l)))) ∧ Below W.heap.size W w' := by
  obtain ⟨yq, rq, U⟩ := h
  exact spec_okb ys ks ya ra yc rc W (hs.fit (by omega)) U.hy U.hr
theorem t_size (h : Iu W ys ks ya ra rc) (F : tb.Fit ys ks) : Calls Try.prog 14 #[.agg #[.slice ya ys.length yc, .slice ra ks.length rc]] W fun e w' => e = .returned (.int .i64 (tsz.szT ys (ks.map (·.l)))) ∧ Below W.heap.size W w' := by
  obtain ⟨rq, hn⟩ := h.nr
  exact tsz.impl_size ys ks ya ra yc rc W F rq hn h.hy h.hr
theorem s_size (h : It W ys ks ya yc ra rc) (hs : Sm 500 ys (ks.map (·.l))) : Calls Try.prog 15 #[.agg #[.slice ya ys.length yc, .slice ra ks.length rc]] W fun e w' => e = .returned (.int .i64 (tsz.szT ys (ks.map (·.l)))) ∧ Below W.heap.size W w' := by
  obtain ⟨yq, rq, U⟩ := h
  exact tsz.spec_size ys ks ya ra yc rc W (hs.fit (by omega)) U.hy U.hr
theorem t_get (h : Iu W ys ks ya ra rc) (F : tb.Fit ys ks) (key : ByteArray) (hk : key.size ≤ 1048576) : Calls Try.prog 17 #[.agg #[.slice ya ys.length yc, .slice ra ks.length rc], .string key] W fun e w' => e = .returned (.tuple #[.string (getV ys (ks.map (·.l)) key), .bool (getO ys (ks.map (·.l)) key)]) ∧ Below W.heap.size W w' := by
  obtain ⟨rq, hn⟩ := h.nr
  exact tgi.impl_get ys ks ya ra yc rc key W F rq hn hk h.hy h.hr
theorem t_scan (h : It W ys ks ya yc ra rc) (hs : Sm 500 ys (ks.map (·.l))) (fr to : ByteArray) : Calls Try.prog 16 #[.agg #[.slice ya ys.length yc, .slice ra ks.length rc], .string fr, .string to] W fun e w' =>
    ∃ a cap, e = .returned (.slice a (scan ys (ks.map (·.l)) fr to).length cap) ∧ (scan ys (ks.map (·.l)) fr to).length ≤ 6000 ∧ Row flP.c 3 w' w'.heap.size a (scan ys (ks.map (·.l)) fr to) ∧ Below W.heap.size W w' := by
  obtain ⟨yq, rq, U⟩ := h
  refine (sci.impl_scan ys ks ya ra yc rc fr to W (hs.fit (by omega)) rq U.nr U.yl U.kl U.hy U.hr).mono ?_
  rintro e w' ⟨v, rfl, h1, h2, hb⟩
  obtain ⟨a, cap, rfl, hr⟩ := fl.own_row flP.c_len h2
  exact ⟨a, cap, rfl, h1, hr, hb⟩
theorem same {y2 r2 : Option Addr} {c1 c2 d1 d2 : Nat} {K K2 : List Rn} {n : Nat} (h : Ir W ys K ya ra) (h2 : Ir W ys K2 y2 r2) (F : tb.Fit ys K) (hK : K.map (·.l) = R) (hK2 : K2.map (·.l) = R) (hn : n = R.length) : Calls Try.prog 11 #[.agg #[.slice ya ys.length c1, .slice ra n d1], .agg #[.slice y2 ys.length c2, .slice r2 n d2]] W fun e w' => e = .returned (.bool true) ∧ Below W.heap.size W w' := by
  have hl : n = K.length := by rw [hn, ← hK, List.length_map]
  subst hl
  exact sta.same_table ys K K2 ya y2 ra r2 c1 c2 d1 d2 W F (hK2.trans hK.symm) h.hy h2.hy h.hr h2.hr
end
end Go.Proofs.Ytokaoafbgebelaa.ttp
