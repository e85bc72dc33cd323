/- The specification's l06Copy: the same stream, its lists in rows of their own; new memory alone. -/
import Derived.Test.YtlfhfcgcfggjcaaDoorStreamReadSpec
import Derived.Maps.AppendAt
import Derived.Test.YtlfhfcgcfggjcaaDoorAppendOpt
namespace Go.Proofs.YtlfhfcgcfggjcaaDoor.scp
open Go.ChangeShapes Go.WideShapes Go.ChangeAt Go.RowKit Go.Proofs.YtlfhfcgcfggjcaaDoor.fl Go.Proofs.YtlfhfcgcfggjcaaDoor.fo Go.Proofs.YtlfhfcgcfggjcaaDoor.rr Go.Proofs.YtlfhfcgcfggjcaaDoor.st Go.Proofs.YtlfhfcgcfggjcaaDoor.srd
set_option linter.unusedVariables false

theorem form {w : World} {B n : Nat} {U : TypeId} {s : Nat} {v : Value} {xs : List Value} (h : w.ownsRow B U s v n xs) (hv : v ≠ .slice none 0 0) : ∃ g cap, v = .slice (some ⟨g, 0, none⟩) n cap ∧ B ≤ g ∧ g < w.heap.size := by
  obtain ⟨_, ⟨rfl, h0⟩ | ⟨g, cap, cur, rfl, hB, hg, _⟩⟩ := h
  · exact absurd rfl hv
  · exact ⟨g, cap, rfl, hB, (Array.getElem?_eq_some_iff.1 hg).1⟩
theorem add_at (g o j : Nat) : (⟨g, o, none⟩ : Addr).add j = ⟨g, o + j, none⟩ := by unfold Addr.add; split <;> simp_all
theorem newsY {w : World} {g : Nat} {es : List flY.En} (h : RY w g es) : ∀ (j : Nat) (u : Value), (es.flatMap flY.c)[j]? = some u → w.cell? ((⟨g, 0, none⟩ : Addr).add j) = some u := fun j u hu => by
  obtain ⟨i, e, r, h1, h2, rfl⟩ := flat_get flY.c_len es j u hu
  rw [add_at, Nat.zero_add]
  obtain ⟨a0, a1, a2⟩ := h.2 i e h1
  match r, h2 with
  | 0, h2 => cases h2; exact a0
  | 1, h2 => cases h2; exact a1
  | 2, h2 => cases h2; exact a2
  | r + 3, h2 => simp [flY.c] at h2
theorem newsK {w : World} {g : Nat} {ms : List Ex} (h : RE w g ms) : ∀ (j : Nat) (u : Value), (ms.flatMap flK.c)[j]? = some u → w.cell? ((⟨g, 0, none⟩ : Addr).add j) = some u := fun j u hu => by
  obtain ⟨i, e, r, h1, h2, rfl⟩ := flat_get flK.c_len ms j u hu
  rw [add_at, Nat.zero_add]
  obtain ⟨a0, a1⟩ := h.2 i e h1
  match r, h2 with
  | 0, h2 => cases h2; exact a0
  | 1, h2 => cases h2; exact a1
  | r + 2, h2 => simp [flK.c] at h2
theorem oneY (es : List flY.En) : ∀ u ∈ es.flatMap flY.c, u.oneCell' = true := fun u hu => by
  obtain ⟨e, _, he⟩ := List.mem_flatMap.1 hu
  simp [flY.c] at he
  rcases he with rfl | rfl | rfl <;> rfl
theorem oneK (ms : List Ex) : ∀ u ∈ ms.flatMap flK.c, u.oneCell' = true := fun u hu => by
  obtain ⟨e, _, he⟩ := List.mem_flatMap.1 hu
  simp [flK.c] at he
  rcases he with rfl | rfl <;> rfl
theorem infoY : ∃ i0, Tryd.prog.info? 43 = some i0 ∧ i0.zero = some (.agg #[.int .i64 0, .int .i64 0, .string ByteArray.empty]) ∧ i0.size = 3 ∧ i0.bytes = 32 := by
  have h := flY.info
  cases hh : Tryd.prog.info? 43 with
  | none => rw [hh] at h; cases h
  | some i => rw [hh] at h; simp at h; exact ⟨i, rfl, h.1, h.2.1, h.2.2⟩
theorem infoK : ∃ i0, Tryd.prog.info? 45 = some i0 ∧ i0.zero = some (.agg #[.string ByteArray.empty, .int .i64 0]) ∧ i0.size = 2 ∧ i0.bytes = 24 := by
  have h := flK.info
  cases hh : Tryd.prog.info? 45 with
  | none => rw [hh] at h; cases h
  | some i => rw [hh] at h; simp at h; exact ⟨i, rfl, h.1, h.2.1, h.2.2⟩
/-- a block that no row has stays through a row's growing -/
theorem grown_at {w w' : World} {r : Option Nat} {b : Nat} {o : Obj} (hg : w.grownBy w' r) (h : w.heap[b]? = some o) (hr : r ≠ some b) : w'.heap[b]? = some o := (hg.block b (Array.getElem?_eq_some_iff.1 h).1 (fun e => hr e.symm)).trans h

theorem own_set {w : World} {B n : Nat} {U : TypeId} {s : Nat} {v : Value} {xs : List Value} (h : w.ownsRow B U s v n xs) (b o : Nat) (u : Value) (hb : b < B) : (w.setCell ⟨b, o, none⟩ u).ownsRow B U s v n xs := by
  obtain ⟨h0, h1 | ⟨g, cap, cur, h1, h2, h3, h4⟩⟩ := h
  · exact ⟨h0, .inl h1⟩
  · exact ⟨h0, .inr ⟨g, cap, cur, h1, h2, boff h3 b o u (by omega), h4⟩⟩
theorem own_low {w : World} {B B' n : Nat} {U : TypeId} {s : Nat} {v : Value} {xs : List Value} (h : w.ownsRow B U s v n xs) (hb : B' ≤ B) : w.ownsRow B' U s v n xs := by
  obtain ⟨h0, h1 | ⟨g, cap, cur, h1, h2, h3⟩⟩ := h
  · exact ⟨h0, .inl h1⟩
  · exact ⟨h0, .inr ⟨g, cap, cur, h1, by omega, h3⟩⟩
theorem apart {w : World} {B n m g h c1 c2 : Nat} {xs ys : List Value} (h1 : w.ownsRow B 43 3 (.slice (some ⟨g, 0, none⟩) n c1) n xs) (h2 : w.ownsRow B 45 2 (.slice (some ⟨h, 0, none⟩) m c2) m ys) : g ≠ h := by
  obtain ⟨_, ⟨h1, _⟩ | ⟨g1, cap, cur, h1, _, h3, _⟩⟩ := h1
  · cases h1
  obtain ⟨_, ⟨h2, _⟩ | ⟨g2, cap2, cur2, h2, _, h4, _⟩⟩ := h2
  · cases h2
  cases h1
  cases h2
  rintro rfl
  rw [h3] at h4
  simp at h4
/-- the last stores: the box's fourth field, and the answer's five -/
def sets (w : World) (a b : Nat) (u x0 x1 x2 x3 x4 : Value) : World := (((((w.setCell ⟨a, 4, none⟩ u).setCell ⟨b, 0, none⟩ x0).setCell ⟨b, 1, none⟩ x1).setCell ⟨b, 2, none⟩ x2).setCell ⟨b, 3, none⟩ x3).setCell ⟨b, 4, none⟩ x4
theorem own_sets {w : World} {B n a b : Nat} {U : TypeId} {s : Nat} {v u x0 x1 x2 x3 x4 : Value} {xs : List Value} (h : w.ownsRow B U s v n xs) (hb : a < B ∧ b < B) : (sets w a b u x0 x1 x2 x3 x4).ownsRow B U s v n xs :=
  own_set (own_set (own_set (own_set (own_set (own_set h _ _ _ hb.1) _ _ _ hb.2) _ _ _ hb.2) _ _ _ hb.2) _ _ _ hb.2) _ _ _ hb.2
theorem sets_below {w0 w : World} {a b : Nat} {u x0 x1 x2 x3 x4 : Value} (h : Below w0.heap.size w0 w) (ha : w0.heap.size ≤ a ∧ w0.heap.size ≤ b) : Below w0.heap.size w0 (sets w a b u x0 x1 x2 x3 x4) :=
  (((((h.setCell ha.1 _).setCell ha.2 _).setCell ha.2 _).setCell ha.2 _).setCell ha.2 _).setCell ha.2 _

set_option maxRecDepth 100000 in
set_option maxHeartbeats 2000000 in
theorem spec_copy (sn : ByteArray) (lo nx : Int) (es : List flY.En) (ms : List Ex) (g h cg ch : Nat) (w : World) (F : Fit sn es ms) (hY : RY w g es) (hE : RE w h ms) (ga ha : Option Addr) (hga : Hid (apo.NA ga g es.length cg)) (hha : Hid (apo.NA ha h ms.length ch)) :
    Calls Tryd.prog 29 #[.agg #[.string sn, .int .i64 lo, .int .i64 nx, .slice ga es.length cg, .slice ha ms.length ch]] w fun e w' => ∃ g1 c1 h1 c2, e = .returned (.agg #[.string sn, .int .i64 lo, .int .i64 nx, .slice (some ⟨g1, 0, none⟩) es.length c1, .slice (some ⟨h1, 0, none⟩) ms.length c2]) ∧ w'.ownsRow w.heap.size 43 3 (.slice (some ⟨g1, 0, none⟩) es.length c1) es.length (es.flatMap flY.c) ∧ w'.ownsRow w.heap.size 45 2 (.slice (some ⟨h1, 0, none⟩) ms.length c2) ms.length (ms.flatMap flK.c) ∧ g1 ≠ h1 ∧ Below w.heap.size w w' := by
  obtain ⟨i0, hi, hz0, hz1, hz2⟩ := infoY
  obtain ⟨i1, ki, kz0, kz1, kz2⟩ := infoK
  have hel := F.el
  have hml := F.ml
  have hb : Below w.heap.size w (((w.alloc (.cells #[.string sn, .int .i64 lo, .int .i64 nx, .slice ga es.length cg, .slice ha ms.length ch] 27)).alloc (.cells #[.string ⟨#[]⟩, .int .i64 0, .int .i64 0, .slice none 0 0, .slice none 0 0] 27)).alloc (.cells #[] 43)) := (((Below.refl _ _).alloc (Nat.le_refl _) _).alloc (by simp) _).alloc (by simp; omega) _
  have hA := bold (bold (bnew w #[.string sn, .int .i64 lo, .int .i64 nx, .slice ga es.length cg, .slice ha ms.length ch] 27) (.cells #[.string ⟨#[]⟩, .int .i64 0, .int .i64 0, .slice none 0 0, .slice none 0 0] 27)) (.cells #[] 43)
  have hR := bold (bnew (w.alloc (.cells #[.string sn, .int .i64 lo, .int .i64 nx, .slice ga es.length cg, .slice ha ms.length ch] 27)) #[.string ⟨#[]⟩, .int .i64 0, .int .i64 0, .slice none 0 0, .slice none 0 0] 27) (.cells #[] 43)
  rw [World.size_alloc] at hR
  have ho := own_empty ((w.alloc (.cells #[.string sn, .int .i64 lo, .int .i64 nx, .slice ga es.length cg, .slice ha ms.length ch] 27)).alloc (.cells #[.string ⟨#[]⟩, .int .i64 0, .int .i64 0, .slice none 0 0, .slice none 0 0] 27)) (w.heap.size + 2) 43 3 (by simp)
  have hS : (((w.alloc (.cells #[.string sn, .int .i64 lo, .int .i64 nx, .slice ga es.length cg, .slice ha ms.length ch] 27)).alloc (.cells #[.string ⟨#[]⟩, .int .i64 0, .int .i64 0, .slice none 0 0, .slice none 0 0] 27)).alloc (.cells #[] 43)).heap.size = w.heap.size + 3 := by simp
  have hS2 : ((w.alloc (.cells #[.string sn, .int .i64 lo, .int .i64 nx, .slice ga es.length cg, .slice ha ms.length ch] 27)).alloc (.cells #[.string ⟨#[]⟩, .int .i64 0, .int .i64 0, .slice none 0 0, .slice none 0 0] 27)).heap.size = w.heap.size + 2 := by simp
  rw [hS2] at ho
  obtain ⟨W, hW⟩ : ∃ W, ((w.alloc (.cells #[.string sn, .int .i64 lo, .int .i64 nx, .slice ga es.length cg, .slice ha ms.length ch] 27)).alloc (.cells #[.string ⟨#[]⟩, .int .i64 0, .int .i64 0, .slice none 0 0, .slice none 0 0] 27)).alloc (.cells #[] 43) = W := ⟨_, rfl⟩
  rw [hW] at hb hA hR ho hS
  have HYW : Hid (RY W g es) := hY.below hb
  have HEw : Hid (RE w h ms) := hE
  have x3 : W.cell? ⟨w.heap.size, 3, none⟩ = some (.slice ga es.length cg) := bcell hA rfl
  have x3f := bfree hA 3
  have HA : Hid (W.heap[w.heap.size]? = some (.cells #[.string sn, .int .i64 lo, .int .i64 nx, .slice ga es.length cg, .slice ha ms.length ch] 27 (0, 0))) := hA
  have HR : Hid (W.heap[w.heap.size + 1]? = some (.cells #[.string ⟨#[]⟩, .int .i64 0, .int .i64 0, .slice none 0 0, .slice none 0 0] 27 (0, 0))) := hR
  have HO : Hid (W.ownsRow (w.heap.size + 2) 43 3 (.slice (some ⟨w.heap.size + 2, 0, none⟩) 0 0) 0 []) := ho
  clear hY hE hA hR ho F
  go_enter Tryd.func29, Tryd.ntmps29
  go_wp2_with (at_builtin; refine apo.wpList_append_opt _ rfl _ _ 24 rfl (w.heap.size + 2) 43 i0 (.agg #[.int .i64 0, .int .i64 0, .string ByteArray.empty]) 3 32 Tryd.underlying24 hi hz0 hz1 hz2 rfl (by decide) _ 0 [] rfl (by exact HO.out) ga g es.length cg hga.out (es.flatMap flY.c) rfl (flat_len flY.c_len es) (by exact newsY HYW.out) (oneY es) (by unfold maxLen; omega) (by omega) (by omega) ?_)
  intro v1 w1 hown1 hgrow1 hnil1
  obtain ⟨g1, c1, rfl, hg1, hg1l⟩ := form hown1 (fun e => by first | exact hnil1 e | (have := hnil1.1 e; cases this.1))
  have hgr1 : W.grownBy w1 (some (w.heap.size + 2)) := hgrow1
  have a1 := grown_at hgr1 HA.out (by simp)
  have r1 := grown_at hgr1 HR.out (by simp)
  have hs1 := hgr1.size
  have y3 : w1.cell? ⟨w.heap.size, 3, none⟩ = some (.slice ga es.length cg) := bcell a1 rfl
  have y3f := bfree a1 3
  have hb1 : Below w.heap.size w w1 := hb.grown hgr1 (by omega) (fun b hb => by cases hb; omega)
  -- the row is stored, and the second empty row laid
  have a2 := bold (bset a1 3 (.slice (some ⟨g1, 0, none⟩) es.length c1)) (.cells #[] 45)
  have r2 := bold (boff r1 w.heap.size 3 (.slice (some ⟨g1, 0, none⟩) es.length c1) (by omega)) (.cells #[] 45)
  have hb2 : Below w.heap.size w ((w1.setCell ⟨w.heap.size, 3, none⟩ (.slice (some ⟨g1, 0, none⟩) es.length c1)).alloc (.cells #[] 45)) := (hb1.setCell (Nat.le_refl _) _).alloc (by simp; omega) _
  have hsz2 : (w1.setCell ⟨w.heap.size, 3, none⟩ (.slice (some ⟨g1, 0, none⟩) es.length c1)).heap.size = w1.heap.size := by simp
  have o2 := own_empty (w1.setCell ⟨w.heap.size, 3, none⟩ (.slice (some ⟨g1, 0, none⟩) es.length c1)) (w.heap.size + 2) 45 2 (by simp; omega)
  rw [hsz2] at o2
  have e2 : ((w1.setCell ⟨w.heap.size, 3, none⟩ (.slice (some ⟨g1, 0, none⟩) es.length c1)).alloc (.cells #[] 45)).ownsRow (w.heap.size + 2) 43 3 (.slice (some ⟨g1, 0, none⟩) es.length c1) es.length (es.flatMap flY.c) := (own_set hown1 w.heap.size 3 (.slice (some ⟨g1, 0, none⟩) es.length c1) (by omega)).alloc _
  have hS3 : ((w1.setCell ⟨w.heap.size, 3, none⟩ (.slice (some ⟨g1, 0, none⟩) es.length c1)).alloc (.cells #[] 45)).heap.size = w1.heap.size + 1 := by simp
  obtain ⟨W2, hW2⟩ : ∃ W2, (w1.setCell ⟨w.heap.size, 3, none⟩ (.slice (some ⟨g1, 0, none⟩) es.length c1)).alloc (.cells #[] 45) = W2 := ⟨_, rfl⟩
  rw [hW2] at a2 r2 hb2 o2 e2 hS3
  have HEW : Hid (RE W2 h ms) := HEw.out.below hb2
  have x4 : W2.cell? ⟨w.heap.size, 4, none⟩ = some (.slice ha ms.length ch) := bcell a2 rfl
  have HA2 : Hid (W2.heap[w.heap.size]? = some (.cells #[.string sn, .int .i64 lo, .int .i64 nx, .slice (some ⟨g1, 0, none⟩) es.length c1, .slice ha ms.length ch] 27 (0, 0))) := a2
  have HR2 : Hid (W2.heap[w.heap.size + 1]? = some (.cells #[.string ⟨#[]⟩, .int .i64 0, .int .i64 0, .slice none 0 0, .slice none 0 0] 27 (0, 0))) := r2
  have HO2 : Hid (W2.ownsRow (w.heap.size + 2) 45 2 (.slice (some ⟨w1.heap.size, 0, none⟩) 0 0) 0 []) := o2
  have HE2 : Hid (W2.ownsRow (w.heap.size + 2) 43 3 (.slice (some ⟨g1, 0, none⟩) es.length c1) es.length (es.flatMap flY.c)) := e2
  clear a1 r1 a2 r2 o2 e2 hown1 hgrow1 hnil1 hgr1 hW x3 x3f HYW HA HR HO HEw
  go_wp2_with (at_builtin; refine apo.wpList_append_opt _ rfl _ _ 25 rfl (w.heap.size + 2) 45 i1 (.agg #[.string ByteArray.empty, .int .i64 0]) 2 24 Tryd.underlying25 ki kz0 kz1 kz2 rfl (by decide) _ 0 [] rfl (by exact HO2.out) ha h ms.length ch hha.out (ms.flatMap flK.c) rfl (flat_len flK.c_len ms) (by exact newsK HEW.out) (oneK ms) (by unfold maxLen; omega) (by omega) (by omega) ?_)
  intro v2 w2 hown2 hgrow2 hnil2
  obtain ⟨h1, c2, rfl, hh1, hh1l⟩ := form hown2 (fun e => by first | exact hnil2 e | (have := hnil2.1 e; cases this.1))
  have hgr2 : W2.grownBy w2 (some w1.heap.size) := hgrow2
  have a3 := grown_at hgr2 HA2.out (by simp; omega)
  have r3 := grown_at hgr2 HR2.out (by simp; omega)
  have hs2 := hgr2.size
  have e3 := HE2.out.kept hgr2 (.inr (by simp [Value.ownBlock]; omega))
  have hne : g1 ≠ h1 := apart e3 hown2
  have y0 : w2.cell? ⟨w.heap.size, 0, none⟩ = some (.string sn) := bcell a3 rfl
  have y1 : w2.cell? ⟨w.heap.size, 1, none⟩ = some (.int .i64 lo) := bcell a3 rfl
  have y2 : w2.cell? ⟨w.heap.size, 2, none⟩ = some (.int .i64 nx) := bcell a3 rfl
  have y3 : w2.cell? ⟨w.heap.size, 3, none⟩ = some (.slice (some ⟨g1, 0, none⟩) es.length c1) := bcell a3 rfl
  have y4 : w2.cell? ⟨w.heap.size, 4, none⟩ = some (.slice ha ms.length ch) := bcell a3 rfl
  have y4f := bfree a3 4
  have z0 : w2.cell? ⟨w.heap.size + 1, 0, none⟩ = some (.string ⟨#[]⟩) := bcell r3 rfl
  have z1 : w2.cell? ⟨w.heap.size + 1, 1, none⟩ = some (.int .i64 0) := bcell r3 rfl
  have z2 : w2.cell? ⟨w.heap.size + 1, 2, none⟩ = some (.int .i64 0) := bcell r3 rfl
  have z3 : w2.cell? ⟨w.heap.size + 1, 3, none⟩ = some (.slice none 0 0) := bcell r3 rfl
  have z4 : w2.cell? ⟨w.heap.size + 1, 4, none⟩ = some (.slice none 0 0) := bcell r3 rfl
  have z0f := bfree r3 0
  have z1f := bfree r3 1
  have z2f := bfree r3 2
  have z3f := bfree r3 3
  have z4f := bfree r3 4
  have hb3 : Below w.heap.size w w2 := hb2.grown hgr2 (by omega) (fun b hb => by cases hb; omega)
  have HE3 : Hid (w2.ownsRow (w.heap.size + 2) 43 3 (.slice (some ⟨g1, 0, none⟩) es.length c1) es.length (es.flatMap flY.c)) := e3
  have HM3 : Hid (w2.ownsRow (w.heap.size + 2) 45 2 (.slice (some ⟨h1, 0, none⟩) ms.length c2) ms.length (ms.flatMap flK.c)) := hown2
  clear a3 r3 e3 hown2 hgrow2 hnil2 hgr2 hW2 x4 HA2 HR2 HO2 HE2 HEW
  go_wp2
  refine bodyPost_ret (v := .agg #[.string sn, .int .i64 lo, .int .i64 nx, .slice (some ⟨g1, 0, none⟩) es.length c1, .slice (some ⟨h1, 0, none⟩) ms.length c2]) (by simp [results, Tryd.results29, go_sem, z0, z1, z2, z3, z4]) rfl ⟨g1, c1, h1, c2, rfl, ?_, ?_, hne, ?_⟩
  · exact own_low (own_sets HE3.out (by omega)) (by omega)
  · exact own_low (own_sets HM3.out (by omega)) (by omega)
  · exact sets_below hb3 (by omega)
end Go.Proofs.YtlfhfcgcfggjcaaDoor.scp
