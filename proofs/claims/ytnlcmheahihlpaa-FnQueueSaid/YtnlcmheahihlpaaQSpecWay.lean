/- The specification's l05Copy, and a queue's way through the specification's functions. -/
import Derived.Test.YtnlcmheahihlpaaQueueOkSpec
import Derived.Test.YtnlcmheahihlpaaFlatOwn
import Derived.Test.YtnlcmheahihlpaaAppendAny
import Derived.Maps.AppendAt
namespace Go.Proofs.Ytnlcmheahihlpaa.qsp
open Go.ChangeShapes Go.WideShapes Go.ChangeAt Go.RowKit Go.Proofs.Ytnlcmheahihlpaa.fl
set_option linter.unusedVariables false

structure Fit (sn : ByteArray) (es : List flM.Ms) (ms : List flH.Hd) : Prop where
  ns : sn.size ≤ 1048576
  el : es.length ≤ 1048576
  ml : ms.length ≤ 1048576
  eb : ∀ e ∈ es, e.x.size ≤ 1048576 ∧ e.k.size ≤ 1048576 ∧ e.b.size ≤ 1048576
  mb : ∀ e ∈ ms, e.m.x.size ≤ 1048576 ∧ e.m.k.size ≤ 1048576 ∧ e.m.b.size ≤ 1048576
noncomputable def okB (sn : ByteArray) (nx : Int) (es : List flM.Ms) (ms : List flH.Hd) : Bool := @decide (qk.OkQ sn nx es ms) (Classical.propDecidable _)
theorem okB_true {sn : ByteArray} {nx : Int} {es : List flM.Ms} {ms : List flH.Hd} : okB sn nx es ms = true ↔ qk.OkQ sn nx es ms := by unfold okB; exact @decide_eq_true_iff _ (Classical.propDecidable _)
theorem okB_of {sn : ByteArray} {nx : Int} {es : List flM.Ms} {ms : List flH.Hd} {b : Bool} (h : b = true ↔ qk.OkQ sn nx es ms) : okB sn nx es ms = b := by
  cases b with
  | true => exact okB_true.2 (h.1 rfl)
  | false =>
    cases hh : okB sn nx es ms with
    | false => rfl
    | true => have := h.2 (okB_true.1 hh); cases this
theorem own_form {w : World} {B n : Nat} {U : TypeId} {s : Nat} {v : Value} {xs : List Value} (h : w.ownsRow B U s v (n + 1) xs) : ∃ g cap, v = .slice (some ⟨g, 0, none⟩) (n + 1) cap := by
  obtain ⟨_, ⟨rfl, h0⟩ | ⟨g, cap, cur, rfl, _⟩⟩ := h
  · omega
  · exact ⟨g, cap, rfl⟩
theorem own_empty (w : World) (B : Nat) (U : TypeId) (s : Nat) (hB : B ≤ w.heap.size) : (w.alloc (.cells #[] U)).ownsRow B U s (.slice (some ⟨w.heap.size, 0, none⟩) 0 0) 0 [] :=
  ⟨by simp, .inr ⟨w.heap.size, 0, #[], rfl, hB, bnew w _ _, Nat.le_refl _, by unfold maxLen; omega, by simp, by simp⟩⟩
theorem own_stay {w w' : World} {B n : Nat} {U : TypeId} {s g cap : Nat} {xs : List Value} (h : w.ownsRow B U s (.slice (some ⟨g, 0, none⟩) n cap) n xs) (hb : Below w.heap.size w w') : w'.ownsRow B U s (.slice (some ⟨g, 0, none⟩) n cap) n xs := by
  obtain ⟨h0, ⟨h1, _⟩ | ⟨g', cap', cur, h1, h2, h3, h4⟩⟩ := h
  · cases h1
  · cases h1
    exact ⟨h0, .inr ⟨g, cap, cur, rfl, h2, bstay h3 hb (Array.getElem?_eq_some_iff.1 h3).1, h4⟩⟩
theorem cells_new (w : World) (e : flM.Ms) : ∀ (j : Nat) (u : Value), (flM.c e)[j]? = some u → (w.alloc (.cells #[.int .i64 e.q, .string e.x, .string e.k, .string e.b, .bool e.a] 41)).cell? ((⟨w.heap.size, 0, none⟩ : Addr).add j) = some u := fun j u hu => by
  have h := bnew w #[.int .i64 e.q, .string e.x, .string e.k, .string e.b, .bool e.a] 41
  have e1 : (⟨w.heap.size, 0, none⟩ : Addr).add j = ⟨w.heap.size, j, none⟩ := by unfold Addr.add; split <;> simp_all
  rw [e1]
  exact bcell h (by simpa [flM.c] using hu)
theorem form {w : World} {B n : Nat} {U : TypeId} {s : Nat} {v : Value} {xs : List Value} (h : w.ownsRow B U s v n xs) (hv : v ≠ .slice none 0 0) : ∃ g cap, v = .slice (some ⟨g, 0, none⟩) n cap ∧ B ≤ g ∧ g < w.heap.size := by
  obtain ⟨_, ⟨rfl, h0⟩ | ⟨g, cap, cur, rfl, hB, hg, _⟩⟩ := h
  · exact absurd rfl hv
  · exact ⟨g, cap, rfl, hB, (Array.getElem?_eq_some_iff.1 hg).1⟩
theorem add_at (g o j : Nat) : (⟨g, o, none⟩ : Addr).add j = ⟨g, o + j, none⟩ := by unfold Addr.add; split <;> simp_all
theorem newsR {α : Type} {c : α → List Value} {n : Nat} (hn : ∀ e, (c e).length = n) {w : World} {g B : Nat} {l : List α} (h : Row c n w B (some ⟨g, 0, none⟩) l) : ∀ (j : Nat) (u : Value), (l.flatMap c)[j]? = some u → w.cell? ((⟨g, 0, none⟩ : Addr).add j) = some u := fun j u hu => by
  obtain ⟨i, e, r, h1, h2, rfl⟩ := flat_get hn l j u hu
  rw [add_at, Nat.zero_add]
  rcases h with rfl | ⟨b, off, ha, _, hc⟩
  · simp at h1
  · cases ha
    have := hc i e h1 r u h2
    rw [Nat.zero_add] at this
    exact this
theorem oneY (es : List flM.Ms) : ∀ u ∈ es.flatMap flM.c, u.oneCell' = true := fun u hu => by
  obtain ⟨e, _, he⟩ := List.mem_flatMap.1 hu
  simp [flM.c] at he
  rcases he with rfl | rfl | rfl | rfl | rfl <;> rfl
theorem oneK (ms : List flH.Hd) : ∀ u ∈ ms.flatMap flH.c, u.oneCell' = true := fun u hu => by
  obtain ⟨e, _, he⟩ := List.mem_flatMap.1 hu
  simp [flH.c] at he
  rcases he with rfl | rfl | rfl | rfl | rfl | rfl | rfl <;> rfl
theorem infoY : ∃ i0, Try.prog.info? 41 = some i0 ∧ i0.zero = some (.agg #[.int .i64 0, .string ByteArray.empty, .string ByteArray.empty, .string ByteArray.empty, .bool false]) ∧ i0.size = 5 ∧ i0.bytes = 64 := by
  have h := flM.info
  cases hh : Try.prog.info? 41 with
  | none => rw [hh] at h; cases h
  | some i => rw [hh] at h; simp at h; exact ⟨i, rfl, h.1, h.2.1, h.2.2⟩
theorem infoK : ∃ i0, Try.prog.info? 55 = some i0 ∧ i0.zero = some (.agg #[.int .i64 0, .int .i64 0, .int .i64 0, .string ByteArray.empty, .string ByteArray.empty, .string ByteArray.empty, .bool false]) ∧ i0.size = 7 ∧ i0.bytes = 80 := by
  have h := flH.info
  cases hh : Try.prog.info? 55 with
  | none => rw [hh] at h; cases h
  | some i => rw [hh] at h; simp at h; exact ⟨i, rfl, h.1, h.2.1, h.2.2⟩
/-- a block that no row has stays through a row's growing -/
theorem grown_at {w w' : World} {r : Option Nat} {b : Nat} {o : Obj} (hg : w.grownBy w' r) (h : w.heap[b]? = some o) (hr : r ≠ some b) : w'.heap[b]? = some o := (hg.block b (Array.getElem?_eq_some_iff.1 h).1 (fun e => hr e.symm)).trans h

theorem own_set {w : World} {B n : Nat} {U : TypeId} {s : Nat} {v : Value} {xs : List Value} (h : w.ownsRow B U s v n xs) (b o : Nat) (u : Value) (hb : b < B) : (w.setCell ⟨b, o, none⟩ u).ownsRow B U s v n xs := by
  obtain ⟨h0, h1 | ⟨g, cap, cur, h1, h2, h3, h4⟩⟩ := h
  · exact ⟨h0, .inl h1⟩
  · exact ⟨h0, .inr ⟨g, cap, cur, h1, h2, boff h3 b o u (by omega), h4⟩⟩
theorem own_low {w : World} {B B' n : Nat} {U : TypeId} {s : Nat} {v : Value} {xs : List Value} (h : w.ownsRow B U s v n xs) (hb : B' ≤ B) : w.ownsRow B' U s v n xs := by
  obtain ⟨h0, h1 | ⟨g, cap, cur, h1, h2, h3⟩⟩ := h
  · exact ⟨h0, .inl h1⟩
  · exact ⟨h0, .inr ⟨g, cap, cur, h1, by omega, h3⟩⟩
theorem apart {w : World} {B n m g h c1 c2 : Nat} {xs ys : List Value} (h1 : w.ownsRow B 41 5 (.slice (some ⟨g, 0, none⟩) n c1) n xs) (h2 : w.ownsRow B 55 7 (.slice (some ⟨h, 0, none⟩) m c2) m ys) : g ≠ h := by
  obtain ⟨_, ⟨h1, _⟩ | ⟨g1, cap, cur, h1, _, h3, _⟩⟩ := h1
  · cases h1
  obtain ⟨_, ⟨h2, _⟩ | ⟨g2, cap2, cur2, h2, _, h4, _⟩⟩ := h2
  · cases h2
  cases h1
  cases h2
  rintro rfl
  rw [h3] at h4
  simp at h4
/-- the last stores: the box's fourth field, and the answer's four -/
def sets (w : World) (a b : Nat) (u x0 x2 x3 x4 : Value) : World := ((((w.setCell ⟨a, 3, none⟩ u).setCell ⟨b, 0, none⟩ x0).setCell ⟨b, 1, none⟩ x2).setCell ⟨b, 2, none⟩ x3).setCell ⟨b, 3, none⟩ x4
theorem own_sets {w : World} {B n a b : Nat} {U : TypeId} {s : Nat} {v u x0 x2 x3 x4 : Value} {xs : List Value} (h : w.ownsRow B U s v n xs) (hb : a < B ∧ b < B) : (sets w a b u x0 x2 x3 x4).ownsRow B U s v n xs :=
  own_set (own_set (own_set (own_set (own_set h _ _ _ hb.1) _ _ _ hb.2) _ _ _ hb.2) _ _ _ hb.2) _ _ _ hb.2
theorem sets_below {w0 w : World} {a b : Nat} {u x0 x2 x3 x4 : Value} (h : Below w0.heap.size w0 w) (ha : w0.heap.size ≤ a ∧ w0.heap.size ≤ b) : Below w0.heap.size w0 (sets w a b u x0 x2 x3 x4) :=
  ((((h.setCell ha.1 _).setCell ha.2 _).setCell ha.2 _).setCell ha.2 _).setCell ha.2 _

/-- a list that lies somewhere, or nothing in no room -/
def NZ (a : Option Addr) (n c : Nat) : Prop := ∃ q, apa.NQ a q n c
theorem newsN {α : Type} {c : α → List Value} {n : Nat} (hn : ∀ e, (c e).length = n) {w : World} {a : Option Addr} {q : Addr} {B cap : Nat} {l : List α} (hq : apa.NQ a q l.length cap) (h : Row c n w B a l) : ∀ (j : Nat) (u : Value), (l.flatMap c)[j]? = some u → w.cell? (q.add j) = some u := fun j u hu => by
  rcases h with rfl | ⟨b, off, rfl, hlt, hc⟩
  · simp at hu
  · obtain ⟨i, x, r, h1, h2, rfl⟩ := flat_get hn l j u hu
    have hl := (List.getElem?_eq_some_iff.1 h1).1
    have hq2 := hq.at (by omega)
    cases hq2
    have e2 : (⟨b, off, none⟩ : Addr).add (i * n + r) = ⟨b, off + i * n + r, none⟩ := by unfold Addr.add; split <;> simp_all <;> omega
    rw [e2]
    exact hc i x h1 r u h2
set_option maxRecDepth 100000 in
set_option maxHeartbeats 2000000 in
theorem spec_copy (sn : ByteArray) (nx : Int) (es : List flM.Ms) (ms : List flH.Hd) (ga ha : Option Addr) (cg ch : Nat) (w : World) (F : Fit sn es ms) (hGQ : NZ ga es.length cg) (hHQ : NZ ha ms.length ch) (hY : Row flM.c 5 w w.heap.size ga es) (hE : Row flH.c 7 w w.heap.size ha ms) :
    Calls Try.prog 26 #[.agg #[.string sn, .int .i64 nx, .slice ga es.length cg, .slice ha ms.length ch]] w fun e w' => ∃ g1 c1 h1 c2, e = .returned (.agg #[.string sn, .int .i64 nx, .slice (some ⟨g1, 0, none⟩) es.length c1, .slice (some ⟨h1, 0, none⟩) ms.length c2]) ∧ w'.ownsRow w.heap.size 41 5 (.slice (some ⟨g1, 0, none⟩) es.length c1) es.length (es.flatMap flM.c) ∧ w'.ownsRow w.heap.size 55 7 (.slice (some ⟨h1, 0, none⟩) ms.length c2) ms.length (ms.flatMap flH.c) ∧ g1 ≠ h1 ∧ Below w.heap.size w w' := by
  obtain ⟨i0, hi, hz0, hz1, hz2⟩ := infoY
  obtain ⟨gQ, hGN⟩ := hGQ
  obtain ⟨hQ, hHN⟩ := hHQ
  obtain ⟨i1, ki, kz0, kz1, kz2⟩ := infoK
  have hel := F.el
  have hml := F.ml
  have hb : Below w.heap.size w (((w.alloc (.cells #[.string sn, .int .i64 nx, .slice ga es.length cg, .slice ha ms.length ch] 27)).alloc (.cells #[.string ⟨#[]⟩, .int .i64 0, .slice none 0 0, .slice none 0 0] 27)).alloc (.cells #[] 41)) := (((Below.refl _ _).alloc (Nat.le_refl _) _).alloc (by simp) _).alloc (by simp; omega) _
  have hA := bold (bold (bnew w #[.string sn, .int .i64 nx, .slice ga es.length cg, .slice ha ms.length ch] 27) (.cells #[.string ⟨#[]⟩, .int .i64 0, .slice none 0 0, .slice none 0 0] 27)) (.cells #[] 41)
  have hR := bold (bnew (w.alloc (.cells #[.string sn, .int .i64 nx, .slice ga es.length cg, .slice ha ms.length ch] 27)) #[.string ⟨#[]⟩, .int .i64 0, .slice none 0 0, .slice none 0 0] 27) (.cells #[] 41)
  rw [World.size_alloc] at hR
  have ho := own_empty ((w.alloc (.cells #[.string sn, .int .i64 nx, .slice ga es.length cg, .slice ha ms.length ch] 27)).alloc (.cells #[.string ⟨#[]⟩, .int .i64 0, .slice none 0 0, .slice none 0 0] 27)) (w.heap.size + 2) 41 5 (by simp)
  have hS : (((w.alloc (.cells #[.string sn, .int .i64 nx, .slice ga es.length cg, .slice ha ms.length ch] 27)).alloc (.cells #[.string ⟨#[]⟩, .int .i64 0, .slice none 0 0, .slice none 0 0] 27)).alloc (.cells #[] 41)).heap.size = w.heap.size + 3 := by simp
  have hS2 : ((w.alloc (.cells #[.string sn, .int .i64 nx, .slice ga es.length cg, .slice ha ms.length ch] 27)).alloc (.cells #[.string ⟨#[]⟩, .int .i64 0, .slice none 0 0, .slice none 0 0] 27)).heap.size = w.heap.size + 2 := by simp
  rw [hS2] at ho
  obtain ⟨W, hW⟩ : ∃ W, ((w.alloc (.cells #[.string sn, .int .i64 nx, .slice ga es.length cg, .slice ha ms.length ch] 27)).alloc (.cells #[.string ⟨#[]⟩, .int .i64 0, .slice none 0 0, .slice none 0 0] 27)).alloc (.cells #[] 41) = W := ⟨_, rfl⟩
  rw [hW] at hb hA hR ho hS
  have HYW : Hid (Row flM.c 5 W W.heap.size ga es) := hY.inn hb
  have HEw : Hid (Row flH.c 7 w w.heap.size ha ms) := hE
  have x3 : W.cell? ⟨w.heap.size, 2, none⟩ = some (.slice ga es.length cg) := bcell hA rfl
  have x3f := bfree hA 2
  have HA : Hid (W.heap[w.heap.size]? = some (.cells #[.string sn, .int .i64 nx, .slice ga es.length cg, .slice ha ms.length ch] 27 (0, 0))) := hA
  have HR : Hid (W.heap[w.heap.size + 1]? = some (.cells #[.string ⟨#[]⟩, .int .i64 0, .slice none 0 0, .slice none 0 0] 27 (0, 0))) := hR
  have HO : Hid (W.ownsRow (w.heap.size + 2) 41 5 (.slice (some ⟨w.heap.size + 2, 0, none⟩) 0 0) 0 []) := ho
  clear hY hE hA hR ho F
  go_enter Try.func26, Try.ntmps26
  go_wp2_with (at_builtin; refine apa.wpList_append_any _ rfl _ _ 24 rfl (w.heap.size + 2) 41 i0 (.agg #[.int .i64 0, .string ByteArray.empty, .string ByteArray.empty, .string ByteArray.empty, .bool false]) 5 64 Try.underlying24 hi hz0 hz1 hz2 rfl (by decide) _ 0 [] rfl (by exact HO.out) ga gQ es.length cg hGN (es.flatMap flM.c) rfl (flat_len flM.c_len es) (by exact newsN flM.c_len hGN HYW.out) (oneY es) (by unfold maxLen; omega) (by omega) (by omega) ?_)
  intro v1 w1 hown1 hgrow1 hnil1
  obtain ⟨g1, c1, rfl, hg1, hg1l⟩ := form hown1 (fun e => by first | exact hnil1 e | (have := hnil1.1 e; cases this.1))
  have hgr1 : W.grownBy w1 (some (w.heap.size + 2)) := hgrow1
  have a1 := grown_at hgr1 HA.out (by simp)
  have r1 := grown_at hgr1 HR.out (by simp)
  have hs1 := hgr1.size
  have y3 : w1.cell? ⟨w.heap.size, 2, none⟩ = some (.slice ga es.length cg) := bcell a1 rfl
  have y3f := bfree a1 2
  have hb1 : Below w.heap.size w w1 := hb.grown hgr1 (by omega) (fun b hb => by cases hb; omega)
  -- the row is stored, and the second empty row laid
  have a2 := bold (bset a1 2 (.slice (some ⟨g1, 0, none⟩) es.length c1)) (.cells #[] 55)
  have r2 := bold (boff r1 w.heap.size 2 (.slice (some ⟨g1, 0, none⟩) es.length c1) (by omega)) (.cells #[] 55)
  have hb2 : Below w.heap.size w ((w1.setCell ⟨w.heap.size, 2, none⟩ (.slice (some ⟨g1, 0, none⟩) es.length c1)).alloc (.cells #[] 55)) := (hb1.setCell (Nat.le_refl _) _).alloc (by simp; omega) _
  have hsz2 : (w1.setCell ⟨w.heap.size, 2, none⟩ (.slice (some ⟨g1, 0, none⟩) es.length c1)).heap.size = w1.heap.size := by simp
  have o2 := own_empty (w1.setCell ⟨w.heap.size, 2, none⟩ (.slice (some ⟨g1, 0, none⟩) es.length c1)) (w.heap.size + 2) 55 7 (by simp; omega)
  rw [hsz2] at o2
  have e2 : ((w1.setCell ⟨w.heap.size, 2, none⟩ (.slice (some ⟨g1, 0, none⟩) es.length c1)).alloc (.cells #[] 55)).ownsRow (w.heap.size + 2) 41 5 (.slice (some ⟨g1, 0, none⟩) es.length c1) es.length (es.flatMap flM.c) := (own_set hown1 w.heap.size 2 (.slice (some ⟨g1, 0, none⟩) es.length c1) (by omega)).alloc _
  have hS3 : ((w1.setCell ⟨w.heap.size, 2, none⟩ (.slice (some ⟨g1, 0, none⟩) es.length c1)).alloc (.cells #[] 55)).heap.size = w1.heap.size + 1 := by simp
  obtain ⟨W2, hW2⟩ : ∃ W2, (w1.setCell ⟨w.heap.size, 2, none⟩ (.slice (some ⟨g1, 0, none⟩) es.length c1)).alloc (.cells #[] 55) = W2 := ⟨_, rfl⟩
  rw [hW2] at a2 r2 hb2 o2 e2 hS3
  have HEW : Hid (Row flH.c 7 W2 W2.heap.size ha ms) := HEw.out.inn hb2
  have x4 : W2.cell? ⟨w.heap.size, 3, none⟩ = some (.slice ha ms.length ch) := bcell a2 rfl
  have HA2 : Hid (W2.heap[w.heap.size]? = some (.cells #[.string sn, .int .i64 nx, .slice (some ⟨g1, 0, none⟩) es.length c1, .slice ha ms.length ch] 27 (0, 0))) := a2
  have HR2 : Hid (W2.heap[w.heap.size + 1]? = some (.cells #[.string ⟨#[]⟩, .int .i64 0, .slice none 0 0, .slice none 0 0] 27 (0, 0))) := r2
  have HO2 : Hid (W2.ownsRow (w.heap.size + 2) 55 7 (.slice (some ⟨w1.heap.size, 0, none⟩) 0 0) 0 []) := o2
  have HE2 : Hid (W2.ownsRow (w.heap.size + 2) 41 5 (.slice (some ⟨g1, 0, none⟩) es.length c1) es.length (es.flatMap flM.c)) := e2
  clear a1 r1 a2 r2 o2 e2 hown1 hgrow1 hnil1 hgr1 hW x3 x3f HYW HA HR HO HEw
  go_wp2_with (at_builtin; refine apa.wpList_append_any _ rfl _ _ 25 rfl (w.heap.size + 2) 55 i1 (.agg #[.int .i64 0, .int .i64 0, .int .i64 0, .string ByteArray.empty, .string ByteArray.empty, .string ByteArray.empty, .bool false]) 7 80 Try.underlying25 ki kz0 kz1 kz2 rfl (by decide) _ 0 [] rfl (by exact HO2.out) ha hQ ms.length ch hHN (ms.flatMap flH.c) rfl (flat_len flH.c_len ms) (by exact newsN flH.c_len hHN HEW.out) (oneK ms) (by unfold maxLen; omega) (by omega) (by omega) ?_)
  intro v2 w2 hown2 hgrow2 hnil2
  obtain ⟨h1, c2, rfl, hh1, hh1l⟩ := form hown2 (fun e => by first | exact hnil2 e | (have := hnil2.1 e; cases this.1))
  have hgr2 : W2.grownBy w2 (some w1.heap.size) := hgrow2
  have a3 := grown_at hgr2 HA2.out (by simp; omega)
  have r3 := grown_at hgr2 HR2.out (by simp; omega)
  have hs2 := hgr2.size
  have e3 := HE2.out.kept hgr2 (.inr (by simp [Value.ownBlock]; omega))
  have hne : g1 ≠ h1 := apart e3 hown2
  have y0 : w2.cell? ⟨w.heap.size, 0, none⟩ = some (.string sn) := bcell a3 rfl
  have y2 : w2.cell? ⟨w.heap.size, 1, none⟩ = some (.int .i64 nx) := bcell a3 rfl
  have y3 : w2.cell? ⟨w.heap.size, 2, none⟩ = some (.slice (some ⟨g1, 0, none⟩) es.length c1) := bcell a3 rfl
  have y4 : w2.cell? ⟨w.heap.size, 3, none⟩ = some (.slice ha ms.length ch) := bcell a3 rfl
  have y4f := bfree a3 3
  have z0 : w2.cell? ⟨w.heap.size + 1, 0, none⟩ = some (.string ⟨#[]⟩) := bcell r3 rfl
  have z2 : w2.cell? ⟨w.heap.size + 1, 1, none⟩ = some (.int .i64 0) := bcell r3 rfl
  have z3 : w2.cell? ⟨w.heap.size + 1, 2, none⟩ = some (.slice none 0 0) := bcell r3 rfl
  have z4 : w2.cell? ⟨w.heap.size + 1, 3, none⟩ = some (.slice none 0 0) := bcell r3 rfl
  have z0f := bfree r3 0
  have z2f := bfree r3 1
  have z3f := bfree r3 2
  have z4f := bfree r3 3
  have hb3 : Below w.heap.size w w2 := hb2.grown hgr2 (by omega) (fun b hb => by cases hb; omega)
  have HE3 : Hid (w2.ownsRow (w.heap.size + 2) 41 5 (.slice (some ⟨g1, 0, none⟩) es.length c1) es.length (es.flatMap flM.c)) := e3
  have HM3 : Hid (w2.ownsRow (w.heap.size + 2) 55 7 (.slice (some ⟨h1, 0, none⟩) ms.length c2) ms.length (ms.flatMap flH.c)) := hown2
  clear a3 r3 e3 hown2 hgrow2 hnil2 hgr2 hW2 x4 HA2 HR2 HO2 HE2 HEW
  go_wp2
  refine bodyPost_ret (v := .agg #[.string sn, .int .i64 nx, .slice (some ⟨g1, 0, none⟩) es.length c1, .slice (some ⟨h1, 0, none⟩) ms.length c2]) (by simp [results, Try.results26, go_sem, z0, z2, z3, z4]) rfl ⟨g1, c1, h1, c2, rfl, ?_, ?_, hne, ?_⟩
  · exact own_low (own_sets HE3.out (by omega)) (by omega)
  · exact own_low (own_sets HM3.out (by omega)) (by omega)
  · exact sets_below hb3 (by omega)
theorem row_owns {α : Type} {c : α → List Value} {n : Nat} (hn : ∀ e, (c e).length = n) {w : World} {B g cap : Nat} {U : TypeId} {l : List α} (h : w.ownsRow B U n (.slice (some ⟨g, 0, none⟩) l.length cap) l.length (l.flatMap c)) : Row c n w w.heap.size (some ⟨g, 0, none⟩) l := by
  obtain ⟨a, cap', hv, hr⟩ := own_row hn h
  cases hv
  exact hr
theorem spec_okb (sn : ByteArray) (nx : Int) (es : List flM.Ms) (ms : List flH.Hd) (ga ha : Option Addr) (cg ch : Nat) (w : World) (F : Fit sn es ms) (hY : Row flM.c 5 w w.heap.size ga es) (hE : Row flH.c 7 w w.heap.size ha ms) :
    Calls Try.prog 12 #[.agg #[.string sn, .int .i64 nx, .slice ga es.length cg, .slice ha ms.length ch]] w fun e w' => e = .returned (.bool (okB sn nx es ms)) ∧ Below w.heap.size w w' := by
  refine (qks.spec_ok sn nx es ms _ _ cg ch w F.ns F.el F.ml F.eb F.mb hY hE).mono ?_
  rintro e w' ⟨⟨b, rfl, hb⟩, h⟩
  rw [okB_of hb]
  exact ⟨rfl, h⟩
theorem owns_at {w : World} {B n s g c : Nat} {U : TypeId} {xs : List Value} (h : w.ownsRow B U s (.slice (some ⟨g, 0, none⟩) n c) n xs) : B ≤ g ∧ ∃ cur, w.heap[g]? = some (.cells cur U (0, 0)) := by
  obtain ⟨_, ⟨h1, _⟩ | ⟨g', cap', cur, h1, h2, h3, _⟩⟩ := h
  · cases h1
  cases h1
  exact ⟨h2, cur, h3⟩
theorem owns_ne {w : World} {B n s g c b : Nat} {U V : TypeId} {xs : List Value} {cur : Array Value} (hUV : U ≠ V) (h : w.ownsRow B U s (.slice (some ⟨g, 0, none⟩) n c) n xs) (hb : w.heap[b]? = some (.cells cur V (0, 0))) : g ≠ b := by
  rintro rfl
  obtain ⟨_, cur2, h2⟩ := owns_at h
  rw [hb] at h2
  simp at h2
  exact hUV h2.2.symm
theorem owns_set {w : World} {B n s g c b o : Nat} {U : TypeId} {xs : List Value} (h : w.ownsRow B U s (.slice (some ⟨g, 0, none⟩) n c) n xs) (hne : g ≠ b) (u : Value) : (w.setCell ⟨b, o, none⟩ u).ownsRow B U s (.slice (some ⟨g, 0, none⟩) n c) n xs := by
  obtain ⟨h0, ⟨h1, _⟩ | ⟨g', cap', cur, h1, h2, h3, h4⟩⟩ := h
  · cases h1
  cases h1
  exact ⟨h0, .inr ⟨g, c, cur, rfl, h2, boff h3 b o u hne, h4⟩⟩

/-- what stands on the way -/
structure SP (w : World) (sn : ByteArray) (nx : Int) (es : List flM.Ms) (ms : List flH.Hd) (ga ha : Option Addr) (cg ch : Nat) (n8 : Nat) (nv : Int) (g1 c1 h1 c2 : Nat) (l : List flM.Ms) (X : World) : Prop where
  bel : Below w.heap.size w X
  box : X.heap[w.heap.size]? = some (.cells #[.string sn, .int .i64 nx, .slice ga es.length cg, .slice ha ms.length ch] 27 (0, 0))
  res : X.heap[w.heap.size + 1]? = some (.cells #[.string ⟨#[]⟩, .int .i64 0, .slice none 0 0, .slice none 0 0] 27 (0, 0))
  out : X.heap[n8]? = some (.cells #[.string sn, .int .i64 nv, .slice (some ⟨g1, 0, none⟩) l.length c1, .slice (some ⟨h1, 0, none⟩) ms.length c2] 27 (0, 0))
  oe : X.ownsRow (w.heap.size + 2) 41 5 (.slice (some ⟨g1, 0, none⟩) l.length c1) l.length (l.flatMap flM.c)
  om : X.ownsRow (w.heap.size + 2) 55 7 (.slice (some ⟨h1, 0, none⟩) ms.length c2) ms.length (ms.flatMap flH.c)
  h8 : w.heap.size + 2 ≤ n8
section
variable {w : World} {sn : ByteArray} {nx : Int} {es : List flM.Ms} {ms : List flH.Hd} {ga ha : Option Addr} {cg ch : Nat} {n8 g1 c1 h1 c2 : Nat} {nv : Int} {l : List flM.Ms} {X X' : World}
theorem SP.on (hs : SP w sn nx es ms ga ha cg ch n8 nv g1 c1 h1 c2 l X) (hb : Below X.heap.size X X') : SP w sn nx es ms ga ha cg ch n8 nv g1 c1 h1 c2 l X' :=
  ⟨hs.bel.trans (hb.mono hs.bel.size), bstay hs.box hb (Array.getElem?_eq_some_iff.1 hs.box).1, bstay hs.res hb (Array.getElem?_eq_some_iff.1 hs.res).1, bstay hs.out hb (Array.getElem?_eq_some_iff.1 hs.out).1, own_stay hs.oe hb, own_stay hs.om hb, hs.h8⟩
theorem SP.size (hs : SP w sn nx es ms ga ha cg ch n8 nv g1 c1 h1 c2 l X) : w.heap.size + 2 ≤ X.heap.size := (Array.getElem?_eq_some_iff.1 hs.res).1
end
theorem first_out (sn : ByteArray) (nx : Int) (es : List flM.Ms) (ms : List flH.Hd) (ga ha : Option Addr) (cg ch : Nat) (w w1 : World) (g1 c1 h1 c2 : Nat) (hb : Below ((w.alloc (.cells #[.string sn, .int .i64 nx, .slice ga es.length cg, .slice ha ms.length ch] 27)).alloc (.cells #[.string ⟨#[]⟩, .int .i64 0, .slice none 0 0, .slice none 0 0] 27)).heap.size ((w.alloc (.cells #[.string sn, .int .i64 nx, .slice ga es.length cg, .slice ha ms.length ch] 27)).alloc (.cells #[.string ⟨#[]⟩, .int .i64 0, .slice none 0 0, .slice none 0 0] 27)) w1)
    (oe : w1.ownsRow ((w.alloc (.cells #[.string sn, .int .i64 nx, .slice ga es.length cg, .slice ha ms.length ch] 27)).alloc (.cells #[.string ⟨#[]⟩, .int .i64 0, .slice none 0 0, .slice none 0 0] 27)).heap.size 41 5 (.slice (some ⟨g1, 0, none⟩) es.length c1) es.length (es.flatMap flM.c)) (om : w1.ownsRow ((w.alloc (.cells #[.string sn, .int .i64 nx, .slice ga es.length cg, .slice ha ms.length ch] 27)).alloc (.cells #[.string ⟨#[]⟩, .int .i64 0, .slice none 0 0, .slice none 0 0] 27)).heap.size 55 7 (.slice (some ⟨h1, 0, none⟩) ms.length c2) ms.length (ms.flatMap flH.c)) :
    SP w sn nx es ms ga ha cg ch w1.heap.size nx g1 c1 h1 c2 es (w1.alloc (.cells #[.string sn, .int .i64 nx, .slice (some ⟨g1, 0, none⟩) es.length c1, .slice (some ⟨h1, 0, none⟩) ms.length c2] 27)) := by
  have hS : ((w.alloc (.cells #[.string sn, .int .i64 nx, .slice ga es.length cg, .slice ha ms.length ch] 27)).alloc (.cells #[.string ⟨#[]⟩, .int .i64 0, .slice none 0 0, .slice none 0 0] 27)).heap.size = w.heap.size + 2 := by simp
  have hW : Below w.heap.size w ((w.alloc (.cells #[.string sn, .int .i64 nx, .slice ga es.length cg, .slice ha ms.length ch] 27)).alloc (.cells #[.string ⟨#[]⟩, .int .i64 0, .slice none 0 0, .slice none 0 0] 27)) := ((Below.refl _ _).alloc (Nat.le_refl _) _).alloc (by simp) _
  have hA := bold (bnew w #[.string sn, .int .i64 nx, .slice ga es.length cg, .slice ha ms.length ch] 27) (.cells #[.string ⟨#[]⟩, .int .i64 0, .slice none 0 0, .slice none 0 0] 27)
  have hR := bnew (w.alloc (.cells #[.string sn, .int .i64 nx, .slice ga es.length cg, .slice ha ms.length ch] 27)) #[.string ⟨#[]⟩, .int .i64 0, .slice none 0 0, .slice none 0 0] 27
  rw [World.size_alloc] at hR
  have hs1 := hb.size
  rw [hS] at oe om
  refine ⟨(hW.trans (hb.mono hW.size)).alloc (by omega) _, bold (bstay hA hb (by omega)) _, bold (bstay hR hb (by omega)) _, bnew w1 _ _, oe.alloc _, om.alloc _, by omega⟩

/-- the answer's four fields are laid -/
def res5 (w : World) (b : Nat) (x0 x2 x3 x4 : Value) : World := (((w.setCell ⟨b, 0, none⟩ x0).setCell ⟨b, 1, none⟩ x2).setCell ⟨b, 2, none⟩ x3).setCell ⟨b, 3, none⟩ x4
/-- an answer's list, in a row of its own -/
def OL {α : Type} (c : α → List Value) (n : Nat) (U : TypeId) (W : World) (B : Nat) (sa : Option Addr) (ce : Nat) (l : List α) : Prop := W.ownsRow B U n (.slice sa l.length ce) l.length (l.flatMap c)
theorem OL.row {α : Type} {c : α → List Value} {n : Nat} {U : TypeId} {W : World} {B : Nat} {sa : Option Addr} {ce : Nat} {l : List α} (hn : ∀ e, (c e).length = n) (h : OL c n U W B sa ce l) : Row c n W W.heap.size sa l := by
  obtain ⟨a, cap', hv, hr⟩ := own_row hn h
  injection hv with e1 e2 e3
  subst e1
  exact hr
/-- the held ones of an answer: a row of its own, or nothing in no room -/
def HL (W : World) (B : Nat) (sb : Option Addr) (cb : Nat) (l : List flH.Hd) : Prop := (l = [] ∧ cb = 0 ∧ (sb = none ∨ ∃ g, sb = some ⟨g, 0, none⟩)) ∨ ∃ g, sb = some ⟨g, 0, none⟩ ∧ OL flH.c 7 55 W B sb cb l
theorem HL.row {W : World} {B : Nat} {sb : Option Addr} {cb : Nat} {l : List flH.Hd} (h : HL W B sb cb l) : Row flH.c 7 W W.heap.size sb l := by
  rcases h with ⟨rfl, _⟩ | ⟨g, _, h⟩
  · exact .inl rfl
  · exact h.row flH.c_len
theorem HL.nz {W : World} {B : Nat} {sb : Option Addr} {cb : Nat} {l : List flH.Hd} (h : HL W B sb cb l) : NZ sb l.length cb := by
  rcases h with ⟨rfl, h, _⟩ | ⟨g, h, _⟩
  · cases sb with
    | none => exact ⟨⟨0, 0, none⟩, .inr ⟨rfl, rfl, h⟩⟩
    | some x => exact ⟨x, .inl rfl⟩
  · exact ⟨_, .inl h⟩
theorem fin_row {α : Type} {c : α → List Value} {n B g cap : Nat} {U : TypeId} {l : List α} {w : World} {x0 x2 x3 x4 : Value} (hn : ∀ e, (c e).length = n) (h : w.ownsRow (B + 2) U n (.slice (some ⟨g, 0, none⟩) l.length cap) l.length (l.flatMap c)) :
    OL c n U (res5 w (B + 1) x0 x2 x3 x4) (B + 2) (some ⟨g, 0, none⟩) cap l := by
  have hb := (owns_at h).1
  have h2 := owns_set (owns_set (owns_set (owns_set h (b := B + 1) (o := 0) (by omega) x0) (b := B + 1) (o := 1) (by omega) x2) (b := B + 1) (o := 2) (by omega) x3) (b := B + 1) (o := 3) (by omega) x4
  exact h2
theorem fin_below {w0 w : World} {B : Nat} {x0 x2 x3 x4 : Value} (h : Below B w0 w) (hB : B ≤ B + 1) : Below B w0 (res5 w (B + 1) x0 x2 x3 x4) :=
  (((h.setCell hB _).setCell hB _).setCell hB _).setCell hB _
theorem grow_sp {w : World} {sn : ByteArray} {nx : Int} {es : List flM.Ms} {ms : List flH.Hd} {ga ha : Option Addr} {cg ch : Nat} {n8 g1 c1 h1 c2 g3 c3 : Nat} {x k b : ByteArray} {X w3 : World} (hs : SP w sn nx es ms ga ha cg ch n8 nx g1 c1 h1 c2 es X) (hg : (X.alloc (.cells #[.int .i64 nx, .string x, .string k, .string b, .bool false] 41)).grownBy w3 (some g1))
    (ho : w3.ownsRow (w.heap.size + 2) 41 5 (.slice (some ⟨g3, 0, none⟩) (es.length + 1) c3) (es.length + 1) (es.flatMap flM.c ++ [.int .i64 nx, .string x, .string k, .string b, .bool false])) :
    (w3.cell? ⟨n8, 2, none⟩ = some (.slice (some ⟨g1, 0, none⟩) es.length c1) ∧ w3.cell? ⟨n8, 1, none⟩ = some (.int .i64 nx) ∧ w3.cell? ⟨w.heap.size, 1, none⟩ = some (.int .i64 nx)) ∧ (w3.frozen? ⟨n8, 2, none⟩ = false ∧ w3.frozen? ⟨n8, 1, none⟩ = false ∧ n8 ≠ w.heap.size) ∧
    SP w sn nx es ms ga ha cg ch n8 (nx + 1) g3 c3 h1 c2 (es ++ [⟨nx, x, k, b, false⟩]) ((w3.setCell ⟨n8, 2, none⟩ (.slice (some ⟨g3, 0, none⟩) (es.length + 1) c3)).setCell ⟨n8, 1, none⟩ (.int .i64 (nx + 1))) := by
  have hn1 := owns_ne (by decide) hs.oe hs.out
  have hn0 := (owns_at hs.oe).1
  have h8 := hs.h8
  have hal : Below X.heap.size X (X.alloc (.cells #[.int .i64 nx, .string x, .string k, .string b, .bool false] 41)) := (Below.refl _ _).alloc (Nat.le_refl _) _
  have hX := hs.on hal
  have b1 := grown_at hg hX.box (by simp; omega)
  have b2 := grown_at hg hX.res (by simp; omega)
  have b3 := grown_at hg hX.out (by simp; exact hn1)
  have hm := hX.om.kept hg (.inr (by
    have := hX.om
    have hne : h1 ≠ g1 := by
      obtain ⟨_, cur, hcur⟩ := owns_at hX.oe
      exact owns_ne (by decide) hX.om hcur
    simp [Value.ownBlock]
    exact hne))
  have hbel : Below w.heap.size w w3 := hX.bel.grown hg hX.bel.size (fun k hk => by cases hk; omega)
  have hm8 := owns_ne (by decide) hm b3
  have hg8 := owns_ne (by decide) ho b3
  have ho2 : w3.ownsRow (w.heap.size + 2) 41 5 (.slice (some ⟨g3, 0, none⟩) (es ++ [⟨nx, x, k, b, false⟩] : List flM.Ms).length c3) (es ++ [⟨nx, x, k, b, false⟩] : List flM.Ms).length ((es ++ [⟨nx, x, k, b, false⟩] : List flM.Ms).flatMap flM.c) := by
    rw [List.flatMap_append, List.length_append]
    exact ho
  refine ⟨⟨bcell b3 rfl, bcell b3 rfl, bcell b1 rfl⟩, ⟨bfree b3 2, bfree b3 1, by omega⟩, (hbel.setCell (by show w.heap.size ≤ n8; omega) _).setCell (by show w.heap.size ≤ n8; omega) _, boff (boff b1 _ _ _ (by omega)) _ _ _ (by omega), boff (boff b2 _ _ _ (by omega)) _ _ _ (by omega), ?_, owns_set (owns_set ho2 hg8 _) hg8 _, owns_set (owns_set hm hm8 _) hm8 _, h8⟩
  have := bset (bset b3 2 (.slice (some ⟨g3, 0, none⟩) (es.length + 1) c3)) 1 (.int .i64 (nx + 1))
  rw [List.length_append]
  exact this
end Go.Proofs.Ytnlcmheahihlpaa.qsp
