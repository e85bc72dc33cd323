/- Messages put back in their places: ascending, and the same as all of them sorted. -/
import Derived.Test.YtnlcmheahihlpaaFlatLib
import Derived.Test.YtnlcmheahihlpaaQw05
import Derived.Test.YtnlcmheahihlpaaQPushSpec
import Derived.Test.YtnlcmheahihlpaaQw06
import Derived.Test.YtnlcmheahihlpaaQDropPure

/- Rows of structures of their own that begin at an offset of their block. -/
namespace Go.Proofs.Ytnlcmheahihlpaa.fo
open Go.ChangeShapes Go.WideShapes Go.ChangeAt Go.RowKit Go.Proofs.Ytnlcmheahihlpaa.fl
set_option linter.unusedVariables false

section
variable {α : Type} {c : α → List Value} {n : Nat} {T : TypeId} {w w' : World} {a : Option Addr} {l : List α} {B g off k : Nat} {e : α}
/-- a row of its own in block g from cell off on, room for l, the first k of it laid -/
def OwnO (c : α → List Value) (n : Nat) (T : TypeId) (w : World) (g off : Nat) (l : List α) (k : Nat) : Prop :=
  ∃ cur, w.heap[g]? = some (.cells cur T (0, 0)) ∧ off + l.length * n ≤ cur.size ∧ ∀ (i : Nat) (e : α), i < k → l[i]? = some e → ∀ (j : Nat) (v : Value), (c e)[j]? = some v → cur[off + i * n + j]? = some v
theorem OwnO.at (h : OwnO c n T w g off l k) (o : Nat) (ho : o < off + l.length * n) : ∃ v, w.cell? ⟨g, o, none⟩ = some v := by
  obtain ⟨cur, hg, hs, _⟩ := h
  exact ⟨cur[o]'(by omega), by simp [World.cell?, hg, Array.getElem?_eq_getElem (show o < cur.size by omega)]⟩
theorem OwnO.free (h : OwnO c n T w g off l k) (o : Nat) : w.frozen? ⟨g, o, none⟩ = false := by
  obtain ⟨cur, hg, _⟩ := h
  simp [World.frozen?, hg]
theorem OwnO.below (h : OwnO c n T w g off l k) (hb : Below B w w') (hg : g < B) : OwnO c n T w' g off l k := by
  obtain ⟨cur, h1, h2⟩ := h
  exact ⟨cur, by rw [hb.block g hg]; exact h1, h2⟩
theorem OwnO.kept (h : OwnO c n T w g off l k) (hg : w'.heap[g]? = w.heap[g]?) : OwnO c n T w' g off l k := by
  obtain ⟨cur, h1, h2⟩ := h
  exact ⟨cur, by rw [hg]; exact h1, h2⟩
theorem OwnO.lt (h : OwnO c n T w g off l k) : g < w.heap.size := by
  obtain ⟨cur, hg, _⟩ := h
  exact (Array.getElem?_eq_some_iff.1 hg).1
theorem OwnO.row (h : OwnO c n T w g off l l.length) : Row c n w w.heap.size (some ⟨g, off, none⟩) l := by
  have hlt := h.lt
  obtain ⟨cur, hg, _, hc⟩ := h
  refine .inr ⟨g, off, rfl, hlt, fun i e he j v hv => ?_⟩
  have hx := hc i e (List.getElem?_eq_some_iff.1 he).1 he j v hv
  simp only [World.cell?, hg]
  simpa using hx
theorem OwnO.any {l' : List α} (h : OwnO c n T w g off l k) (hl : l'.length = l.length) : OwnO c n T w g off l' 0 := by
  obtain ⟨cur, h1, h2, _⟩ := h
  exact ⟨cur, h1, by rw [hl]; exact h2, fun i e hi => by omega⟩
theorem of_own (h : Own c n T w g l k) : OwnO c n T w g 0 l k := by
  obtain ⟨cur, h1, h2, h3⟩ := h
  exact ⟨cur, h1, by omega, fun i e hi he j v hv => by rw [Nat.zero_add]; exact h3 i e hi he j v hv⟩
theorem set_ne {cur : Array Value} {o o' : Nat} {v : Value} (h : w.heap[g]? = some (.cells cur T (0, 0))) (hne : o ≠ o') : (w.setCell ⟨g, o, none⟩ v).cell? ⟨g, o', none⟩ = w.cell? ⟨g, o', none⟩ := by
  have h2 := bset h o v
  simp only [World.cell?, h2, h]
  simp [hne]
theorem set_eq {cur : Array Value} {o : Nat} {v : Value} (h : w.heap[g]? = some (.cells cur T (0, 0))) (ho : o < cur.size) : (w.setCell ⟨g, o, none⟩ v).cell? ⟨g, o, none⟩ = some v := by
  have h2 := bset h o v
  simp only [World.cell?, h2]
  simp [ho]
/-- a cell behind the first k is set -/
theorem OwnO.put (hn : ∀ e, (c e).length = n) (h : OwnO c n T w g off l k) (o : Nat) (v : Value) (ho : off + k * n ≤ o) : OwnO c n T (w.setCell ⟨g, o, none⟩ v) g off l k := by
  obtain ⟨cur, h1, h2, h3⟩ := h
  refine ⟨_, bset h1 o v, by rw [Array.size_setIfInBounds]; exact h2, fun i e hi he j u hu => ?_⟩
  have hj := (List.getElem?_eq_some_iff.1 hu).1
  rw [hn e] at hj
  have hle := Nat.mul_le_mul_right n (show i + 1 ≤ k from hi)
  rw [Nat.add_mul] at hle
  rw [Array.getElem?_setIfInBounds, if_neg (by omega)]
  exact h3 i e hi he j u hu
/-- one more is laid -/
theorem OwnO.more (h : OwnO c n T w g off l k) (he : l[k]? = some e) (hc : ∀ (j : Nat) (v : Value), (c e)[j]? = some v → w.cell? ⟨g, off + k * n + j, none⟩ = some v) : OwnO c n T w g off l (k + 1) := by
  obtain ⟨cur, h1, h2, h3⟩ := h
  refine ⟨cur, h1, h2, fun i f hi hf j v hv => ?_⟩
  by_cases ei : i = k
  · subst ei
    rw [he] at hf
    cases hf
    have := hc j v hv
    simpa [World.cell?, h1] using this
  · exact h3 i f (by omega) hf j v hv
theorem OwnO.cells (h : OwnO c n T w g off l k) : ∃ cur, w.heap[g]? = some (.cells cur T (0, 0)) ∧ off + l.length * n ≤ cur.size := by
  obtain ⟨cur, h1, h2, _⟩ := h
  exact ⟨cur, h1, h2⟩
/-- what is left of a row when its first d are left out -/
theorem OwnO.drop (h : OwnO c n T w g 0 l l.length) (d : Nat) (hd : d ≤ l.length) : OwnO c n T w g (d * n) (l.drop d) (l.drop d).length := by
  obtain ⟨cur, h1, h2, h3⟩ := h
  refine ⟨cur, h1, ?_, fun i e hi he j v hv => ?_⟩
  · rw [List.length_drop, ← Nat.add_mul, Nat.add_sub_cancel' hd]; omega
  · rw [List.getElem?_drop] at he
    have := h3 (d + i) e (List.getElem?_eq_some_iff.1 he).1 he j v hv
    rw [Nat.zero_add, Nat.add_mul] at this
    exact this
/-- a list's row of its own, or no list at all -/
def Mine (c : α → List Value) (n : Nat) (T : TypeId) (w : World) (B : Nat) (a : Option Addr) (l : List α) : Prop := l = [] ∨ ∃ g off, a = some ⟨g, off, none⟩ ∧ B ≤ g ∧ OwnO c n T w g off l l.length
/-- nothing but what is in S is turned -/
structure Tn (w w' : World) (S : Nat → Prop) : Prop where
  os : w'.os = w.os
  tape : w'.tape = w.tape
  output : w'.output = w.output
  size : w.heap.size ≤ w'.heap.size
  block : ∀ k, k < w.heap.size → ¬ S k → w'.heap[k]? = w.heap[k]?
theorem Tn.below {S : Nat → Prop} (h : Tn w w' S) (hs : B ≤ w.heap.size) (hS : ∀ k, S k → B ≤ k) : Below B w w' := ⟨h.os, h.tape, h.output, h.size, fun k hk => h.block k (by omega) (fun hk2 => by have := hS k hk2; omega)⟩
theorem Tn.refl (w : World) (S : Nat → Prop) : Tn w w S := ⟨rfl, rfl, rfl, Nat.le_refl _, fun _ _ _ => rfl⟩
theorem Tn.of (S : Nat → Prop) (h : Below w.heap.size w w') : Tn w w' S := ⟨h.os, h.tape, h.output, h.size, fun k hk _ => h.block k hk⟩
theorem Tn.trans {w'' : World} {S : Nat → Prop} (h : Tn w w' S) (h2 : Tn w' w'' S) : Tn w w'' S := ⟨h2.os.trans h.os, h2.tape.trans h.tape, h2.output.trans h.output, Nat.le_trans h.size h2.size, fun k hk hs => (h2.block k (Nat.lt_of_lt_of_le hk h.size) hs).trans (h.block k hk hs)⟩
theorem Tn.set {S : Nat → Prop} (h : Tn w w' S) (hS : S g) (o : Nat) (v : Value) : Tn w (w'.setCell ⟨g, o, none⟩ v) S := by
  have hb : Below 0 w' (w'.setCell ⟨g, o, none⟩ v) := (Below.refl 0 w').setCell (Nat.zero_le _) v
  exact h.trans ⟨hb.os, hb.tape, hb.output, hb.size, fun k hk hne => RowKit.Below.heap_setCell _ _ _ _ (by intro e; exact hne (by rw [e]; exact hS))⟩
theorem Mine.row (h : Mine c n T w B a l) : Row c n w w.heap.size a l := by
  rcases h with h | ⟨g, off, rfl, _, h⟩
  · exact .inl h
  · exact h.row
/-- the blocks of a row -/
def blk (a : Option Addr) (l : List α) : Nat → Prop := fun k => l ≠ [] ∧ ∃ g off, a = some ⟨g, off, none⟩ ∧ k = g
theorem Mine.kept {S : Nat → Prop} (h : Mine c n T w B a l) (ht : Tn w w' S) (hS : ∀ k, blk a l k → ¬ S k) : Mine c n T w' B a l := by
  rcases h with h | ⟨g, off, rfl, hB, h⟩
  · exact .inl h
  · by_cases e : l = []
    · exact .inl e
    · exact .inr ⟨g, off, rfl, hB, h.kept (ht.block g h.lt (hS g ⟨e, g, off, rfl, rfl⟩))⟩
theorem Mine.below (h : Mine c n T w B a l) (hb : Below w.heap.size w w') : Mine c n T w' B a l := h.kept (Tn.of (fun _ => False) hb) (fun _ _ h => h)
end
end Go.Proofs.Ytnlcmheahihlpaa.fo

/- The program's Push: as the specification's, its answer in rows of its own. -/
namespace Go.Proofs.Ytnlcmheahihlpaa.qpi
open Go.ChangeShapes Go.WideShapes Go.ChangeAt Go.RowKit Go.Proofs.Ytnlcmheahihlpaa.fl Go.Proofs.Ytnlcmheahihlpaa.fo Go.Proofs.Ytnlcmheahihlpaa.qit Go.Proofs.Ytnlcmheahihlpaa.qst Go.Proofs.Ytnlcmheahihlpaa.qpu Go.Proofs.Ytnlcmheahihlpaa.qpo Go.Proofs.Ytnlcmheahihlpaa.qop Go.Proofs.Ytnlcmheahihlpaa.qcl Go.Proofs.Ytnlcmheahihlpaa.qsp Go.Proofs.Ytnlcmheahihlpaa.qps
set_option linter.unusedVariables false

theorem impl_okb (sn : ByteArray) (nx : Int) (es : List flM.Ms) (ms : List flH.Hd) (ra ha : Option Addr) (cg ch : Nat) (w : World) (F : Fit sn es ms) (hY : Row flM.c 5 w w.heap.size ra es) (hE : Row flH.c 7 w w.heap.size ha ms) :
    Calls Try.prog 11 #[.agg #[.string sn, .int .i64 nx, .slice ra es.length cg, .slice ha ms.length ch]] w fun e w' => e = .returned (.bool (okB sn nx es ms)) ∧ Below w.heap.size w w' := by
  refine (qki.impl_ok sn nx es ms ra ha cg ch w F.ns F.el F.ml F.eb F.mb hY hE).mono ?_
  rintro e w' ⟨⟨b, rfl, hb⟩, h⟩
  rw [okB_of hb]
  exact ⟨rfl, h⟩
theorem owns_ownO {α : Type} {c : α → List Value} {n B g cap : Nat} {U : TypeId} {w : World} {l : List α} (hn : ∀ e, (c e).length = n) (h : w.ownsRow B U n (.slice (some ⟨g, 0, none⟩) l.length cap) l.length (l.flatMap c)) : OwnO c n U w g 0 l l.length := by
  obtain ⟨_, ⟨h1, _⟩ | ⟨g', cap', cur, h1, h2, h3, h4, h5, h6, h7⟩⟩ := h
  · cases h1
  cases h1
  refine ⟨cur, h3, by rw [h6, Nat.zero_add]; exact Nat.mul_le_mul_right n h4, fun i e hi he j v hv => ?_⟩
  have hf := flat_at hn l i e he j v hv
  rw [← h7] at hf
  have hlt := (List.getElem?_eq_some_iff.1 hf).1
  rw [List.length_take] at hlt
  rw [List.getElem?_take_of_lt (by omega)] at hf
  rw [Nat.zero_add]
  simpa using hf
/-- sorted, and the same as an ascending list -/
theorem sort_uniq {R E : List flM.Ms} (hp : R.Perm E) (hs : R.Pairwise Le) (ha : ∀ (i : Nat) (a c : flM.Ms), E[i]? = some a → E[i + 1]? = some c → a.q < c.q) : R = E := by
  have hE : E.Pairwise fun a c => a.q < c.q := List.pairwise_iff_getElem.2 fun i j hi hj hij => by
    have := asc_lt ha (j - i - 1) i E[i] E[j] (List.getElem?_eq_getElem hi) (by rw [show i + (j - i - 1) + 1 = j by omega]; exact List.getElem?_eq_getElem hj)
    exact this
  refine List.Perm.eq_of_pairwise (le := Le) (fun a c ha' hc' h1 h2 => ?_) hs (hE.imp fun h => Int.le_of_lt h) hp
  have haE := hp.mem_iff.1 ha'
  have heq : a.q = c.q := Int.le_antisymm h1 h2
  obtain ⟨i, hi⟩ := List.mem_iff_getElem?.1 haE
  obtain ⟨j, hj⟩ := List.mem_iff_getElem?.1 hc'
  rcases Nat.lt_trichotomy i j with h | h | h
  · have := asc_lt ha (j - i - 1) i a c hi (by rw [show i + (j - i - 1) + 1 = j by omega]; exact hj)
    omega
  · subst h; rw [hi] at hj; cases hj; rfl
  · have := asc_lt ha (i - j - 1) j c a hj (by rw [show j + (i - j - 1) + 1 = i by omega]; exact hi)
    omega
theorem asc_more {nm : ByteArray} {nx : Int} {es : List flM.Ms} {ms : List flH.Hd} (hok : qk.OkQ nm nx es ms) (x k b : ByteArray) : ∀ (i : Nat) (a c : flM.Ms), (es ++ [⟨nx, x, k, b, false⟩])[i]? = some a → (es ++ [⟨nx, x, k, b, false⟩])[i + 1]? = some c → a.q < c.q := fun i a c ha hc => by
  have hlt := (List.getElem?_eq_some_iff.1 hc).1
  simp at hlt
  rw [List.getElem?_append_left (by omega)] at ha
  rcases Nat.lt_or_ge (i + 1) es.length with h | h
  · rw [List.getElem?_append_left h] at hc
    exact hok.ru i a c ha hc
  · rw [List.getElem?_append_right h, show i + 1 - es.length = 0 by omega] at hc
    simp at hc
    subst hc
    have := hok.rm i a ha
    simp only [qk.mOk, Bool.and_eq_true, decide_eq_true_eq] at this
    show a.q < nx
    omega
/-- the answer -/
def PA (w : World) (nm : ByteArray) (nv : Int) (L : List flM.Ms) (ms : List flH.Hd) (f : Bool) (e : Ending) (w' : World) : Prop := ∃ g ce h cb, e = .returned (.tuple #[.agg #[.string nm, .int .i64 nv, .slice (some ⟨g, 0, none⟩) L.length ce, .slice (some ⟨h, 0, none⟩) ms.length cb], .bool f]) ∧ w.heap.size ≤ g ∧ w.heap.size ≤ h ∧ g ≠ h ∧ OwnO flM.c 5 41 w' g 0 L L.length ∧ OwnO flH.c 7 55 w' h 0 ms ms.length ∧ Below w.heap.size w w'
theorem sn_next {W0 : World} {hb : Nat} {nm : ByteArray} {nx nv : Int} {ha : Option Addr} {hn hc : Nat} {L : List flM.Ms} {w : World} (h : SN W0 hb ⟨nm, nx, ha, hn, hc⟩ L w) : SN W0 hb ⟨nm, nv, ha, hn, hc⟩ L (w.setCell ⟨hb, 2, none⟩ (.int .i64 nv)) := by
  obtain ⟨v, h1, h2, h3⟩ := h.box
  exact ⟨h.bel.setCell h.hbB _, h.hbB, ⟨v, bset h1 2 (.int .i64 nv), own_block h2 (fun g hg => Below.heap_setCell _ _ _ g (fun e => h3 (by rw [hg, show g = hb from e]))), h3⟩, h.fits⟩
set_option maxRecDepth 100000 in
set_option maxHeartbeats 4000000 in
theorem impl_push (nm : ByteArray) (nx : Int) (es : List flM.Ms) (ms : List flH.Hd) (a0 b0 : Option Addr) (ec bc : Nat) (x k b : ByteArray) (w : World) (F : Fit nm es ms) (hxx : x.size ≤ 1048576) (hkk : k.size ≤ 1048576) (hbb : b.size ≤ 1048576) (hE : Row flM.c 5 w w.heap.size a0 es) (hB : Row flH.c 7 w w.heap.size b0 ms) :
    Calls Try.prog 14 #[.agg #[.string nm, .int .i64 nx, .slice a0 es.length ec, .slice b0 ms.length bc], .string x, .string k, .string b] w fun e w' => PA w nm (ansN nm nx es ms x k b) (ansE nm nx es ms x k b) ms (fits nm nx es ms x k b) e w' := by
  have hWb : Below w.heap.size w ((w.alloc (.cells #[.string nm, .int .i64 nx, .slice a0 es.length ec, .slice b0 ms.length bc] 27)).alloc (.cells #[.string ⟨#[]⟩, .int .i64 0, .slice none 0 0, .slice none 0 0] 27)) := ((Below.refl _ _).alloc (Nat.le_refl _) _).alloc (by simp) _
  have hA := bold (bnew w #[.string nm, .int .i64 nx, .slice a0 es.length ec, .slice b0 ms.length bc] 27) (.cells #[.string ⟨#[]⟩, .int .i64 0, .slice none 0 0, .slice none 0 0] 27)
  have hR := bnew (w.alloc (.cells #[.string nm, .int .i64 nx, .slice a0 es.length ec, .slice b0 ms.length bc] 27)) #[.string ⟨#[]⟩, .int .i64 0, .slice none 0 0, .slice none 0 0] 27
  rw [World.size_alloc] at hR
  obtain ⟨W, hW⟩ : ∃ W, (w.alloc (.cells #[.string nm, .int .i64 nx, .slice a0 es.length ec, .slice b0 ms.length bc] 27)).alloc (.cells #[.string ⟨#[]⟩, .int .i64 0, .slice none 0 0, .slice none 0 0] 27) = W := ⟨_, rfl⟩
  have hWs : W.heap.size = w.heap.size + 2 := by rw [← hW]; simp
  rw [hW] at hWb hA hR
  have HA : Hid (W.heap[w.heap.size]? = some (.cells #[.string nm, .int .i64 nx, .slice a0 es.length ec, .slice b0 ms.length bc] 27 (0, 0))) := hA
  have HR : Hid (W.heap[w.heap.size + 1]? = some (.cells #[.string ⟨#[]⟩, .int .i64 0, .slice none 0 0, .slice none 0 0] 27 (0, 0))) := hR
  have HE : Hid (Row flM.c 5 W W.heap.size a0 es) := hE.inn hWb
  have HB : Hid (Row flH.c 7 W W.heap.size b0 ms) := hB.inn hWb
  have HF : Hid (Fit nm es ms) := F
  have BX : Hid (∀ V, Below W.heap.size W V → (V.cell? ⟨w.heap.size, 0, none⟩ = some (.string nm) ∧ V.cell? ⟨w.heap.size, 1, none⟩ = some (.int .i64 nx) ∧ V.cell? ⟨w.heap.size, 2, none⟩ = some (.slice a0 es.length ec) ∧ V.cell? ⟨w.heap.size, 3, none⟩ = some (.slice b0 ms.length bc)) ∧ (V.cell? ⟨w.heap.size + 1, 0, none⟩ = some (.string ⟨#[]⟩) ∧ V.cell? ⟨w.heap.size + 1, 1, none⟩ = some (.int .i64 0) ∧ V.cell? ⟨w.heap.size + 1, 2, none⟩ = some (.slice none 0 0) ∧ V.cell? ⟨w.heap.size + 1, 3, none⟩ = some (.slice none 0 0)) ∧ V.frozen? ⟨w.heap.size + 1, 0, none⟩ = false ∧ V.frozen? ⟨w.heap.size + 1, 1, none⟩ = false ∧ V.frozen? ⟨w.heap.size + 1, 2, none⟩ = false ∧ V.frozen? ⟨w.heap.size + 1, 3, none⟩ = false) := fun V hV => by
    have a := bstay HA.out hV (by omega)
    have r := bstay HR.out hV (by omega)
    exact ⟨⟨bcell a rfl, bcell a rfl, bcell a rfl, bcell a rfl⟩, ⟨bcell r rfl, bcell r rfl, bcell r rfl, bcell r rfl⟩, bfree r 0, bfree r 1, bfree r 2, bfree r 3⟩
  have hok := impl_okb nm nx es ms _ _ ec bc W F HE.out HB.out
  have CP : Hid (∀ V, Below W.heap.size W V → Calls Try.prog 21 #[.agg #[.string nm, .int .i64 nx, .slice a0 es.length ec, .slice b0 ms.length bc]] V fun r w' => ∃ g h, r = .returned (.agg #[.string nm, .int .i64 nx, .slice (some ⟨g, 0, none⟩) es.length es.length, .slice (some ⟨h, 0, none⟩) ms.length ms.length]) ∧ V.heap.size ≤ g ∧ V.heap.size ≤ h ∧ g ≠ h ∧ Own flM.c 5 41 w' g es es.length ∧ Own flH.c 7 55 w' h ms ms.length ∧ Below V.heap.size V w') := fun V hV => cqu.copy_queue nm nx es ms a0 b0 ec bc V F.ns F.el F.ml F.eb F.mb (HE.out.inn hV) (HB.out.inn hV)
  have HAE : Hid (ansE nm nx es ms x k b = if fits nm nx es ms x k b = true then es ++ [⟨nx, x, k, b, false⟩] else es) := rfl
  have HAN : Hid (ansN nm nx es ms x k b = if fits nm nx es ms x k b = true then nx + 1 else nx) := rfl
  obtain ⟨AE, hAE⟩ : ∃ AE, ansE nm nx es ms x k b = AE := ⟨_, rfl⟩
  obtain ⟨AN, hAN⟩ : ∃ AN, ansN nm nx es ms x k b = AN := ⟨_, rfl⟩
  rw [hAE] at HAE
  rw [hAN] at HAN
  simp only [hAE, hAN]
  obtain ⟨ft, hft⟩ : ∃ ft, fits nm nx es ms x k b = ft := ⟨_, rfl⟩
  rw [hft] at HAE HAN
  simp only [hft]
  have HFT : Hid (fits nm nx es ms x k b = ft) := hft
  obtain ⟨⟨x0, x1, x2, x3⟩, _, _⟩ := BX.out W (Below.refl _ _)
  clear hE hB hA hR F hAE hAN hft
  go_enter Try.func14, Try.ntmps14
  go_wp2_with (go_at_call 11; fail)
  clear hW
  refine hok.mono ?_
  rintro e w1 ⟨rfl, hb1⟩
  obtain ⟨ob, hob⟩ : ∃ ob, okB nm nx es ms = ob := ⟨_, rfl⟩
  rw [hob]
  obtain ⟨⟨x0, x1, x2, x3⟩, ⟨z0, z1, z2, z3⟩, f0, f1, f2, f3⟩ := BX.out w1 hb1
  cases ob with
  | false =>
    obtain rfl : ft = false := by rw [← HFT.out]; unfold fits; rw [hob]; rfl
    obtain rfl : es = AE := HAE.out.symm
    obtain rfl : nx = AN := HAN.out.symm
    have hcq := CP.out w1 hb1
    clear hok hob HAE HAN HFT
    go_wp2_with (go_at_call 21; fail)
    clear x0 x1 x2 x3 z0 z1 z2 z3 f0 f1 f2 f3
    refine hcq.mono ?_
    rintro e w2 ⟨g, h, rfl, hg, hh, hgh, oe, om, hb2⟩
    have hB2 : Below W.heap.size W w2 := hb1.trans (hb2.mono hb1.size)
    obtain ⟨_, ⟨z0, z1, z2, z3⟩, f0, f1, f2, f3⟩ := BX.out w2 hB2
    have hs1 := hb1.size
    have hgl := oe.lt
    have HFN : Hid (OwnO flM.c 5 41 w2 g 0 es es.length ∧ OwnO flH.c 7 55 w2 h 0 ms ms.length ∧ Below w.heap.size w w2) := ⟨of_own oe, of_own om, hWb.trans (hB2.mono hWb.size)⟩
    clear hcq oe om hb2 hB2
    go_wp2
    refine bodyPost_ret (v := .tuple #[.agg #[.string nm, .int .i64 nx, .slice (some ⟨g, 0, none⟩) es.length es.length, .slice (some ⟨h, 0, none⟩) ms.length ms.length], .bool false]) (by simp [results, Try.results14, go_sem, z0, z1, z2, z3]) rfl ⟨g, _, h, _, rfl, by omega, by omega, hgh, ?_, ?_, ?_⟩
    · exact (((HFN.out.1.kept (Below.heap_setCell _ _ _ _ (by show g ≠ w.heap.size + 1; omega))).kept (Below.heap_setCell _ _ _ _ (by show g ≠ w.heap.size + 1; omega))).kept (Below.heap_setCell _ _ _ _ (by show g ≠ w.heap.size + 1; omega))).kept (Below.heap_setCell _ _ _ _ (by show g ≠ w.heap.size + 1; omega))
    · exact (((HFN.out.2.1.kept (Below.heap_setCell _ _ _ _ (by show h ≠ w.heap.size + 1; omega))).kept (Below.heap_setCell _ _ _ _ (by show h ≠ w.heap.size + 1; omega))).kept (Below.heap_setCell _ _ _ _ (by show h ≠ w.heap.size + 1; omega))).kept (Below.heap_setCell _ _ _ _ (by show h ≠ w.heap.size + 1; omega))
    · exact (((HFN.out.2.2.setCell (by show w.heap.size ≤ w.heap.size + 1; omega) _).setCell (by show w.heap.size ≤ w.heap.size + 1; omega) _).setCell (by show w.heap.size ≤ w.heap.size + 1; omega) _).setCell (by show w.heap.size ≤ w.heap.size + 1; omega) _
  | true =>
    have HOK : Hid (qk.OkQ nm nx es ms) := okB_true.1 hob
    have hnx := HOK.out.nxo
    have hln := HOK.out.ln
    have i1 : IntKind.i64.wrap (nx + 1) = nx + 1 := by rw [IntKind.wrap_i64]; omega
    have hop := open_of nm nx es ms a0 b0 ec bc w1 HF.out.ns HF.out.el HF.out.ml HF.out.eb HF.out.mb (HE.out.inn hb1) (HB.out.inn hb1)
    clear hok
    go_wp2_with (go_at_call 22; fail)
    refine hop.mono ?_
    rintro e w2 ⟨hb, g, h, rfl, hsg, om, hh, hhb⟩
    have hb2 := hsg.bel
    have hB2 : Below W.heap.size W w2 := hb1.trans (hb2.mono hb1.size)
    have hhl := om.lt
    have hcm := fun V => cmg.copy_msg ⟨nx, x, k, b, false⟩ V ⟨hxx, hkk, hbb⟩
    have HSG : Hid (SG w1 hb ⟨nm, nx, some ⟨h, 0, none⟩, ms.length, ms.length⟩ g es.length es w2) := hsg
    have HOM : Hid (Own flH.c 7 55 w2 h ms ms.length) := om
    have hhB : w1.heap.size ≤ hb := hsg.hbB
    have hbl2 : hb < w2.heap.size := (Array.getElem?_eq_some_iff.1 hsg.box).1
    clear hop x0 x1 x2 x3 z0 z1 z2 z3 f0 f1 f2 f3 hsg om
    obtain ⟨⟨x0, x1, x2, x3⟩, _, _⟩ := BX.out w2 hB2
    go_wp2_with (go_at_call 51; fail)
    refine (hcm _).mono ?_
    rintro e w3 ⟨rfl, hb3⟩
    have hs2 := hb2.size
    have hs1 := hb1.size
    have hpt := put_run w1 ⟨nm, nx, some ⟨h, 0, none⟩, ms.length, ms.length⟩ hb es ⟨nx, x, k, b, false⟩ w3 (SN.of (HSG.out.on hb3)) (sorted_heap HOK.out.ru) (by omega)
    have om3 := HOM.out.below hb3 hhl
    have HOM3 : Hid (Own flH.c 7 55 w3 h ms ms.length) := om3
    clear hcm x0 x1 x2 x3 om3 HOM HSG
    go_wp2_with (go_at_call 50; fail)
    refine hpt.mono ?_
    rintro e w4 ⟨rfl, M, hMp, hMh, hsn, hkt⟩
    obtain ⟨v4, hv4, _, _⟩ := hsn.box
    have c2 : w4.cell? ⟨hb, 2, none⟩ = some (.int .i64 nx) := bcell hv4 rfl
    have c2f := bfree hv4 2
    have hsn5 := sn_next (nv := nx + 1) hsn
    have om4 : Own flH.c 7 55 w4 h ms ms.length := by
      obtain ⟨cur, hc1, hc2⟩ := HOM3.out
      exact ⟨cur, (hkt.2 h cur 55 hc1 (by decide) hhb).trans hc1, hc2⟩
    have om5 : Own flH.c 7 55 (w4.setCell ⟨hb, 2, none⟩ (.int .i64 (nx + 1))) h ms ms.length := om4.kept (Below.heap_setCell _ _ _ h (by show h ≠ hb; exact hhb))
    have hMne : M ≠ [] := by rintro rfl; have := hMp.length_eq; simp at this
    obtain ⟨g5, cap5, hsg5⟩ := hsn5.sg hMne
    obtain ⟨w5, hw5⟩ : ∃ w5, w4.setCell ⟨hb, 2, none⟩ (.int .i64 (nx + 1)) = w5 := ⟨_, rfl⟩
    rw [hw5] at hsg5 om5
    have hMl : M.length = es.length + 1 := by rw [hMp.length_eq]; simp
    have hcl := closed_run w1 ⟨nm, nx + 1, some ⟨h, 0, none⟩, ms.length, ms.length⟩ hb g5 cap5 M w5 hsg5 (by omega) hMh
    have HMP : Hid (M.Perm (es ++ [⟨nx, x, k, b, false⟩])) := hMp
    have HSG5 : Hid (SG w1 hb ⟨nm, nx + 1, some ⟨h, 0, none⟩, ms.length, ms.length⟩ g5 cap5 M w5) := hsg5
    have HOM5 : Hid (Own flH.c 7 55 w5 h ms ms.length) := om5
    clear hpt hMp hMh hsn hkt hv4 hsn5 om4 om5 hsg5 HOM3
    go_wp2_with (go_at_call 25; fail)
    clear hw5 c2 c2f
    refine hcl.mono ?_
    rintro e w6 ⟨R, gr, cr, rfl, hRp, hRs, hRo, hkq⟩
    have hRe : R = es ++ [⟨nx, x, k, b, false⟩] := sort_uniq (hRp.trans HMP.out) hRs (asc_more HOK.out x k b)
    have hFit : Fit nm R ms := by rw [hRe]; exact fit_more HF.out HOK.out hxx hkk hbb
    have HLL : Hid (∀ _ : Unit, es ++ [⟨nx, x, k, b, false⟩] = R) := fun _ => hRe.symm
    clear hRe
    have hg5B := HSG5.out.gB
    have hne5 := HSG5.out.ne
    have hh5 : h ≠ g5 := by
      obtain ⟨cur, hc1, _⟩ := HOM5.out
      obtain ⟨cur', hc2, _⟩ := HSG5.out.row
      rintro rfl
      rw [hc1] at hc2
      simp at hc2
    have hb15 := HSG5.out.bel
    have hb16 : Below w1.heap.size w1 w6 := ⟨hkq.os.trans hb15.os, hkq.tape.trans hb15.tape, hkq.output.trans hb15.output, Nat.le_trans hb15.size hkq.size, fun q hq => (hkq.block q (Nat.lt_of_lt_of_le hq hb15.size) (by omega) (by omega)).trans (hb15.block q hq)⟩
    have om6 := HOM5.out.kept (hkq.block h HOM5.out.lt hh5 hhb)
    have hgr : w5.heap.size ≤ gr ∧ gr < w6.heap.size := hRo.lt gr rfl
    have hh6 := om6.lt
    have hgrh : gr ≠ h := by have := HOM5.out.lt; omega
    have hs15 := hb15.size
    have hal : Below w6.heap.size w6 (w6.alloc (.cells #[.string nm, .int .i64 (nx + 1), .slice (some ⟨gr, 0, none⟩) R.length cr, .slice (some ⟨h, 0, none⟩) ms.length ms.length] 27)) := (Below.refl _ _).alloc (Nat.le_refl _) _
    have hN := bnew w6 #[.string nm, .int .i64 (nx + 1), .slice (some ⟨gr, 0, none⟩) R.length cr, .slice (some ⟨h, 0, none⟩) ms.length ms.length] 27
    obtain ⟨X, hX⟩ : ∃ X, w6.alloc (.cells #[.string nm, .int .i64 (nx + 1), .slice (some ⟨gr, 0, none⟩) R.length cr, .slice (some ⟨h, 0, none⟩) ms.length ms.length] 27) = X := ⟨_, rfl⟩
    rw [hX] at hal hN
    have hXl : w6.heap.size < X.heap.size := (Array.getElem?_eq_some_iff.1 hN).1
    have hRow := (row_owns flM.c_len hRo).inn hal
    have omX := om6.below hal hh6
    have hok3 := impl_okb nm (nx + 1) R ms (some ⟨gr, 0, none⟩) (some ⟨h, 0, none⟩) cr ms.length X hFit hRow omX.row
    have HRO : Hid (OwnO flM.c 5 41 X gr 0 R R.length) := (owns_ownO flM.c_len hRo).below hal hgr.2
    have HOMX : Hid (OwnO flH.c 7 55 X h 0 ms ms.length) := of_own omX
    have HN : Hid (X.heap[w6.heap.size]? = some (.cells #[.string nm, .int .i64 (nx + 1), .slice (some ⟨gr, 0, none⟩) R.length cr, .slice (some ⟨h, 0, none⟩) ms.length ms.length] 27 (0, 0))) := hN
    have hBX : Below W.heap.size W X := (hb1.trans (hb16.mono hs1)).trans (hal.mono (by have := hb16.size; omega))
    clear hcl hRp hRs hRo hkq om6 hRow omX hal hb16 hb15 HMP HSG5 HOM5
    have n0 : X.cell? ⟨w6.heap.size, 0, none⟩ = some (.string nm) := bcell hN rfl
    have n1 : X.cell? ⟨w6.heap.size, 1, none⟩ = some (.int .i64 (nx + 1)) := bcell hN rfl
    have n2 : X.cell? ⟨w6.heap.size, 2, none⟩ = some (.slice (some ⟨gr, 0, none⟩) R.length cr) := bcell hN rfl
    have n3 : X.cell? ⟨w6.heap.size, 3, none⟩ = some (.slice (some ⟨h, 0, none⟩) ms.length ms.length) := bcell hN rfl
    obtain ⟨ob3, hob3⟩ : ∃ ob3, okB nm (nx + 1) R ms = ob3 := ⟨_, rfl⟩
    rw [hob3] at hok3
    clear hN hFit
    go_wp2_with (go_at_call 11; fail)
    clear hX n0 n1 n2 n3
    refine hok3.mono ?_
    rintro e w7 ⟨rfl, hb7⟩
    have hB7 : Below W.heap.size W w7 := hBX.trans (hb7.mono hBX.size)
    obtain ⟨⟨x0, x1, x2, x3⟩, ⟨z0, z1, z2, z3⟩, f0, f1, f2, f3⟩ := BX.out w7 hB7
    have hN7 := bstay HN.out hb7 hXl
    have n0 : w7.cell? ⟨w6.heap.size, 0, none⟩ = some (.string nm) := bcell hN7 rfl
    have n1 : w7.cell? ⟨w6.heap.size, 1, none⟩ = some (.int .i64 (nx + 1)) := bcell hN7 rfl
    have n2 : w7.cell? ⟨w6.heap.size, 2, none⟩ = some (.slice (some ⟨gr, 0, none⟩) R.length cr) := bcell hN7 rfl
    have n3 : w7.cell? ⟨w6.heap.size, 3, none⟩ = some (.slice (some ⟨h, 0, none⟩) ms.length ms.length) := bcell hN7 rfl
    cases ob3 with
    | true =>
      obtain rfl : ft = true := by rw [← HFT.out]; unfold fits; rw [hob, HLL.out (), hob3]; rfl
      obtain rfl : AE = R := by rw [← HLL.out ()]; exact HAE.out
      obtain rfl : AN = nx + 1 := HAN.out
      have HFN : Hid (OwnO flM.c 5 41 w7 gr 0 AE AE.length ∧ OwnO flH.c 7 55 w7 h 0 ms ms.length ∧ Below w.heap.size w w7) := ⟨HRO.out.below hb7 HRO.out.lt, HOMX.out.below hb7 HOMX.out.lt, hWb.trans (hB7.mono hWb.size)⟩
      have hg1 : w.heap.size + 2 ≤ gr ∧ w.heap.size + 2 ≤ h := by omega
      clear hok3 hb7 hB7 hN7 HRO HOMX x0 x1 x2 x3 hob hob3 HFT HAE HAN HLL HOK HN BX CP HE HB HF HA HR
      go_wp2
      refine bodyPost_ret (v := .tuple #[.agg #[.string nm, .int .i64 (nx + 1), .slice (some ⟨gr, 0, none⟩) AE.length cr, .slice (some ⟨h, 0, none⟩) ms.length ms.length], .bool true]) (by simp [results, Try.results14, go_sem, z0, z1, z2, z3]) rfl ⟨gr, _, h, _, rfl, by omega, by omega, hgrh, ?_, ?_, ?_⟩
      · exact (((HFN.out.1.kept (Below.heap_setCell _ _ _ _ (by show gr ≠ w.heap.size + 1; omega))).kept (Below.heap_setCell _ _ _ _ (by show gr ≠ w.heap.size + 1; omega))).kept (Below.heap_setCell _ _ _ _ (by show gr ≠ w.heap.size + 1; omega))).kept (Below.heap_setCell _ _ _ _ (by show gr ≠ w.heap.size + 1; omega))
      · exact (((HFN.out.2.1.kept (Below.heap_setCell _ _ _ _ (by show h ≠ w.heap.size + 1; omega))).kept (Below.heap_setCell _ _ _ _ (by show h ≠ w.heap.size + 1; omega))).kept (Below.heap_setCell _ _ _ _ (by show h ≠ w.heap.size + 1; omega))).kept (Below.heap_setCell _ _ _ _ (by show h ≠ w.heap.size + 1; omega))
      · exact (((HFN.out.2.2.setCell (by show w.heap.size ≤ w.heap.size + 1; omega) _).setCell (by show w.heap.size ≤ w.heap.size + 1; omega) _).setCell (by show w.heap.size ≤ w.heap.size + 1; omega) _).setCell (by show w.heap.size ≤ w.heap.size + 1; omega) _
    | false =>
      obtain rfl : ft = false := by rw [← HFT.out]; unfold fits; rw [hob, HLL.out (), hob3]; rfl
      obtain rfl : es = AE := HAE.out.symm
      obtain rfl : nx = AN := HAN.out.symm
      have hcq := CP.out w7 hB7
      clear hok3 n0 n1 n2 n3 hN7 HRO HOMX hob hob3 HFT HAE HAN HLL HOK HN
      go_wp2_with (go_at_call 21; fail)
      clear x0 x1 x2 x3 z0 z1 z2 z3 f0 f1 f2 f3
      refine hcq.mono ?_
      rintro e w8 ⟨g8, h8, rfl, hg8, hh8, hgh8, oe8, om8, hb8⟩
      have hB8 : Below W.heap.size W w8 := hB7.trans (hb8.mono hB7.size)
      obtain ⟨_, ⟨z0, z1, z2, z3⟩, f0, f1, f2, f3⟩ := BX.out w8 hB8
      have hs7 := hB7.size
      have HFN : Hid (OwnO flM.c 5 41 w8 g8 0 es es.length ∧ OwnO flH.c 7 55 w8 h8 0 ms ms.length ∧ Below w.heap.size w w8) := ⟨of_own oe8, of_own om8, hWb.trans (hB8.mono hWb.size)⟩
      clear hcq oe8 om8 hb8 hB8
      go_wp2
      refine bodyPost_ret (v := .tuple #[.agg #[.string nm, .int .i64 nx, .slice (some ⟨g8, 0, none⟩) es.length es.length, .slice (some ⟨h8, 0, none⟩) ms.length ms.length], .bool false]) (by simp [results, Try.results14, go_sem, z0, z1, z2, z3]) rfl ⟨g8, _, h8, _, rfl, by omega, by omega, hgh8, ?_, ?_, ?_⟩
      · exact (((HFN.out.1.kept (Below.heap_setCell _ _ _ _ (by show g8 ≠ w.heap.size + 1; omega))).kept (Below.heap_setCell _ _ _ _ (by show g8 ≠ w.heap.size + 1; omega))).kept (Below.heap_setCell _ _ _ _ (by show g8 ≠ w.heap.size + 1; omega))).kept (Below.heap_setCell _ _ _ _ (by show g8 ≠ w.heap.size + 1; omega))
      · exact (((HFN.out.2.1.kept (Below.heap_setCell _ _ _ _ (by show h8 ≠ w.heap.size + 1; omega))).kept (Below.heap_setCell _ _ _ _ (by show h8 ≠ w.heap.size + 1; omega))).kept (Below.heap_setCell _ _ _ _ (by show h8 ≠ w.heap.size + 1; omega))).kept (Below.heap_setCell _ _ _ _ (by show h8 ≠ w.heap.size + 1; omega))
      · exact (((HFN.out.2.2.setCell (by show w.heap.size ≤ w.heap.size + 1; omega) _).setCell (by show w.heap.size ≤ w.heap.size + 1; omega) _).setCell (by show w.heap.size ≤ w.heap.size + 1; omega) _).setCell (by show w.heap.size ≤ w.heap.size + 1; omega) _
end Go.Proofs.Ytnlcmheahihlpaa.qpi

/- Messages put back in their places: ascending, and the same as all of them sorted. -/
namespace Go.Proofs.Ytnlcmheahihlpaa.qbk
open Go.ChangeShapes Go.WideShapes Go.ChangeAt Go.RowKit Go.Proofs.Ytnlcmheahihlpaa.fl Go.Proofs.Ytnlcmheahihlpaa.qsp Go.Proofs.Ytnlcmheahihlpaa.qdp
set_option linter.unusedVariables false

def again (h : flH.Hd) : flM.Ms := ⟨h.m.q, h.m.x, h.m.k, h.m.b, true⟩
/-- where a message goes -/
def at_ (l : List flM.Ms) (q : Int) : Nat := (l.takeWhile fun e => decide (e.q < q)).length
def back (l : List flM.Ms) (m : flM.Ms) : List flM.Ms := l.take (at_ l m.q) ++ [m] ++ l.drop (at_ l m.q)
def backs (l : List flM.Ms) (hs : List flH.Hd) : List flM.Ms := hs.foldl (fun l h => back l (again h)) l
theorem at_le (l : List flM.Ms) (q : Int) : at_ l q ≤ l.length := by unfold at_; exact (List.takeWhile_sublist _).length_le
theorem back_len (l : List flM.Ms) (m : flM.Ms) : (back l m).length = l.length + 1 := by
  have := at_le l m.q
  simp [back]
  omega
theorem back_perm (l : List flM.Ms) (m : flM.Ms) : (back l m).Perm (l ++ [m]) := by
  unfold back
  rw [List.append_assoc]
  refine (List.Perm.append_left _ List.perm_append_comm).trans ?_
  rw [← List.append_assoc, List.take_append_drop]
theorem backs_snoc (l : List flM.Ms) (hs : List flH.Hd) (h : flH.Hd) : backs l (hs ++ [h]) = back (backs l hs) (again h) := by unfold backs; rw [List.foldl_append]; rfl
theorem backs_perm (l : List flM.Ms) (hs : List flH.Hd) : (backs l hs).Perm (l ++ hs.map again) := by
  induction hs generalizing l with
  | nil => simp [backs]
  | cons h t ih =>
    have e : backs l (h :: t) = backs (back l (again h)) t := rfl
    rw [e]
    refine (ih _).trans ?_
    have e2 : l ++ (h :: t).map again = (l ++ [again h]) ++ t.map again := by simp
    rw [e2]
    exact (back_perm l (again h)).append_right _
theorem backs_len (l : List flM.Ms) (hs : List flH.Hd) : (backs l hs).length = l.length + hs.length := by rw [(backs_perm l hs).length_eq]; simp
theorem at_lt {l : List flM.Ms} {q : Int} {k : Nat} (hk : k < at_ l q) : ∃ e, l[k]? = some e ∧ e.q < q := by
  induction l generalizing k with
  | nil => simp [at_] at hk
  | cons a l ih =>
    by_cases ha : a.q < q
    · cases k with
      | zero => exact ⟨a, rfl, ha⟩
      | succ k =>
        have : at_ (a :: l) q = at_ l q + 1 := by simp [at_, ha]
        obtain ⟨e, h1, h2⟩ := ih (k := k) (by omega)
        exact ⟨e, by simpa using h1, h2⟩
    · have : at_ (a :: l) q = 0 := by simp [at_, ha]
      omega
theorem at_not {l : List flM.Ms} {q : Int} {e : flM.Ms} (he : l[at_ l q]? = some e) : ¬ e.q < q := by
  induction l with
  | nil => simp at he
  | cons a l ih =>
    by_cases ha : a.q < q
    · have h1 : at_ (a :: l) q = at_ l q + 1 := by simp [at_, ha]
      rw [h1] at he
      exact ih (by simpa using he)
    · have h1 : at_ (a :: l) q = 0 := by simp [at_, ha]
      rw [h1] at he
      simp at he
      subst he
      exact ha
/-- the walk of l05Back: a place is the one where the first k are less and the next is not -/
theorem at_of {l : List flM.Ms} {q : Int} {k : Nat} (h1 : ∀ i e, i < k → l[i]? = some e → e.q < q) (h2 : ∀ e, l[k]? = some e → ¬ e.q < q) (hk : k ≤ l.length) : at_ l q = k := by
  rcases Nat.lt_trichotomy (at_ l q) k with h | h | h
  · have hlt : at_ l q < l.length := by omega
    exact absurd (h1 _ _ h (List.getElem?_eq_getElem hlt)) (at_not (List.getElem?_eq_getElem hlt))
  · exact h
  · obtain ⟨e, h3, h4⟩ := at_lt h
    exact absurd h4 (h2 e h3)
def Up (l : List flM.Ms) : Prop := l.Pairwise fun a b => a.q < b.q
theorem back_up {l : List flM.Ms} {m : flM.Ms} (hl : Up l) (hm : ∀ e ∈ l, e.q ≠ m.q) : Up (back l m) := by
  have hsplit : l.take (at_ l m.q) ++ l.drop (at_ l m.q) = l := List.take_append_drop _ _
  have hl2 := hl
  unfold Up at hl2
  rw [← hsplit, List.pairwise_append] at hl2
  obtain ⟨ha, hb, hab⟩ := hl2
  have h1 : ∀ e ∈ l.take (at_ l m.q), e.q < m.q := fun e he => by
    obtain ⟨i, hi⟩ := List.mem_iff_getElem?.1 he
    have hlt := (List.getElem?_eq_some_iff.1 hi).1
    rw [List.length_take] at hlt
    obtain ⟨e', h3, h4⟩ := at_lt (l := l) (q := m.q) (k := i) (by omega)
    rw [List.getElem?_take_of_lt (by omega), h3] at hi
    cases hi
    exact h4
  have h2 : ∀ e ∈ l.drop (at_ l m.q), m.q < e.q := fun e he => by
    have hge : ¬ e.q < m.q := by
      cases hd : l.drop (at_ l m.q) with
      | nil => rw [hd] at he; cases he
      | cons f t =>
        have hf : l[at_ l m.q]? = some f := by
          have := congrArg (fun x => x[0]?) hd
          simpa using this
        have hfn := at_not hf
        rw [hd] at he
        rcases List.mem_cons.1 he with rfl | he
        · exact hfn
        · rw [hd] at hb
          have := (List.pairwise_cons.1 hb).1 e he
          omega
    have := hm e (List.mem_of_mem_drop he)
    omega
  unfold Up back
  rw [List.append_assoc, List.pairwise_append]
  refine ⟨ha, List.pairwise_append.2 ⟨List.pairwise_singleton _ _, hb, fun a ha b hb => by rw [List.mem_singleton] at ha; subst ha; exact h2 b hb⟩, fun a ha b hb => ?_⟩
  rcases List.mem_append.1 hb with hb | hb
  · rw [List.mem_singleton] at hb; subst hb; exact h1 a ha
  · exact hab a ha b hb
theorem backs_up {l : List flM.Ms} {hs : List flH.Hd} (hl : Up l) (hd : ∀ h ∈ hs, ∀ e ∈ l, e.q ≠ h.m.q) (hp : hs.Pairwise fun a b => a.m.q ≠ b.m.q) : Up (backs l hs) := by
  induction hs generalizing l with
  | nil => exact hl
  | cons h t ih =>
    obtain ⟨hp1, hp2⟩ := List.pairwise_cons.1 hp
    have e : backs l (h :: t) = backs (back l (again h)) t := rfl
    rw [e]
    refine ih (back_up hl (fun e he => hd h (List.mem_cons_self ..) e he)) (fun h' hh' e he => ?_) hp2
    rcases List.mem_append.1 ((back_perm l (again h)).mem_iff.1 he) with he | he
    · exact hd h' (List.mem_cons_of_mem _ hh') e he
    · rw [List.mem_singleton] at he
      subst he
      exact hp1 h' hh'
theorem up_of {l : List flM.Ms} (ha : ∀ (i : Nat) (a c : flM.Ms), l[i]? = some a → l[i + 1]? = some c → a.q < c.q) : Up l := List.pairwise_iff_getElem.2 fun i j hi hj hij => by
  have := qop.asc_lt ha (j - i - 1) i l[i] l[j] (List.getElem?_eq_getElem hi) (by rw [show i + (j - i - 1) + 1 = j by omega]; exact List.getElem?_eq_getElem hj)
  exact this
theorem of_up {l : List flM.Ms} (h : Up l) : ∀ (i : Nat) (a c : flM.Ms), l[i]? = some a → l[i + 1]? = some c → a.q < c.q := fun i a c ha hc => by
  have h1 := (List.getElem?_eq_some_iff.1 ha)
  have h2 := (List.getElem?_eq_some_iff.1 hc)
  obtain ⟨h3, rfl⟩ := h1
  obtain ⟨h4, rfl⟩ := h2
  exact List.pairwise_iff_getElem.1 h i (i + 1) h3 h4 (Nat.lt_succ_self i)
/-- of a queue that is right -/
theorem ok_up {nm : ByteArray} {nx : Int} {es : List flM.Ms} {ms : List flH.Hd} (hok : qk.OkQ nm nx es ms) (o t : Int) (a : Bool) : Up (backs es (gone o t a ms)) := by
  refine backs_up (up_of hok.ru) (fun h hh e he => ?_) ?_
  · obtain ⟨i, hi⟩ := List.mem_iff_getElem?.1 (List.mem_filter.1 hh).1
    obtain ⟨k, hk⟩ := List.mem_iff_getElem?.1 he
    exact hok.d1 i k e h hk hi
  · refine List.Pairwise.sublist List.filter_sublist ?_
    exact List.pairwise_iff_getElem.2 fun i j hi hj hij => hok.d2 j i _ _ hij (List.getElem?_eq_getElem hi) (List.getElem?_eq_getElem hj)
noncomputable def ansR (nm : ByteArray) (nx : Int) (rs : List flM.Ms) (hs : List flH.Hd) (o t : Int) (a : Bool) : List flM.Ms := if okB nm nx rs hs = true then backs rs (gone o t a hs) else rs
end Go.Proofs.Ytnlcmheahihlpaa.qbk
