/- A stream's way through the specification's functions: the box, the answer's place and a copy in rows of its own. -/
import Derived.Test.YtlfhfcgcfggjcaaDoorSpecCopyS
namespace Go.Proofs.YtlfhfcgcfggjcaaDoor.spw
open Go.ChangeShapes Go.WideShapes Go.ChangeAt Go.RowKit Go.Proofs.YtlfhfcgcfggjcaaDoor.fl Go.Proofs.YtlfhfcgcfggjcaaDoor.fo Go.Proofs.YtlfhfcgcfggjcaaDoor.rr Go.Proofs.YtlfhfcgcfggjcaaDoor.st Go.Proofs.YtlfhfcgcfggjcaaDoor.srd Go.Proofs.YtlfhfcgcfggjcaaDoor.scp
set_option linter.unusedVariables false

theorem ry_owns {w : World} {B g c : Nat} {es : List flY.En} (h : w.ownsRow B 43 3 (.slice (some ⟨g, 0, none⟩) es.length c) es.length (es.flatMap flY.c)) : RY w g es := by
  obtain ⟨a, cap, hv, hr⟩ := own_row flY.c_len h
  cases hv
  obtain ⟨_, ⟨h1, _⟩ | ⟨g', cap', cur, h1, h2, h3, _⟩⟩ := h
  · cases h1
  cases h1
  refine ⟨(Array.getElem?_eq_some_iff.1 h3).1, fun i e he => ?_⟩
  rcases hr with rfl | ⟨b, off, ha, _, hc⟩
  · simp at he
  · cases ha
    have := hc i e he
    exact ⟨by simpa using this 0 _ rfl, by simpa using this 1 _ rfl, by simpa using this 2 _ rfl⟩
theorem re_owns {w : World} {B g c : Nat} {ms : List Ex} (h : w.ownsRow B 45 2 (.slice (some ⟨g, 0, none⟩) ms.length c) ms.length (ms.flatMap flK.c)) : RE w g ms := by
  obtain ⟨a, cap, hv, hr⟩ := own_row flK.c_len h
  cases hv
  obtain ⟨_, ⟨h1, _⟩ | ⟨g', cap', cur, h1, h2, h3, _⟩⟩ := h
  · cases h1
  cases h1
  refine ⟨(Array.getElem?_eq_some_iff.1 h3).1, fun i e he => ?_⟩
  rcases hr with rfl | ⟨b, off, ha, _, hc⟩
  · simp at he
  · cases ha
    have := hc i e he
    exact ⟨by simpa using this 0 _ rfl, by simpa using this 1 _ rfl⟩
theorem owns_at {w : World} {B n s g c : Nat} {U : TypeId} {xs : List Value} (h : w.ownsRow B U s (.slice (some ⟨g, 0, none⟩) n c) n xs) : B ≤ g ∧ ∃ cur, w.heap[g]? = some (.cells cur U (0, 0)) := by
  obtain ⟨_, ⟨h1, _⟩ | ⟨g', cap', cur, h1, h2, h3, _⟩⟩ := h
  · cases h1
  cases h1
  exact ⟨h2, cur, h3⟩
theorem owns_ne {w : World} {B n s g c b : Nat} {U V : TypeId} {xs : List Value} {cur : Array Value} (hUV : U ≠ V) (h : w.ownsRow B U s (.slice (some ⟨g, 0, none⟩) n c) n xs) (hb : w.heap[b]? = some (.cells cur V (0, 0))) : g ≠ b := by
  rintro rfl
  obtain ⟨_, cur2, h2⟩ := owns_at h
  rw [hb] at h2
  simp at h2
  exact hUV h2.2.symm
theorem owns_set {w : World} {B n s g c b o : Nat} {U : TypeId} {xs : List Value} (h : w.ownsRow B U s (.slice (some ⟨g, 0, none⟩) n c) n xs) (hne : g ≠ b) (u : Value) : (w.setCell ⟨b, o, none⟩ u).ownsRow B U s (.slice (some ⟨g, 0, none⟩) n c) n xs := by
  obtain ⟨h0, ⟨h1, _⟩ | ⟨g', cap', cur, h1, h2, h3, h4⟩⟩ := h
  · cases h1
  cases h1
  exact ⟨h0, .inr ⟨g, c, cur, rfl, h2, boff h3 b o u hne, h4⟩⟩

/-- what stands on the way -/
structure SP (w : World) (sn : ByteArray) (lo nx : Int) (es : List flY.En) (ms : List Ex) (g h : Option Addr) (cg ch : Nat) (n8 : Nat) (lv nv : Int) (g1 c1 h1 c2 : Nat) (l : List flY.En) (X : World) : Prop where
  bel : Below w.heap.size w X
  box : X.heap[w.heap.size]? = some (.cells #[.string sn, .int .i64 lo, .int .i64 nx, .slice g es.length cg, .slice h ms.length ch] 27 (0, 0))
  res : X.heap[w.heap.size + 1]? = some (.cells #[.string ⟨#[]⟩, .int .i64 0, .int .i64 0, .slice none 0 0, .slice none 0 0] 27 (0, 0))
  out : X.heap[n8]? = some (.cells #[.string sn, .int .i64 lv, .int .i64 nv, .slice (some ⟨g1, 0, none⟩) l.length c1, .slice (some ⟨h1, 0, none⟩) ms.length c2] 27 (0, 0))
  oe : X.ownsRow (w.heap.size + 2) 43 3 (.slice (some ⟨g1, 0, none⟩) l.length c1) l.length (l.flatMap flY.c)
  om : X.ownsRow (w.heap.size + 2) 45 2 (.slice (some ⟨h1, 0, none⟩) ms.length c2) ms.length (ms.flatMap flK.c)
  h8 : w.heap.size + 2 ≤ n8
section
variable {w : World} {sn : ByteArray} {lo nx : Int} {es : List flY.En} {ms : List Ex} {g h : Option Addr} {cg ch : Nat} {n8 g1 c1 h1 c2 : Nat} {lv nv : Int} {l : List flY.En} {X X' : World}
theorem SP.on (hs : SP w sn lo nx es ms g h cg ch n8 lv nv g1 c1 h1 c2 l X) (hb : Below X.heap.size X X') : SP w sn lo nx es ms g h cg ch n8 lv nv g1 c1 h1 c2 l X' :=
  ⟨hs.bel.trans (hb.mono hs.bel.size), bstay hs.box hb (Array.getElem?_eq_some_iff.1 hs.box).1, bstay hs.res hb (Array.getElem?_eq_some_iff.1 hs.res).1, bstay hs.out hb (Array.getElem?_eq_some_iff.1 hs.out).1, own_stay hs.oe hb, own_stay hs.om hb, hs.h8⟩
theorem SP.size (hs : SP w sn lo nx es ms g h cg ch n8 lv nv g1 c1 h1 c2 l X) : w.heap.size + 2 ≤ X.heap.size := (Array.getElem?_eq_some_iff.1 hs.res).1
end
theorem first_out (sn : ByteArray) (lo nx : Int) (es : List flY.En) (ms : List Ex) (g h : Option Addr) (cg ch : Nat) (w w1 : World) (g1 c1 h1 c2 : Nat) (hb : Below ((w.alloc (.cells #[.string sn, .int .i64 lo, .int .i64 nx, .slice g es.length cg, .slice h ms.length ch] 27)).alloc (.cells #[.string ⟨#[]⟩, .int .i64 0, .int .i64 0, .slice none 0 0, .slice none 0 0] 27)).heap.size ((w.alloc (.cells #[.string sn, .int .i64 lo, .int .i64 nx, .slice g es.length cg, .slice h ms.length ch] 27)).alloc (.cells #[.string ⟨#[]⟩, .int .i64 0, .int .i64 0, .slice none 0 0, .slice none 0 0] 27)) w1)
    (oe : w1.ownsRow ((w.alloc (.cells #[.string sn, .int .i64 lo, .int .i64 nx, .slice g es.length cg, .slice h ms.length ch] 27)).alloc (.cells #[.string ⟨#[]⟩, .int .i64 0, .int .i64 0, .slice none 0 0, .slice none 0 0] 27)).heap.size 43 3 (.slice (some ⟨g1, 0, none⟩) es.length c1) es.length (es.flatMap flY.c)) (om : w1.ownsRow ((w.alloc (.cells #[.string sn, .int .i64 lo, .int .i64 nx, .slice g es.length cg, .slice h ms.length ch] 27)).alloc (.cells #[.string ⟨#[]⟩, .int .i64 0, .int .i64 0, .slice none 0 0, .slice none 0 0] 27)).heap.size 45 2 (.slice (some ⟨h1, 0, none⟩) ms.length c2) ms.length (ms.flatMap flK.c)) :
    SP w sn lo nx es ms g h cg ch w1.heap.size lo nx g1 c1 h1 c2 es (w1.alloc (.cells #[.string sn, .int .i64 lo, .int .i64 nx, .slice (some ⟨g1, 0, none⟩) es.length c1, .slice (some ⟨h1, 0, none⟩) ms.length c2] 27)) := by
  have hS : ((w.alloc (.cells #[.string sn, .int .i64 lo, .int .i64 nx, .slice g es.length cg, .slice h ms.length ch] 27)).alloc (.cells #[.string ⟨#[]⟩, .int .i64 0, .int .i64 0, .slice none 0 0, .slice none 0 0] 27)).heap.size = w.heap.size + 2 := by simp
  have hW : Below w.heap.size w ((w.alloc (.cells #[.string sn, .int .i64 lo, .int .i64 nx, .slice g es.length cg, .slice h ms.length ch] 27)).alloc (.cells #[.string ⟨#[]⟩, .int .i64 0, .int .i64 0, .slice none 0 0, .slice none 0 0] 27)) := ((Below.refl _ _).alloc (Nat.le_refl _) _).alloc (by simp) _
  have hA := bold (bnew w #[.string sn, .int .i64 lo, .int .i64 nx, .slice g es.length cg, .slice h ms.length ch] 27) (.cells #[.string ⟨#[]⟩, .int .i64 0, .int .i64 0, .slice none 0 0, .slice none 0 0] 27)
  have hR := bnew (w.alloc (.cells #[.string sn, .int .i64 lo, .int .i64 nx, .slice g es.length cg, .slice h ms.length ch] 27)) #[.string ⟨#[]⟩, .int .i64 0, .int .i64 0, .slice none 0 0, .slice none 0 0] 27
  rw [World.size_alloc] at hR
  have hs1 := hb.size
  rw [hS] at oe om
  refine ⟨(hW.trans (hb.mono hW.size)).alloc (by omega) _, bold (bstay hA hb (by omega)) _, bold (bstay hR hb (by omega)) _, bnew w1 _ _, oe.alloc _, om.alloc _, by omega⟩

/-- the answer's five fields are laid -/
def res5 (w : World) (b : Nat) (x0 x1 x2 x3 x4 : Value) : World := ((((w.setCell ⟨b, 0, none⟩ x0).setCell ⟨b, 1, none⟩ x1).setCell ⟨b, 2, none⟩ x2).setCell ⟨b, 3, none⟩ x3).setCell ⟨b, 4, none⟩ x4
/-- an answer's list: a row of its own at or above B, from its block's first cell on -/
def OR {α : Type} (c : α → List Value) (n : Nat) (U : TypeId) (w : World) (B : Nat) (a : Option Addr) (cap : Nat) (l : List α) : Prop := (∃ g, a = some ⟨g, 0, none⟩) ∧ w.ownsRow B U n (.slice a l.length cap) l.length (l.flatMap c)
theorem OR.row {α : Type} {c : α → List Value} {n : Nat} {U : TypeId} {w : World} {B : Nat} {a : Option Addr} {cap : Nat} {l : List α} (hn : ∀ e, (c e).length = n) (h : OR c n U w B a cap l) : Row c n w w.heap.size a l := by
  obtain ⟨b, cap', hv, hr⟩ := own_row hn h.2
  cases hv
  exact hr
theorem fin_row {α : Type} {c : α → List Value} {n B g cap : Nat} {U : TypeId} {l : List α} {w : World} {x0 x1 x2 x3 x4 : Value} (hn : ∀ e, (c e).length = n) (h : w.ownsRow (B + 2) U n (.slice (some ⟨g, 0, none⟩) l.length cap) l.length (l.flatMap c)) :
    OR c n U (res5 w (B + 1) x0 x1 x2 x3 x4) B (some ⟨g, 0, none⟩) cap l := by
  have hb := (owns_at h).1
  have h2 := owns_set (owns_set (owns_set (owns_set (owns_set h (b := B + 1) (o := 0) (by omega) x0) (b := B + 1) (o := 1) (by omega) x1) (b := B + 1) (o := 2) (by omega) x2) (b := B + 1) (o := 3) (by omega) x3) (b := B + 1) (o := 4) (by omega) x4
  exact ⟨⟨g, rfl⟩, own_low h2 (Nat.le_add_right _ _)⟩
theorem fin_below {w0 w : World} {B : Nat} {x0 x1 x2 x3 x4 : Value} (h : Below B w0 w) (hB : B ≤ B + 1) : Below B w0 (res5 w (B + 1) x0 x1 x2 x3 x4) :=
  ((((h.setCell hB _).setCell hB _).setCell hB _).setCell hB _).setCell hB _
theorem grow_sp {w : World} {sn : ByteArray} {lo nx : Int} {es : List flY.En} {ms : List Ex} {g h : Option Addr} {cg ch : Nat} {n8 g1 c1 h1 c2 g3 c3 : Nat} {t : Int} {b : ByteArray} {X w3 : World} (hs : SP w sn lo nx es ms g h cg ch n8 lo nx g1 c1 h1 c2 es X) (hg : (X.alloc (.cells #[.int .i64 nx, .int .i64 t, .string b] 43)).grownBy w3 (some g1))
    (ho : w3.ownsRow (w.heap.size + 2) 43 3 (.slice (some ⟨g3, 0, none⟩) (es.length + 1) c3) (es.length + 1) (es.flatMap flY.c ++ [.int .i64 nx, .int .i64 t, .string b])) :
    (w3.cell? ⟨n8, 3, none⟩ = some (.slice (some ⟨g1, 0, none⟩) es.length c1) ∧ w3.cell? ⟨n8, 2, none⟩ = some (.int .i64 nx) ∧ w3.cell? ⟨w.heap.size, 2, none⟩ = some (.int .i64 nx)) ∧ (w3.frozen? ⟨n8, 3, none⟩ = false ∧ w3.frozen? ⟨n8, 2, none⟩ = false ∧ n8 ≠ w.heap.size) ∧
    SP w sn lo nx es ms g h cg ch n8 lo (nx + 1) g3 c3 h1 c2 (es ++ [⟨nx, t, b⟩]) ((w3.setCell ⟨n8, 3, none⟩ (.slice (some ⟨g3, 0, none⟩) (es.length + 1) c3)).setCell ⟨n8, 2, none⟩ (.int .i64 (nx + 1))) := by
  have hn1 := owns_ne (by decide) hs.oe hs.out
  have hn0 := (owns_at hs.oe).1
  have h8 := hs.h8
  have hal : Below X.heap.size X (X.alloc (.cells #[.int .i64 nx, .int .i64 t, .string b] 43)) := (Below.refl _ _).alloc (Nat.le_refl _) _
  have hX := hs.on hal
  have b1 := grown_at hg hX.box (by simp; omega)
  have b2 := grown_at hg hX.res (by simp; omega)
  have b3 := grown_at hg hX.out (by simp; exact hn1)
  have hm := hX.om.kept hg (.inr (by
    have := hX.om
    have hne : h1 ≠ g1 := by
      obtain ⟨_, cur, hcur⟩ := owns_at hX.oe
      exact owns_ne (by decide) hX.om hcur
    simp [Value.ownBlock]
    exact hne))
  have hbel : Below w.heap.size w w3 := hX.bel.grown hg hX.bel.size (fun k hk => by cases hk; omega)
  have hm8 := owns_ne (by decide) hm b3
  have hg8 := owns_ne (by decide) ho b3
  have ho2 : w3.ownsRow (w.heap.size + 2) 43 3 (.slice (some ⟨g3, 0, none⟩) (es ++ [⟨nx, t, b⟩] : List flY.En).length c3) (es ++ [⟨nx, t, b⟩] : List flY.En).length ((es ++ [⟨nx, t, b⟩] : List flY.En).flatMap flY.c) := by
    rw [List.flatMap_append, List.length_append]
    exact ho
  refine ⟨⟨bcell b3 rfl, bcell b3 rfl, bcell b1 rfl⟩, ⟨bfree b3 3, bfree b3 2, by omega⟩, (hbel.setCell (by show w.heap.size ≤ n8; omega) _).setCell (by show w.heap.size ≤ n8; omega) _, boff (boff b1 _ _ _ (by omega)) _ _ _ (by omega), boff (boff b2 _ _ _ (by omega)) _ _ _ (by omega), ?_, owns_set (owns_set ho2 hg8 _) hg8 _, owns_set (owns_set hm hm8 _) hm8 _, h8⟩
  have := bset (bset b3 3 (.slice (some ⟨g3, 0, none⟩) (es.length + 1) c3)) 2 (.int .i64 (nx + 1))
  rw [List.length_append]
  exact this
end Go.Proofs.YtlfhfcgcfggjcaaDoor.spw
