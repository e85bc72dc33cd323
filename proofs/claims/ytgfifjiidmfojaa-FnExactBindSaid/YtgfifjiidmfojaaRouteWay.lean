/- Routes on their way through Declare and Bind: the argument's box, the answer's place, and a copy whose lists lie in rows of their own. -/
import Derived.Test.YtgfifjiidmfojaaSpecCopy
import Derived.Test.YtgfifjiidmfojaaThreeApp
namespace Go.Proofs.Ytgfifjiidmfojaa.rwy
open Go.ChangeShapes Go.WideShapes Go.ChangeAt Go.RowKit Go.Proofs.Ytgfifjiidmfojaa.rr Go.Proofs.Ytgfifjiidmfojaa.ra Go.Proofs.Ytgfifjiidmfojaa.rt Go.Proofs.Ytgfifjiidmfojaa.fl Go.Proofs.Ytgfifjiidmfojaa.su
set_option linter.unusedVariables false

/-- what stands on the way -/
structure RX (w : World) (es : List Ex) (bs : List Bi) (a0 b0 ec bc n8 : Nat) (x0 x1 : Value) (X : World) : Prop where
  bel : Below w.heap.size w X
  box : X.heap[w.heap.size]? = some (.cells #[.slice (some ⟨a0, 0, none⟩) es.length ec, .slice (some ⟨b0, 0, none⟩) bs.length bc] 30 (0, 0))
  res : X.heap[w.heap.size + 1]? = some (.cells #[.slice none 0 0, .slice none 0 0] 30 (0, 0))
  out : X.heap[n8]? = some (.cells #[x0, x1] 30 (0, 0))
  h8 : w.heap.size + 2 ≤ n8
/-- a row of its own -/
def OE (w X : World) (g c : Nat) (m : List Ex) : Prop := X.ownsRow (w.heap.size + 2) 49 2 (.slice (some ⟨g, 0, none⟩) m.length c) m.length (m.flatMap cE)
def OB (w X : World) (g c : Nat) (m : List Bi) : Prop := X.ownsRow (w.heap.size + 2) 61 3 (.slice (some ⟨g, 0, none⟩) m.length c) m.length (m.flatMap cB)
theorem own_low {w : World} {B B' n : Nat} {U : TypeId} {s : Nat} {v : Value} {xs : List Value} (h : w.ownsRow B U s v n xs) (hb : B' ≤ B) : w.ownsRow B' U s v n xs := by
  obtain ⟨h0, h1 | ⟨g, cap, cur, h1, h2, h3⟩⟩ := h
  · exact ⟨h0, .inl h1⟩
  · exact ⟨h0, .inr ⟨g, cap, cur, h1, by omega, h3⟩⟩
theorem owns_at {w : World} {B n s g c : Nat} {U : TypeId} {xs : List Value} (h : w.ownsRow B U s (.slice (some ⟨g, 0, none⟩) n c) n xs) : B ≤ g ∧ ∃ cur, w.heap[g]? = some (.cells cur U (0, 0)) := by
  obtain ⟨_, ⟨h1, _⟩ | ⟨g', cap', cur, h1, h2, h3, _⟩⟩ := h
  · cases h1
  cases h1
  exact ⟨h2, cur, h3⟩
theorem owns_ne {w : World} {B n s g c b : Nat} {U V : TypeId} {xs : List Value} {cur : Array Value} (hUV : U ≠ V) (h : w.ownsRow B U s (.slice (some ⟨g, 0, none⟩) n c) n xs) (hb : w.heap[b]? = some (.cells cur V (0, 0))) : g ≠ b := by
  rintro rfl
  obtain ⟨_, cur2, h2⟩ := owns_at h
  rw [hb] at h2
  simp at h2
  exact hUV h2.2.symm
theorem owns_set {w : World} {B n s g c b o : Nat} {U : TypeId} {xs : List Value} (h : w.ownsRow B U s (.slice (some ⟨g, 0, none⟩) n c) n xs) (hne : g ≠ b) (u : Value) : (w.setCell ⟨b, o, none⟩ u).ownsRow B U s (.slice (some ⟨g, 0, none⟩) n c) n xs := by
  obtain ⟨h0, ⟨h1, _⟩ | ⟨g', cap', cur, h1, h2, h3, h4⟩⟩ := h
  · cases h1
  cases h1
  exact ⟨h0, .inr ⟨g, c, cur, rfl, h2, boff h3 b o u hne, h4⟩⟩
section
variable {w : World} {es : List Ex} {bs : List Bi} {a0 b0 ec bc n8 : Nat} {x0 x1 : Value} {X X' : World} {g c : Nat} {m : List Ex} {l : List Bi}
theorem OE.re (h : OE w X g c m) : RE X g m := by
  obtain ⟨a, cap, hv, hr⟩ := own_row cE_len h
  cases hv
  obtain ⟨_, cur, h3⟩ := owns_at h
  refine ⟨(Array.getElem?_eq_some_iff.1 h3).1, fun i e he => ?_⟩
  rcases hr with rfl | ⟨b, off, ha, _, hc⟩
  · simp at he
  · cases ha
    have := hc i e he
    exact ⟨by simpa using this 0 _ rfl, by simpa using this 1 _ rfl⟩
theorem OB.rb (h : OB w X g c l) : RB X g l := by
  obtain ⟨a, cap, hv, hr⟩ := own_row cB_len h
  cases hv
  obtain ⟨_, cur, h3⟩ := owns_at h
  refine ⟨(Array.getElem?_eq_some_iff.1 h3).1, fun i e he => ?_⟩
  rcases hr with rfl | ⟨b, off, ha, _, hc⟩
  · simp at he
  · cases ha
    have := hc i e he
    exact ⟨by simpa using this 0 _ rfl, by simpa using this 1 _ rfl, by simpa using this 2 _ rfl⟩
theorem RX.size (h : RX w es bs a0 b0 ec bc n8 x0 x1 X) : w.heap.size + 2 ≤ X.heap.size := (Array.getElem?_eq_some_iff.1 h.res).1
theorem RX.n8lt (h : RX w es bs a0 b0 ec bc n8 x0 x1 X) : n8 < X.heap.size := (Array.getElem?_eq_some_iff.1 h.out).1
theorem RX.on (h : RX w es bs a0 b0 ec bc n8 x0 x1 X) (hb : Below X.heap.size X X') : RX w es bs a0 b0 ec bc n8 x0 x1 X' :=
  ⟨h.bel.trans (hb.mono h.bel.size), bstay h.box hb (Array.getElem?_eq_some_iff.1 h.box).1, bstay h.res hb (Array.getElem?_eq_some_iff.1 h.res).1, bstay h.out hb (Array.getElem?_eq_some_iff.1 h.out).1, h.h8⟩
theorem OE.on (h : OE w X g c m) (hb : Below X.heap.size X X') : OE w X' g c m := own_stays h hb
theorem OB.on (h : OB w X g c l) (hb : Below X.heap.size X X') : OB w X' g c l := own_stays h hb
theorem RX.put0 (h : RX w es bs a0 b0 ec bc n8 x0 x1 X) (v : Value) : RX w es bs a0 b0 ec bc n8 v x1 (X.setCell ⟨n8, 0, none⟩ v) := by
  have h8 := h.h8
  exact ⟨h.bel.setCell (by show w.heap.size ≤ n8; omega) _, boff h.box _ _ _ (by omega), boff h.res _ _ _ (by omega), bset h.out 0 v, h8⟩
theorem RX.put1 (h : RX w es bs a0 b0 ec bc n8 x0 x1 X) (v : Value) : RX w es bs a0 b0 ec bc n8 x0 v (X.setCell ⟨n8, 1, none⟩ v) := by
  have h8 := h.h8
  exact ⟨h.bel.setCell (by show w.heap.size ≤ n8; omega) _, boff h.box _ _ _ (by omega), boff h.res _ _ _ (by omega), bset h.out 1 v, h8⟩
theorem OE.put (h : OE w X g c m) (hx : RX w es bs a0 b0 ec bc n8 x0 x1 X) (j : Nat) (v : Value) : OE w (X.setCell ⟨n8, j, none⟩ v) g c m := owns_set h (owns_ne (by decide) h hx.out) v
theorem OB.put (h : OB w X g c l) (hx : RX w es bs a0 b0 ec bc n8 x0 x1 X) (j : Nat) (v : Value) : OB w (X.setCell ⟨n8, j, none⟩ v) g c l := owns_set h (owns_ne (by decide) h hx.out) v
/-- a row has grown: what is not that row stays -/
theorem RX.grown {U : TypeId} {s n : Nat} {xs : List Value} {b cc : Nat} (h : RX w es bs a0 b0 ec bc n8 x0 x1 X) (hU : U ≠ 30) (hg : X.grownBy X' (some b)) (hm : X.ownsRow (w.heap.size + 2) U s (.slice (some ⟨b, 0, none⟩) n cc) n xs) : RX w es bs a0 b0 ec bc n8 x0 x1 X' := by
  have hb := (owns_at hm).1
  have n1 := owns_ne hU hm h.box
  have n2 := owns_ne hU hm h.res
  have n3 := owns_ne hU hm h.out
  exact ⟨h.bel.grown hg h.bel.size (fun k hk => by cases hk; omega), (hg.block _ (Array.getElem?_eq_some_iff.1 h.box).1 (fun e => by have := Option.some.inj e; omega)).trans h.box, (hg.block _ (Array.getElem?_eq_some_iff.1 h.res).1 (fun e => by have := Option.some.inj e; omega)).trans h.res, (hg.block _ (Array.getElem?_eq_some_iff.1 h.out).1 (fun e => by have := Option.some.inj e; omega)).trans h.out, h.h8⟩
theorem OE.grown {n : Nat} {xs : List Value} {b cc : Nat} (h : OE w X g c m) (hg : X.grownBy X' (some b)) (hm : X.ownsRow (w.heap.size + 2) 61 3 (.slice (some ⟨b, 0, none⟩) n cc) n xs) : OE w X' g c m := by
  obtain ⟨_, cur, hc⟩ := owns_at hm
  exact World.ownsRow.kept h hg (.inr (by simp [Value.ownBlock]; exact owns_ne (by decide) h hc))
theorem OB.grown {n : Nat} {xs : List Value} {b cc : Nat} (h : OB w X g c l) (hg : X.grownBy X' (some b)) (hm : X.ownsRow (w.heap.size + 2) 49 2 (.slice (some ⟨b, 0, none⟩) n cc) n xs) : OB w X' g c l := by
  obtain ⟨_, cur, hc⟩ := owns_at hm
  exact World.ownsRow.kept h hg (.inr (by simp [Value.ownBlock]; exact owns_ne (by decide) h hc))
end
/-- the answer's two fields are laid -/
def res2 (w : World) (b : Nat) (x0 x1 : Value) : World := (w.setCell ⟨b, 0, none⟩ x0).setCell ⟨b, 1, none⟩ x1
theorem fin_E {w W : World} {g c : Nat} {m : List Ex} {x0 x1 : Value} (h : OE w W g c m) : SE (res2 W (w.heap.size + 1) x0 x1) (res2 W (w.heap.size + 1) x0 x1).heap.size (some ⟨g, 0, none⟩) m := by
  have hb := (owns_at h).1
  have h2 := owns_set (owns_set h (b := w.heap.size + 1) (o := 0) (by omega) x0) (b := w.heap.size + 1) (o := 1) (by omega) x1
  obtain ⟨a, cap, hv, hr⟩ := own_row cE_len h2
  cases hv
  exact se_row hr
theorem fin_B {w W : World} {g c : Nat} {m : List Bi} {x0 x1 : Value} (h : OB w W g c m) : SB (res2 W (w.heap.size + 1) x0 x1) (res2 W (w.heap.size + 1) x0 x1).heap.size (some ⟨g, 0, none⟩) m := by
  have hb := (owns_at h).1
  have h2 := owns_set (owns_set h (b := w.heap.size + 1) (o := 0) (by omega) x0) (b := w.heap.size + 1) (o := 1) (by omega) x1
  obtain ⟨a, cap, hv, hr⟩ := own_row cB_len h2
  cases hv
  exact sb_row hr
theorem fin_below {w W : World} {x0 x1 : Value} (h : Below w.heap.size w W) : Below w.heap.size w (res2 W (w.heap.size + 1) x0 x1) := (h.setCell (Nat.le_succ _) _).setCell (Nat.le_succ _) _
/-- the two boxes of the beginning -/
theorem first2 (w : World) (es : List Ex) (bs : List Bi) (a0 b0 ec bc : Nat) : ((w.alloc (.cells #[.slice (some ⟨a0, 0, none⟩) es.length ec, .slice (some ⟨b0, 0, none⟩) bs.length bc] 30)).alloc (.cells #[.slice none 0 0, .slice none 0 0] 30)).heap.size = w.heap.size + 2 := by simp
theorem first_below (w : World) (es : List Ex) (bs : List Bi) (a0 b0 ec bc : Nat) : Below w.heap.size w ((w.alloc (.cells #[.slice (some ⟨a0, 0, none⟩) es.length ec, .slice (some ⟨b0, 0, none⟩) bs.length bc] 30)).alloc (.cells #[.slice none 0 0, .slice none 0 0] 30)) := ((Below.refl _ _).alloc (Nat.le_refl _) _).alloc (by simp) _
theorem first_box (w : World) (es : List Ex) (bs : List Bi) (a0 b0 ec bc : Nat) : ((w.alloc (.cells #[.slice (some ⟨a0, 0, none⟩) es.length ec, .slice (some ⟨b0, 0, none⟩) bs.length bc] 30)).alloc (.cells #[.slice none 0 0, .slice none 0 0] 30)).heap[w.heap.size]? = some (.cells #[.slice (some ⟨a0, 0, none⟩) es.length ec, .slice (some ⟨b0, 0, none⟩) bs.length bc] 30 (0, 0)) := bold (bnew w _ _) _
theorem first_res (w : World) (es : List Ex) (bs : List Bi) (a0 b0 ec bc : Nat) : ((w.alloc (.cells #[.slice (some ⟨a0, 0, none⟩) es.length ec, .slice (some ⟨b0, 0, none⟩) bs.length bc] 30)).alloc (.cells #[.slice none 0 0, .slice none 0 0] 30)).heap[w.heap.size + 1]? = some (.cells #[.slice none 0 0, .slice none 0 0] 30 (0, 0)) := by
  have := bnew (w.alloc (.cells #[.slice (some ⟨a0, 0, none⟩) es.length ec, .slice (some ⟨b0, 0, none⟩) bs.length bc] 30)) #[.slice none 0 0, .slice none 0 0] 30
  rw [World.size_alloc] at this
  exact this
/-- and the copy's box behind them -/
theorem first_out (w w1 : World) (es : List Ex) (bs : List Bi) (a0 b0 ec bc g1 c1 h1 c2 : Nat) (hb : Below ((w.alloc (.cells #[.slice (some ⟨a0, 0, none⟩) es.length ec, .slice (some ⟨b0, 0, none⟩) bs.length bc] 30)).alloc (.cells #[.slice none 0 0, .slice none 0 0] 30)).heap.size ((w.alloc (.cells #[.slice (some ⟨a0, 0, none⟩) es.length ec, .slice (some ⟨b0, 0, none⟩) bs.length bc] 30)).alloc (.cells #[.slice none 0 0, .slice none 0 0] 30)) w1)
    {B : Nat} (hB : w.heap.size + 2 ≤ B) (oe : w1.ownsRow B 49 2 (.slice (some ⟨g1, 0, none⟩) es.length c1) es.length (es.flatMap cE)) (ob : w1.ownsRow B 61 3 (.slice (some ⟨h1, 0, none⟩) bs.length c2) bs.length (bs.flatMap cB)) :
    RX w es bs a0 b0 ec bc w1.heap.size (.slice (some ⟨g1, 0, none⟩) es.length c1) (.slice (some ⟨h1, 0, none⟩) bs.length c2) (w1.alloc (.cells #[.slice (some ⟨g1, 0, none⟩) es.length c1, .slice (some ⟨h1, 0, none⟩) bs.length c2] 30)) ∧ OE w (w1.alloc (.cells #[.slice (some ⟨g1, 0, none⟩) es.length c1, .slice (some ⟨h1, 0, none⟩) bs.length c2] 30)) g1 c1 es ∧ OB w (w1.alloc (.cells #[.slice (some ⟨g1, 0, none⟩) es.length c1, .slice (some ⟨h1, 0, none⟩) bs.length c2] 30)) h1 c2 bs := by
  have hS := first2 w es bs a0 b0 ec bc
  have hW := first_below w es bs a0 b0 ec bc
  have hs1 := hb.size
  refine ⟨⟨(hW.trans (hb.mono hW.size)).alloc (by omega) _, bold (bstay (first_box w es bs a0 b0 ec bc) hb (by omega)) _, bold (bstay (first_res w es bs a0 b0 ec bc) hb (by omega)) _, bnew w1 _ _, by omega⟩, (own_low oe hB).alloc _, (own_low ob hB).alloc _⟩
/-- the cells of a part of a row -/
theorem add_at (g o j : Nat) : (⟨g, o, none⟩ : Addr).add j = ⟨g, o + j, none⟩ := by unfold Addr.add; split <;> simp_all
theorem newsE {w : World} {g : Nat} {es : List Ex} (h : RE w g es) : ∀ (j : Nat) (u : Value), (es.flatMap cE)[j]? = some u → w.cell? ((⟨g, 0, none⟩ : Addr).add j) = some u := fun j u hu => by
  obtain ⟨i, e, r, h1, h2, rfl⟩ := flat_get cE_len es j u hu
  rw [add_at, Nat.zero_add]
  obtain ⟨a0, a1⟩ := h.2 i e h1
  match r, h2 with
  | 0, h2 => cases h2; exact a0
  | 1, h2 => cases h2; exact a1
  | r + 2, h2 => simp [cE] at h2
theorem newsB {w : World} {g : Nat} {bs : List Bi} (h : RB w g bs) : ∀ (j : Nat) (u : Value), (bs.flatMap cB)[j]? = some u → w.cell? ((⟨g, 0, none⟩ : Addr).add j) = some u := fun j u hu => by
  obtain ⟨i, e, r, h1, h2, rfl⟩ := flat_get cB_len bs j u hu
  rw [add_at, Nat.zero_add]
  obtain ⟨a0, a1, a2⟩ := h.2 i e h1
  match r, h2 with
  | 0, h2 => cases h2; exact a0
  | 1, h2 => cases h2; exact a1
  | 2, h2 => cases h2; exact a2
  | r + 3, h2 => simp [cB] at h2
theorem oneE (es : List Ex) : ∀ u ∈ es.flatMap cE, u.oneCell' = true := fun u hu => by
  obtain ⟨e, _, he⟩ := List.mem_flatMap.1 hu
  simp [cE] at he
  rcases he with rfl | rfl <;> rfl
theorem oneB (bs : List Bi) : ∀ u ∈ bs.flatMap cB, u.oneCell' = true := fun u hu => by
  obtain ⟨e, _, he⟩ := List.mem_flatMap.1 hu
  simp [cB] at he
  rcases he with rfl | rfl | rfl <;> rfl
theorem news_take {α : Type} {cc : α → List Value} {w : World} {h : Nat} {ms : List α} (hE : ∀ (j : Nat) (u : Value), (ms.flatMap cc)[j]? = some u → w.cell? ((⟨h, 0, none⟩ : Addr).add j) = some u) (k : Nat) : ∀ (j : Nat) (u : Value), ((ms.take k).flatMap cc)[j]? = some u → w.cell? ((⟨h, 0, none⟩ : Addr).add j) = some u := fun j u hu => hE j u (by
  have e : ms.flatMap cc = (ms.take k).flatMap cc ++ (ms.drop k).flatMap cc := by rw [← List.flatMap_append, List.take_append_drop]
  rw [e, List.getElem?_append_left (List.getElem?_eq_some_iff.1 hu).1]
  exact hu)
theorem news_drop {α : Type} {cc : α → List Value} {n : Nat} {w : World} {h : Nat} {ms : List α} (hn : ∀ e, (cc e).length = n) (hE : ∀ (j : Nat) (u : Value), (ms.flatMap cc)[j]? = some u → w.cell? ((⟨h, 0, none⟩ : Addr).add j) = some u) (k : Nat) (hk : k ≤ ms.length) : ∀ (j : Nat) (u : Value), ((ms.drop k).flatMap cc)[j]? = some u → w.cell? ((⟨h, k * n, none⟩ : Addr).add j) = some u := fun j u hu => by
  have e : ms.flatMap cc = (ms.take k).flatMap cc ++ (ms.drop k).flatMap cc := by rw [← List.flatMap_append, List.take_append_drop]
  have hl : ((ms.take k).flatMap cc).length = k * n := by rw [flat_len hn, List.length_take]; congr 1; omega
  have := hE (k * n + j) u (by rw [e, List.getElem?_append_right (by rw [hl]; omega), hl, show k * n + j - k * n = j by omega]; exact hu)
  rw [add_at] at this ⊢
  rw [Nat.zero_add] at this
  exact this
end Go.Proofs.Ytgfifjiidmfojaa.rwy
