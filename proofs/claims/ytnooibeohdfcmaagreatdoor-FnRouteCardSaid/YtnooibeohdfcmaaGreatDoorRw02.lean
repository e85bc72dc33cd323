/- The specification's Declare: one exchange more, where that is right; new memory alone. -/
import Derived.Test.YtnooibeohdfcmaaGreatDoorRw01
import Derived.Test.YtnooibeohdfcmaaGreatDoorRouteOrder

/- Routes on their way through Declare and Bind: the argument's box, the answer's place, and a copy whose lists lie in rows of their own. -/
namespace Go.Proofs.YtnooibeohdfcmaaGreatDoor.rwy
open Go.ChangeShapes Go.WideShapes Go.ChangeAt Go.RowKit Go.Proofs.YtnooibeohdfcmaaGreatDoor.rr Go.Proofs.YtnooibeohdfcmaaGreatDoor.ra Go.Proofs.YtnooibeohdfcmaaGreatDoor.rt Go.Proofs.YtnooibeohdfcmaaGreatDoor.fl Go.Proofs.YtnooibeohdfcmaaGreatDoor.su
set_option linter.unusedVariables false

/-- what stands on the way -/
structure RX (w : World) (es : List Ex) (bs : List Bi) (a0 b0 : Option Addr) (ec bc n8 : Nat) (x0 x1 : Value) (X : World) : Prop where
  bel : Below w.heap.size w X
  box : X.heap[w.heap.size]? = some (.cells #[.slice a0 es.length ec, .slice b0 bs.length bc] 27 (0, 0))
  res : X.heap[w.heap.size + 1]? = some (.cells #[.slice none 0 0, .slice none 0 0] 27 (0, 0))
  out : X.heap[n8]? = some (.cells #[x0, x1] 27 (0, 0))
  h8 : w.heap.size + 2 ≤ n8
/-- a row of its own -/
def OE (w X : World) (g c : Nat) (m : List Ex) : Prop := X.ownsRow (w.heap.size + 2) 75 2 (.slice (some ⟨g, 0, none⟩) m.length c) m.length (m.flatMap cE)
def OB (w X : World) (g c : Nat) (m : List Bi) : Prop := X.ownsRow (w.heap.size + 2) 45 3 (.slice (some ⟨g, 0, none⟩) m.length c) m.length (m.flatMap cB)
theorem own_low {w : World} {B B' n : Nat} {U : TypeId} {s : Nat} {v : Value} {xs : List Value} (h : w.ownsRow B U s v n xs) (hb : B' ≤ B) : w.ownsRow B' U s v n xs := by
  obtain ⟨h0, h1 | ⟨g, cap, cur, h1, h2, h3⟩⟩ := h
  · exact ⟨h0, .inl h1⟩
  · exact ⟨h0, .inr ⟨g, cap, cur, h1, by omega, h3⟩⟩
theorem owns_at {w : World} {B n s g c : Nat} {U : TypeId} {xs : List Value} (h : w.ownsRow B U s (.slice (some ⟨g, 0, none⟩) n c) n xs) : B ≤ g ∧ ∃ cur, w.heap[g]? = some (.cells cur U (0, 0)) := by
  obtain ⟨_, ⟨h1, _⟩ | ⟨g', cap', cur, h1, h2, h3, _⟩⟩ := h
  · cases h1
  cases h1
  exact ⟨h2, cur, h3⟩
theorem owns_ne {w : World} {B n s g c b : Nat} {U V : TypeId} {xs : List Value} {cur : Array Value} (hUV : U ≠ V) (h : w.ownsRow B U s (.slice (some ⟨g, 0, none⟩) n c) n xs) (hb : w.heap[b]? = some (.cells cur V (0, 0))) : g ≠ b := by
  rintro rfl
  obtain ⟨_, cur2, h2⟩ := owns_at h
  rw [hb] at h2
  simp at h2
  exact hUV h2.2.symm
theorem owns_set {w : World} {B n s g c b o : Nat} {U : TypeId} {xs : List Value} (h : w.ownsRow B U s (.slice (some ⟨g, 0, none⟩) n c) n xs) (hne : g ≠ b) (u : Value) : (w.setCell ⟨b, o, none⟩ u).ownsRow B U s (.slice (some ⟨g, 0, none⟩) n c) n xs := by
  obtain ⟨h0, ⟨h1, _⟩ | ⟨g', cap', cur, h1, h2, h3, h4⟩⟩ := h
  · cases h1
  cases h1
  exact ⟨h0, .inr ⟨g, c, cur, rfl, h2, boff h3 b o u hne, h4⟩⟩
section
variable {w : World} {es : List Ex} {bs : List Bi} {a0 b0 : Option Addr} {ec bc n8 : Nat} {x0 x1 : Value} {X X' : World} {g c : Nat} {m : List Ex} {l : List Bi}
theorem OE.re (h : OE w X g c m) : RE X g m := by
  obtain ⟨a, cap, hv, hr⟩ := own_row cE_len h
  cases hv
  obtain ⟨_, cur, h3⟩ := owns_at h
  refine ⟨(Array.getElem?_eq_some_iff.1 h3).1, fun i e he => ?_⟩
  rcases hr with rfl | ⟨b, off, ha, _, hc⟩
  · simp at he
  · cases ha
    have := hc i e he
    exact ⟨by simpa using this 0 _ rfl, by simpa using this 1 _ rfl⟩
theorem OB.rb (h : OB w X g c l) : RB X g l := by
  obtain ⟨a, cap, hv, hr⟩ := own_row cB_len h
  cases hv
  obtain ⟨_, cur, h3⟩ := owns_at h
  refine ⟨(Array.getElem?_eq_some_iff.1 h3).1, fun i e he => ?_⟩
  rcases hr with rfl | ⟨b, off, ha, _, hc⟩
  · simp at he
  · cases ha
    have := hc i e he
    exact ⟨by simpa using this 0 _ rfl, by simpa using this 1 _ rfl, by simpa using this 2 _ rfl⟩
theorem RX.size (h : RX w es bs a0 b0 ec bc n8 x0 x1 X) : w.heap.size + 2 ≤ X.heap.size := (Array.getElem?_eq_some_iff.1 h.res).1
theorem RX.n8lt (h : RX w es bs a0 b0 ec bc n8 x0 x1 X) : n8 < X.heap.size := (Array.getElem?_eq_some_iff.1 h.out).1
theorem RX.on (h : RX w es bs a0 b0 ec bc n8 x0 x1 X) (hb : Below X.heap.size X X') : RX w es bs a0 b0 ec bc n8 x0 x1 X' :=
  ⟨h.bel.trans (hb.mono h.bel.size), bstay h.box hb (Array.getElem?_eq_some_iff.1 h.box).1, bstay h.res hb (Array.getElem?_eq_some_iff.1 h.res).1, bstay h.out hb (Array.getElem?_eq_some_iff.1 h.out).1, h.h8⟩
theorem OE.on (h : OE w X g c m) (hb : Below X.heap.size X X') : OE w X' g c m := own_stays h hb
theorem OB.on (h : OB w X g c l) (hb : Below X.heap.size X X') : OB w X' g c l := own_stays h hb
theorem RX.put0 (h : RX w es bs a0 b0 ec bc n8 x0 x1 X) (v : Value) : RX w es bs a0 b0 ec bc n8 v x1 (X.setCell ⟨n8, 0, none⟩ v) := by
  have h8 := h.h8
  exact ⟨h.bel.setCell (by show w.heap.size ≤ n8; omega) _, boff h.box _ _ _ (by omega), boff h.res _ _ _ (by omega), bset h.out 0 v, h8⟩
theorem RX.put1 (h : RX w es bs a0 b0 ec bc n8 x0 x1 X) (v : Value) : RX w es bs a0 b0 ec bc n8 x0 v (X.setCell ⟨n8, 1, none⟩ v) := by
  have h8 := h.h8
  exact ⟨h.bel.setCell (by show w.heap.size ≤ n8; omega) _, boff h.box _ _ _ (by omega), boff h.res _ _ _ (by omega), bset h.out 1 v, h8⟩
theorem OE.put (h : OE w X g c m) (hx : RX w es bs a0 b0 ec bc n8 x0 x1 X) (j : Nat) (v : Value) : OE w (X.setCell ⟨n8, j, none⟩ v) g c m := owns_set h (owns_ne (by decide) h hx.out) v
theorem OB.put (h : OB w X g c l) (hx : RX w es bs a0 b0 ec bc n8 x0 x1 X) (j : Nat) (v : Value) : OB w (X.setCell ⟨n8, j, none⟩ v) g c l := owns_set h (owns_ne (by decide) h hx.out) v
/-- a row has grown: what is not that row stays -/
theorem RX.grown {U : TypeId} {s n : Nat} {xs : List Value} {b cc : Nat} (h : RX w es bs a0 b0 ec bc n8 x0 x1 X) (hU : U ≠ 27) (hg : X.grownBy X' (some b)) (hm : X.ownsRow (w.heap.size + 2) U s (.slice (some ⟨b, 0, none⟩) n cc) n xs) : RX w es bs a0 b0 ec bc n8 x0 x1 X' := by
  have hb := (owns_at hm).1
  have n1 := owns_ne hU hm h.box
  have n2 := owns_ne hU hm h.res
  have n3 := owns_ne hU hm h.out
  exact ⟨h.bel.grown hg h.bel.size (fun k hk => by cases hk; omega), (hg.block _ (Array.getElem?_eq_some_iff.1 h.box).1 (fun e => by have := Option.some.inj e; omega)).trans h.box, (hg.block _ (Array.getElem?_eq_some_iff.1 h.res).1 (fun e => by have := Option.some.inj e; omega)).trans h.res, (hg.block _ (Array.getElem?_eq_some_iff.1 h.out).1 (fun e => by have := Option.some.inj e; omega)).trans h.out, h.h8⟩
theorem OE.grown {n : Nat} {xs : List Value} {b cc : Nat} (h : OE w X g c m) (hg : X.grownBy X' (some b)) (hm : X.ownsRow (w.heap.size + 2) 45 3 (.slice (some ⟨b, 0, none⟩) n cc) n xs) : OE w X' g c m := by
  obtain ⟨_, cur, hc⟩ := owns_at hm
  exact World.ownsRow.kept h hg (.inr (by simp [Value.ownBlock]; exact owns_ne (by decide) h hc))
theorem OB.grown {n : Nat} {xs : List Value} {b cc : Nat} (h : OB w X g c l) (hg : X.grownBy X' (some b)) (hm : X.ownsRow (w.heap.size + 2) 75 2 (.slice (some ⟨b, 0, none⟩) n cc) n xs) : OB w X' g c l := by
  obtain ⟨_, cur, hc⟩ := owns_at hm
  exact World.ownsRow.kept h hg (.inr (by simp [Value.ownBlock]; exact owns_ne (by decide) h hc))
end
/-- the answer's two fields are laid -/
def res2 (w : World) (b : Nat) (x0 x1 : Value) : World := (w.setCell ⟨b, 0, none⟩ x0).setCell ⟨b, 1, none⟩ x1
def OA (W : World) (B : Nat) (a : Option Addr) (c : Nat) (m : List Ex) : Prop := W.ownsRow B 75 2 (.slice a m.length c) m.length (m.flatMap cE)
def OC (W : World) (B : Nat) (a : Option Addr) (c : Nat) (m : List Bi) : Prop := W.ownsRow B 45 3 (.slice a m.length c) m.length (m.flatMap cB)
theorem fin_E {w W : World} {g c : Nat} {m : List Ex} {x0 x1 : Value} (h : OE w W g c m) : OA (res2 W (w.heap.size + 1) x0 x1) (w.heap.size + 2) (some ⟨g, 0, none⟩) c m := by
  have hb := (owns_at h).1
  exact owns_set (owns_set h (b := w.heap.size + 1) (o := 0) (by omega) x0) (b := w.heap.size + 1) (o := 1) (by omega) x1
theorem fin_B {w W : World} {g c : Nat} {m : List Bi} {x0 x1 : Value} (h : OB w W g c m) : OC (res2 W (w.heap.size + 1) x0 x1) (w.heap.size + 2) (some ⟨g, 0, none⟩) c m := by
  have hb := (owns_at h).1
  exact owns_set (owns_set h (b := w.heap.size + 1) (o := 0) (by omega) x0) (b := w.heap.size + 1) (o := 1) (by omega) x1
theorem fin_below {w W : World} {x0 x1 : Value} (h : Below w.heap.size w W) : Below w.heap.size w (res2 W (w.heap.size + 1) x0 x1) := (h.setCell (Nat.le_succ _) _).setCell (Nat.le_succ _) _
/-- the two boxes of the beginning -/
theorem first2 (w : World) (es : List Ex) (bs : List Bi) (a0 b0 : Option Addr) (ec bc : Nat) : ((w.alloc (.cells #[.slice a0 es.length ec, .slice b0 bs.length bc] 27)).alloc (.cells #[.slice none 0 0, .slice none 0 0] 27)).heap.size = w.heap.size + 2 := by simp
theorem first_below (w : World) (es : List Ex) (bs : List Bi) (a0 b0 : Option Addr) (ec bc : Nat) : Below w.heap.size w ((w.alloc (.cells #[.slice a0 es.length ec, .slice b0 bs.length bc] 27)).alloc (.cells #[.slice none 0 0, .slice none 0 0] 27)) := ((Below.refl _ _).alloc (Nat.le_refl _) _).alloc (by simp) _
theorem first_box (w : World) (es : List Ex) (bs : List Bi) (a0 b0 : Option Addr) (ec bc : Nat) : ((w.alloc (.cells #[.slice a0 es.length ec, .slice b0 bs.length bc] 27)).alloc (.cells #[.slice none 0 0, .slice none 0 0] 27)).heap[w.heap.size]? = some (.cells #[.slice a0 es.length ec, .slice b0 bs.length bc] 27 (0, 0)) := bold (bnew w _ _) _
theorem first_res (w : World) (es : List Ex) (bs : List Bi) (a0 b0 : Option Addr) (ec bc : Nat) : ((w.alloc (.cells #[.slice a0 es.length ec, .slice b0 bs.length bc] 27)).alloc (.cells #[.slice none 0 0, .slice none 0 0] 27)).heap[w.heap.size + 1]? = some (.cells #[.slice none 0 0, .slice none 0 0] 27 (0, 0)) := by
  have := bnew (w.alloc (.cells #[.slice a0 es.length ec, .slice b0 bs.length bc] 27)) #[.slice none 0 0, .slice none 0 0] 27
  rw [World.size_alloc] at this
  exact this
/-- and the copy's box behind them -/
theorem first_out (w w1 : World) (es : List Ex) (bs : List Bi) (a0 b0 : Option Addr) (ec bc g1 c1 h1 c2 : Nat) (hb : Below ((w.alloc (.cells #[.slice a0 es.length ec, .slice b0 bs.length bc] 27)).alloc (.cells #[.slice none 0 0, .slice none 0 0] 27)).heap.size ((w.alloc (.cells #[.slice a0 es.length ec, .slice b0 bs.length bc] 27)).alloc (.cells #[.slice none 0 0, .slice none 0 0] 27)) w1)
    {B : Nat} (hB : w.heap.size + 2 ≤ B) (oe : w1.ownsRow B 75 2 (.slice (some ⟨g1, 0, none⟩) es.length c1) es.length (es.flatMap cE)) (ob : w1.ownsRow B 45 3 (.slice (some ⟨h1, 0, none⟩) bs.length c2) bs.length (bs.flatMap cB)) :
    RX w es bs a0 b0 ec bc w1.heap.size (.slice (some ⟨g1, 0, none⟩) es.length c1) (.slice (some ⟨h1, 0, none⟩) bs.length c2) (w1.alloc (.cells #[.slice (some ⟨g1, 0, none⟩) es.length c1, .slice (some ⟨h1, 0, none⟩) bs.length c2] 27)) ∧ OE w (w1.alloc (.cells #[.slice (some ⟨g1, 0, none⟩) es.length c1, .slice (some ⟨h1, 0, none⟩) bs.length c2] 27)) g1 c1 es ∧ OB w (w1.alloc (.cells #[.slice (some ⟨g1, 0, none⟩) es.length c1, .slice (some ⟨h1, 0, none⟩) bs.length c2] 27)) h1 c2 bs := by
  have hS := first2 w es bs a0 b0 ec bc
  have hW := first_below w es bs a0 b0 ec bc
  have hs1 := hb.size
  refine ⟨⟨(hW.trans (hb.mono hW.size)).alloc (by omega) _, bold (bstay (first_box w es bs a0 b0 ec bc) hb (by omega)) _, bold (bstay (first_res w es bs a0 b0 ec bc) hb (by omega)) _, bnew w1 _ _, by omega⟩, (own_low oe hB).alloc _, (own_low ob hB).alloc _⟩
/-- the cells of a part of a row -/
theorem add_at (g o j : Nat) : (⟨g, o, none⟩ : Addr).add j = ⟨g, o + j, none⟩ := by unfold Addr.add; split <;> simp_all
theorem newsE {w : World} {g : Nat} {es : List Ex} (h : RE w g es) : ∀ (j : Nat) (u : Value), (es.flatMap cE)[j]? = some u → w.cell? ((⟨g, 0, none⟩ : Addr).add j) = some u := fun j u hu => by
  obtain ⟨i, e, r, h1, h2, rfl⟩ := flat_get cE_len es j u hu
  rw [add_at, Nat.zero_add]
  obtain ⟨a0, a1⟩ := h.2 i e h1
  match r, h2 with
  | 0, h2 => cases h2; exact a0
  | 1, h2 => cases h2; exact a1
  | r + 2, h2 => simp [cE] at h2
theorem newsB {w : World} {g : Nat} {bs : List Bi} (h : RB w g bs) : ∀ (j : Nat) (u : Value), (bs.flatMap cB)[j]? = some u → w.cell? ((⟨g, 0, none⟩ : Addr).add j) = some u := fun j u hu => by
  obtain ⟨i, e, r, h1, h2, rfl⟩ := flat_get cB_len bs j u hu
  rw [add_at, Nat.zero_add]
  obtain ⟨a0, a1, a2⟩ := h.2 i e h1
  match r, h2 with
  | 0, h2 => cases h2; exact a0
  | 1, h2 => cases h2; exact a1
  | 2, h2 => cases h2; exact a2
  | r + 3, h2 => simp [cB] at h2
theorem oneE (es : List Ex) : ∀ u ∈ es.flatMap cE, u.oneCell' = true := fun u hu => by
  obtain ⟨e, _, he⟩ := List.mem_flatMap.1 hu
  simp [cE] at he
  rcases he with rfl | rfl <;> rfl
theorem oneB (bs : List Bi) : ∀ u ∈ bs.flatMap cB, u.oneCell' = true := fun u hu => by
  obtain ⟨e, _, he⟩ := List.mem_flatMap.1 hu
  simp [cB] at he
  rcases he with rfl | rfl | rfl <;> rfl
theorem news_take {α : Type} {cc : α → List Value} {w : World} {h : Nat} {ms : List α} (hE : ∀ (j : Nat) (u : Value), (ms.flatMap cc)[j]? = some u → w.cell? ((⟨h, 0, none⟩ : Addr).add j) = some u) (k : Nat) : ∀ (j : Nat) (u : Value), ((ms.take k).flatMap cc)[j]? = some u → w.cell? ((⟨h, 0, none⟩ : Addr).add j) = some u := fun j u hu => hE j u (by
  have e : ms.flatMap cc = (ms.take k).flatMap cc ++ (ms.drop k).flatMap cc := by rw [← List.flatMap_append, List.take_append_drop]
  rw [e, List.getElem?_append_left (List.getElem?_eq_some_iff.1 hu).1]
  exact hu)
theorem news_drop {α : Type} {cc : α → List Value} {n : Nat} {w : World} {h : Nat} {ms : List α} (hn : ∀ e, (cc e).length = n) (hE : ∀ (j : Nat) (u : Value), (ms.flatMap cc)[j]? = some u → w.cell? ((⟨h, 0, none⟩ : Addr).add j) = some u) (k : Nat) (hk : k ≤ ms.length) : ∀ (j : Nat) (u : Value), ((ms.drop k).flatMap cc)[j]? = some u → w.cell? ((⟨h, k * n, none⟩ : Addr).add j) = some u := fun j u hu => by
  have e : ms.flatMap cc = (ms.take k).flatMap cc ++ (ms.drop k).flatMap cc := by rw [← List.flatMap_append, List.take_append_drop]
  have hl : ((ms.take k).flatMap cc).length = k * n := by rw [flat_len hn, List.length_take]; congr 1; omega
  have := hE (k * n + j) u (by rw [e, List.getElem?_append_right (by rw [hl]; omega), hl, show k * n + j - k * n = j by omega]; exact hu)
  rw [add_at] at this ⊢
  rw [Nat.zero_add] at this
  exact this
end Go.Proofs.YtnooibeohdfcmaaGreatDoor.rwy

/- An exchange put among ascending exchanges: where it goes, the list behind it, and what Declare answers. -/
namespace Go.Proofs.YtnooibeohdfcmaaGreatDoor.dp
open Go.Proofs.YtnooibeohdfcmaaGreatDoor.rc Go.Proofs.YtnooibeohdfcmaaGreatDoor.rr Go.Proofs.YtnooibeohdfcmaaGreatDoor.rf Go.Proofs.YtnooibeohdfcmaaGreatDoor.rs Go.Proofs.YtnooibeohdfcmaaGreatDoor.ro
set_option linter.unusedVariables false

def posE : List Ex → ByteArray → Nat
  | [], _ => 0
  | e :: l, r => if lt e.n r then posE l r + 1 else 0
theorem posE_le : ∀ (l : List Ex) (r : ByteArray), posE l r ≤ l.length
  | [], _ => Nat.le_refl _
  | e :: l, r => by
    unfold posE
    have := posE_le l r
    split
    · simpa using this
    · exact Nat.zero_le _
theorem posE_eq : ∀ (l : List Ex) (r : ByteArray) (p : Nat), p ≤ l.length → (∀ (i : Nat) a, i < p → l[i]? = some a → lt a.n r = true) → (∀ a, l[p]? = some a → lt a.n r = false) → posE l r = p
  | [], r, p, h, _, _ => by simp at h; subst h; rfl
  | e :: l, r, 0, _, _, h3 => by
    unfold posE
    rw [h3 e rfl]
    rfl
  | e :: l, r, p + 1, h1, h2, h3 => by
    unfold posE
    rw [h2 0 e (by omega) rfl, if_pos rfl, posE_eq l r p (by simpa using h1) (fun i a hi ha => h2 (i + 1) a (by omega) (by simpa using ha)) (fun a ha => h3 a (by simpa using ha))]
theorem posE_of {l : List Ex} {r : ByteArray} {p : Nat} (h : PosE l r p) : posE l r = p :=
  posE_eq l r p h.1 (fun i a hi ha => cmp_neg.1 (h.2.1 i a hi ha)) (fun a ha => by
    have := h.2.2 p a (Nat.le_refl _) ha
    cases hh : lt a.n r with
    | false => rfl
    | true => have := cmp_neg.2 hh; omega)
def insE (l : List Ex) (n : ByteArray) (k : Int) : List Ex := l.take (posE l n) ++ ⟨n, k⟩ :: l.drop (posE l n)
theorem insE_len (l : List Ex) (n : ByteArray) (k : Int) : (insE l n k).length = l.length + 1 := by
  have := posE_le l n
  unfold insE
  simp
  omega
theorem insE_mem {l : List Ex} {n : ByteArray} {k : Int} {e : Ex} (h : e ∈ insE l n k) : e ∈ l ∨ e = ⟨n, k⟩ := by
  unfold insE at h
  rcases List.mem_append.1 h with h | h
  · exact .inl (List.mem_of_mem_take h)
  · rcases List.mem_cons.1 h with h | h
    · exact .inr h
    · exact .inl (List.mem_of_mem_drop h)
theorem insE_at (l : List Ex) (n : ByteArray) (k : Int) : (insE l n k)[posE l n]? = some ⟨n, k⟩ := by
  have := posE_le l n
  unfold insE
  rw [List.getElem?_append_right (by simp; omega)]
  simp [Nat.min_eq_left this]
def hasE (l : List Ex) (n : ByteArray) : Prop := ∃ (t : Nat) (a : Ex), l[t]? = some a ∧ a.n = n
theorem one_at {l : List Ex} (h : UpE l l.length) {i j : Nat} {a b : Ex} (ha : l[i]? = some a) (hb : l[j]? = some b) (he : a.n = b.n) : a = b := by
  rcases Nat.lt_trichotomy i j with hij | rfl | hij
  · have := up_lt h (j - i - 1) i a b ha (by rw [show i + (j - i - 1) + 1 = j by omega]; exact hb)
    rw [he, lt_irrefl] at this
    cases this
  · rw [ha] at hb; cases hb; rfl
  · have := up_lt h (i - j - 1) j b a hb (by rw [show j + (i - j - 1) + 1 = i by omega]; exact ha)
    rw [he, lt_irrefl] at this
    cases this
open Classical in
noncomputable def fitD (es : List Ex) (bs : List Bi) (n : ByteArray) (k : Int) : Bool := decide (OkR es bs ∧ ¬ hasE es n ∧ OkR (insE es n k) bs)
open Classical in
noncomputable def retD (es : List Ex) (bs : List Bi) (n : ByteArray) (k : Int) : Bool := decide (fitD es bs n k = true ∨ (OkR es bs ∧ ∃ (t : Nat) (a : Ex), es[t]? = some a ∧ a.n = n ∧ a.k = k))
noncomputable def ansD (es : List Ex) (bs : List Bi) (n : ByteArray) (k : Int) : List Ex := if fitD es bs n k = true then insE es n k else es
section
variable {es : List Ex} {bs : List Bi} {n : ByteArray} {k : Int}
theorem not_fit (h : ¬ (OkR es bs ∧ ¬ hasE es n ∧ OkR (insE es n k) bs)) : fitD es bs n k = false := by unfold fitD; simp [h]
theorem ans_same (h : fitD es bs n k = false) : ansD es bs n k = es := by unfold ansD; rw [if_neg (by rw [h]; simp)]
/-- the routes are not right -/
theorem bad (h : ¬ OkR es bs) : ansD es bs n k = es ∧ retD es bs n k = false := by
  have hf := not_fit (k := k) (n := n) (es := es) (bs := bs) (fun x => h x.1)
  refine ⟨ans_same hf, ?_⟩
  unfold retD
  rw [hf]
  simp [h]
/-- the name or the kind is wrong -/
theorem wrong (h : OkR es bs) (hx : exOk ⟨n, k⟩ = false) : ansD es bs n k = es ∧ retD es bs n k = false := by
  have hf : fitD es bs n k = false := not_fit (fun x => by
    have := x.2.2.eo (posE es n) ⟨n, k⟩ (insE_at es n k)
    rw [hx] at this
    cases this)
  refine ⟨ans_same hf, ?_⟩
  unfold retD
  rw [hf]
  simp only [Bool.false_eq_true, false_or, decide_eq_false_iff_not]
  rintro ⟨_, t, ⟨an, ak⟩, h1, h2, h3⟩
  have := h.eo t _ h1
  simp only at h2 h3
  subst h2 h3
  rw [hx] at this
  cases this
/-- it is there -/
theorem there {t : Nat} {a : Ex} (h : OkR es bs) (ha : es[t]? = some a) (hn : a.n = n) : ansD es bs n k = es ∧ retD es bs n k = decide (a.k = k) := by
  have hf : fitD es bs n k = false := not_fit (fun x => x.2.1 ⟨t, a, ha, hn⟩)
  refine ⟨ans_same hf, ?_⟩
  unfold retD
  rw [hf]
  by_cases hk : a.k = k
  · simp only [hk, decide_true, decide_eq_true_eq]
    exact .inr ⟨h, t, a, ha, hn, hk⟩
  · simp only [hk, decide_false, decide_eq_false_iff_not]
    rintro (hh | ⟨_, s, b, h1, h2, h3⟩)
    · cases hh
    · have := one_at h.eu ha h1 (hn.trans h2.symm)
      subst this
      exact hk h3
theorem kind_is (h : 0 ≤ kindOf es n) : ∃ (t : Nat) (a : Ex), es[t]? = some a ∧ a.n = n ∧ kindOf es n = a.k := by
  unfold kindOf at h ⊢
  cases hf : es.find? (fun e => decide (e.n = n)) with
  | none => rw [hf] at h; simp at h
  | some e =>
    have h1 := List.mem_of_find?_eq_some hf
    have h2 := List.find?_some hf
    obtain ⟨t, ht⟩ := List.getElem?_of_mem h1
    exact ⟨t, e, ht, by simpa using h2, rfl⟩
theorem kind_there (h : OkR es bs) (hk : 0 ≤ kindOf es n) : ansD es bs n k = es ∧ retD es bs n k = decide (kindOf es n = k) := by
  obtain ⟨t, a, h1, h2, h3⟩ := kind_is hk
  rw [h3]
  exact there h h1 h2
theorem kind_not (h : OkR es bs) (hk : ¬ 0 ≤ kindOf es n) : ¬ hasE es n := fun hh => hk ((ro.kind_there (fun i e he => by
  have := h.eo i e he
  unfold exOk at this
  simp at this
  exact this.2.1) n).2 hh)
/-- it is put, and that is right -/
theorem put (h : OkR es bs) (hh : ¬ hasE es n) (h2 : OkR (insE es n k) bs) : ansD es bs n k = insE es n k ∧ retD es bs n k = true := by
  have hf : fitD es bs n k = true := by unfold fitD; simp [h, hh, h2]
  refine ⟨by unfold ansD; rw [if_pos hf], ?_⟩
  unfold retD
  rw [hf]
  simp
/-- it is put, and that is not right -/
theorem over (h : OkR es bs) (hh : ¬ hasE es n) (h2 : ¬ OkR (insE es n k) bs) : ansD es bs n k = es ∧ retD es bs n k = false := by
  have hf : fitD es bs n k = false := not_fit (fun x => h2 x.2.2)
  refine ⟨ans_same hf, ?_⟩
  unfold retD
  rw [hf]
  simp only [Bool.false_eq_true, false_or, decide_eq_false_iff_not]
  rintro ⟨_, t, a, h1, h2, h3⟩
  exact hh ⟨t, a, h1, h2⟩
end
end Go.Proofs.YtnooibeohdfcmaaGreatDoor.dp

/- The specification's Declare: one exchange more, where that is right; new memory alone. -/
namespace Go.Proofs.YtnooibeohdfcmaaGreatDoor.dsp
open Go.ChangeShapes Go.WideShapes Go.ChangeAt Go.RowKit Go.Proofs.YtnooibeohdfcmaaGreatDoor.rc Go.Proofs.YtnooibeohdfcmaaGreatDoor.rr Go.Proofs.YtnooibeohdfcmaaGreatDoor.ra Go.Proofs.YtnooibeohdfcmaaGreatDoor.rt Go.Proofs.YtnooibeohdfcmaaGreatDoor.rs Go.Proofs.YtnooibeohdfcmaaGreatDoor.ro Go.Proofs.YtnooibeohdfcmaaGreatDoor.fl Go.Proofs.YtnooibeohdfcmaaGreatDoor.su Go.Proofs.YtnooibeohdfcmaaGreatDoor.dp Go.Proofs.YtnooibeohdfcmaaGreatDoor.rwy
set_option linter.unusedVariables false

def ws (s n c ka n8 k off : Nat) (nn : ByteArray) (kd : Int) (g : ta.G) : List (Nat × Value) := [(53, .slice (some ⟨g.e0, 0, none⟩) 0 0), (54, .pointer (some ⟨s, 0, none⟩)), (55, .slice (some ⟨ka, 0, none⟩) n c), (56, .int .i64 k), (57, .slice (some ⟨ka, 0, none⟩) k c), (58, g.v1), (59, .string nn), (60, .int .i64 kd), (61, .agg #[.string nn, .int .i64 kd]), (62, .slice (some ⟨g.h, 0, none⟩) 1 1), (63, g.v2), (64, .pointer (some ⟨s, 0, none⟩)), (65, .slice (some ⟨ka, 0, none⟩) n c), (66, .int .i64 k), (67, .slice (some ⟨ka, off, none⟩) (n - k) (c - k)), (68, g.v3), (69, .pointer (some ⟨n8, 0, none⟩))]
def J0 : ta.J := ⟨0, 5, 9, 10, 15, 17⟩
theorem J0_up : J0.up := by unfold ta.J.up J0; decide
def off (k n : Nat) : Nat := if k = n then 0 else k * 2
theorem newsOff {W : World} {ka k c : Nat} {es : List Ex} (h : RE W ka es) (hk : k ≤ es.length) (hc : es.length ≤ c) : ∀ (j : Nat) (u : Value), ((es.drop k).flatMap cE)[j]? = some u → W.cell? ((⟨ka, off k c, none⟩ : Addr).add j) = some u := by
  unfold off
  split
  · intro j u hu
    rw [List.drop_eq_nil_of_le (by omega)] at hu
    simp at hu
  · exact news_drop cE_len (newsE h) k hk
theorem ins_flat {es : List Ex} {nn : ByteArray} {kd : Int} {k : Nat} (hp : posE es nn = k) : (es.take k).flatMap cE ++ [.string nn, .int .i64 kd] ++ (es.drop k).flatMap cE = (insE es nn kd).flatMap cE := by
  unfold insE
  rw [hp]
  simp [cE]

theorem form_pos {W : World} {B n s : Nat} {U : TypeId} {v : Value} {xs : List Value} (h : W.ownsRow B U s v n xs) (hn : 0 < n) : ∃ g cap, v = .slice (some ⟨g, 0, none⟩) n cap := by
  obtain ⟨_, ⟨_, h0⟩ | ⟨g, cap, cur, rfl, _⟩⟩ := h
  · omega
  · exact ⟨g, cap, rfl⟩
theorem ins_small {es : List Ex} {nn : ByteArray} {kd : Int} (h : ∀ e ∈ es, e.n.size ≤ 1048576) (hn : nn.size ≤ 1048576) : ∀ e ∈ insE es nn kd, e.n.size ≤ 1048576 := fun e he => by
  rcases insE_mem he with h1 | rfl
  · exact h e h1
  · exact hn

set_option maxRecDepth 100000 in
set_option maxHeartbeats 4000000 in
theorem spec_declare (es : List Ex) (bs : List Bi) (b0 : Option Addr) (ec bc ka kb : Nat) (nn : ByteArray) (kd : Int) (w : World) (hel : es.length ≤ 1048576) (hbl : bs.length ≤ 1048576) (hes : ∀ e ∈ es, e.n.size ≤ 1048576) (hbs : ∀ b ∈ bs, b.x.size ≤ 1048576 ∧ b.k.size ≤ 1048576 ∧ b.q.size ≤ 1048576) (hnm : nn.size ≤ 1048576) (hE : RE w ka es) (hB : RB w kb bs) (hcap : es.length ≤ ec) (hnb : Hid (apa.NQ b0 ⟨kb, 0, none⟩ bs.length bc)) :
    Calls Tryz.prog 13 #[.agg #[.slice (some ⟨ka, 0, none⟩) es.length ec, .slice b0 bs.length bc], .string nn, .int .i64 kd] w fun r w' => ∃ ea ba ce cb, r = .returned (.tuple #[.agg #[.slice ea (ansD es bs nn kd).length ce, .slice ba bs.length cb], .bool (retD es bs nn kd)]) ∧ OA w' (w.heap.size + 2) ea ce (ansD es bs nn kd) ∧ OC w' (w.heap.size + 2) ba cb bs ∧ Below w.heap.size w w' := by
  have hWb := first_below w es bs (some ⟨ka, 0, none⟩) b0 ec bc
  have hW2 := first2 w es bs (some ⟨ka, 0, none⟩) b0 ec bc
  have hcopy := sc.spec_copy es bs (some ⟨ka, 0, none⟩) b0 ec bc _ hel hbl (hE.below hWb) (hB.below hWb) (own_nq _ _ _) hnb
  have HE : Hid (RE w ka es) := hE
  have HB : Hid (RB w kb bs) := hB
  have HES : Hid (∀ e ∈ es, e.n.size ≤ 1048576) := hes
  have HBS : Hid (∀ b ∈ bs, b.x.size ≤ 1048576 ∧ b.k.size ≤ 1048576 ∧ b.q.size ≤ 1048576) := hbs
  obtain ⟨AN, hAN⟩ : ∃ AN, ansD es bs nn kd = AN := ⟨_, rfl⟩
  obtain ⟨rt, hrt⟩ : ∃ rt, retD es bs nn kd = rt := ⟨_, rfl⟩
  have HAN : Hid (ansD es bs nn kd = AN) := hAN
  have HRT : Hid (retD es bs nn kd = rt) := hrt
  simp only [hAN, hrt]
  clear hE hB hes hbs hAN hrt hWb
  go_enter Tryz.func13, Tryz.ntmps13
  go_wp2_with (go_at_call 42; fail)
  refine hcopy.mono ?_
  rintro e w1 ⟨g1, c1, h1, c2, rfl, oe1, ob1, hb1⟩
  obtain ⟨hrx, hoe, hob⟩ := first_out w w1 es bs (some ⟨ka, 0, none⟩) b0 ec bc g1 c1 h1 c2 hb1 (by rw [hW2]; omega) oe1 ob1
  obtain ⟨X, hX⟩ : ∃ X, w1.alloc (.cells #[.slice (some ⟨g1, 0, none⟩) es.length c1, .slice (some ⟨h1, 0, none⟩) bs.length c2] 27) = X := ⟨_, rfl⟩
  rw [hX] at hrx hoe hob
  have x0 : X.cell? ⟨w.heap.size, 0, none⟩ = some (.slice (some ⟨ka, 0, none⟩) es.length ec) := bcell hrx.box rfl
  have x1 : X.cell? ⟨w.heap.size, 1, none⟩ = some (.slice b0 bs.length bc) := bcell hrx.box rfl
  have hokc := rk.spec_routes es bs ka ec kb bc X hel hbl HES.out HBS.out (HE.out.below hrx.bel) (HB.out.below hrx.bel) (some ⟨ka, 0, none⟩) b0 (own_nq _ _ _) hnb
  have RX1 : Hid (RX w es bs (some ⟨ka, 0, none⟩) b0 ec bc w1.heap.size (.slice (some ⟨g1, 0, none⟩) es.length c1) (.slice (some ⟨h1, 0, none⟩) bs.length c2) X) := hrx
  have OE1 : Hid (OE w X g1 c1 es) := hoe
  have OB1 : Hid (OB w X h1 c2 bs) := hob
  clear hcopy oe1 ob1 hb1 hrx hoe hob
  go_wp2_with (go_at_call 17; fail)
  clear hX x0 x1
  refine hokc.mono ?_
  rintro e w2 ⟨⟨bo, rfl, hbo⟩, hb2⟩
  have RX2 : Hid (RX w es bs (some ⟨ka, 0, none⟩) b0 ec bc w1.heap.size (.slice (some ⟨g1, 0, none⟩) es.length c1) (.slice (some ⟨h1, 0, none⟩) bs.length c2) w2) := RX1.out.on hb2
  have OE2 : Hid (OE w w2 g1 c1 es) := OE1.out.on hb2
  have OB2 : Hid (OB w w2 h1 c2 bs) := OB1.out.on hb2
  clear hokc RX1 OE1 OB1 hb2
  by_cases hok : OkR es bs
  case neg =>
    obtain rfl : bo = false := by
      cases bo with
      | false => rfl
      | true => exact absurd (hbo.1 rfl) hok
    have HA : Hid (es = AN) := (bad hok).1.symm.trans HAN.out
    have HR : Hid (false = rt) := (bad hok).2.symm.trans HRT.out
    clear hbo hok
    have n0 : w2.cell? ⟨w1.heap.size, 0, none⟩ = some (.slice (some ⟨g1, 0, none⟩) es.length c1) := bcell RX2.out.out rfl
    have n1 : w2.cell? ⟨w1.heap.size, 1, none⟩ = some (.slice (some ⟨h1, 0, none⟩) bs.length c2) := bcell RX2.out.out rfl
    have z0 : w2.cell? ⟨w.heap.size + 1, 0, none⟩ = some (.slice none 0 0) := bcell RX2.out.res rfl
    have z1 : w2.cell? ⟨w.heap.size + 1, 1, none⟩ = some (.slice none 0 0) := bcell RX2.out.res rfl
    have z0f := bfree RX2.out.res 0
    have z1f := bfree RX2.out.res 1
    go_wp2
    refine bodyPost_ret (v := .tuple #[.agg #[.slice (some ⟨g1, 0, none⟩) es.length c1, .slice (some ⟨h1, 0, none⟩) bs.length c2], .bool false]) (by simp [results, Tryz.results13, go_sem, z0, z1]) rfl ⟨some ⟨g1, 0, none⟩, some ⟨h1, 0, none⟩, c1, c2, by rw [← HA.out, HR.out], ?_, ?_, ?_⟩
    · rw [← HA.out]; exact fin_E OE2.out
    · exact fin_B OB2.out
    · exact fin_below RX2.out.bel
  case pos =>
    obtain rfl : bo = true := hbo.2 hok
    have HOK : Hid (OkR es bs) := hok
    have hel4 := hok.el
    have hnmc := (nm.spec_name nn w2 hnm)
    clear hbo hok
    cases hg : nm.good nn with
    | false =>
      rw [hg] at hnmc
      have hx : exOk ⟨nn, kd⟩ = false := by unfold exOk; rw [hg]; rfl
      have HA : Hid (es = AN) := (wrong HOK.out hx).1.symm.trans HAN.out
      have HR : Hid (false = rt) := (wrong HOK.out hx).2.symm.trans HRT.out
      go_wp2_with (go_at_call 43; fail)
      refine hnmc.mono ?_
      rintro e w3 ⟨rfl, hw3⟩
      obtain rfl := hw3
      clear hnmc hx hg
      have n0 : w2.cell? ⟨w1.heap.size, 0, none⟩ = some (.slice (some ⟨g1, 0, none⟩) es.length c1) := bcell RX2.out.out rfl
      have n1 : w2.cell? ⟨w1.heap.size, 1, none⟩ = some (.slice (some ⟨h1, 0, none⟩) bs.length c2) := bcell RX2.out.out rfl
      have z0 : w2.cell? ⟨w.heap.size + 1, 0, none⟩ = some (.slice none 0 0) := bcell RX2.out.res rfl
      have z1 : w2.cell? ⟨w.heap.size + 1, 1, none⟩ = some (.slice none 0 0) := bcell RX2.out.res rfl
      have z0f := bfree RX2.out.res 0
      have z1f := bfree RX2.out.res 1
      go_wp2
      refine bodyPost_ret (v := .tuple #[.agg #[.slice (some ⟨g1, 0, none⟩) es.length c1, .slice (some ⟨h1, 0, none⟩) bs.length c2], .bool false]) (by simp [results, Tryz.results13, go_sem, z0, z1]) rfl ⟨some ⟨g1, 0, none⟩, some ⟨h1, 0, none⟩, c1, c2, by rw [← HA.out, HR.out], ?_, ?_, ?_⟩
      · rw [← HA.out]; exact fin_E OE2.out
      · exact fin_B OB2.out
      · exact fin_below RX2.out.bel
    | true =>
      rw [hg] at hnmc
      go_wp2_with (go_at_call 43; fail)
      refine hnmc.mono ?_
      rintro e w3 ⟨rfl, hw3⟩
      obtain rfl := hw3
      clear hnmc
      have hin := ky.within kd 0 2 w2
      by_cases hk : 0 ≤ kd ∧ kd ≤ 2
      case neg =>
        have hx : exOk ⟨nn, kd⟩ = false := by unfold exOk; simp only [hk, decide_false, Bool.and_false]
        have HA : Hid (es = AN) := (wrong HOK.out hx).1.symm.trans HAN.out
        have HR : Hid (false = rt) := (wrong HOK.out hx).2.symm.trans HRT.out
        rw [decide_eq_false hk] at hin
        go_wp2_with (go_at_call 48; fail)
        refine hin.mono ?_
        rintro e w3 ⟨rfl, hw3⟩
        obtain rfl := hw3
        clear hin hx hg hk
        have n0 : w2.cell? ⟨w1.heap.size, 0, none⟩ = some (.slice (some ⟨g1, 0, none⟩) es.length c1) := bcell RX2.out.out rfl
        have n1 : w2.cell? ⟨w1.heap.size, 1, none⟩ = some (.slice (some ⟨h1, 0, none⟩) bs.length c2) := bcell RX2.out.out rfl
        have z0 : w2.cell? ⟨w.heap.size + 1, 0, none⟩ = some (.slice none 0 0) := bcell RX2.out.res rfl
        have z1 : w2.cell? ⟨w.heap.size + 1, 1, none⟩ = some (.slice none 0 0) := bcell RX2.out.res rfl
        have z0f := bfree RX2.out.res 0
        have z1f := bfree RX2.out.res 1
        go_wp2
        refine bodyPost_ret (v := .tuple #[.agg #[.slice (some ⟨g1, 0, none⟩) es.length c1, .slice (some ⟨h1, 0, none⟩) bs.length c2], .bool false]) (by simp [results, Tryz.results13, go_sem, z0, z1]) rfl ⟨some ⟨g1, 0, none⟩, some ⟨h1, 0, none⟩, c1, c2, by rw [← HA.out, HR.out], ?_, ?_, ?_⟩
        · rw [← HA.out]; exact fin_E OE2.out
        · exact fin_B OB2.out
        · exact fin_below RX2.out.bel
      case pos =>
        rw [decide_eq_true hk] at hin
        go_wp2_with (go_at_call 48; fail)
        refine hin.mono ?_
        rintro e w3 ⟨rfl, hw3⟩
        obtain rfl := hw3
        clear hin hg hk
        have x0 : w2.cell? ⟨w.heap.size, 0, none⟩ = some (.slice (some ⟨ka, 0, none⟩) es.length ec) := bcell RX2.out.box rfl
        have x1 : w2.cell? ⟨w.heap.size, 1, none⟩ = some (.slice b0 bs.length bc) := bcell RX2.out.box rfl
        have hkc := fun (W : World) (h : RE W ka es) => rr.spec_kind es ka ec b0 bs.length bc nn W hel h _ (own_nq _ _ _)
        have hk3 := hkc w2 (HE.out.below RX2.out.bel)
        by_cases hkk : 0 ≤ kindOf es nn
        case pos =>
          have HA : Hid (es = AN) := (dp.kind_there HOK.out hkk).1.symm.trans HAN.out
          have HR : Hid (decide (kindOf es nn = kd) = rt) := (dp.kind_there HOK.out hkk).2.symm.trans HRT.out
          obtain ⟨kk, hkke⟩ : ∃ kk, kindOf es nn = kk := ⟨_, rfl⟩
          rw [hkke] at hk3 hkk HR
          simp only [hkke] at hkc
          clear hkke
          go_wp2_with (go_at_call 33; fail)
          refine hk3.mono ?_
          rintro e w3 ⟨rfl, hb3⟩
          have RX3 : Hid (RX w es bs (some ⟨ka, 0, none⟩) b0 ec bc w1.heap.size (.slice (some ⟨g1, 0, none⟩) es.length c1) (.slice (some ⟨h1, 0, none⟩) bs.length c2) w3) := RX2.out.on hb3
          have OE3 : Hid (OE w w3 g1 c1 es) := OE2.out.on hb3
          have OB3 : Hid (OB w w3 h1 c2 bs) := OB2.out.on hb3
          have hk5 := hkc w3.drew (HE.out.below RX3.out.bel.drew)
          have y0 : w3.cell? ⟨w.heap.size, 0, none⟩ = some (.slice (some ⟨ka, 0, none⟩) es.length ec) := bcell RX3.out.box rfl
          have y1 : w3.cell? ⟨w.heap.size, 1, none⟩ = some (.slice b0 bs.length bc) := bcell RX3.out.box rfl
          have m0 : w3.cell? ⟨w1.heap.size, 0, none⟩ = some (.slice (some ⟨g1, 0, none⟩) es.length c1) := bcell RX3.out.out rfl
          have m1 : w3.cell? ⟨w1.heap.size, 1, none⟩ = some (.slice (some ⟨h1, 0, none⟩) bs.length c2) := bcell RX3.out.out rfl
          clear hk3 RX2 OE2 OB2 hb3 x0 x1 hkc
          go_wp2
          go_region_with (go_at_call 33; refine hk5.mono ?_; rintro e w4 ⟨rfl, hb4⟩; have RX4 : Hid (RX w es bs (some ⟨ka, 0, none⟩) b0 ec bc w1.heap.size (.slice (some ⟨g1, 0, none⟩) es.length c1) (.slice (some ⟨h1, 0, none⟩) bs.length c2) w4) := RX3.out.on ((Below.refl _ _).drew.trans hb4); have OE4 : Hid (OE w w4 g1 c1 es) := OE3.out.on ((Below.refl _ _).drew.trans hb4); have OB4 : Hid (OB w w4 h1 c2 bs) := OB3.out.on ((Below.refl _ _).drew.trans hb4); have n0 : w4.cell? ⟨w1.heap.size, 0, none⟩ = some (.slice (some ⟨g1, 0, none⟩) es.length c1) := bcell RX4.out.out rfl; have n1 : w4.cell? ⟨w1.heap.size, 1, none⟩ = some (.slice (some ⟨h1, 0, none⟩) bs.length c2) := bcell RX4.out.out rfl; have z0 : w4.cell? ⟨w.heap.size + 1, 0, none⟩ = some (.slice none 0 0) := bcell RX4.out.res rfl; have z1 : w4.cell? ⟨w.heap.size + 1, 1, none⟩ = some (.slice none 0 0) := bcell RX4.out.res rfl; have z0f := bfree RX4.out.res 0; have z1f := bfree RX4.out.res 1; clear hb4)
          all_goals go_wp2
          all_goals refine bodyPost_ret (v := .tuple #[.agg #[.slice (some ⟨g1, 0, none⟩) es.length c1, .slice (some ⟨h1, 0, none⟩) bs.length c2], .bool (decide (kk = kd))]) (by simp [results, Tryz.results13, go_sem, z0, z1]; rfl) rfl ⟨some ⟨g1, 0, none⟩, some ⟨h1, 0, none⟩, c1, c2, by rw [← HA.out, HR.out], ?_, ?_, ?_⟩
          all_goals first | (rw [← HA.out]; exact fin_E OE4.out) | exact fin_B OB4.out | exact fin_below RX4.out.bel
        case neg =>
          have hno := kind_not HOK.out hkk
          go_wp2_with (go_at_call 33; fail)
          refine hk3.mono ?_
          rintro e w3 ⟨rfl, hb3⟩
          have RX3 : Hid (RX w es bs (some ⟨ka, 0, none⟩) b0 ec bc w1.heap.size (.slice (some ⟨g1, 0, none⟩) es.length c1) (.slice (some ⟨h1, 0, none⟩) bs.length c2) w3) := RX2.out.on hb3
          have OE3 : Hid (OE w w3 g1 c1 es) := OE2.out.on hb3
          have OB3 : Hid (OB w w3 h1 c2 bs) := OB2.out.on hb3
          have HE3 : Hid (RE w3 ka es) := HE.out.below RX3.out.bel
          have y0 : w3.cell? ⟨w.heap.size, 0, none⟩ = some (.slice (some ⟨ka, 0, none⟩) es.length ec) := bcell RX3.out.box rfl
          clear hk3 RX2 OE2 OB2 hb3 x0 x1 hkc
          have HNO : Hid (¬ hasE es nn) := hno
          obtain ⟨i0, hi, hz0, hz1, hz2⟩ := su.infoE
          clear hno
          go_wp2
          clear hkk
          go_loopw [9] (fun v wr => ∃ k : Nat, k ≤ es.length ∧ v = .int .i64 k ∧ Hid (∀ (i : Nat) a, i < k → es[i]? = some a → lt a.n nn = true) ∧ wr = w3) (fun v _ => es.length - (intOf v).toNat)
          case atStart => exact ⟨0, Nat.zero_le _, rfl, fun i a h => by omega, rfl⟩
          case round =>
            obtain ⟨k, hk4, rfl, hn, hwr⟩ := hrel
            have hkc : k ≤ ec := Nat.le_trans hk4 hcap
            obtain rfl := hwr.symm
            by_cases hgo : ∃ a, es[k]? = some a ∧ lt a.n nn = true
            case pos =>
              obtain ⟨⟨an, ak⟩, HG, hq⟩ := hgo
              have hkl : k < es.length := (List.getElem?_eq_some_iff.1 HG).1
              obtain ⟨q0, q1⟩ := HE3.out.2 k _ HG
              have hn2 : Hid (∀ (i : Nat) a, i < k + 1 → es[i]? = some a → lt a.n nn = true) := fun i a hi ha => by
                by_cases ei : i = k
                · subst ei; rw [HG] at ha; cases ha; exact hq
                · exact hn.out i a (by omega) ha
              have i2 : (k : Int) < (es.length : Int) := by omega
              have hq' : Op.bytesLess an.toList nn.toList = true := hq
              clear hq HG
              go_wp2
              try rw [← hqa]
              try rw [← hqb]
              go_roundw
              case rel => exact ⟨k + 1, by omega, by go_num, hn2, by first | rfl | trivial⟩
              case measure => simp [intOf]; omega
            case neg =>
              have HP : Hid (posE es nn = k) := posE_eq es nn k hk4 hn.out (fun a ha => by
                cases hh : lt a.n nn with
                | false => rfl
                | true => exact absurd ⟨a, ha, hh⟩ hgo)
              have hend : (¬ k < es.length) ∨ ∃ an ak, es[k]? = some ⟨an, ak⟩ ∧ Op.bytesLess an.toList nn.toList = false := by
                by_cases hkl : k < es.length
                · right
                  refine ⟨es[k].n, es[k].k, List.getElem?_eq_getElem hkl, ?_⟩
                  cases hh : Op.bytesLess es[k].n.toList nn.toList with
                  | false => rfl
                  | true => exact absurd ⟨es[k], List.getElem?_eq_getElem hkl, hh⟩ hgo
                · exact .inl hkl
              clear hgo hn
              have hbeh : ∀ (k : Nat), k ≤ es.length → posE es nn = k → True := fun _ _ _ => trivial
              clear hbeh
              rcases hend with hkl | ⟨an, ak, HG, hq⟩
              · have f0 : decide ((k : Int) < (es.length : Int)) = false := by simp; omega
                go_wp2
                refine dk.region_gsets (ws w.heap.size es.length ec ka w1.heap.size k (off k ec) nn kd) [53, 54, 55, 56, 57, 58, 59, 60, 61, 62, 63, 64, 65, 66, 67, 68, 69] (ta.C ⟨w3, 75, 2, (es.take k).flatMap cE, [.string nn, .int .i64 kd], (es.drop k).flatMap cE, k, es.length - k, w1.heap.size, 0⟩ J0) ⟨0, .slice none 0 0, 0, .slice none 0 0, .slice none 0 0⟩ (by kernel_rfl) (by kernel_rfl) (fun _ => rfl) (by kernel_rfl) (ta.start _ _ _) ?each ?fin
                case each =>
                  refine ⟨ta.st0 (x := J0) (d := 53) (idx := 0) J0_up (by simp) rfl (by simp) (fun g => rfl) (fun g => rfl) (fun g e => rfl) (fun s W => by simp [execOp, go_sem]), ?_⟩
                  refine ⟨ta.quiet (by decide) (by simp) (.pointer (some ⟨w.heap.size, 0, none⟩)) (by rintro s _ ⟨⟩; exact dk.sets_on _ (by simp) _ rfl) (fun s W h => by simp [execOp, go_sem, Act.eval, dk.sets_get, ws, List.lookup]), ?_⟩
                  refine ⟨ta.quiet (by decide) (by simp) (.slice (some ⟨ka, 0, none⟩) es.length ec) (by rintro s _ ⟨⟩; exact dk.sets_on _ (by simp) _ rfl) (fun s W h => by have c : W.cell? ⟨w.heap.size, 0, none⟩ = some (.slice (some ⟨ka, 0, none⟩) es.length ec) := bcell (h _ _ RX3.out.box (by have := RX3.out.h8; show w.heap.size ≠ w1.heap.size; omega)) rfl; simp [execOp, go_sem, Act.eval, dk.sets_get, ws, List.lookup, c]), ?_⟩
                  refine ⟨ta.quiet (by decide) (by simp) (.int .i64 k) (by rintro s _ ⟨⟩; exact dk.sets_on _ (by simp) _ rfl) (fun s W h => by simp [execOp, go_sem, Act.eval, dk.sets_get, ws, List.lookup]), ?_⟩
                  refine ⟨ta.quiet (by decide) (by simp) (.slice (some ⟨ka, 0, none⟩) k ec) (by rintro s _ ⟨⟩; exact dk.sets_on _ (by simp) _ rfl) (fun s W h => by simp [execOp, go_sem, Act.eval, dk.sets_get, ws, List.lookup, hkc]), ?_⟩
                  refine ⟨ta.st1 (x := J0) (d := 58) (s1 := 53) (s2 := 57) (idx := 5) (c := ec) (a := ⟨ka, 0, none⟩) J0_up Tryz.underlying24 hi hz0 hz1 hz2 rfl (by show 0 < 2; decide) rfl rfl ⟨by simp, by simp, by simp⟩ (fun g => rfl) (fun g => rfl) (fun g => rfl) (fun g => rfl) (fun g v => rfl) (by show ((es.take k).flatMap cE).length = k * 2; rw [flat_len cE_len, List.length_take]; congr 1; omega) (fun W hb => news_take (newsE (HE3.out.below hb)) k) (oneE _) (by show k ≤ 1048576; omega) (by show (0 + k) * 24 ≤ 140737488355328; omega) ⟨⟨0, .data⟩, by simp, rfl, rfl⟩, ?_⟩
                  refine ⟨ta.quiet (by decide) (by simp) (.string nn) (by rintro s _ ⟨⟩; exact dk.sets_on _ (by simp) _ rfl) (fun s W h => by simp [execOp, go_sem, Act.eval, dk.sets_get, ws, List.lookup]), ?_⟩
                  refine ⟨ta.quiet (by decide) (by simp) (.int .i64 kd) (by rintro s _ ⟨⟩; exact dk.sets_on _ (by simp) _ rfl) (fun s W h => by simp [execOp, go_sem, Act.eval, dk.sets_get, ws, List.lookup]), ?_⟩
                  refine ⟨ta.quiet (by decide) (by simp) (.agg #[.string nn, .int .i64 kd]) (by rintro s _ ⟨⟩; exact dk.sets_on _ (by simp) _ rfl) (fun s W h => by simp [execOp, go_sem, Act.eval, dk.sets_get, ws, List.lookup]), ?_⟩
                  refine ⟨ta.st2 (x := J0) (d := 62) (idx := 9) J0_up (by simp) rfl (by simp) (fun g => rfl) (fun g => rfl) (fun g e => rfl) (fun s W => by simp [execOp, go_sem, Act.eval, dk.sets_get, ws, List.lookup]), ?_⟩
                  refine ⟨ta.st3 (x := J0) (d := 63) (s1 := 58) (s2 := 62) (idx := 10) J0_up Tryz.underlying24 hi hz0 hz1 hz2 rfl (by show 0 < 2; decide) rfl rfl ⟨by simp, by simp, by simp⟩ (fun g => rfl) (fun g => rfl) (fun g => rfl) (fun g => rfl) (fun g v => rfl) rfl (by intro u hu; simp at hu; rcases hu with rfl | rfl <;> rfl) (by show k ≤ 1048576; omega) (by show (k + 1) * 24 ≤ 140737488355328; omega) ⟨⟨5, .data⟩, by simp, rfl, rfl⟩ ⟨⟨9, .data⟩, by simp, rfl, rfl⟩, ?_⟩
                  refine ⟨ta.quiet (by decide) (by simp) (.pointer (some ⟨w.heap.size, 0, none⟩)) (by rintro s _ ⟨⟩; exact dk.sets_on _ (by simp) _ rfl) (fun s W h => by simp [execOp, go_sem, Act.eval, dk.sets_get, ws, List.lookup]), ?_⟩
                  refine ⟨ta.quiet (by decide) (by simp) (.slice (some ⟨ka, 0, none⟩) es.length ec) (by rintro s _ ⟨⟩; exact dk.sets_on _ (by simp) _ rfl) (fun s W h => by have c : W.cell? ⟨w.heap.size, 0, none⟩ = some (.slice (some ⟨ka, 0, none⟩) es.length ec) := bcell (h _ _ RX3.out.box (by have := RX3.out.h8; show w.heap.size ≠ w1.heap.size; omega)) rfl; simp [execOp, go_sem, Act.eval, dk.sets_get, ws, List.lookup, c]), ?_⟩
                  refine ⟨ta.quiet (by decide) (by simp) (.int .i64 k) (by rintro s _ ⟨⟩; exact dk.sets_on _ (by simp) _ rfl) (fun s W h => by simp [execOp, go_sem, Act.eval, dk.sets_get, ws, List.lookup]), ?_⟩
                  refine ⟨ta.quiet (by decide) (by simp) (.slice (some ⟨ka, off k ec, none⟩) (es.length - k) (ec - k)) (by rintro s _ ⟨⟩; exact dk.sets_on _ (by simp) _ rfl) (fun s W h => match Nat.lt_or_ge k ec with | .inl hlt => (by have hne : ¬ k = ec := Nat.ne_of_lt hlt; have hne2 : ¬ ec = k := (fun e => hne e.symm); simp [execOp, go_sem, Act.eval, dk.sets_get, ws, List.lookup, off, hk4, hne, hne2]) | .inr hge => (by have hee : k = ec := Nat.le_antisymm hkc hge; have hem : es.length = ec := Nat.le_antisymm hcap (hee ▸ hk4); simp [execOp, go_sem, Act.eval, dk.sets_get, ws, List.lookup, off, hee, hem])), ?_⟩
                  refine ⟨ta.st4 (x := J0) (d := 68) (s1 := 63) (s2 := 67) (idx := 15) (c := ec - k) (a := ⟨ka, off k ec, none⟩) J0_up Tryz.underlying24 hi hz0 hz1 hz2 rfl (by show 0 < 2; decide) rfl rfl ⟨by simp, by simp, by simp⟩ (fun g => rfl) (fun g => rfl) (fun g => rfl) (fun g => rfl) (fun g v => rfl) (by show ((es.drop k).flatMap cE).length = (es.length - k) * 2; rw [flat_len cE_len, List.length_drop]) (fun W hb => newsOff (HE3.out.below hb) (by omega) hcap) (oneE _) (by show k ≤ 1048576 ∧ es.length - k ≤ 1048576; omega) (by show (k + 1 + (es.length - k)) * 24 ≤ 140737488355328; omega) ⟨⟨10, .data⟩, by simp, rfl, rfl⟩, ?_⟩
                  refine ⟨ta.quiet (by decide) (by simp) (.pointer (some ⟨w1.heap.size, 0, none⟩)) (by rintro s _ ⟨⟩; exact dk.sets_on _ (by simp) _ rfl) (fun s W h => by simp [execOp, go_sem, Act.eval, dk.sets_get, ws, List.lookup]), ?_⟩
                  exact ⟨ta.st5 (x := J0) J0_up (by simp) rfl RX3.out.n8lt (fun s W h hv => by obtain ⟨av, nv, cv, hv⟩ := hv; have hu := h _ _ RX3.out.out; have c : W.cell? ⟨w1.heap.size, 0, none⟩ = some (.slice (some ⟨g1, 0, none⟩) es.length c1) := bcell hu rfl; have f := bfree hu 0; rw [hv]; simp [execOp, go_sem, Act.eval, dk.sets_get, ws, List.lookup, c, f, hv]) ⟨⟨15, .data⟩, by simp, rfl, rfl⟩, trivial⟩
                case fin =>
                  intro g L W hL hC
                  obtain ⟨V, hV, hWV, hown⟩ := ta.done hC J0_up (N := 18) (by decide) hL
                  replace hown : W.ownsRow w3.heap.size 75 2 g.v3 (k + 1 + (es.length - k)) ((es.take k).flatMap cE ++ [.string nn, .int .i64 kd] ++ (es.drop k).flatMap cE) := hown
                  have hlen : k + 1 + (es.length - k) = (insE es nn kd).length := by rw [insE_len]; omega
                  rw [ins_flat HP.out, hlen] at hown
                  obtain ⟨g5, c5, hv3⟩ := form_pos hown (by rw [insE_len]; omega)
                  rw [hv3] at hown hWV
                  replace hV : Below w3.heap.size w3 V := hV
                  replace hWV : W = V.setCell ⟨w1.heap.size, 0, none⟩ (.slice (some ⟨g5, 0, none⟩) (insE es nn kd).length c5) := hWV
                  have RX5 : Hid (RX w es bs (some ⟨ka, 0, none⟩) b0 ec bc w1.heap.size (.slice (some ⟨g5, 0, none⟩) (insE es nn kd).length c5) (.slice (some ⟨h1, 0, none⟩) bs.length c2) W) := by rw [hWV]; exact (RX3.out.on hV).put0 _
                  have OB5 : Hid (OB w W h1 c2 bs) := by rw [hWV]; exact (OB3.out.on hV).put (RX3.out.on hV) 0 _
                  have hsz3 := RX3.out.size
                  have OE5 : Hid (OE w W g5 c5 (insE es nn kd)) := own_low hown hsz3
                  have hok5 := rk.spec_routes (insE es nn kd) bs g5 c5 h1 c2 W (by rw [insE_len]; omega) hbl (ins_small HES.out hnm) HBS.out OE5.out.re OB5.out.rb _ _ (own_nq _ _ _) (own_nq _ _ _)
                  have o0 : W.cell? ⟨w1.heap.size, 0, none⟩ = some (.slice (some ⟨g5, 0, none⟩) (insE es nn kd).length c5) := bcell RX5.out.out rfl
                  have o1 : W.cell? ⟨w1.heap.size, 1, none⟩ = some (.slice (some ⟨h1, 0, none⟩) bs.length c2) := bcell RX5.out.out rfl
                  obtain ⟨n5, hn5⟩ : ∃ n5, (insE es nn kd).length = n5 := ⟨_, rfl⟩
                  have HN5 : Hid ((insE es nn kd).length = n5) := hn5
                  rw [hn5] at hok5 o0 RX5
                  rw [hn5] at hv3
                  simp only [dk.sets, ws, hv3]
                  clear hC hL hV hWV hown hlen hv3 hn5 RX3 OE3 OB3 HE3 y0
                  go_wp2_with (go_at_call 17; fail)
                  clear o0 o1
                  refine hok5.mono ?_
                  rintro e w6 ⟨⟨bo, rfl, hbo⟩, hb6⟩
                  have RX6 : Hid (RX w es bs (some ⟨ka, 0, none⟩) b0 ec bc w1.heap.size (.slice (some ⟨g5, 0, none⟩) n5 c5) (.slice (some ⟨h1, 0, none⟩) bs.length c2) w6) := RX5.out.on hb6
                  have OE6 : Hid (OE w w6 g5 c5 (insE es nn kd)) := OE5.out.on hb6
                  have OB6 : Hid (OB w w6 h1 c2 bs) := OB5.out.on hb6
                  clear hok5 RX5 OE5 OB5 hb6
                  by_cases hok2 : OkR (insE es nn kd) bs
                  case pos =>
                    obtain rfl : bo = true := hbo.2 hok2
                    have HA : Hid (insE es nn kd = AN) := (put HOK.out HNO.out hok2).1.symm.trans HAN.out
                    have HR : Hid (true = rt) := (put HOK.out HNO.out hok2).2.symm.trans HRT.out
                    clear hbo hok2
                    have n0 : w6.cell? ⟨w1.heap.size, 0, none⟩ = some (.slice (some ⟨g5, 0, none⟩) n5 c5) := bcell RX6.out.out rfl
                    have n1 : w6.cell? ⟨w1.heap.size, 1, none⟩ = some (.slice (some ⟨h1, 0, none⟩) bs.length c2) := bcell RX6.out.out rfl
                    have z0 : w6.cell? ⟨w.heap.size + 1, 0, none⟩ = some (.slice none 0 0) := bcell RX6.out.res rfl
                    have z1 : w6.cell? ⟨w.heap.size + 1, 1, none⟩ = some (.slice none 0 0) := bcell RX6.out.res rfl
                    have z0f := bfree RX6.out.res 0
                    have z1f := bfree RX6.out.res 1
                    go_wp2
                    refine bodyPost_ret (v := .tuple #[.agg #[.slice (some ⟨g5, 0, none⟩) n5 c5, .slice (some ⟨h1, 0, none⟩) bs.length c2], .bool true]) (by simp [results, Tryz.results13, go_sem, z0, z1]) rfl ⟨some ⟨g5, 0, none⟩, some ⟨h1, 0, none⟩, c5, c2, by rw [← HA.out, HN5.out, HR.out], ?_, ?_, ?_⟩
                    · rw [← HA.out]; exact fin_E OE6.out
                    · exact fin_B OB6.out
                    · exact fin_below RX6.out.bel
                  case neg =>
                    obtain rfl : bo = false := by
                      cases bo with
                      | false => rfl
                      | true => exact absurd (hbo.1 rfl) hok2
                    have HA : Hid (es = AN) := (over HOK.out HNO.out hok2).1.symm.trans HAN.out
                    have HR : Hid (false = rt) := (over HOK.out HNO.out hok2).2.symm.trans HRT.out
                    have hc6 := sc.spec_copy es bs (some ⟨ka, 0, none⟩) b0 ec bc w6 hel hbl (HE.out.below RX6.out.bel) (HB.out.below RX6.out.bel) (own_nq _ _ _) hnb
                    have x0 : w6.cell? ⟨w.heap.size, 0, none⟩ = some (.slice (some ⟨ka, 0, none⟩) es.length ec) := bcell RX6.out.box rfl
                    have x1 : w6.cell? ⟨w.heap.size, 1, none⟩ = some (.slice b0 bs.length bc) := bcell RX6.out.box rfl
                    clear hbo hok2
                    go_wp2_with (go_at_call 42; fail)
                    refine hc6.mono ?_
                    rintro e w7 ⟨g7, c7, h7, d7, rfl, oe7, ob7, hb7⟩
                    have hsz6 := RX6.out.size
                    have RX7 : Hid (RX w es bs (some ⟨ka, 0, none⟩) b0 ec bc w1.heap.size (.slice (some ⟨g5, 0, none⟩) n5 c5) (.slice (some ⟨h1, 0, none⟩) bs.length c2) w7) := RX6.out.on hb7
                    have OE7 : Hid (OE w w7 g7 c7 es) := own_low oe7 (by omega)
                    have OB7 : Hid (OB w w7 h7 d7 bs) := own_low ob7 (by omega)
                    clear hc6 oe7 ob7 hb7 x0 x1
                    have z0 : w7.cell? ⟨w.heap.size + 1, 0, none⟩ = some (.slice none 0 0) := bcell RX7.out.res rfl
                    have z1 : w7.cell? ⟨w.heap.size + 1, 1, none⟩ = some (.slice none 0 0) := bcell RX7.out.res rfl
                    have z0f := bfree RX7.out.res 0
                    have z1f := bfree RX7.out.res 1
                    go_wp2
                    refine bodyPost_ret (v := .tuple #[.agg #[.slice (some ⟨g7, 0, none⟩) es.length c7, .slice (some ⟨h7, 0, none⟩) bs.length d7], .bool false]) (by simp [results, Tryz.results13, go_sem, z0, z1]) rfl ⟨some ⟨g7, 0, none⟩, some ⟨h7, 0, none⟩, c7, d7, by rw [← HA.out, HR.out], ?_, ?_, ?_⟩
                    · rw [← HA.out]; exact fin_E OE7.out
                    · exact fin_B OB7.out
                    · exact fin_below RX7.out.bel
              · have hkl : k < es.length := (List.getElem?_eq_some_iff.1 HG).1
                obtain ⟨q0, q1⟩ := HE3.out.2 k _ HG
                have i2 : (k : Int) < (es.length : Int) := by omega
                clear HG
                go_wp2
                clear q0 q1 i2 hq
                refine dk.region_gsets (ws w.heap.size es.length ec ka w1.heap.size k (off k ec) nn kd) [53, 54, 55, 56, 57, 58, 59, 60, 61, 62, 63, 64, 65, 66, 67, 68, 69] (ta.C ⟨w3, 75, 2, (es.take k).flatMap cE, [.string nn, .int .i64 kd], (es.drop k).flatMap cE, k, es.length - k, w1.heap.size, 0⟩ J0) ⟨0, .slice none 0 0, 0, .slice none 0 0, .slice none 0 0⟩ (by kernel_rfl) (by kernel_rfl) (fun _ => rfl) (by kernel_rfl) (ta.start _ _ _) ?each ?fin
                case each =>
                  refine ⟨ta.st0 (x := J0) (d := 53) (idx := 0) J0_up (by simp) rfl (by simp) (fun g => rfl) (fun g => rfl) (fun g e => rfl) (fun s W => by simp [execOp, go_sem]), ?_⟩
                  refine ⟨ta.quiet (by decide) (by simp) (.pointer (some ⟨w.heap.size, 0, none⟩)) (by rintro s _ ⟨⟩; exact dk.sets_on _ (by simp) _ rfl) (fun s W h => by simp [execOp, go_sem, Act.eval, dk.sets_get, ws, List.lookup]), ?_⟩
                  refine ⟨ta.quiet (by decide) (by simp) (.slice (some ⟨ka, 0, none⟩) es.length ec) (by rintro s _ ⟨⟩; exact dk.sets_on _ (by simp) _ rfl) (fun s W h => by have c : W.cell? ⟨w.heap.size, 0, none⟩ = some (.slice (some ⟨ka, 0, none⟩) es.length ec) := bcell (h _ _ RX3.out.box (by have := RX3.out.h8; show w.heap.size ≠ w1.heap.size; omega)) rfl; simp [execOp, go_sem, Act.eval, dk.sets_get, ws, List.lookup, c]), ?_⟩
                  refine ⟨ta.quiet (by decide) (by simp) (.int .i64 k) (by rintro s _ ⟨⟩; exact dk.sets_on _ (by simp) _ rfl) (fun s W h => by simp [execOp, go_sem, Act.eval, dk.sets_get, ws, List.lookup]), ?_⟩
                  refine ⟨ta.quiet (by decide) (by simp) (.slice (some ⟨ka, 0, none⟩) k ec) (by rintro s _ ⟨⟩; exact dk.sets_on _ (by simp) _ rfl) (fun s W h => by simp [execOp, go_sem, Act.eval, dk.sets_get, ws, List.lookup, hkc]), ?_⟩
                  refine ⟨ta.st1 (x := J0) (d := 58) (s1 := 53) (s2 := 57) (idx := 5) (c := ec) (a := ⟨ka, 0, none⟩) J0_up Tryz.underlying24 hi hz0 hz1 hz2 rfl (by show 0 < 2; decide) rfl rfl ⟨by simp, by simp, by simp⟩ (fun g => rfl) (fun g => rfl) (fun g => rfl) (fun g => rfl) (fun g v => rfl) (by show ((es.take k).flatMap cE).length = k * 2; rw [flat_len cE_len, List.length_take]; congr 1; omega) (fun W hb => news_take (newsE (HE3.out.below hb)) k) (oneE _) (by show k ≤ 1048576; omega) (by show (0 + k) * 24 ≤ 140737488355328; omega) ⟨⟨0, .data⟩, by simp, rfl, rfl⟩, ?_⟩
                  refine ⟨ta.quiet (by decide) (by simp) (.string nn) (by rintro s _ ⟨⟩; exact dk.sets_on _ (by simp) _ rfl) (fun s W h => by simp [execOp, go_sem, Act.eval, dk.sets_get, ws, List.lookup]), ?_⟩
                  refine ⟨ta.quiet (by decide) (by simp) (.int .i64 kd) (by rintro s _ ⟨⟩; exact dk.sets_on _ (by simp) _ rfl) (fun s W h => by simp [execOp, go_sem, Act.eval, dk.sets_get, ws, List.lookup]), ?_⟩
                  refine ⟨ta.quiet (by decide) (by simp) (.agg #[.string nn, .int .i64 kd]) (by rintro s _ ⟨⟩; exact dk.sets_on _ (by simp) _ rfl) (fun s W h => by simp [execOp, go_sem, Act.eval, dk.sets_get, ws, List.lookup]), ?_⟩
                  refine ⟨ta.st2 (x := J0) (d := 62) (idx := 9) J0_up (by simp) rfl (by simp) (fun g => rfl) (fun g => rfl) (fun g e => rfl) (fun s W => by simp [execOp, go_sem, Act.eval, dk.sets_get, ws, List.lookup]), ?_⟩
                  refine ⟨ta.st3 (x := J0) (d := 63) (s1 := 58) (s2 := 62) (idx := 10) J0_up Tryz.underlying24 hi hz0 hz1 hz2 rfl (by show 0 < 2; decide) rfl rfl ⟨by simp, by simp, by simp⟩ (fun g => rfl) (fun g => rfl) (fun g => rfl) (fun g => rfl) (fun g v => rfl) rfl (by intro u hu; simp at hu; rcases hu with rfl | rfl <;> rfl) (by show k ≤ 1048576; omega) (by show (k + 1) * 24 ≤ 140737488355328; omega) ⟨⟨5, .data⟩, by simp, rfl, rfl⟩ ⟨⟨9, .data⟩, by simp, rfl, rfl⟩, ?_⟩
                  refine ⟨ta.quiet (by decide) (by simp) (.pointer (some ⟨w.heap.size, 0, none⟩)) (by rintro s _ ⟨⟩; exact dk.sets_on _ (by simp) _ rfl) (fun s W h => by simp [execOp, go_sem, Act.eval, dk.sets_get, ws, List.lookup]), ?_⟩
                  refine ⟨ta.quiet (by decide) (by simp) (.slice (some ⟨ka, 0, none⟩) es.length ec) (by rintro s _ ⟨⟩; exact dk.sets_on _ (by simp) _ rfl) (fun s W h => by have c : W.cell? ⟨w.heap.size, 0, none⟩ = some (.slice (some ⟨ka, 0, none⟩) es.length ec) := bcell (h _ _ RX3.out.box (by have := RX3.out.h8; show w.heap.size ≠ w1.heap.size; omega)) rfl; simp [execOp, go_sem, Act.eval, dk.sets_get, ws, List.lookup, c]), ?_⟩
                  refine ⟨ta.quiet (by decide) (by simp) (.int .i64 k) (by rintro s _ ⟨⟩; exact dk.sets_on _ (by simp) _ rfl) (fun s W h => by simp [execOp, go_sem, Act.eval, dk.sets_get, ws, List.lookup]), ?_⟩
                  refine ⟨ta.quiet (by decide) (by simp) (.slice (some ⟨ka, off k ec, none⟩) (es.length - k) (ec - k)) (by rintro s _ ⟨⟩; exact dk.sets_on _ (by simp) _ rfl) (fun s W h => match Nat.lt_or_ge k ec with | .inl hlt => (by have hne : ¬ k = ec := Nat.ne_of_lt hlt; have hne2 : ¬ ec = k := (fun e => hne e.symm); simp [execOp, go_sem, Act.eval, dk.sets_get, ws, List.lookup, off, hk4, hne, hne2]) | .inr hge => (by have hee : k = ec := Nat.le_antisymm hkc hge; have hem : es.length = ec := Nat.le_antisymm hcap (hee ▸ hk4); simp [execOp, go_sem, Act.eval, dk.sets_get, ws, List.lookup, off, hee, hem])), ?_⟩
                  refine ⟨ta.st4 (x := J0) (d := 68) (s1 := 63) (s2 := 67) (idx := 15) (c := ec - k) (a := ⟨ka, off k ec, none⟩) J0_up Tryz.underlying24 hi hz0 hz1 hz2 rfl (by show 0 < 2; decide) rfl rfl ⟨by simp, by simp, by simp⟩ (fun g => rfl) (fun g => rfl) (fun g => rfl) (fun g => rfl) (fun g v => rfl) (by show ((es.drop k).flatMap cE).length = (es.length - k) * 2; rw [flat_len cE_len, List.length_drop]) (fun W hb => newsOff (HE3.out.below hb) (by omega) hcap) (oneE _) (by show k ≤ 1048576 ∧ es.length - k ≤ 1048576; omega) (by show (k + 1 + (es.length - k)) * 24 ≤ 140737488355328; omega) ⟨⟨10, .data⟩, by simp, rfl, rfl⟩, ?_⟩
                  refine ⟨ta.quiet (by decide) (by simp) (.pointer (some ⟨w1.heap.size, 0, none⟩)) (by rintro s _ ⟨⟩; exact dk.sets_on _ (by simp) _ rfl) (fun s W h => by simp [execOp, go_sem, Act.eval, dk.sets_get, ws, List.lookup]), ?_⟩
                  exact ⟨ta.st5 (x := J0) J0_up (by simp) rfl RX3.out.n8lt (fun s W h hv => by obtain ⟨av, nv, cv, hv⟩ := hv; have hu := h _ _ RX3.out.out; have c : W.cell? ⟨w1.heap.size, 0, none⟩ = some (.slice (some ⟨g1, 0, none⟩) es.length c1) := bcell hu rfl; have f := bfree hu 0; rw [hv]; simp [execOp, go_sem, Act.eval, dk.sets_get, ws, List.lookup, c, f, hv]) ⟨⟨15, .data⟩, by simp, rfl, rfl⟩, trivial⟩
                case fin =>
                  intro g L W hL hC
                  obtain ⟨V, hV, hWV, hown⟩ := ta.done hC J0_up (N := 18) (by decide) hL
                  replace hown : W.ownsRow w3.heap.size 75 2 g.v3 (k + 1 + (es.length - k)) ((es.take k).flatMap cE ++ [.string nn, .int .i64 kd] ++ (es.drop k).flatMap cE) := hown
                  have hlen : k + 1 + (es.length - k) = (insE es nn kd).length := by rw [insE_len]; omega
                  rw [ins_flat HP.out, hlen] at hown
                  obtain ⟨g5, c5, hv3⟩ := form_pos hown (by rw [insE_len]; omega)
                  rw [hv3] at hown hWV
                  replace hV : Below w3.heap.size w3 V := hV
                  replace hWV : W = V.setCell ⟨w1.heap.size, 0, none⟩ (.slice (some ⟨g5, 0, none⟩) (insE es nn kd).length c5) := hWV
                  have RX5 : Hid (RX w es bs (some ⟨ka, 0, none⟩) b0 ec bc w1.heap.size (.slice (some ⟨g5, 0, none⟩) (insE es nn kd).length c5) (.slice (some ⟨h1, 0, none⟩) bs.length c2) W) := by rw [hWV]; exact (RX3.out.on hV).put0 _
                  have OB5 : Hid (OB w W h1 c2 bs) := by rw [hWV]; exact (OB3.out.on hV).put (RX3.out.on hV) 0 _
                  have hsz3 := RX3.out.size
                  have OE5 : Hid (OE w W g5 c5 (insE es nn kd)) := own_low hown hsz3
                  have hok5 := rk.spec_routes (insE es nn kd) bs g5 c5 h1 c2 W (by rw [insE_len]; omega) hbl (ins_small HES.out hnm) HBS.out OE5.out.re OB5.out.rb _ _ (own_nq _ _ _) (own_nq _ _ _)
                  have o0 : W.cell? ⟨w1.heap.size, 0, none⟩ = some (.slice (some ⟨g5, 0, none⟩) (insE es nn kd).length c5) := bcell RX5.out.out rfl
                  have o1 : W.cell? ⟨w1.heap.size, 1, none⟩ = some (.slice (some ⟨h1, 0, none⟩) bs.length c2) := bcell RX5.out.out rfl
                  obtain ⟨n5, hn5⟩ : ∃ n5, (insE es nn kd).length = n5 := ⟨_, rfl⟩
                  have HN5 : Hid ((insE es nn kd).length = n5) := hn5
                  rw [hn5] at hok5 o0 RX5
                  rw [hn5] at hv3
                  simp only [dk.sets, ws, hv3]
                  clear hC hL hV hWV hown hlen hv3 hn5 RX3 OE3 OB3 HE3 y0
                  go_wp2_with (go_at_call 17; fail)
                  clear o0 o1
                  refine hok5.mono ?_
                  rintro e w6 ⟨⟨bo, rfl, hbo⟩, hb6⟩
                  have RX6 : Hid (RX w es bs (some ⟨ka, 0, none⟩) b0 ec bc w1.heap.size (.slice (some ⟨g5, 0, none⟩) n5 c5) (.slice (some ⟨h1, 0, none⟩) bs.length c2) w6) := RX5.out.on hb6
                  have OE6 : Hid (OE w w6 g5 c5 (insE es nn kd)) := OE5.out.on hb6
                  have OB6 : Hid (OB w w6 h1 c2 bs) := OB5.out.on hb6
                  clear hok5 RX5 OE5 OB5 hb6
                  by_cases hok2 : OkR (insE es nn kd) bs
                  case pos =>
                    obtain rfl : bo = true := hbo.2 hok2
                    have HA : Hid (insE es nn kd = AN) := (put HOK.out HNO.out hok2).1.symm.trans HAN.out
                    have HR : Hid (true = rt) := (put HOK.out HNO.out hok2).2.symm.trans HRT.out
                    clear hbo hok2
                    have n0 : w6.cell? ⟨w1.heap.size, 0, none⟩ = some (.slice (some ⟨g5, 0, none⟩) n5 c5) := bcell RX6.out.out rfl
                    have n1 : w6.cell? ⟨w1.heap.size, 1, none⟩ = some (.slice (some ⟨h1, 0, none⟩) bs.length c2) := bcell RX6.out.out rfl
                    have z0 : w6.cell? ⟨w.heap.size + 1, 0, none⟩ = some (.slice none 0 0) := bcell RX6.out.res rfl
                    have z1 : w6.cell? ⟨w.heap.size + 1, 1, none⟩ = some (.slice none 0 0) := bcell RX6.out.res rfl
                    have z0f := bfree RX6.out.res 0
                    have z1f := bfree RX6.out.res 1
                    go_wp2
                    refine bodyPost_ret (v := .tuple #[.agg #[.slice (some ⟨g5, 0, none⟩) n5 c5, .slice (some ⟨h1, 0, none⟩) bs.length c2], .bool true]) (by simp [results, Tryz.results13, go_sem, z0, z1]) rfl ⟨some ⟨g5, 0, none⟩, some ⟨h1, 0, none⟩, c5, c2, by rw [← HA.out, HN5.out, HR.out], ?_, ?_, ?_⟩
                    · rw [← HA.out]; exact fin_E OE6.out
                    · exact fin_B OB6.out
                    · exact fin_below RX6.out.bel
                  case neg =>
                    obtain rfl : bo = false := by
                      cases bo with
                      | false => rfl
                      | true => exact absurd (hbo.1 rfl) hok2
                    have HA : Hid (es = AN) := (over HOK.out HNO.out hok2).1.symm.trans HAN.out
                    have HR : Hid (false = rt) := (over HOK.out HNO.out hok2).2.symm.trans HRT.out
                    have hc6 := sc.spec_copy es bs (some ⟨ka, 0, none⟩) b0 ec bc w6 hel hbl (HE.out.below RX6.out.bel) (HB.out.below RX6.out.bel) (own_nq _ _ _) hnb
                    have x0 : w6.cell? ⟨w.heap.size, 0, none⟩ = some (.slice (some ⟨ka, 0, none⟩) es.length ec) := bcell RX6.out.box rfl
                    have x1 : w6.cell? ⟨w.heap.size, 1, none⟩ = some (.slice b0 bs.length bc) := bcell RX6.out.box rfl
                    clear hbo hok2
                    go_wp2_with (go_at_call 42; fail)
                    refine hc6.mono ?_
                    rintro e w7 ⟨g7, c7, h7, d7, rfl, oe7, ob7, hb7⟩
                    have hsz6 := RX6.out.size
                    have RX7 : Hid (RX w es bs (some ⟨ka, 0, none⟩) b0 ec bc w1.heap.size (.slice (some ⟨g5, 0, none⟩) n5 c5) (.slice (some ⟨h1, 0, none⟩) bs.length c2) w7) := RX6.out.on hb7
                    have OE7 : Hid (OE w w7 g7 c7 es) := own_low oe7 (by omega)
                    have OB7 : Hid (OB w w7 h7 d7 bs) := own_low ob7 (by omega)
                    clear hc6 oe7 ob7 hb7 x0 x1
                    have z0 : w7.cell? ⟨w.heap.size + 1, 0, none⟩ = some (.slice none 0 0) := bcell RX7.out.res rfl
                    have z1 : w7.cell? ⟨w.heap.size + 1, 1, none⟩ = some (.slice none 0 0) := bcell RX7.out.res rfl
                    have z0f := bfree RX7.out.res 0
                    have z1f := bfree RX7.out.res 1
                    go_wp2
                    refine bodyPost_ret (v := .tuple #[.agg #[.slice (some ⟨g7, 0, none⟩) es.length c7, .slice (some ⟨h7, 0, none⟩) bs.length d7], .bool false]) (by simp [results, Tryz.results13, go_sem, z0, z1]) rfl ⟨some ⟨g7, 0, none⟩, some ⟨h7, 0, none⟩, c7, d7, by rw [← HA.out, HR.out], ?_, ?_, ?_⟩
                    · rw [← HA.out]; exact fin_E OE7.out
                    · exact fin_B OB7.out
                    · exact fin_below RX7.out.bel
end Go.Proofs.YtnooibeohdfcmaaGreatDoor.dsp
