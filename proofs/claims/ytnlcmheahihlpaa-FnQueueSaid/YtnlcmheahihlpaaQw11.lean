/- The specification's Pop where what is held is nothing at all. -/
import Derived.Test.YtnlcmheahihlpaaQw09
import Derived.Test.YtnlcmheahihlpaaQDropSpec
import Derived.Test.YtnlcmheahihlpaaQw10
import Derived.Laws.OwnMore

/- The specification's Pop, at lists with room: the first message is handed out, or a copy of the queue is; the answer's lists in rows of their own. -/
namespace Go.Proofs.Ytnlcmheahihlpaa.qom
open Go.ChangeShapes Go.WideShapes Go.ChangeAt Go.RowKit Go.Proofs.Ytnlcmheahihlpaa.fl Go.Proofs.Ytnlcmheahihlpaa.qsp
set_option linter.unusedVariables false

theorem own9 {W : World} {b d B n k : Nat} {U : TypeId} {v v0 v1 v2 v3 u0 u1 u2 u3 u4 : Value} {L : List Value} (h : W.ownsRow B U n v k L) (h1 : b < B) (h2 : d < B) : (((((((((W.setCell ⟨b, 0, none⟩ v0).setCell ⟨b, 1, none⟩ v1).setCell ⟨b, 2, none⟩ v2).setCell ⟨b, 3, none⟩ v3).setCell ⟨d, 0, none⟩ u0).setCell ⟨d, 1, none⟩ u1).setCell ⟨d, 2, none⟩ u2).setCell ⟨d, 3, none⟩ u3).setCell ⟨d, 4, none⟩ u4).ownsRow B U n v k L := own_set (own_set (own_set (own_set (own_set (own_set (own_set (own_set (own_set h _ _ _ h1) _ _ _ h1) _ _ _ h1) _ _ _ h1) _ _ _ h2) _ _ _ h2) _ _ _ h2) _ _ _ h2) _ _ _ h2

/-- what stands on the way: the argument's box, the answer's places, the copy -/
structure PX (w : World) (sn : ByteArray) (nx : Int) (es : List flM.Ms) (ms : List flH.Hd) (ga ha : Option Addr) (cg ch n8 : Nat) (x2 x3 : Value) (X : World) : Prop where
  bel : Below w.heap.size w X
  box : X.heap[w.heap.size]? = some (.cells #[.string sn, .int .i64 nx, .slice ga es.length cg, .slice ha ms.length ch] 27 (0, 0))
  res : X.heap[w.heap.size + 1]? = some (.cells #[.string ⟨#[]⟩, .int .i64 0, .slice none 0 0, .slice none 0 0] 27 (0, 0))
  rem : X.heap[w.heap.size + 2]? = some (.cells #[.int .i64 0, .string ⟨#[]⟩, .string ⟨#[]⟩, .string ⟨#[]⟩, .bool false] 41 (0, 0))
  out : X.heap[n8]? = some (.cells #[.string sn, .int .i64 nx, x2, x3] 27 (0, 0))
  h8 : w.heap.size + 3 ≤ n8
section
variable {w : World} {sn : ByteArray} {nx : Int} {es : List flM.Ms} {ms : List flH.Hd} {ga ha : Option Addr} {cg ch n8 : Nat} {x2 x3 : Value} {X X' : World}
theorem PX.lt (p : PX w sn nx es ms ga ha cg ch n8 x2 x3 X) : n8 < X.heap.size := (Array.getElem?_eq_some_iff.1 p.out).1
theorem PX.on (p : PX w sn nx es ms ga ha cg ch n8 x2 x3 X) (hb : Below X.heap.size X X') : PX w sn nx es ms ga ha cg ch n8 x2 x3 X' :=
  ⟨p.bel.trans (hb.mono p.bel.size), bstay p.box hb (Array.getElem?_eq_some_iff.1 p.box).1, bstay p.res hb (Array.getElem?_eq_some_iff.1 p.res).1, bstay p.rem hb (Array.getElem?_eq_some_iff.1 p.rem).1, bstay p.out hb (Array.getElem?_eq_some_iff.1 p.out).1, p.h8⟩
theorem PX.grown {b : Nat} (p : PX w sn nx es ms ga ha cg ch n8 x2 x3 X) (hg : X.grownBy X' (some b)) (hb : n8 < b) : PX w sn nx es ms ga ha cg ch n8 x2 x3 X' := by
  have h8 := p.h8
  exact ⟨p.bel.grown hg p.bel.size (fun k hk => by cases hk; omega), grown_at hg p.box (by simp; omega), grown_at hg p.res (by simp; omega), grown_at hg p.rem (by simp; omega), grown_at hg p.out (by simp; omega), h8⟩
theorem PX.put2 (p : PX w sn nx es ms ga ha cg ch n8 x2 x3 X) (v : Value) : PX w sn nx es ms ga ha cg ch n8 v x3 (X.setCell ⟨n8, 2, none⟩ v) := by
  have h8 := p.h8
  exact ⟨p.bel.setCell (by show w.heap.size ≤ n8; omega) _, boff p.box _ _ _ (by omega), boff p.res _ _ _ (by omega), boff p.rem _ _ _ (by omega), bset p.out 2 v, h8⟩
theorem PX.put3 (p : PX w sn nx es ms ga ha cg ch n8 x2 x3 X) (v : Value) : PX w sn nx es ms ga ha cg ch n8 x2 v (X.setCell ⟨n8, 3, none⟩ v) := by
  have h8 := p.h8
  exact ⟨p.bel.setCell (by show w.heap.size ≤ n8; omega) _, boff p.box _ _ _ (by omega), boff p.res _ _ _ (by omega), boff p.rem _ _ _ (by omega), bset p.out 3 v, h8⟩
end
theorem first_px (sn : ByteArray) (nx : Int) (es : List flM.Ms) (ms : List flH.Hd) (ga ha : Option Addr) (cg ch : Nat) (w w1 : World) (g1 c1 h1 c2 : Nat) (hb : Below (((w.alloc (.cells #[.string sn, .int .i64 nx, .slice ga es.length cg, .slice ha ms.length ch] 27)).alloc (.cells #[.string ⟨#[]⟩, .int .i64 0, .slice none 0 0, .slice none 0 0] 27)).alloc (.cells #[.int .i64 0, .string ⟨#[]⟩, .string ⟨#[]⟩, .string ⟨#[]⟩, .bool false] 41)).heap.size (((w.alloc (.cells #[.string sn, .int .i64 nx, .slice ga es.length cg, .slice ha ms.length ch] 27)).alloc (.cells #[.string ⟨#[]⟩, .int .i64 0, .slice none 0 0, .slice none 0 0] 27)).alloc (.cells #[.int .i64 0, .string ⟨#[]⟩, .string ⟨#[]⟩, .string ⟨#[]⟩, .bool false] 41)) w1)
    (oe : w1.ownsRow (((w.alloc (.cells #[.string sn, .int .i64 nx, .slice ga es.length cg, .slice ha ms.length ch] 27)).alloc (.cells #[.string ⟨#[]⟩, .int .i64 0, .slice none 0 0, .slice none 0 0] 27)).alloc (.cells #[.int .i64 0, .string ⟨#[]⟩, .string ⟨#[]⟩, .string ⟨#[]⟩, .bool false] 41)).heap.size 41 5 (.slice (some ⟨g1, 0, none⟩) es.length c1) es.length (es.flatMap flM.c)) (om : w1.ownsRow (((w.alloc (.cells #[.string sn, .int .i64 nx, .slice ga es.length cg, .slice ha ms.length ch] 27)).alloc (.cells #[.string ⟨#[]⟩, .int .i64 0, .slice none 0 0, .slice none 0 0] 27)).alloc (.cells #[.int .i64 0, .string ⟨#[]⟩, .string ⟨#[]⟩, .string ⟨#[]⟩, .bool false] 41)).heap.size 55 7 (.slice (some ⟨h1, 0, none⟩) ms.length c2) ms.length (ms.flatMap flH.c)) :
    PX w sn nx es ms ga ha cg ch w1.heap.size (.slice (some ⟨g1, 0, none⟩) es.length c1) (.slice (some ⟨h1, 0, none⟩) ms.length c2) (w1.alloc (.cells #[.string sn, .int .i64 nx, (.slice (some ⟨g1, 0, none⟩) es.length c1), (.slice (some ⟨h1, 0, none⟩) ms.length c2)] 27)) ∧ (w1.alloc (.cells #[.string sn, .int .i64 nx, (.slice (some ⟨g1, 0, none⟩) es.length c1), (.slice (some ⟨h1, 0, none⟩) ms.length c2)] 27)).ownsRow (w.heap.size + 3) 41 5 (.slice (some ⟨g1, 0, none⟩) es.length c1) es.length (es.flatMap flM.c) ∧ (w1.alloc (.cells #[.string sn, .int .i64 nx, (.slice (some ⟨g1, 0, none⟩) es.length c1), (.slice (some ⟨h1, 0, none⟩) ms.length c2)] 27)).ownsRow (w.heap.size + 3) 55 7 (.slice (some ⟨h1, 0, none⟩) ms.length c2) ms.length (ms.flatMap flH.c) := by
  have hS : (((w.alloc (.cells #[.string sn, .int .i64 nx, .slice ga es.length cg, .slice ha ms.length ch] 27)).alloc (.cells #[.string ⟨#[]⟩, .int .i64 0, .slice none 0 0, .slice none 0 0] 27)).alloc (.cells #[.int .i64 0, .string ⟨#[]⟩, .string ⟨#[]⟩, .string ⟨#[]⟩, .bool false] 41)).heap.size = w.heap.size + 3 := by simp
  have hW : Below w.heap.size w (((w.alloc (.cells #[.string sn, .int .i64 nx, .slice ga es.length cg, .slice ha ms.length ch] 27)).alloc (.cells #[.string ⟨#[]⟩, .int .i64 0, .slice none 0 0, .slice none 0 0] 27)).alloc (.cells #[.int .i64 0, .string ⟨#[]⟩, .string ⟨#[]⟩, .string ⟨#[]⟩, .bool false] 41)) := (((Below.refl _ _).alloc (Nat.le_refl _) _).alloc (by simp) _).alloc (by simp; omega) _
  have hA := bold (bold (bnew w #[.string sn, .int .i64 nx, .slice ga es.length cg, .slice ha ms.length ch] 27) (.cells #[.string ⟨#[]⟩, .int .i64 0, .slice none 0 0, .slice none 0 0] 27)) (.cells #[.int .i64 0, .string ⟨#[]⟩, .string ⟨#[]⟩, .string ⟨#[]⟩, .bool false] 41)
  have hR := bold (bnew (w.alloc (.cells #[.string sn, .int .i64 nx, .slice ga es.length cg, .slice ha ms.length ch] 27)) #[.string ⟨#[]⟩, .int .i64 0, .slice none 0 0, .slice none 0 0] 27) (.cells #[.int .i64 0, .string ⟨#[]⟩, .string ⟨#[]⟩, .string ⟨#[]⟩, .bool false] 41)
  have hM := bnew ((w.alloc (.cells #[.string sn, .int .i64 nx, .slice ga es.length cg, .slice ha ms.length ch] 27)).alloc (.cells #[.string ⟨#[]⟩, .int .i64 0, .slice none 0 0, .slice none 0 0] 27)) #[.int .i64 0, .string ⟨#[]⟩, .string ⟨#[]⟩, .string ⟨#[]⟩, .bool false] 41
  have hsz2 : ((w.alloc (.cells #[.string sn, .int .i64 nx, .slice ga es.length cg, .slice ha ms.length ch] 27)).alloc (.cells #[.string ⟨#[]⟩, .int .i64 0, .slice none 0 0, .slice none 0 0] 27)).heap.size = w.heap.size + 2 := by simp
  rw [World.size_alloc] at hR
  rw [hsz2] at hM
  have hs1 := hb.size
  rw [hS] at oe om
  exact ⟨⟨(hW.trans (hb.mono hW.size)).alloc (by omega) _, bold (bstay hA hb (by omega)) _, bold (bstay hR hb (by omega)) _, bold (bstay hM hb (by omega)) _, bnew w1 _ _, by omega⟩, oe.alloc _, om.alloc _⟩
/-- the tag and the owner of a held one; ahead of a place none is late -/
theorem cellH {w : World} {B g k : Nat} {l : List flH.Hd} {e : flH.Hd} (h : Row flH.c 7 w B (some ⟨g, 0, none⟩) l) (he : l[k]? = some e) : w.cell? ⟨g, k * 7, none⟩ = some (.int .i64 e.t) ∧ w.cell? ⟨g, k * 7 + 1, none⟩ = some (.int .i64 e.o) := by
  rcases h with h0 | ⟨b', off', hh, hlt, hc⟩
  · rw [h0] at he; simp at he
  · cases hh
    have h1 := hc k _ he 0 _ rfl
    have h2 := hc k _ he 1 _ rfl
    simp only [Nat.zero_add, Nat.add_zero] at h1 h2
    exact ⟨h1, h2⟩
theorem cellM {w : World} {B g : Nat} {l : List flM.Ms} {e : flM.Ms} (h : Row flM.c 5 w B (some ⟨g, 0, none⟩) l) (he : l[0]? = some e) : w.cell? ⟨g, 0, none⟩ = some (.int .i64 e.q) ∧ w.cell? ⟨g, 1, none⟩ = some (.string e.x) ∧ w.cell? ⟨g, 2, none⟩ = some (.string e.k) ∧ w.cell? ⟨g, 3, none⟩ = some (.string e.b) ∧ w.cell? ⟨g, 4, none⟩ = some (.bool e.a) := by
  rcases h with h0 | ⟨b', off', hh, hlt, hc⟩
  · rw [h0] at he; simp at he
  · cases hh
    have h0 := hc 0 _ he 0 _ rfl
    have h1 := hc 0 _ he 1 _ rfl
    have h2 := hc 0 _ he 2 _ rfl
    have h3 := hc 0 _ he 3 _ rfl
    have h4 := hc 0 _ he 4 _ rfl
    simp only [Nat.zero_add, Nat.zero_mul] at h0 h1 h2 h3 h4
    exact ⟨h0, h1, h2, h3, h4⟩
theorem newsT {w : World} {B g : Nat} {l : List flM.Ms} {e : flM.Ms} (h : Row flM.c 5 w B (some ⟨g, 0, none⟩) l) (he : l = e :: l.tail) : ∀ (j : Nat) (u : Value), (l.tail.flatMap flM.c)[j]? = some u → w.cell? ((⟨g, 5, none⟩ : Addr).add j) = some u := fun j u hu => by
  have hh := newsR flM.c_len h (5 + j) u (by rw [he, List.flatMap_cons, List.getElem?_append_right (by simp [flM.c]), flM.c_len, show 5 + j - 5 = j by omega]; exact hu)
  rw [qsp.add_at] at hh ⊢
  rwa [Nat.zero_add] at hh
theorem box5 {W : World} {b : Nat} {x0 x1 x2 x3 x4 : Value} {U : TypeId} (h : W.heap[b]? = some (.cells #[x0, x1, x2, x3, x4] U (0, 0))) : W.cell? ⟨b, 0, none⟩ = some x0 ∧ W.cell? ⟨b, 1, none⟩ = some x1 ∧ W.cell? ⟨b, 2, none⟩ = some x2 ∧ W.cell? ⟨b, 3, none⟩ = some x3 ∧ W.cell? ⟨b, 4, none⟩ = some x4 := ⟨bcell h rfl, bcell h rfl, bcell h rfl, bcell h rfl, bcell h rfl⟩
theorem form_pos {W : World} {B n s : Nat} {U : TypeId} {v : Value} {xs : List Value} (h : W.ownsRow B U s v n xs) (hn : 0 < n) : ∃ g cap, v = .slice (some ⟨g, 0, none⟩) n cap := by
  obtain ⟨_, ⟨_, h0⟩ | ⟨g, cap, cur, rfl, _⟩⟩ := h
  · omega
  · exact ⟨g, cap, rfl⟩
theorem take_drop_flat (l : List flH.Hd) (k : Nat) : l.flatMap flH.c = (l.take k).flatMap flH.c ++ (l.drop k).flatMap flH.c := by rw [← List.flatMap_append, List.take_append_drop]
theorem news_take {w : World} {B g : Nat} {l : List flH.Hd} (h : Row flH.c 7 w B (some ⟨g, 0, none⟩) l) (k : Nat) : ∀ (j : Nat) (u : Value), ((l.take k).flatMap flH.c)[j]? = some u → w.cell? ((⟨g, 0, none⟩ : Addr).add j) = some u := fun j u hu => by
  refine newsR flH.c_len h j u ?_
  rw [take_drop_flat l k, List.getElem?_append_left (List.getElem?_eq_some_iff.1 hu).1]
  exact hu
/-- where what is behind a place lies: a slice with no room lies at its block's first cell -/
def off (k n : Nat) : Nat := if k = n then 0 else k * 7
theorem news_drop {w : World} {B g : Nat} {l : List flH.Hd} (h : Row flH.c 7 w B (some ⟨g, 0, none⟩) l) (k : Nat) (hk : k ≤ l.length) (c : Nat) (hc : l.length ≤ c) : ∀ (j : Nat) (u : Value), ((l.drop k).flatMap flH.c)[j]? = some u → w.cell? ((⟨g, off k c, none⟩ : Addr).add j) = some u := fun j u hu => by
  unfold off
  split
  · rename_i he
    rw [List.drop_eq_nil_of_le (by omega)] at hu
    simp at hu
  · have hlen : ((l.take k).flatMap flH.c).length = k * 7 := by rw [flat_len flH.c_len, List.length_take, Nat.min_eq_left hk]
    have hh := newsR flH.c_len h (k * 7 + j) u (by rw [take_drop_flat l k, List.getElem?_append_right (by omega), hlen, show k * 7 + j - k * 7 = j by omega]; exact hu)
    rw [qsp.add_at] at hh ⊢
    rwa [Nat.zero_add] at hh
def ws (s n c a0 n8 k of : Nat) (o t q : Int) (x y z : ByteArray) (ag : Bool) (g : ta.G) : List (Nat × Value) := [(83, .slice (some ⟨g.e0, 0, none⟩) 0 0), (84, .pointer (some ⟨s, 3, none⟩)), (85, .slice (some ⟨a0, 0, none⟩) n c), (86, .int .i64 k), (87, .slice (some ⟨a0, 0, none⟩) k c), (88, g.v1), (89, .int .i64 t), (90, .int .i64 o), (91, .agg #[.int .i64 q, .string x, .string y, .string z, .bool ag]), (92, .agg #[.int .i64 t, .int .i64 o, .int .i64 q, .string x, .string y, .string z, .bool ag]), (93, .slice (some ⟨g.h, 0, none⟩) 1 1), (94, g.v2), (95, .pointer (some ⟨s, 3, none⟩)), (96, .slice (some ⟨a0, 0, none⟩) n c), (97, .int .i64 k), (98, .slice (some ⟨a0, of, none⟩) (n - k) (c - k)), (99, g.v3), (100, .pointer (some ⟨n8, 3, none⟩))]
def J0 : ta.J := ⟨0, 5, 10, 11, 16, 18⟩
theorem J0_up : J0.up := by unfold ta.J.up J0; decide
theorem any_take {o t : Int} {ms : List flH.Hd} {k : Nat} {h : flH.Hd} (hk : ms[k]? = some h) (h0 : (ms.take k).any (qpp.late o t) = false) : (ms.take (k + 1)).any (qpp.late o t) = qpp.late o t h := by
  rw [List.take_add_one, hk, List.any_append, h0]
  simp
theorem any_late {o t : Int} {ms : List flH.Hd} {k : Nat} {h : flH.Hd} (hk : ms[k]? = some h) (hl : qpp.late o t h = true) : ms.any (qpp.late o t) = true := List.any_eq_true.2 ⟨h, List.mem_of_getElem? hk, hl⟩

/-- the answer -/
def SA (w : World) (sn : ByteArray) (nx : Int) (L : List flM.Ms) (H : List flH.Hd) (m : flM.Ms) (f : Bool) (e : Ending) (w' : World) : Prop := ∃ sa ce sb cb, e = .returned (.tuple #[.agg #[.string sn, .int .i64 nx, .slice sa L.length ce, .slice sb H.length cb], .agg #[.int .i64 m.q, .string m.x, .string m.k, .string m.b, .bool m.a], .bool f]) ∧ OL flM.c 5 41 w' (w.heap.size + 2) sa ce L ∧ HL w' (w.heap.size + 2) sb cb H ∧ Below w.heap.size w w'

set_option maxRecDepth 100000 in
set_option maxHeartbeats 4000000 in
theorem spec_popM (sn : ByteArray) (nx : Int) (es : List flM.Ms) (ms : List flH.Hd) (g h cg ch : Nat) (o t : Int) (w : World) (F : Fit sn es ms) (hcg : es.length ≤ cg) (hch : ms.length ≤ ch) (hY : Row flM.c 5 w w.heap.size (some ⟨g, 0, none⟩) es) (hE : Row flH.c 7 w w.heap.size (some ⟨h, 0, none⟩) ms) :
    Calls Try.prog 18 #[.agg #[.string sn, .int .i64 nx, .slice (some ⟨g, 0, none⟩) es.length cg, .slice (some ⟨h, 0, none⟩) ms.length ch], .int .i64 o, .int .i64 t] w fun e w' => SA w sn nx (qpp.ansR sn nx es ms o t) (qpp.ansH sn nx es ms o t) (qpp.ansM sn nx es ms o t) (qpp.good sn nx es ms o t) e w' := by
  have hWb : Below w.heap.size w (((w.alloc (.cells #[.string sn, .int .i64 nx, .slice (some ⟨g, 0, none⟩) es.length cg, .slice (some ⟨h, 0, none⟩) ms.length ch] 27)).alloc (.cells #[.string ⟨#[]⟩, .int .i64 0, .slice none 0 0, .slice none 0 0] 27)).alloc (.cells #[.int .i64 0, .string ⟨#[]⟩, .string ⟨#[]⟩, .string ⟨#[]⟩, .bool false] 41)) := (((Below.refl _ _).alloc (Nat.le_refl _) _).alloc (by simp) _).alloc (by simp; omega) _
  have hcopy := spec_copy sn nx es ms (some ⟨g, 0, none⟩) (some ⟨h, 0, none⟩) cg ch (((w.alloc (.cells #[.string sn, .int .i64 nx, .slice (some ⟨g, 0, none⟩) es.length cg, .slice (some ⟨h, 0, none⟩) ms.length ch] 27)).alloc (.cells #[.string ⟨#[]⟩, .int .i64 0, .slice none 0 0, .slice none 0 0] 27)).alloc (.cells #[.int .i64 0, .string ⟨#[]⟩, .string ⟨#[]⟩, .string ⟨#[]⟩, .bool false] 41)) F ⟨_, .inl rfl⟩ ⟨_, .inl rfl⟩ (hY.inn hWb) (hE.inn hWb)
  have HF : Hid (Fit sn es ms) := F
  have hml := HF.out.ml
  have hel0 := HF.out.el
  have HCG : Hid (es.length ≤ cg ∧ ms.length ≤ ch) := ⟨hcg, hch⟩
  have HY : Hid (Row flM.c 5 w w.heap.size (some ⟨g, 0, none⟩) es) := hY
  have HE : Hid (Row flH.c 7 w w.heap.size (some ⟨h, 0, none⟩) ms) := hE
  have HAR : Hid (qpp.ansR sn nx es ms o t = if qpp.good sn nx es ms o t = true then es.tail else es) := rfl
  have HAH : Hid (qpp.ansH sn nx es ms o t = if qpp.good sn nx es ms o t = true then ms.take (qpp.atO o ms ms.length) ++ ⟨t, o, qpp.headM es⟩ :: ms.drop (qpp.atO o ms ms.length) else ms) := rfl
  have HAM : Hid (qpp.ansM sn nx es ms o t = if qpp.good sn nx es ms o t = true then qpp.headM es else qpp.headM []) := rfl
  have HGD : Hid (qpp.good sn nx es ms o t = (okB sn nx es ms && qpp.hand o t && !es.isEmpty && !ms.any (qpp.late o t))) := rfl
  obtain ⟨AR, hAR⟩ : ∃ y, qpp.ansR sn nx es ms o t = y := ⟨_, rfl⟩
  obtain ⟨AH, hAH⟩ : ∃ y, qpp.ansH sn nx es ms o t = y := ⟨_, rfl⟩
  obtain ⟨AM, hAM⟩ : ∃ y, qpp.ansM sn nx es ms o t = y := ⟨_, rfl⟩
  obtain ⟨GD, hGD⟩ : ∃ y, qpp.good sn nx es ms o t = y := ⟨_, rfl⟩
  rw [hAR, hGD] at HAR
  rw [hAH, hGD] at HAH
  rw [hAM, hGD] at HAM
  rw [hGD] at HGD
  have HGD : Hid ((okB sn nx es ms && (decide (0 ≤ o ∧ o ≤ 1000) && decide (1 ≤ t ∧ t ≤ 1000000000)) && !es.isEmpty && !ms.any (qpp.late o t)) = GD) := HGD.out.symm
  simp only [hAR, hAH, hAM, hGD]
  clear hcg hch hY hE F hAR hAH hAM hGD
  go_enter Try.func18, Try.ntmps18
  go_wp2_with (go_at_call 26; fail)
  refine hcopy.mono ?_
  rintro e w1 ⟨g1, c1, h1, c2, rfl, oe1, om1, _, hb1⟩
  obtain ⟨hp, ho1, ho2⟩ := first_px sn nx es ms (some ⟨g, 0, none⟩) (some ⟨h, 0, none⟩) cg ch w w1 g1 c1 h1 c2 hb1 oe1 om1
  obtain ⟨X, hX⟩ : ∃ X, w1.alloc (.cells #[.string sn, .int .i64 nx, (.slice (some ⟨g1, 0, none⟩) es.length c1), (.slice (some ⟨h1, 0, none⟩) ms.length c2)] 27) = X := ⟨_, rfl⟩
  rw [hX] at hp ho1 ho2
  have HPX : Hid (PX w sn nx es ms (some ⟨g, 0, none⟩) (some ⟨h, 0, none⟩) cg ch w1.heap.size (.slice (some ⟨g1, 0, none⟩) es.length c1) (.slice (some ⟨h1, 0, none⟩) ms.length c2) X) := hp
  have HOE : Hid (X.ownsRow (w.heap.size + 3) 41 5 (.slice (some ⟨g1, 0, none⟩) es.length c1) es.length (es.flatMap flM.c)) := ho1
  have HOH : Hid (X.ownsRow (w.heap.size + 3) 55 7 (.slice (some ⟨h1, 0, none⟩) ms.length c2) ms.length (ms.flatMap flH.c)) := ho2
  have x0 : X.cell? ⟨w.heap.size, 0, none⟩ = some (.string sn) := bcell hp.box rfl
  have x1 : X.cell? ⟨w.heap.size, 1, none⟩ = some (.int .i64 nx) := bcell hp.box rfl
  have x2 : X.cell? ⟨w.heap.size, 2, none⟩ = some (.slice (some ⟨g, 0, none⟩) es.length cg) := bcell hp.box rfl
  have x3 : X.cell? ⟨w.heap.size, 3, none⟩ = some (.slice (some ⟨h, 0, none⟩) ms.length ch) := bcell hp.box rfl
  have hok := spec_okb sn nx es ms (some ⟨g, 0, none⟩) (some ⟨h, 0, none⟩) cg ch X HF.out (HY.out.inn hp.bel) (HE.out.inn hp.bel)
  clear hcopy oe1 om1 hb1 hWb hp ho1 ho2
  obtain ⟨ob, hob⟩ : ∃ ob, okB sn nx es ms = ob := ⟨_, rfl⟩
  rw [hob] at hok HGD
  go_wp2_with (go_at_call 12; fail)
  clear hX x0 x1 x2 x3
  refine hok.mono ?_
  rintro e w2 ⟨rfl, hb2⟩
  clear hok
  cases ob with
  | false =>
    obtain rfl : GD = false := by rw [← HGD.out]; exact rfl
    obtain rfl : es = AR := HAR.out.symm
    obtain rfl : ms = AH := HAH.out.symm
    obtain rfl : qpp.headM [] = AM := HAM.out.symm
    clear HAR HAH HAM HGD
    have hp9 := HPX.out.on hb2
    have z0 : w2.cell? ⟨w.heap.size + 1, 0, none⟩ = some (.string ⟨#[]⟩) := bcell hp9.res rfl
    have z1 : w2.cell? ⟨w.heap.size + 1, 1, none⟩ = some (.int .i64 0) := bcell hp9.res rfl
    have z2 : w2.cell? ⟨w.heap.size + 1, 2, none⟩ = some (.slice none 0 0) := bcell hp9.res rfl
    have z3 : w2.cell? ⟨w.heap.size + 1, 3, none⟩ = some (.slice none 0 0) := bcell hp9.res rfl
    have y0 : w2.cell? ⟨w.heap.size + 2, 0, none⟩ = some (.int .i64 0) := bcell hp9.rem rfl
    have y1 : w2.cell? ⟨w.heap.size + 2, 1, none⟩ = some (.string ⟨#[]⟩) := bcell hp9.rem rfl
    have y2 : w2.cell? ⟨w.heap.size + 2, 2, none⟩ = some (.string ⟨#[]⟩) := bcell hp9.rem rfl
    have y3 : w2.cell? ⟨w.heap.size + 2, 3, none⟩ = some (.string ⟨#[]⟩) := bcell hp9.rem rfl
    have y4 : w2.cell? ⟨w.heap.size + 2, 4, none⟩ = some (.bool false) := bcell hp9.rem rfl
    have f0 := bfree hp9.res 0
    have f1 := bfree hp9.res 1
    have f2 := bfree hp9.res 2
    have f3 := bfree hp9.res 3
    have e0 := bfree hp9.rem 0
    have e1 := bfree hp9.rem 1
    have e2 := bfree hp9.rem 2
    have e3 := bfree hp9.rem 3
    have e4 := bfree hp9.rem 4
    have n0 : w2.cell? ⟨w1.heap.size, 0, none⟩ = some (.string sn) := bcell hp9.out rfl
    have n1 : w2.cell? ⟨w1.heap.size, 1, none⟩ = some (.int .i64 nx) := bcell hp9.out rfl
    have n2 : w2.cell? ⟨w1.heap.size, 2, none⟩ = some (.slice (some ⟨g1, 0, none⟩) es.length c1) := bcell hp9.out rfl
    have n3 : w2.cell? ⟨w1.heap.size, 3, none⟩ = some (.slice (some ⟨h1, 0, none⟩) ms.length c2) := bcell hp9.out rfl
    have hne1 : w1.heap.size ≠ w.heap.size + 1 := by have := hp9.h8; omega
    have hne2 : w1.heap.size ≠ w.heap.size + 2 := by have := hp9.h8; omega
    have hne3 : w.heap.size + 1 ≠ w1.heap.size := by have := hp9.h8; omega
    have hne4 : w.heap.size + 2 ≠ w1.heap.size := by have := hp9.h8; omega
    have HFN : Hid (w2.ownsRow (w.heap.size + 3) 41 5 (.slice (some ⟨g1, 0, none⟩) es.length c1) es.length (es.flatMap flM.c) ∧ w2.ownsRow (w.heap.size + 3) 55 7 (.slice (some ⟨h1, 0, none⟩) ms.length c2) ms.length (ms.flatMap flH.c) ∧ Below w.heap.size w w2) := ⟨own_stay HOE.out hb2, own_stay HOH.out hb2, hp9.bel⟩
    clear hp9
    go_wp2
    refine bodyPost_ret (v := .tuple #[.agg #[.string sn, .int .i64 nx, .slice (some ⟨g1, 0, none⟩) es.length c1, .slice (some ⟨h1, 0, none⟩) ms.length c2], .agg #[.int .i64 0, .string ⟨#[]⟩, .string ⟨#[]⟩, .string ⟨#[]⟩, .bool false], .bool false]) (by simp [results, Try.results18, go_sem, z0, z1, z2, z3, y0, y1, y2, y3, y4]) rfl ⟨_, _, _, _, rfl, ?_, ?_, ?_⟩
    · exact own_low (own9 HFN.out.1 (by omega) (by omega)) (by omega)
    · exact .inr ⟨_, rfl, own_low (own9 HFN.out.2.1 (by omega) (by omega)) (by omega)⟩
    · exact (s9.bel HFN.out.2.2 (by omega) (by omega))
  | true =>
    obtain ⟨d1, hd1⟩ : ∃ d, decide (0 ≤ o ∧ o ≤ 1000) = d := ⟨_, rfl⟩
    obtain ⟨d2, hd2⟩ : ∃ d, decide (1 ≤ t ∧ t ≤ 1000000000) = d := ⟨_, rfl⟩
    have k1 := qhd.within o 0 1000 w2
    have k2 := qhd.within t 1 1000000000 w2
    rw [hd1] at k1 HGD
    rw [hd2] at k2 HGD
    clear hd1 hd2
    go_wp2_with (go_at_call 40; fail)
    refine k1.mono ?_
    rintro e wh ⟨rfl, hwh⟩
    obtain rfl := hwh
    clear k1
    cases d1 with
    | false =>
      obtain rfl : GD = false := by rw [← HGD.out]; exact rfl
      obtain rfl : es = AR := HAR.out.symm
      obtain rfl : ms = AH := HAH.out.symm
      obtain rfl : qpp.headM [] = AM := HAM.out.symm
      clear HAR HAH HAM HGD
      have hp9 := HPX.out.on hb2
      have z0 : w2.cell? ⟨w.heap.size + 1, 0, none⟩ = some (.string ⟨#[]⟩) := bcell hp9.res rfl
      have z1 : w2.cell? ⟨w.heap.size + 1, 1, none⟩ = some (.int .i64 0) := bcell hp9.res rfl
      have z2 : w2.cell? ⟨w.heap.size + 1, 2, none⟩ = some (.slice none 0 0) := bcell hp9.res rfl
      have z3 : w2.cell? ⟨w.heap.size + 1, 3, none⟩ = some (.slice none 0 0) := bcell hp9.res rfl
      have y0 : w2.cell? ⟨w.heap.size + 2, 0, none⟩ = some (.int .i64 0) := bcell hp9.rem rfl
      have y1 : w2.cell? ⟨w.heap.size + 2, 1, none⟩ = some (.string ⟨#[]⟩) := bcell hp9.rem rfl
      have y2 : w2.cell? ⟨w.heap.size + 2, 2, none⟩ = some (.string ⟨#[]⟩) := bcell hp9.rem rfl
      have y3 : w2.cell? ⟨w.heap.size + 2, 3, none⟩ = some (.string ⟨#[]⟩) := bcell hp9.rem rfl
      have y4 : w2.cell? ⟨w.heap.size + 2, 4, none⟩ = some (.bool false) := bcell hp9.rem rfl
      have f0 := bfree hp9.res 0
      have f1 := bfree hp9.res 1
      have f2 := bfree hp9.res 2
      have f3 := bfree hp9.res 3
      have e0 := bfree hp9.rem 0
      have e1 := bfree hp9.rem 1
      have e2 := bfree hp9.rem 2
      have e3 := bfree hp9.rem 3
      have e4 := bfree hp9.rem 4
      have n0 : w2.cell? ⟨w1.heap.size, 0, none⟩ = some (.string sn) := bcell hp9.out rfl
      have n1 : w2.cell? ⟨w1.heap.size, 1, none⟩ = some (.int .i64 nx) := bcell hp9.out rfl
      have n2 : w2.cell? ⟨w1.heap.size, 2, none⟩ = some (.slice (some ⟨g1, 0, none⟩) es.length c1) := bcell hp9.out rfl
      have n3 : w2.cell? ⟨w1.heap.size, 3, none⟩ = some (.slice (some ⟨h1, 0, none⟩) ms.length c2) := bcell hp9.out rfl
      have hne1 : w1.heap.size ≠ w.heap.size + 1 := by have := hp9.h8; omega
      have hne2 : w1.heap.size ≠ w.heap.size + 2 := by have := hp9.h8; omega
      have hne3 : w.heap.size + 1 ≠ w1.heap.size := by have := hp9.h8; omega
      have hne4 : w.heap.size + 2 ≠ w1.heap.size := by have := hp9.h8; omega
      have HFN : Hid (w2.ownsRow (w.heap.size + 3) 41 5 (.slice (some ⟨g1, 0, none⟩) es.length c1) es.length (es.flatMap flM.c) ∧ w2.ownsRow (w.heap.size + 3) 55 7 (.slice (some ⟨h1, 0, none⟩) ms.length c2) ms.length (ms.flatMap flH.c) ∧ Below w.heap.size w w2) := ⟨own_stay HOE.out hb2, own_stay HOH.out hb2, hp9.bel⟩
      clear hp9
      go_wp2
      refine bodyPost_ret (v := .tuple #[.agg #[.string sn, .int .i64 nx, .slice (some ⟨g1, 0, none⟩) es.length c1, .slice (some ⟨h1, 0, none⟩) ms.length c2], .agg #[.int .i64 0, .string ⟨#[]⟩, .string ⟨#[]⟩, .string ⟨#[]⟩, .bool false], .bool false]) (by simp [results, Try.results18, go_sem, z0, z1, z2, z3, y0, y1, y2, y3, y4]) rfl ⟨_, _, _, _, rfl, ?_, ?_, ?_⟩
      · exact own_low (own9 HFN.out.1 (by omega) (by omega)) (by omega)
      · exact .inr ⟨_, rfl, own_low (own9 HFN.out.2.1 (by omega) (by omega)) (by omega)⟩
      · exact (s9.bel HFN.out.2.2 (by omega) (by omega))
    | true =>
      go_wp2_with (go_at_call 40; fail)
      refine k2.mono ?_
      rintro e wh ⟨rfl, hwh⟩
      obtain rfl := hwh
      clear k2
      cases d2 with
      | false =>
        obtain rfl : GD = false := by rw [← HGD.out]; exact rfl
        obtain rfl : es = AR := HAR.out.symm
        obtain rfl : ms = AH := HAH.out.symm
        obtain rfl : qpp.headM [] = AM := HAM.out.symm
        clear HAR HAH HAM HGD
        have hp9 := HPX.out.on hb2
        have z0 : w2.cell? ⟨w.heap.size + 1, 0, none⟩ = some (.string ⟨#[]⟩) := bcell hp9.res rfl
        have z1 : w2.cell? ⟨w.heap.size + 1, 1, none⟩ = some (.int .i64 0) := bcell hp9.res rfl
        have z2 : w2.cell? ⟨w.heap.size + 1, 2, none⟩ = some (.slice none 0 0) := bcell hp9.res rfl
        have z3 : w2.cell? ⟨w.heap.size + 1, 3, none⟩ = some (.slice none 0 0) := bcell hp9.res rfl
        have y0 : w2.cell? ⟨w.heap.size + 2, 0, none⟩ = some (.int .i64 0) := bcell hp9.rem rfl
        have y1 : w2.cell? ⟨w.heap.size + 2, 1, none⟩ = some (.string ⟨#[]⟩) := bcell hp9.rem rfl
        have y2 : w2.cell? ⟨w.heap.size + 2, 2, none⟩ = some (.string ⟨#[]⟩) := bcell hp9.rem rfl
        have y3 : w2.cell? ⟨w.heap.size + 2, 3, none⟩ = some (.string ⟨#[]⟩) := bcell hp9.rem rfl
        have y4 : w2.cell? ⟨w.heap.size + 2, 4, none⟩ = some (.bool false) := bcell hp9.rem rfl
        have f0 := bfree hp9.res 0
        have f1 := bfree hp9.res 1
        have f2 := bfree hp9.res 2
        have f3 := bfree hp9.res 3
        have e0 := bfree hp9.rem 0
        have e1 := bfree hp9.rem 1
        have e2 := bfree hp9.rem 2
        have e3 := bfree hp9.rem 3
        have e4 := bfree hp9.rem 4
        have n0 : w2.cell? ⟨w1.heap.size, 0, none⟩ = some (.string sn) := bcell hp9.out rfl
        have n1 : w2.cell? ⟨w1.heap.size, 1, none⟩ = some (.int .i64 nx) := bcell hp9.out rfl
        have n2 : w2.cell? ⟨w1.heap.size, 2, none⟩ = some (.slice (some ⟨g1, 0, none⟩) es.length c1) := bcell hp9.out rfl
        have n3 : w2.cell? ⟨w1.heap.size, 3, none⟩ = some (.slice (some ⟨h1, 0, none⟩) ms.length c2) := bcell hp9.out rfl
        have hne1 : w1.heap.size ≠ w.heap.size + 1 := by have := hp9.h8; omega
        have hne2 : w1.heap.size ≠ w.heap.size + 2 := by have := hp9.h8; omega
        have hne3 : w.heap.size + 1 ≠ w1.heap.size := by have := hp9.h8; omega
        have hne4 : w.heap.size + 2 ≠ w1.heap.size := by have := hp9.h8; omega
        have HFN : Hid (w2.ownsRow (w.heap.size + 3) 41 5 (.slice (some ⟨g1, 0, none⟩) es.length c1) es.length (es.flatMap flM.c) ∧ w2.ownsRow (w.heap.size + 3) 55 7 (.slice (some ⟨h1, 0, none⟩) ms.length c2) ms.length (ms.flatMap flH.c) ∧ Below w.heap.size w w2) := ⟨own_stay HOE.out hb2, own_stay HOH.out hb2, hp9.bel⟩
        clear hp9
        go_wp2
        refine bodyPost_ret (v := .tuple #[.agg #[.string sn, .int .i64 nx, .slice (some ⟨g1, 0, none⟩) es.length c1, .slice (some ⟨h1, 0, none⟩) ms.length c2], .agg #[.int .i64 0, .string ⟨#[]⟩, .string ⟨#[]⟩, .string ⟨#[]⟩, .bool false], .bool false]) (by simp [results, Try.results18, go_sem, z0, z1, z2, z3, y0, y1, y2, y3, y4]) rfl ⟨_, _, _, _, rfl, ?_, ?_, ?_⟩
        · exact own_low (own9 HFN.out.1 (by omega) (by omega)) (by omega)
        · exact .inr ⟨_, rfl, own_low (own9 HFN.out.2.1 (by omega) (by omega)) (by omega)⟩
        · exact (s9.bel HFN.out.2.2 (by omega) (by omega))
      | true =>
        have hp2 := HPX.out.on hb2
        have x0 : w2.cell? ⟨w.heap.size, 0, none⟩ = some (.string sn) := bcell hp2.box rfl
        have x1 : w2.cell? ⟨w.heap.size, 1, none⟩ = some (.int .i64 nx) := bcell hp2.box rfl
        have x2 : w2.cell? ⟨w.heap.size, 2, none⟩ = some (.slice (some ⟨g, 0, none⟩) es.length cg) := bcell hp2.box rfl
        have x3 : w2.cell? ⟨w.heap.size, 3, none⟩ = some (.slice (some ⟨h, 0, none⟩) ms.length ch) := bcell hp2.box rfl
        clear hp2
        by_cases hes : es = []
        · have hl0 : ((es.length : Int) == 0) = true := by simp [hes]
          have hie : es.isEmpty = true := by simp [hes]
          clear hes
          obtain rfl : GD = false := by rw [← HGD.out]; exact (by rw [hie]; rfl)
          obtain rfl : es = AR := HAR.out.symm
          obtain rfl : ms = AH := HAH.out.symm
          obtain rfl : qpp.headM [] = AM := HAM.out.symm
          clear HAR HAH HAM HGD
          have hp9 := HPX.out.on hb2
          have z0 : w2.cell? ⟨w.heap.size + 1, 0, none⟩ = some (.string ⟨#[]⟩) := bcell hp9.res rfl
          have z1 : w2.cell? ⟨w.heap.size + 1, 1, none⟩ = some (.int .i64 0) := bcell hp9.res rfl
          have z2 : w2.cell? ⟨w.heap.size + 1, 2, none⟩ = some (.slice none 0 0) := bcell hp9.res rfl
          have z3 : w2.cell? ⟨w.heap.size + 1, 3, none⟩ = some (.slice none 0 0) := bcell hp9.res rfl
          have y0 : w2.cell? ⟨w.heap.size + 2, 0, none⟩ = some (.int .i64 0) := bcell hp9.rem rfl
          have y1 : w2.cell? ⟨w.heap.size + 2, 1, none⟩ = some (.string ⟨#[]⟩) := bcell hp9.rem rfl
          have y2 : w2.cell? ⟨w.heap.size + 2, 2, none⟩ = some (.string ⟨#[]⟩) := bcell hp9.rem rfl
          have y3 : w2.cell? ⟨w.heap.size + 2, 3, none⟩ = some (.string ⟨#[]⟩) := bcell hp9.rem rfl
          have y4 : w2.cell? ⟨w.heap.size + 2, 4, none⟩ = some (.bool false) := bcell hp9.rem rfl
          have f0 := bfree hp9.res 0
          have f1 := bfree hp9.res 1
          have f2 := bfree hp9.res 2
          have f3 := bfree hp9.res 3
          have e0 := bfree hp9.rem 0
          have e1 := bfree hp9.rem 1
          have e2 := bfree hp9.rem 2
          have e3 := bfree hp9.rem 3
          have e4 := bfree hp9.rem 4
          have n0 : w2.cell? ⟨w1.heap.size, 0, none⟩ = some (.string sn) := bcell hp9.out rfl
          have n1 : w2.cell? ⟨w1.heap.size, 1, none⟩ = some (.int .i64 nx) := bcell hp9.out rfl
          have n2 : w2.cell? ⟨w1.heap.size, 2, none⟩ = some (.slice (some ⟨g1, 0, none⟩) es.length c1) := bcell hp9.out rfl
          have n3 : w2.cell? ⟨w1.heap.size, 3, none⟩ = some (.slice (some ⟨h1, 0, none⟩) ms.length c2) := bcell hp9.out rfl
          have hne1 : w1.heap.size ≠ w.heap.size + 1 := by have := hp9.h8; omega
          have hne2 : w1.heap.size ≠ w.heap.size + 2 := by have := hp9.h8; omega
          have hne3 : w.heap.size + 1 ≠ w1.heap.size := by have := hp9.h8; omega
          have hne4 : w.heap.size + 2 ≠ w1.heap.size := by have := hp9.h8; omega
          have HFN : Hid (w2.ownsRow (w.heap.size + 3) 41 5 (.slice (some ⟨g1, 0, none⟩) es.length c1) es.length (es.flatMap flM.c) ∧ w2.ownsRow (w.heap.size + 3) 55 7 (.slice (some ⟨h1, 0, none⟩) ms.length c2) ms.length (ms.flatMap flH.c) ∧ Below w.heap.size w w2) := ⟨own_stay HOE.out hb2, own_stay HOH.out hb2, hp9.bel⟩
          clear hp9
          go_wp2
          refine bodyPost_ret (v := .tuple #[.agg #[.string sn, .int .i64 nx, .slice (some ⟨g1, 0, none⟩) es.length c1, .slice (some ⟨h1, 0, none⟩) ms.length c2], .agg #[.int .i64 0, .string ⟨#[]⟩, .string ⟨#[]⟩, .string ⟨#[]⟩, .bool false], .bool false]) (by simp [results, Try.results18, go_sem, z0, z1, z2, z3, y0, y1, y2, y3, y4]) rfl ⟨_, _, _, _, rfl, ?_, ?_, ?_⟩
          · exact own_low (own9 HFN.out.1 (by omega) (by omega)) (by omega)
          · exact .inr ⟨_, rfl, own_low (own9 HFN.out.2.1 (by omega) (by omega)) (by omega)⟩
          · exact (s9.bel HFN.out.2.2 (by omega) (by omega))
        · have hl0 : ((es.length : Int) == 0) = false := by simp [hes]
          have hie : es.isEmpty = false := by simp [hes]
          obtain ⟨⟨q, x, y, z, ag⟩, h0, hr0, hrt⟩ : ∃ r0, es[0]? = some r0 ∧ qpp.headM es = r0 ∧ es = r0 :: es.tail := by
            cases es with
            | nil => exact absurd rfl hes
            | cons r l => exact ⟨r, rfl, rfl, rfl⟩
          have HH0 : Hid (es[0]? = some ⟨q, x, y, z, ag⟩ ∧ qpp.headM es = ⟨q, x, y, z, ag⟩ ∧ es = ⟨q, x, y, z, ag⟩ :: es.tail) := ⟨h0, hr0, hrt⟩
          clear hes h0 hr0 hrt
          go_wp2
          go_loopw [10, 11] (fun a i wr => ∃ k av : Nat, k ≤ ms.length ∧ i = .int .i64 k ∧ a = .int .i64 av ∧ Hid (qpp.atO o ms k = av ∧ (ms.take k).any (qpp.late o t) = false) ∧ Hid (Below X.heap.size X wr)) (fun _ i _ => ms.length - (intOf i).toNat)
          case atStart => exact ⟨0, 0, Nat.zero_le _, rfl, rfl, ⟨rfl, by simp⟩, hb2⟩
          case round =>
            obtain ⟨k, av, hk, rfl, rfl, hn, hBr⟩ := hrel
            have hpr := HPX.out.on hBr.out
            have HROW : Hid (Row flH.c 7 wr wr.heap.size (some ⟨h, 0, none⟩) ms) := HE.out.inn hpr.bel
            clear x0 x1 x2 x3
            have x0 : wr.cell? ⟨w.heap.size, 0, none⟩ = some (.string sn) := bcell hpr.box rfl
            have x1 : wr.cell? ⟨w.heap.size, 1, none⟩ = some (.int .i64 nx) := bcell hpr.box rfl
            have x2 : wr.cell? ⟨w.heap.size, 2, none⟩ = some (.slice (some ⟨g, 0, none⟩) es.length cg) := bcell hpr.box rfl
            have x3 : wr.cell? ⟨w.heap.size, 3, none⟩ = some (.slice (some ⟨h, 0, none⟩) ms.length ch) := bcell hpr.box rfl
            clear hpr
            by_cases hkl : k < ms.length
            · have f0 : decide ((k : Int) < (ms.length : Int)) = true := by simp; omega
              have i2 : (k : Int) < (ms.length : Int) := by omega
              have HG : Hid (ms[k]? = some ms[k]) := List.getElem?_eq_getElem hkl
              obtain ⟨⟨ht, ho, hm⟩, he⟩ : ∃ e, ms[k] = e := ⟨_, rfl⟩
              rw [he] at HG
              obtain ⟨b0, b1⟩ := cellH HROW.out HG.out
              clear he
              have b0 : wr.cell? ⟨h, k * 7, none⟩ = some (.int .i64 ht) := b0
              have b1 : wr.cell? ⟨h, k * 7 + 1, none⟩ = some (.int .i64 ho) := b1
              by_cases p1 : ho = o
              · have q1 : (ho == o) = true := by simpa using p1
                by_cases p2 : t ≤ ht
                · have q2 : decide (t ≤ ht) = true := by simpa using p2
                  have hla : ms.any (qpp.late o t) = true := any_late HG.out (by simp [qpp.late, p1, p2])
                  clear p1 p2
                  obtain rfl : GD = false := by rw [← HGD.out]; exact (by rw [hie, hla]; rfl)
                  obtain rfl : es = AR := HAR.out.symm
                  obtain rfl : ms = AH := HAH.out.symm
                  obtain rfl : qpp.headM [] = AM := HAM.out.symm
                  clear HAR HAH HAM HGD
                  have hp9 := HPX.out.on hBr.out
                  have z0 : wr.cell? ⟨w.heap.size + 1, 0, none⟩ = some (.string ⟨#[]⟩) := bcell hp9.res rfl
                  have z1 : wr.cell? ⟨w.heap.size + 1, 1, none⟩ = some (.int .i64 0) := bcell hp9.res rfl
                  have z2 : wr.cell? ⟨w.heap.size + 1, 2, none⟩ = some (.slice none 0 0) := bcell hp9.res rfl
                  have z3 : wr.cell? ⟨w.heap.size + 1, 3, none⟩ = some (.slice none 0 0) := bcell hp9.res rfl
                  have y0 : wr.cell? ⟨w.heap.size + 2, 0, none⟩ = some (.int .i64 0) := bcell hp9.rem rfl
                  have y1 : wr.cell? ⟨w.heap.size + 2, 1, none⟩ = some (.string ⟨#[]⟩) := bcell hp9.rem rfl
                  have y2 : wr.cell? ⟨w.heap.size + 2, 2, none⟩ = some (.string ⟨#[]⟩) := bcell hp9.rem rfl
                  have y3 : wr.cell? ⟨w.heap.size + 2, 3, none⟩ = some (.string ⟨#[]⟩) := bcell hp9.rem rfl
                  have y4 : wr.cell? ⟨w.heap.size + 2, 4, none⟩ = some (.bool false) := bcell hp9.rem rfl
                  have f0 := bfree hp9.res 0
                  have f1 := bfree hp9.res 1
                  have f2 := bfree hp9.res 2
                  have f3 := bfree hp9.res 3
                  have e0 := bfree hp9.rem 0
                  have e1 := bfree hp9.rem 1
                  have e2 := bfree hp9.rem 2
                  have e3 := bfree hp9.rem 3
                  have e4 := bfree hp9.rem 4
                  have n0 : wr.cell? ⟨w1.heap.size, 0, none⟩ = some (.string sn) := bcell hp9.out rfl
                  have n1 : wr.cell? ⟨w1.heap.size, 1, none⟩ = some (.int .i64 nx) := bcell hp9.out rfl
                  have n2 : wr.cell? ⟨w1.heap.size, 2, none⟩ = some (.slice (some ⟨g1, 0, none⟩) es.length c1) := bcell hp9.out rfl
                  have n3 : wr.cell? ⟨w1.heap.size, 3, none⟩ = some (.slice (some ⟨h1, 0, none⟩) ms.length c2) := bcell hp9.out rfl
                  have hne1 : w1.heap.size ≠ w.heap.size + 1 := by have := hp9.h8; omega
                  have hne2 : w1.heap.size ≠ w.heap.size + 2 := by have := hp9.h8; omega
                  have hne3 : w.heap.size + 1 ≠ w1.heap.size := by have := hp9.h8; omega
                  have hne4 : w.heap.size + 2 ≠ w1.heap.size := by have := hp9.h8; omega
                  have HFN : Hid (wr.ownsRow (w.heap.size + 3) 41 5 (.slice (some ⟨g1, 0, none⟩) es.length c1) es.length (es.flatMap flM.c) ∧ wr.ownsRow (w.heap.size + 3) 55 7 (.slice (some ⟨h1, 0, none⟩) ms.length c2) ms.length (ms.flatMap flH.c) ∧ Below w.heap.size w wr) := ⟨own_stay HOE.out hBr.out, own_stay HOH.out hBr.out, hp9.bel⟩
                  clear hp9
                  go_wp2
                  refine bodyPost_ret (v := .tuple #[.agg #[.string sn, .int .i64 nx, .slice (some ⟨g1, 0, none⟩) es.length c1, .slice (some ⟨h1, 0, none⟩) ms.length c2], .agg #[.int .i64 0, .string ⟨#[]⟩, .string ⟨#[]⟩, .string ⟨#[]⟩, .bool false], .bool false]) (by simp [results, Try.results18, go_sem, z0, z1, z2, z3, y0, y1, y2, y3, y4]) rfl ⟨_, _, _, _, rfl, ?_, ?_, ?_⟩
                  · exact own_low (own9 HFN.out.1 (by omega) (by omega)) (by omega)
                  · exact .inr ⟨_, rfl, own_low (own9 HFN.out.2.1 (by omega) (by omega)) (by omega)⟩
                  · exact (s9.bel HFN.out.2.2 (by omega) (by omega))
                · have q2 : decide (t ≤ ht) = false := by simpa using p2
                  have q3 : decide (ho ≤ o) = true := by simp; omega
                  have HN : Hid (qpp.atO o ms (k + 1) = k + 1 ∧ (ms.take (k + 1)).any (qpp.late o t) = false) := ⟨qpp.atO_yes HG.out (by show ho ≤ o; omega), by rw [any_take HG.out hn.out.2]; simp [qpp.late, p2]⟩
                  clear p1 p2
                  go_wp2
                  go_roundw
                  case rel => exact ⟨k + 1, k + 1, by omega, by go_num, by go_num, HN, hBr⟩
                  case measure => simp [intOf]; omega
              · have q1 : (ho == o) = false := by simpa using p1
                by_cases p3 : ho ≤ o
                · have q3 : decide (ho ≤ o) = true := by simpa using p3
                  have HN : Hid (qpp.atO o ms (k + 1) = k + 1 ∧ (ms.take (k + 1)).any (qpp.late o t) = false) := ⟨qpp.atO_yes HG.out p3, by rw [any_take HG.out hn.out.2]; simp [qpp.late, p1]⟩
                  clear p1 p3
                  go_wp2
                  go_roundw
                  case rel => exact ⟨k + 1, k + 1, by omega, by go_num, by go_num, HN, hBr⟩
                  case measure => simp [intOf]; omega
                · have q3 : decide (ho ≤ o) = false := by simpa using p3
                  have HN : Hid (qpp.atO o ms (k + 1) = av ∧ (ms.take (k + 1)).any (qpp.late o t) = false) := ⟨by rw [qpp.atO_no HG.out p3, hn.out.1], by rw [any_take HG.out hn.out.2]; simp [qpp.late, p1]⟩
                  clear p1 p3
                  go_wp2
                  go_roundw
                  case rel => exact ⟨k + 1, av, by omega, by go_num, rfl, HN, hBr⟩
                  case measure => simp [intOf]; omega
            · have f0 : decide ((k : Int) < (ms.length : Int)) = false := by simp; omega
              obtain rfl : k = ms.length := by omega
              obtain rfl : GD = true := by rw [← HGD.out, hie]; have := hn.out.2; rw [List.take_length] at this; rw [this]; rfl
              have HTA : Hid (es.tail = AR) := HAR.out.symm
              obtain ⟨hcge, hche⟩ := HCG.out
              have hmx : qpp.headM es = ⟨q, x, y, z, ag⟩ := HH0.out.2.1
              have hav : av ≤ ms.length := by rw [← hn.out.1]; exact qpp.atO_le _ _ _
              have havc : av ≤ ch := Nat.le_trans hav hche
              have HAH2 : Hid (ms.take av ++ ⟨t, o, ⟨q, x, y, z, ag⟩⟩ :: ms.drop av = AH) := by
                have := HAH.out
                rw [if_pos rfl, hn.out.1, hmx] at this
                exact this.symm
              obtain rfl : (⟨q, x, y, z, ag⟩ : flM.Ms) = AM := by have := HAM.out; rw [if_pos rfl, hmx] at this; exact this.symm
              have HRM : Hid (Row flM.c 5 wr wr.heap.size (some ⟨g, 0, none⟩) es) := HY.out.inn (HPX.out.on hBr.out).bel
              obtain ⟨e0, e1, e2, e3, e4⟩ := cellM HRM.out HH0.out.1
              have e0 : wr.cell? ⟨g, 0, none⟩ = some (.int .i64 q) := e0
              have e1 : wr.cell? ⟨g, 1, none⟩ = some (.string x) := e1
              have e2 : wr.cell? ⟨g, 2, none⟩ = some (.string y) := e2
              have e3 : wr.cell? ⟨g, 3, none⟩ = some (.string z) := e3
              have e4 : wr.cell? ⟨g, 4, none⟩ = some (.bool ag) := e4
              have hel : 0 < es.length := by rw [HH0.out.2.2]; simp
              have hel1 : (0 : Int) < (es.length : Int) := by omega
              have hel2 : 1 ≤ cg := by omega
              have hel3 : 1 ≤ es.length := by omega
              clear HAR HAH HAM HGD hmx hcge
              have hpr := HPX.out.on hBr.out
              have hwr : w.heap.size + 3 ≤ wr.heap.size := by have := hpr.lt; have := hpr.h8; omega
              have hal : Below wr.heap.size wr ((wr.alloc (.cells #[.int .i64 q, .string x, .string y, .string z, .bool ag] 41)).alloc (.cells #[] 41)) := ((Below.refl _ _).alloc (Nat.le_refl _) _).alloc (by simp) _
              have hMB := bold (bnew wr #[.int .i64 q, .string x, .string y, .string z, .bool ag] 41) (.cells #[] 41)
              have ho := own_empty (wr.alloc (.cells #[.int .i64 q, .string x, .string y, .string z, .bool ag] 41)) (w.heap.size + 3) 41 5 (by simp; omega)
              have hsz1 : (wr.alloc (.cells #[.int .i64 q, .string x, .string y, .string z, .bool ag] 41)).heap.size = wr.heap.size + 1 := by simp
              rw [hsz1] at ho
              obtain ⟨V, hV⟩ : ∃ V, (wr.alloc (.cells #[.int .i64 q, .string x, .string y, .string z, .bool ag] 41)).alloc (.cells #[] 41) = V := ⟨_, rfl⟩
              have hVs : V.heap.size = wr.heap.size + 2 := by rw [← hV]; simp
              rw [hV] at hal hMB ho
              have hpV := hpr.on hal
              have v2 : V.cell? ⟨w.heap.size, 2, none⟩ = some (.slice (some ⟨g, 0, none⟩) es.length cg) := bcell hpV.box rfl
              have HPV : Hid (PX w sn nx es ms (some ⟨g, 0, none⟩) (some ⟨h, 0, none⟩) cg ch w1.heap.size (.slice (some ⟨g1, 0, none⟩) es.length c1) (.slice (some ⟨h1, 0, none⟩) ms.length c2) V) := hpV
              have HOV : Hid (V.ownsRow (w.heap.size + 3) 41 5 (.slice (some ⟨wr.heap.size + 1, 0, none⟩) 0 0) 0 []) := ho
              have HMB : Hid (V.heap[wr.heap.size]? = some (.cells #[.int .i64 q, .string x, .string y, .string z, .bool ag] 41 (0, 0))) := hMB
              have HRV : Hid (Row flM.c 5 V V.heap.size (some ⟨g, 0, none⟩) es) := HY.out.inn hpV.bel
              have HHV : Hid (Row flH.c 7 V V.heap.size (some ⟨h, 0, none⟩) ms) := HE.out.inn hpV.bel
              obtain ⟨i0, hi, hz0, hz1, hz2⟩ := infoY
              clear hpr hpV ho hMB
              by_cases hc1 : cg = 1
              · have HTL : Hid (es.tail.length = 0) := by show es.tail.length = 0; rw [List.length_tail]; have := HCG.out.1; omega
                have NEWS : Hid (∀ (j : Nat) (u : Value), (es.tail.flatMap flM.c)[j]? = some u → V.cell? ((⟨g, 0, none⟩ : Addr).add j) = some u) := fun j u hu => by rw [List.eq_nil_of_length_eq_zero HTL.out] at hu; simp at hu
                have hle : es.length - 1 = 0 := by have := HCG.out.1; omega
                go_wp2_with (at_builtin; refine wpList_append_own _ rfl _ _ 24 rfl (w.heap.size + 3) 41 i0 (.agg #[.int .i64 0, .string ByteArray.empty, .string ByteArray.empty, .string ByteArray.empty, .bool false]) 5 64 Try.underlying24 hi hz0 hz1 hz2 rfl (by decide) _ 0 [] rfl (by exact HOV.out) ⟨g, 0, none⟩ (0) (0) (es.tail.flatMap flM.c) rfl (by rw [flat_len flM.c_len, HTL.out]) (by exact NEWS.out) (oneY _) (by unfold maxLen; omega) (by omega) (by omega) ?_)
                intro v1 wA hown1 hgrow1 hnil1
                obtain ⟨g5, c5, rfl, hg5, hg5l⟩ := form hown1 (fun e => by first | exact hnil1 e | (have := hnil1.1 e; cases this.1))
                have hgr1 : V.grownBy wA (some (wr.heap.size + 1)) := hgrow1
                have hpA := HPV.out.grown hgr1 (by have := (HPX.out.on hBr.out).lt; omega)
                have hownA : wA.ownsRow (w.heap.size + 3) 41 5 (.slice (some ⟨g5, 0, none⟩) AR.length c5) AR.length (AR.flatMap flM.c) := by rw [← HTA.out, HTL.out]; first | exact hown1 | simpa using hown1
                have HMA : Hid (wA.heap[wr.heap.size]? = some (.cells #[.int .i64 q, .string x, .string y, .string z, .bool ag] 41 (0, 0))) := grown_at hgr1 HMB.out (by simp)
                have u2 : wA.cell? ⟨w1.heap.size, 2, none⟩ = some (.slice (some ⟨g1, 0, none⟩) es.length c1) := bcell hpA.out rfl
                have u2f := bfree hpA.out 2
                have HPA : Hid (PX w sn nx es ms (some ⟨g, 0, none⟩) (some ⟨h, 0, none⟩) cg ch w1.heap.size (.slice (some ⟨g1, 0, none⟩) es.length c1) (.slice (some ⟨h1, 0, none⟩) ms.length c2) wA) := hpA
                have HOA : Hid (wA.ownsRow (w.heap.size + 3) 41 5 (.slice (some ⟨g5, 0, none⟩) AR.length c5) AR.length (AR.flatMap flM.c)) := hownA
                have hw1r : w1.heap.size < wr.heap.size := (HPX.out.on hBr.out).lt
                clear hown1 hgrow1 hnil1 hpA hownA hgr1 v2 hal hV
                go_wp2
                have hpY : PX w sn nx es ms (some ⟨g, 0, none⟩) (some ⟨h, 0, none⟩) cg ch w1.heap.size (.slice (some ⟨g5, 0, none⟩) AR.length c5) (.slice (some ⟨h1, 0, none⟩) ms.length c2) (wA.setCell ⟨w1.heap.size, 2, none⟩ (.slice (some ⟨g5, 0, none⟩) (0) c5)) := by rw [← HTA.out, HTL.out]; exact HPA.out.put2 _
                have hoY : (wA.setCell ⟨w1.heap.size, 2, none⟩ (.slice (some ⟨g5, 0, none⟩) (0) c5)).ownsRow (w.heap.size + 3) 41 5 (.slice (some ⟨g5, 0, none⟩) AR.length c5) AR.length (AR.flatMap flM.c) := owns_set HOA.out (owns_ne (by decide) HOA.out HPA.out.out) _
                have hMY : (wA.setCell ⟨w1.heap.size, 2, none⟩ (.slice (some ⟨g5, 0, none⟩) (0) c5)).heap[wr.heap.size]? = some (.cells #[.int .i64 q, .string x, .string y, .string z, .bool ag] 41 (0, 0)) := boff HMA.out _ _ _ (by omega)
                obtain ⟨Y, hYY⟩ : ∃ Y, wA.setCell ⟨w1.heap.size, 2, none⟩ (.slice (some ⟨g5, 0, none⟩) (0) c5) = Y := ⟨_, rfl⟩
                rw [hYY] at hpY hoY hMY ⊢
                have HPY : Hid (PX w sn nx es ms (some ⟨g, 0, none⟩) (some ⟨h, 0, none⟩) cg ch w1.heap.size (.slice (some ⟨g5, 0, none⟩) AR.length c5) (.slice (some ⟨h1, 0, none⟩) ms.length c2) Y) := hpY
                have HOY : Hid (Y.ownsRow (w.heap.size + 3) 41 5 (.slice (some ⟨g5, 0, none⟩) AR.length c5) AR.length (AR.flatMap flM.c)) := hoY
                have HMY : Hid (Y.heap[wr.heap.size]? = some (.cells #[.int .i64 q, .string x, .string y, .string z, .bool ag] 41 (0, 0))) := hMY
                have HHY : Hid (Row flH.c 7 Y Y.heap.size (some ⟨h, 0, none⟩) ms) := HE.out.inn hpY.bel
                have hn8 : w.heap.size ≠ w1.heap.size := by have := hpY.h8; omega
                obtain ⟨i1, ki, kz0, kz1, kz2⟩ := infoK
                clear hYY hpY hoY hMY HPA HOA HMA u2 u2f x0 x1 x2 x3 e0 e1 e2 e3 e4
                refine dk.region_gsets (ws w.heap.size ms.length ch h w1.heap.size av (off av ch) o t q x y z ag) [83, 84, 85, 86, 87, 88, 89, 90, 91, 92, 93, 94, 95, 96, 97, 98, 99, 100] (ta.C ⟨Y, 55, 7, (ms.take av).flatMap flH.c, [.int .i64 t, .int .i64 o, .int .i64 q, .string x, .string y, .string z, .bool ag], (ms.drop av).flatMap flH.c, av, ms.length - av, w1.heap.size, 3⟩ J0) ⟨0, .slice none 0 0, 0, .slice none 0 0, .slice none 0 0⟩ (by kernel_rfl) (by kernel_rfl) (fun _ => rfl) (by kernel_rfl) (ta.start _ _ _) ?each ?fin
                case each =>
                  refine ⟨ta.st0 (x := J0) (d := 83) (idx := 0) J0_up (by simp) rfl (by simp) (fun g => rfl) (fun g => rfl) (fun g e => rfl) (fun s W => by simp [execOp, go_sem]), ?_⟩
                  refine ⟨ta.quiet (by decide) (by simp) (.pointer (some ⟨w.heap.size, 3, none⟩)) (by rintro s _ ⟨⟩; exact dk.sets_on _ (by simp) _ rfl) (fun s W hW => by simp [execOp, go_sem, Act.eval, dk.sets_get, ws, List.lookup]), ?_⟩
                  refine ⟨ta.quiet (by decide) (by simp) (.slice (some ⟨h, 0, none⟩) ms.length ch) (by rintro s _ ⟨⟩; exact dk.sets_on _ (by simp) _ rfl) (fun s W hW => by have c : W.cell? ⟨w.heap.size, 3, none⟩ = some (.slice (some ⟨h, 0, none⟩) ms.length ch) := bcell (hW _ _ HPY.out.box hn8) rfl; simp [execOp, go_sem, Act.eval, dk.sets_get, ws, List.lookup, c]), ?_⟩
                  refine ⟨ta.quiet (by decide) (by simp) (.int .i64 av) (by rintro s _ ⟨⟩; exact dk.sets_on _ (by simp) _ rfl) (fun s W hW => by simp [execOp, go_sem, Act.eval, dk.sets_get, ws, List.lookup]), ?_⟩
                  refine ⟨ta.quiet (by decide) (by simp) (.slice (some ⟨h, 0, none⟩) av ch) (by rintro s _ ⟨⟩; exact dk.sets_on _ (by simp) _ rfl) (fun s W hW => by simp [execOp, go_sem, Act.eval, dk.sets_get, ws, List.lookup, havc]), ?_⟩
                  refine ⟨ta.st1 (x := J0) (d := 88) (s1 := 83) (s2 := 87) (idx := 5) (c := ch) (a := ⟨h, 0, none⟩) J0_up Try.underlying25 ki kz0 kz1 kz2 rfl (by show 0 < 7; decide) rfl rfl ⟨by simp, by simp, by simp⟩ (fun g => rfl) (fun g => rfl) (fun g => rfl) (fun g => rfl) (fun g v => rfl) (by show ((ms.take av).flatMap flH.c).length = av * 7; rw [flat_len flH.c_len, List.length_take, Nat.min_eq_left hav]) (fun W hb => news_take (HHY.out.inn hb) av) (oneK _) (by show av ≤ 1048576; omega) (by show (0 + av) * 80 ≤ 140737488355328; omega) ⟨⟨0, .data⟩, by simp, rfl, rfl⟩, ?_⟩
                  refine ⟨ta.quiet (by decide) (by simp) (.int .i64 t) (by rintro s _ ⟨⟩; exact dk.sets_on _ (by simp) _ rfl) (fun s W hW => by simp [execOp, go_sem, Act.eval, dk.sets_get, ws, List.lookup]), ?_⟩
                  refine ⟨ta.quiet (by decide) (by simp) (.int .i64 o) (by rintro s _ ⟨⟩; exact dk.sets_on _ (by simp) _ rfl) (fun s W hW => by simp [execOp, go_sem, Act.eval, dk.sets_get, ws, List.lookup]), ?_⟩
                  refine ⟨ta.quiet (by decide) (by simp) (.agg #[.int .i64 q, .string x, .string y, .string z, .bool ag]) (by rintro s _ ⟨⟩; exact dk.sets_on _ (by simp) _ rfl) (fun s W hW => by obtain ⟨d0, d1, d2, d3, d4⟩ := box5 (hW _ _ HMY.out (by show wr.heap.size ≠ w1.heap.size; omega)); simp [execOp, go_sem, Act.eval, dk.sets_get, ws, List.lookup, d0, d1, d2, d3, d4]), ?_⟩
                  refine ⟨ta.quiet (by decide) (by simp) (.agg #[.int .i64 t, .int .i64 o, .int .i64 q, .string x, .string y, .string z, .bool ag]) (by rintro s _ ⟨⟩; exact dk.sets_on _ (by simp) _ rfl) (fun s W hW => by simp [execOp, go_sem, Act.eval, dk.sets_get, ws, List.lookup]), ?_⟩
                  refine ⟨ta.st2 (x := J0) (d := 93) (idx := 10) J0_up (by simp) rfl (by simp) (fun g => rfl) (fun g => rfl) (fun g e => rfl) (fun s W => by simp [execOp, go_sem, Act.eval, dk.sets_get, ws, List.lookup]), ?_⟩
                  refine ⟨ta.st3 (x := J0) (d := 94) (s1 := 88) (s2 := 93) (idx := 11) J0_up Try.underlying25 ki kz0 kz1 kz2 rfl (by show 0 < 7; decide) rfl rfl ⟨by simp, by simp, by simp⟩ (fun g => rfl) (fun g => rfl) (fun g => rfl) (fun g => rfl) (fun g v => rfl) rfl (by intro u hu; simp at hu; rcases hu with rfl | rfl | rfl | rfl | rfl | rfl | rfl <;> rfl) (by show av ≤ 1048576; omega) (by show (av + 1) * 80 ≤ 140737488355328; omega) ⟨⟨5, .data⟩, by simp, rfl, rfl⟩ ⟨⟨10, .data⟩, by simp, rfl, rfl⟩, ?_⟩
                  refine ⟨ta.quiet (by decide) (by simp) (.pointer (some ⟨w.heap.size, 3, none⟩)) (by rintro s _ ⟨⟩; exact dk.sets_on _ (by simp) _ rfl) (fun s W hW => by simp [execOp, go_sem, Act.eval, dk.sets_get, ws, List.lookup]), ?_⟩
                  refine ⟨ta.quiet (by decide) (by simp) (.slice (some ⟨h, 0, none⟩) ms.length ch) (by rintro s _ ⟨⟩; exact dk.sets_on _ (by simp) _ rfl) (fun s W hW => by have c : W.cell? ⟨w.heap.size, 3, none⟩ = some (.slice (some ⟨h, 0, none⟩) ms.length ch) := bcell (hW _ _ HPY.out.box hn8) rfl; simp [execOp, go_sem, Act.eval, dk.sets_get, ws, List.lookup, c]), ?_⟩
                  refine ⟨ta.quiet (by decide) (by simp) (.int .i64 av) (by rintro s _ ⟨⟩; exact dk.sets_on _ (by simp) _ rfl) (fun s W hW => by simp [execOp, go_sem, Act.eval, dk.sets_get, ws, List.lookup]), ?_⟩
                  refine ⟨ta.quiet (by decide) (by simp) (.slice (some ⟨h, off av ch, none⟩) (ms.length - av) (ch - av)) (by rintro s _ ⟨⟩; exact dk.sets_on _ (by simp) _ rfl) (fun s W hW => match Nat.lt_or_ge av ch with | .inl hlt => (by have hne : ¬ av = ch := Nat.ne_of_lt hlt; have hne2 : ¬ ch = av := (fun e => hne e.symm); simp [execOp, go_sem, Act.eval, dk.sets_get, ws, List.lookup, off, hav, hne, hne2]) | .inr hge => (by have hee : av = ch := Nat.le_antisymm havc hge; have hem : ms.length = ch := Nat.le_antisymm hche (hee ▸ hav); simp [execOp, go_sem, Act.eval, dk.sets_get, ws, List.lookup, off, hee, hem])), ?_⟩
                  refine ⟨ta.st4 (x := J0) (d := 99) (s1 := 94) (s2 := 98) (idx := 16) (c := ch - av) (a := ⟨h, off av ch, none⟩) J0_up Try.underlying25 ki kz0 kz1 kz2 rfl (by show 0 < 7; decide) rfl rfl ⟨by simp, by simp, by simp⟩ (fun g => rfl) (fun g => rfl) (fun g => rfl) (fun g => rfl) (fun g v => rfl) (by show ((ms.drop av).flatMap flH.c).length = (ms.length - av) * 7; rw [flat_len flH.c_len, List.length_drop]) (fun W hb => news_drop (HHY.out.inn hb) av hav ch hche) (oneK _) (by show av ≤ 1048576 ∧ ms.length - av ≤ 1048576; omega) (by show (av + 1 + (ms.length - av)) * 80 ≤ 140737488355328; omega) ⟨⟨11, .data⟩, by simp, rfl, rfl⟩, ?_⟩
                  refine ⟨ta.quiet (by decide) (by simp) (.pointer (some ⟨w1.heap.size, 3, none⟩)) (by rintro s _ ⟨⟩; exact dk.sets_on _ (by simp) _ rfl) (fun s W hW => by simp [execOp, go_sem, Act.eval, dk.sets_get, ws, List.lookup]), ?_⟩
                  exact ⟨ta.st5 (x := J0) J0_up (by simp) rfl HPY.out.lt (fun s W hW hv => by obtain ⟨va, vn, vc, hv⟩ := hv; have hu := hW _ _ HPY.out.out; have c : W.cell? ⟨w1.heap.size, 3, none⟩ = some (.slice (some ⟨h1, 0, none⟩) ms.length c2) := bcell hu rfl; have f := bfree hu 3; rw [hv]; simp [execOp, go_sem, Act.eval, dk.sets_get, ws, List.lookup, c, f, hv]) ⟨⟨16, .data⟩, by simp, rfl, rfl⟩, trivial⟩
                case fin =>
                  intro gg L W hL hC
                  obtain ⟨V2, hV2, hWV, hown⟩ := ta.done hC J0_up (N := 19) (by decide) hL
                  replace hown : W.ownsRow Y.heap.size 55 7 gg.v3 (av + 1 + (ms.length - av)) ((ms.take av).flatMap flH.c ++ [.int .i64 t, .int .i64 o, .int .i64 q, .string x, .string y, .string z, .bool ag] ++ (ms.drop av).flatMap flH.c) := hown
                  have hlen : av + 1 + (ms.length - av) = AH.length := by rw [← HAH2.out]; simp; omega
                  have hfl : (ms.take av).flatMap flH.c ++ [.int .i64 t, .int .i64 o, .int .i64 q, .string x, .string y, .string z, .bool ag] ++ (ms.drop av).flatMap flH.c = AH.flatMap flH.c := by rw [← HAH2.out]; simp [flH.c]
                  rw [hfl, hlen] at hown
                  obtain ⟨h5, d5, hv3⟩ := form_pos hown (by rw [← hlen]; omega)
                  rw [hv3] at hown hWV
                  replace hV2 : Below Y.heap.size Y V2 := hV2
                  replace hWV : W = V2.setCell ⟨w1.heap.size, 3, none⟩ (.slice (some ⟨h5, 0, none⟩) AH.length d5) := hWV
                  have hpW : PX w sn nx es ms (some ⟨g, 0, none⟩) (some ⟨h, 0, none⟩) cg ch w1.heap.size (.slice (some ⟨g5, 0, none⟩) AR.length c5) (.slice (some ⟨h5, 0, none⟩) AH.length d5) W := by rw [hWV]; exact (HPY.out.on hV2).put3 _
                  have hoeW : W.ownsRow (w.heap.size + 3) 41 5 (.slice (some ⟨g5, 0, none⟩) AR.length c5) AR.length (AR.flatMap flM.c) := by rw [hWV]; exact owns_set (own_stay HOY.out hV2) (owns_ne (by decide) (own_stay HOY.out hV2) (HPY.out.on hV2).out) _
                  have hohW : W.ownsRow (w.heap.size + 3) 55 7 (.slice (some ⟨h5, 0, none⟩) AH.length d5) AH.length (AH.flatMap flH.c) := own_low hown (by have := HPY.out.lt; have := HPY.out.h8; omega)
                  have hMW : W.heap[wr.heap.size]? = some (.cells #[.int .i64 q, .string x, .string y, .string z, .bool ag] 41 (0, 0)) := by rw [hWV]; exact boff (bstay HMY.out hV2 (Array.getElem?_eq_some_iff.1 HMY.out).1) _ _ _ (by omega)
                  obtain ⟨d0, d1, d2, d3, d4⟩ := box5 hMW
                  have hmn1 : wr.heap.size ≠ w.heap.size + 1 := by omega
                  have hmn2 : wr.heap.size ≠ w.heap.size + 2 := by omega
                  have hmn3 : w.heap.size + 1 ≠ wr.heap.size := by omega
                  have hmn4 : w.heap.size + 2 ≠ wr.heap.size := by omega
                  simp only [dk.sets, ws, hv3]
                  have HPW : Hid (PX w sn nx es ms (some ⟨g, 0, none⟩) (some ⟨h, 0, none⟩) cg ch w1.heap.size (.slice (some ⟨g5, 0, none⟩) AR.length c5) (.slice (some ⟨h5, 0, none⟩) AH.length d5) W) := hpW
                  have HOEW : Hid (W.ownsRow (w.heap.size + 3) 41 5 (.slice (some ⟨g5, 0, none⟩) AR.length c5) AR.length (AR.flatMap flM.c)) := hoeW
                  have HOHW : Hid (W.ownsRow (w.heap.size + 3) 55 7 (.slice (some ⟨h5, 0, none⟩) AH.length d5) AH.length (AH.flatMap flH.c)) := hohW
                  clear hC hL hV2 hWV hown hlen hfl hv3 hpW hoeW hohW hMW
                  have hp9 := HPW.out
                  have z0 : W.cell? ⟨w.heap.size + 1, 0, none⟩ = some (.string ⟨#[]⟩) := bcell hp9.res rfl
                  have z1 : W.cell? ⟨w.heap.size + 1, 1, none⟩ = some (.int .i64 0) := bcell hp9.res rfl
                  have z2 : W.cell? ⟨w.heap.size + 1, 2, none⟩ = some (.slice none 0 0) := bcell hp9.res rfl
                  have z3 : W.cell? ⟨w.heap.size + 1, 3, none⟩ = some (.slice none 0 0) := bcell hp9.res rfl
                  have y0 : W.cell? ⟨w.heap.size + 2, 0, none⟩ = some (.int .i64 0) := bcell hp9.rem rfl
                  have y1 : W.cell? ⟨w.heap.size + 2, 1, none⟩ = some (.string ⟨#[]⟩) := bcell hp9.rem rfl
                  have y2 : W.cell? ⟨w.heap.size + 2, 2, none⟩ = some (.string ⟨#[]⟩) := bcell hp9.rem rfl
                  have y3 : W.cell? ⟨w.heap.size + 2, 3, none⟩ = some (.string ⟨#[]⟩) := bcell hp9.rem rfl
                  have y4 : W.cell? ⟨w.heap.size + 2, 4, none⟩ = some (.bool false) := bcell hp9.rem rfl
                  have f0 := bfree hp9.res 0
                  have f1 := bfree hp9.res 1
                  have f2 := bfree hp9.res 2
                  have f3 := bfree hp9.res 3
                  have e0 := bfree hp9.rem 0
                  have e1 := bfree hp9.rem 1
                  have e2 := bfree hp9.rem 2
                  have e3 := bfree hp9.rem 3
                  have e4 := bfree hp9.rem 4
                  have n0 : W.cell? ⟨w1.heap.size, 0, none⟩ = some (.string sn) := bcell hp9.out rfl
                  have n1 : W.cell? ⟨w1.heap.size, 1, none⟩ = some (.int .i64 nx) := bcell hp9.out rfl
                  have n2 : W.cell? ⟨w1.heap.size, 2, none⟩ = some (.slice (some ⟨g5, 0, none⟩) AR.length c5) := bcell hp9.out rfl
                  have n3 : W.cell? ⟨w1.heap.size, 3, none⟩ = some (.slice (some ⟨h5, 0, none⟩) AH.length d5) := bcell hp9.out rfl
                  have hne1 : w1.heap.size ≠ w.heap.size + 1 := by have := hp9.h8; omega
                  have hne2 : w1.heap.size ≠ w.heap.size + 2 := by have := hp9.h8; omega
                  have hne3 : w.heap.size + 1 ≠ w1.heap.size := by have := hp9.h8; omega
                  have hne4 : w.heap.size + 2 ≠ w1.heap.size := by have := hp9.h8; omega
                  have HFN : Hid (W.ownsRow (w.heap.size + 3) 41 5 (.slice (some ⟨g5, 0, none⟩) AR.length c5) AR.length (AR.flatMap flM.c) ∧ W.ownsRow (w.heap.size + 3) 55 7 (.slice (some ⟨h5, 0, none⟩) AH.length d5) AH.length (AH.flatMap flH.c) ∧ Below w.heap.size w W) := ⟨HOEW.out, HOHW.out, hp9.bel⟩
                  clear hp9
                  go_wp2
                  go_region_with (fail)
                  all_goals go_wp2
                  all_goals
                    refine bodyPost_ret (v := .tuple #[.agg #[.string sn, .int .i64 nx, .slice (some ⟨g5, 0, none⟩) AR.length c5, .slice (some ⟨h5, 0, none⟩) AH.length d5], .agg #[.int .i64 q, .string x, .string y, .string z, .bool ag], .bool true]) (by simp [results, Try.results18, go_sem, z0, z1, z2, z3, y0, y1, y2, y3, y4]) rfl ⟨_, _, _, _, rfl, ?_, ?_, ?_⟩
                    · exact own_low (own_stay (own9 HFN.out.1 (by omega) (by omega)) (Below.drew (Below.refl _ _))) (by omega)
                    · exact .inr ⟨_, rfl, own_low (own_stay (own9 HFN.out.2.1 (by omega) (by omega)) (Below.drew (Below.refl _ _))) (by omega)⟩
                    · exact Below.drew (s9.bel HFN.out.2.2 (by omega) (by omega))
              · have HTL : Hid (es.tail.length = es.length - 1) := by show es.tail.length = es.length - 1; rw [List.length_tail]
                have NEWS : Hid (∀ (j : Nat) (u : Value), (es.tail.flatMap flM.c)[j]? = some u → V.cell? ((⟨g, 5, none⟩ : Addr).add j) = some u) := newsT HRV.out HH0.out.2.2
                go_wp2_with (at_builtin; refine wpList_append_own _ rfl _ _ 24 rfl (w.heap.size + 3) 41 i0 (.agg #[.int .i64 0, .string ByteArray.empty, .string ByteArray.empty, .string ByteArray.empty, .bool false]) 5 64 Try.underlying24 hi hz0 hz1 hz2 rfl (by decide) _ 0 [] rfl (by exact HOV.out) ⟨g, 5, none⟩ (es.length - 1) (cg - 1) (es.tail.flatMap flM.c) rfl (by rw [flat_len flM.c_len, HTL.out]) (by exact NEWS.out) (oneY _) (by unfold maxLen; omega) (by omega) (by omega) ?_)
                intro v1 wA hown1 hgrow1 hnil1
                obtain ⟨g5, c5, rfl, hg5, hg5l⟩ := form hown1 (fun e => by first | exact hnil1 e | (have := hnil1.1 e; cases this.1))
                have hgr1 : V.grownBy wA (some (wr.heap.size + 1)) := hgrow1
                have hpA := HPV.out.grown hgr1 (by have := (HPX.out.on hBr.out).lt; omega)
                have hownA : wA.ownsRow (w.heap.size + 3) 41 5 (.slice (some ⟨g5, 0, none⟩) AR.length c5) AR.length (AR.flatMap flM.c) := by rw [← HTA.out, HTL.out]; first | exact hown1 | simpa using hown1
                have HMA : Hid (wA.heap[wr.heap.size]? = some (.cells #[.int .i64 q, .string x, .string y, .string z, .bool ag] 41 (0, 0))) := grown_at hgr1 HMB.out (by simp)
                have u2 : wA.cell? ⟨w1.heap.size, 2, none⟩ = some (.slice (some ⟨g1, 0, none⟩) es.length c1) := bcell hpA.out rfl
                have u2f := bfree hpA.out 2
                have HPA : Hid (PX w sn nx es ms (some ⟨g, 0, none⟩) (some ⟨h, 0, none⟩) cg ch w1.heap.size (.slice (some ⟨g1, 0, none⟩) es.length c1) (.slice (some ⟨h1, 0, none⟩) ms.length c2) wA) := hpA
                have HOA : Hid (wA.ownsRow (w.heap.size + 3) 41 5 (.slice (some ⟨g5, 0, none⟩) AR.length c5) AR.length (AR.flatMap flM.c)) := hownA
                have hw1r : w1.heap.size < wr.heap.size := (HPX.out.on hBr.out).lt
                clear hown1 hgrow1 hnil1 hpA hownA hgr1 v2 hal hV
                go_wp2
                have hpY : PX w sn nx es ms (some ⟨g, 0, none⟩) (some ⟨h, 0, none⟩) cg ch w1.heap.size (.slice (some ⟨g5, 0, none⟩) AR.length c5) (.slice (some ⟨h1, 0, none⟩) ms.length c2) (wA.setCell ⟨w1.heap.size, 2, none⟩ (.slice (some ⟨g5, 0, none⟩) (es.length - 1) c5)) := by rw [← HTA.out, HTL.out]; exact HPA.out.put2 _
                have hoY : (wA.setCell ⟨w1.heap.size, 2, none⟩ (.slice (some ⟨g5, 0, none⟩) (es.length - 1) c5)).ownsRow (w.heap.size + 3) 41 5 (.slice (some ⟨g5, 0, none⟩) AR.length c5) AR.length (AR.flatMap flM.c) := owns_set HOA.out (owns_ne (by decide) HOA.out HPA.out.out) _
                have hMY : (wA.setCell ⟨w1.heap.size, 2, none⟩ (.slice (some ⟨g5, 0, none⟩) (es.length - 1) c5)).heap[wr.heap.size]? = some (.cells #[.int .i64 q, .string x, .string y, .string z, .bool ag] 41 (0, 0)) := boff HMA.out _ _ _ (by omega)
                obtain ⟨Y, hYY⟩ : ∃ Y, wA.setCell ⟨w1.heap.size, 2, none⟩ (.slice (some ⟨g5, 0, none⟩) (es.length - 1) c5) = Y := ⟨_, rfl⟩
                rw [hYY] at hpY hoY hMY ⊢
                have HPY : Hid (PX w sn nx es ms (some ⟨g, 0, none⟩) (some ⟨h, 0, none⟩) cg ch w1.heap.size (.slice (some ⟨g5, 0, none⟩) AR.length c5) (.slice (some ⟨h1, 0, none⟩) ms.length c2) Y) := hpY
                have HOY : Hid (Y.ownsRow (w.heap.size + 3) 41 5 (.slice (some ⟨g5, 0, none⟩) AR.length c5) AR.length (AR.flatMap flM.c)) := hoY
                have HMY : Hid (Y.heap[wr.heap.size]? = some (.cells #[.int .i64 q, .string x, .string y, .string z, .bool ag] 41 (0, 0))) := hMY
                have HHY : Hid (Row flH.c 7 Y Y.heap.size (some ⟨h, 0, none⟩) ms) := HE.out.inn hpY.bel
                have hn8 : w.heap.size ≠ w1.heap.size := by have := hpY.h8; omega
                obtain ⟨i1, ki, kz0, kz1, kz2⟩ := infoK
                clear hYY hpY hoY hMY HPA HOA HMA u2 u2f x0 x1 x2 x3 e0 e1 e2 e3 e4
                refine dk.region_gsets (ws w.heap.size ms.length ch h w1.heap.size av (off av ch) o t q x y z ag) [83, 84, 85, 86, 87, 88, 89, 90, 91, 92, 93, 94, 95, 96, 97, 98, 99, 100] (ta.C ⟨Y, 55, 7, (ms.take av).flatMap flH.c, [.int .i64 t, .int .i64 o, .int .i64 q, .string x, .string y, .string z, .bool ag], (ms.drop av).flatMap flH.c, av, ms.length - av, w1.heap.size, 3⟩ J0) ⟨0, .slice none 0 0, 0, .slice none 0 0, .slice none 0 0⟩ (by kernel_rfl) (by kernel_rfl) (fun _ => rfl) (by kernel_rfl) (ta.start _ _ _) ?each ?fin
                case each =>
                  refine ⟨ta.st0 (x := J0) (d := 83) (idx := 0) J0_up (by simp) rfl (by simp) (fun g => rfl) (fun g => rfl) (fun g e => rfl) (fun s W => by simp [execOp, go_sem]), ?_⟩
                  refine ⟨ta.quiet (by decide) (by simp) (.pointer (some ⟨w.heap.size, 3, none⟩)) (by rintro s _ ⟨⟩; exact dk.sets_on _ (by simp) _ rfl) (fun s W hW => by simp [execOp, go_sem, Act.eval, dk.sets_get, ws, List.lookup]), ?_⟩
                  refine ⟨ta.quiet (by decide) (by simp) (.slice (some ⟨h, 0, none⟩) ms.length ch) (by rintro s _ ⟨⟩; exact dk.sets_on _ (by simp) _ rfl) (fun s W hW => by have c : W.cell? ⟨w.heap.size, 3, none⟩ = some (.slice (some ⟨h, 0, none⟩) ms.length ch) := bcell (hW _ _ HPY.out.box hn8) rfl; simp [execOp, go_sem, Act.eval, dk.sets_get, ws, List.lookup, c]), ?_⟩
                  refine ⟨ta.quiet (by decide) (by simp) (.int .i64 av) (by rintro s _ ⟨⟩; exact dk.sets_on _ (by simp) _ rfl) (fun s W hW => by simp [execOp, go_sem, Act.eval, dk.sets_get, ws, List.lookup]), ?_⟩
                  refine ⟨ta.quiet (by decide) (by simp) (.slice (some ⟨h, 0, none⟩) av ch) (by rintro s _ ⟨⟩; exact dk.sets_on _ (by simp) _ rfl) (fun s W hW => by simp [execOp, go_sem, Act.eval, dk.sets_get, ws, List.lookup, havc]), ?_⟩
                  refine ⟨ta.st1 (x := J0) (d := 88) (s1 := 83) (s2 := 87) (idx := 5) (c := ch) (a := ⟨h, 0, none⟩) J0_up Try.underlying25 ki kz0 kz1 kz2 rfl (by show 0 < 7; decide) rfl rfl ⟨by simp, by simp, by simp⟩ (fun g => rfl) (fun g => rfl) (fun g => rfl) (fun g => rfl) (fun g v => rfl) (by show ((ms.take av).flatMap flH.c).length = av * 7; rw [flat_len flH.c_len, List.length_take, Nat.min_eq_left hav]) (fun W hb => news_take (HHY.out.inn hb) av) (oneK _) (by show av ≤ 1048576; omega) (by show (0 + av) * 80 ≤ 140737488355328; omega) ⟨⟨0, .data⟩, by simp, rfl, rfl⟩, ?_⟩
                  refine ⟨ta.quiet (by decide) (by simp) (.int .i64 t) (by rintro s _ ⟨⟩; exact dk.sets_on _ (by simp) _ rfl) (fun s W hW => by simp [execOp, go_sem, Act.eval, dk.sets_get, ws, List.lookup]), ?_⟩
                  refine ⟨ta.quiet (by decide) (by simp) (.int .i64 o) (by rintro s _ ⟨⟩; exact dk.sets_on _ (by simp) _ rfl) (fun s W hW => by simp [execOp, go_sem, Act.eval, dk.sets_get, ws, List.lookup]), ?_⟩
                  refine ⟨ta.quiet (by decide) (by simp) (.agg #[.int .i64 q, .string x, .string y, .string z, .bool ag]) (by rintro s _ ⟨⟩; exact dk.sets_on _ (by simp) _ rfl) (fun s W hW => by obtain ⟨d0, d1, d2, d3, d4⟩ := box5 (hW _ _ HMY.out (by show wr.heap.size ≠ w1.heap.size; omega)); simp [execOp, go_sem, Act.eval, dk.sets_get, ws, List.lookup, d0, d1, d2, d3, d4]), ?_⟩
                  refine ⟨ta.quiet (by decide) (by simp) (.agg #[.int .i64 t, .int .i64 o, .int .i64 q, .string x, .string y, .string z, .bool ag]) (by rintro s _ ⟨⟩; exact dk.sets_on _ (by simp) _ rfl) (fun s W hW => by simp [execOp, go_sem, Act.eval, dk.sets_get, ws, List.lookup]), ?_⟩
                  refine ⟨ta.st2 (x := J0) (d := 93) (idx := 10) J0_up (by simp) rfl (by simp) (fun g => rfl) (fun g => rfl) (fun g e => rfl) (fun s W => by simp [execOp, go_sem, Act.eval, dk.sets_get, ws, List.lookup]), ?_⟩
                  refine ⟨ta.st3 (x := J0) (d := 94) (s1 := 88) (s2 := 93) (idx := 11) J0_up Try.underlying25 ki kz0 kz1 kz2 rfl (by show 0 < 7; decide) rfl rfl ⟨by simp, by simp, by simp⟩ (fun g => rfl) (fun g => rfl) (fun g => rfl) (fun g => rfl) (fun g v => rfl) rfl (by intro u hu; simp at hu; rcases hu with rfl | rfl | rfl | rfl | rfl | rfl | rfl <;> rfl) (by show av ≤ 1048576; omega) (by show (av + 1) * 80 ≤ 140737488355328; omega) ⟨⟨5, .data⟩, by simp, rfl, rfl⟩ ⟨⟨10, .data⟩, by simp, rfl, rfl⟩, ?_⟩
                  refine ⟨ta.quiet (by decide) (by simp) (.pointer (some ⟨w.heap.size, 3, none⟩)) (by rintro s _ ⟨⟩; exact dk.sets_on _ (by simp) _ rfl) (fun s W hW => by simp [execOp, go_sem, Act.eval, dk.sets_get, ws, List.lookup]), ?_⟩
                  refine ⟨ta.quiet (by decide) (by simp) (.slice (some ⟨h, 0, none⟩) ms.length ch) (by rintro s _ ⟨⟩; exact dk.sets_on _ (by simp) _ rfl) (fun s W hW => by have c : W.cell? ⟨w.heap.size, 3, none⟩ = some (.slice (some ⟨h, 0, none⟩) ms.length ch) := bcell (hW _ _ HPY.out.box hn8) rfl; simp [execOp, go_sem, Act.eval, dk.sets_get, ws, List.lookup, c]), ?_⟩
                  refine ⟨ta.quiet (by decide) (by simp) (.int .i64 av) (by rintro s _ ⟨⟩; exact dk.sets_on _ (by simp) _ rfl) (fun s W hW => by simp [execOp, go_sem, Act.eval, dk.sets_get, ws, List.lookup]), ?_⟩
                  refine ⟨ta.quiet (by decide) (by simp) (.slice (some ⟨h, off av ch, none⟩) (ms.length - av) (ch - av)) (by rintro s _ ⟨⟩; exact dk.sets_on _ (by simp) _ rfl) (fun s W hW => match Nat.lt_or_ge av ch with | .inl hlt => (by have hne : ¬ av = ch := Nat.ne_of_lt hlt; have hne2 : ¬ ch = av := (fun e => hne e.symm); simp [execOp, go_sem, Act.eval, dk.sets_get, ws, List.lookup, off, hav, hne, hne2]) | .inr hge => (by have hee : av = ch := Nat.le_antisymm havc hge; have hem : ms.length = ch := Nat.le_antisymm hche (hee ▸ hav); simp [execOp, go_sem, Act.eval, dk.sets_get, ws, List.lookup, off, hee, hem])), ?_⟩
                  refine ⟨ta.st4 (x := J0) (d := 99) (s1 := 94) (s2 := 98) (idx := 16) (c := ch - av) (a := ⟨h, off av ch, none⟩) J0_up Try.underlying25 ki kz0 kz1 kz2 rfl (by show 0 < 7; decide) rfl rfl ⟨by simp, by simp, by simp⟩ (fun g => rfl) (fun g => rfl) (fun g => rfl) (fun g => rfl) (fun g v => rfl) (by show ((ms.drop av).flatMap flH.c).length = (ms.length - av) * 7; rw [flat_len flH.c_len, List.length_drop]) (fun W hb => news_drop (HHY.out.inn hb) av hav ch hche) (oneK _) (by show av ≤ 1048576 ∧ ms.length - av ≤ 1048576; omega) (by show (av + 1 + (ms.length - av)) * 80 ≤ 140737488355328; omega) ⟨⟨11, .data⟩, by simp, rfl, rfl⟩, ?_⟩
                  refine ⟨ta.quiet (by decide) (by simp) (.pointer (some ⟨w1.heap.size, 3, none⟩)) (by rintro s _ ⟨⟩; exact dk.sets_on _ (by simp) _ rfl) (fun s W hW => by simp [execOp, go_sem, Act.eval, dk.sets_get, ws, List.lookup]), ?_⟩
                  exact ⟨ta.st5 (x := J0) J0_up (by simp) rfl HPY.out.lt (fun s W hW hv => by obtain ⟨va, vn, vc, hv⟩ := hv; have hu := hW _ _ HPY.out.out; have c : W.cell? ⟨w1.heap.size, 3, none⟩ = some (.slice (some ⟨h1, 0, none⟩) ms.length c2) := bcell hu rfl; have f := bfree hu 3; rw [hv]; simp [execOp, go_sem, Act.eval, dk.sets_get, ws, List.lookup, c, f, hv]) ⟨⟨16, .data⟩, by simp, rfl, rfl⟩, trivial⟩
                case fin =>
                  intro gg L W hL hC
                  obtain ⟨V2, hV2, hWV, hown⟩ := ta.done hC J0_up (N := 19) (by decide) hL
                  replace hown : W.ownsRow Y.heap.size 55 7 gg.v3 (av + 1 + (ms.length - av)) ((ms.take av).flatMap flH.c ++ [.int .i64 t, .int .i64 o, .int .i64 q, .string x, .string y, .string z, .bool ag] ++ (ms.drop av).flatMap flH.c) := hown
                  have hlen : av + 1 + (ms.length - av) = AH.length := by rw [← HAH2.out]; simp; omega
                  have hfl : (ms.take av).flatMap flH.c ++ [.int .i64 t, .int .i64 o, .int .i64 q, .string x, .string y, .string z, .bool ag] ++ (ms.drop av).flatMap flH.c = AH.flatMap flH.c := by rw [← HAH2.out]; simp [flH.c]
                  rw [hfl, hlen] at hown
                  obtain ⟨h5, d5, hv3⟩ := form_pos hown (by rw [← hlen]; omega)
                  rw [hv3] at hown hWV
                  replace hV2 : Below Y.heap.size Y V2 := hV2
                  replace hWV : W = V2.setCell ⟨w1.heap.size, 3, none⟩ (.slice (some ⟨h5, 0, none⟩) AH.length d5) := hWV
                  have hpW : PX w sn nx es ms (some ⟨g, 0, none⟩) (some ⟨h, 0, none⟩) cg ch w1.heap.size (.slice (some ⟨g5, 0, none⟩) AR.length c5) (.slice (some ⟨h5, 0, none⟩) AH.length d5) W := by rw [hWV]; exact (HPY.out.on hV2).put3 _
                  have hoeW : W.ownsRow (w.heap.size + 3) 41 5 (.slice (some ⟨g5, 0, none⟩) AR.length c5) AR.length (AR.flatMap flM.c) := by rw [hWV]; exact owns_set (own_stay HOY.out hV2) (owns_ne (by decide) (own_stay HOY.out hV2) (HPY.out.on hV2).out) _
                  have hohW : W.ownsRow (w.heap.size + 3) 55 7 (.slice (some ⟨h5, 0, none⟩) AH.length d5) AH.length (AH.flatMap flH.c) := own_low hown (by have := HPY.out.lt; have := HPY.out.h8; omega)
                  have hMW : W.heap[wr.heap.size]? = some (.cells #[.int .i64 q, .string x, .string y, .string z, .bool ag] 41 (0, 0)) := by rw [hWV]; exact boff (bstay HMY.out hV2 (Array.getElem?_eq_some_iff.1 HMY.out).1) _ _ _ (by omega)
                  obtain ⟨d0, d1, d2, d3, d4⟩ := box5 hMW
                  have hmn1 : wr.heap.size ≠ w.heap.size + 1 := by omega
                  have hmn2 : wr.heap.size ≠ w.heap.size + 2 := by omega
                  have hmn3 : w.heap.size + 1 ≠ wr.heap.size := by omega
                  have hmn4 : w.heap.size + 2 ≠ wr.heap.size := by omega
                  simp only [dk.sets, ws, hv3]
                  have HPW : Hid (PX w sn nx es ms (some ⟨g, 0, none⟩) (some ⟨h, 0, none⟩) cg ch w1.heap.size (.slice (some ⟨g5, 0, none⟩) AR.length c5) (.slice (some ⟨h5, 0, none⟩) AH.length d5) W) := hpW
                  have HOEW : Hid (W.ownsRow (w.heap.size + 3) 41 5 (.slice (some ⟨g5, 0, none⟩) AR.length c5) AR.length (AR.flatMap flM.c)) := hoeW
                  have HOHW : Hid (W.ownsRow (w.heap.size + 3) 55 7 (.slice (some ⟨h5, 0, none⟩) AH.length d5) AH.length (AH.flatMap flH.c)) := hohW
                  clear hC hL hV2 hWV hown hlen hfl hv3 hpW hoeW hohW hMW
                  have hp9 := HPW.out
                  have z0 : W.cell? ⟨w.heap.size + 1, 0, none⟩ = some (.string ⟨#[]⟩) := bcell hp9.res rfl
                  have z1 : W.cell? ⟨w.heap.size + 1, 1, none⟩ = some (.int .i64 0) := bcell hp9.res rfl
                  have z2 : W.cell? ⟨w.heap.size + 1, 2, none⟩ = some (.slice none 0 0) := bcell hp9.res rfl
                  have z3 : W.cell? ⟨w.heap.size + 1, 3, none⟩ = some (.slice none 0 0) := bcell hp9.res rfl
                  have y0 : W.cell? ⟨w.heap.size + 2, 0, none⟩ = some (.int .i64 0) := bcell hp9.rem rfl
                  have y1 : W.cell? ⟨w.heap.size + 2, 1, none⟩ = some (.string ⟨#[]⟩) := bcell hp9.rem rfl
                  have y2 : W.cell? ⟨w.heap.size + 2, 2, none⟩ = some (.string ⟨#[]⟩) := bcell hp9.rem rfl
                  have y3 : W.cell? ⟨w.heap.size + 2, 3, none⟩ = some (.string ⟨#[]⟩) := bcell hp9.rem rfl
                  have y4 : W.cell? ⟨w.heap.size + 2, 4, none⟩ = some (.bool false) := bcell hp9.rem rfl
                  have f0 := bfree hp9.res 0
                  have f1 := bfree hp9.res 1
                  have f2 := bfree hp9.res 2
                  have f3 := bfree hp9.res 3
                  have e0 := bfree hp9.rem 0
                  have e1 := bfree hp9.rem 1
                  have e2 := bfree hp9.rem 2
                  have e3 := bfree hp9.rem 3
                  have e4 := bfree hp9.rem 4
                  have n0 : W.cell? ⟨w1.heap.size, 0, none⟩ = some (.string sn) := bcell hp9.out rfl
                  have n1 : W.cell? ⟨w1.heap.size, 1, none⟩ = some (.int .i64 nx) := bcell hp9.out rfl
                  have n2 : W.cell? ⟨w1.heap.size, 2, none⟩ = some (.slice (some ⟨g5, 0, none⟩) AR.length c5) := bcell hp9.out rfl
                  have n3 : W.cell? ⟨w1.heap.size, 3, none⟩ = some (.slice (some ⟨h5, 0, none⟩) AH.length d5) := bcell hp9.out rfl
                  have hne1 : w1.heap.size ≠ w.heap.size + 1 := by have := hp9.h8; omega
                  have hne2 : w1.heap.size ≠ w.heap.size + 2 := by have := hp9.h8; omega
                  have hne3 : w.heap.size + 1 ≠ w1.heap.size := by have := hp9.h8; omega
                  have hne4 : w.heap.size + 2 ≠ w1.heap.size := by have := hp9.h8; omega
                  have HFN : Hid (W.ownsRow (w.heap.size + 3) 41 5 (.slice (some ⟨g5, 0, none⟩) AR.length c5) AR.length (AR.flatMap flM.c) ∧ W.ownsRow (w.heap.size + 3) 55 7 (.slice (some ⟨h5, 0, none⟩) AH.length d5) AH.length (AH.flatMap flH.c) ∧ Below w.heap.size w W) := ⟨HOEW.out, HOHW.out, hp9.bel⟩
                  clear hp9
                  go_wp2
                  go_region_with (fail)
                  all_goals go_wp2
                  all_goals
                    refine bodyPost_ret (v := .tuple #[.agg #[.string sn, .int .i64 nx, .slice (some ⟨g5, 0, none⟩) AR.length c5, .slice (some ⟨h5, 0, none⟩) AH.length d5], .agg #[.int .i64 q, .string x, .string y, .string z, .bool ag], .bool true]) (by simp [results, Try.results18, go_sem, z0, z1, z2, z3, y0, y1, y2, y3, y4]) rfl ⟨_, _, _, _, rfl, ?_, ?_, ?_⟩
                    · exact own_low (own_stay (own9 HFN.out.1 (by omega) (by omega)) (Below.drew (Below.refl _ _))) (by omega)
                    · exact .inr ⟨_, rfl, own_low (own_stay (own9 HFN.out.2.1 (by omega) (by omega)) (Below.drew (Below.refl _ _))) (by omega)⟩
                    · exact Below.drew (s9.bel HFN.out.2.2 (by omega) (by omega))
set_option maxRecDepth 100000 in
set_option maxHeartbeats 4000000 in
theorem spec_popE (sn : ByteArray) (nx : Int) (es : List flM.Ms) (ms : List flH.Hd) (ga ha : Option Addr) (cg ch : Nat) (o t : Int) (w : World) (F : Fit sn es ms) (hGQ : NZ ga es.length cg) (hHQ : NZ ha ms.length ch) (hes0 : Hid (es = [])) (hY : Row flM.c 5 w w.heap.size ga es) (hE : Row flH.c 7 w w.heap.size ha ms) :
    Calls Try.prog 18 #[.agg #[.string sn, .int .i64 nx, .slice ga es.length cg, .slice ha ms.length ch], .int .i64 o, .int .i64 t] w fun e w' => SA w sn nx (qpp.ansR sn nx es ms o t) (qpp.ansH sn nx es ms o t) (qpp.ansM sn nx es ms o t) (qpp.good sn nx es ms o t) e w' := by
  have hWb : Below w.heap.size w (((w.alloc (.cells #[.string sn, .int .i64 nx, .slice ga es.length cg, .slice ha ms.length ch] 27)).alloc (.cells #[.string ⟨#[]⟩, .int .i64 0, .slice none 0 0, .slice none 0 0] 27)).alloc (.cells #[.int .i64 0, .string ⟨#[]⟩, .string ⟨#[]⟩, .string ⟨#[]⟩, .bool false] 41)) := (((Below.refl _ _).alloc (Nat.le_refl _) _).alloc (by simp) _).alloc (by simp; omega) _
  have hcopy := spec_copy sn nx es ms ga ha cg ch (((w.alloc (.cells #[.string sn, .int .i64 nx, .slice ga es.length cg, .slice ha ms.length ch] 27)).alloc (.cells #[.string ⟨#[]⟩, .int .i64 0, .slice none 0 0, .slice none 0 0] 27)).alloc (.cells #[.int .i64 0, .string ⟨#[]⟩, .string ⟨#[]⟩, .string ⟨#[]⟩, .bool false] 41)) F hGQ hHQ (hY.inn hWb) (hE.inn hWb)
  have HF : Hid (Fit sn es ms) := F
  have hml := HF.out.ml
  have hel0 := HF.out.el
  have HY : Hid (Row flM.c 5 w w.heap.size ga es) := hY
  have HE : Hid (Row flH.c 7 w w.heap.size ha ms) := hE
  have HAR : Hid (qpp.ansR sn nx es ms o t = if qpp.good sn nx es ms o t = true then es.tail else es) := rfl
  have HAH : Hid (qpp.ansH sn nx es ms o t = if qpp.good sn nx es ms o t = true then ms.take (qpp.atO o ms ms.length) ++ ⟨t, o, qpp.headM es⟩ :: ms.drop (qpp.atO o ms ms.length) else ms) := rfl
  have HAM : Hid (qpp.ansM sn nx es ms o t = if qpp.good sn nx es ms o t = true then qpp.headM es else qpp.headM []) := rfl
  have HGD : Hid (qpp.good sn nx es ms o t = (okB sn nx es ms && qpp.hand o t && !es.isEmpty && !ms.any (qpp.late o t))) := rfl
  obtain ⟨AR, hAR⟩ : ∃ y, qpp.ansR sn nx es ms o t = y := ⟨_, rfl⟩
  obtain ⟨AH, hAH⟩ : ∃ y, qpp.ansH sn nx es ms o t = y := ⟨_, rfl⟩
  obtain ⟨AM, hAM⟩ : ∃ y, qpp.ansM sn nx es ms o t = y := ⟨_, rfl⟩
  obtain ⟨GD, hGD⟩ : ∃ y, qpp.good sn nx es ms o t = y := ⟨_, rfl⟩
  rw [hAR, hGD] at HAR
  rw [hAH, hGD] at HAH
  rw [hAM, hGD] at HAM
  rw [hGD] at HGD
  have HGD : Hid ((okB sn nx es ms && (decide (0 ≤ o ∧ o ≤ 1000) && decide (1 ≤ t ∧ t ≤ 1000000000)) && !es.isEmpty && !ms.any (qpp.late o t)) = GD) := HGD.out.symm
  simp only [hAR, hAH, hAM, hGD]
  clear hY hE F hAR hAH hAM hGD
  go_enter Try.func18, Try.ntmps18
  go_wp2_with (go_at_call 26; fail)
  refine hcopy.mono ?_
  rintro e w1 ⟨g1, c1, h1, c2, rfl, oe1, om1, _, hb1⟩
  obtain ⟨hp, ho1, ho2⟩ := first_px sn nx es ms ga ha cg ch w w1 g1 c1 h1 c2 hb1 oe1 om1
  obtain ⟨X, hX⟩ : ∃ X, w1.alloc (.cells #[.string sn, .int .i64 nx, (.slice (some ⟨g1, 0, none⟩) es.length c1), (.slice (some ⟨h1, 0, none⟩) ms.length c2)] 27) = X := ⟨_, rfl⟩
  rw [hX] at hp ho1 ho2
  have HPX : Hid (PX w sn nx es ms ga ha cg ch w1.heap.size (.slice (some ⟨g1, 0, none⟩) es.length c1) (.slice (some ⟨h1, 0, none⟩) ms.length c2) X) := hp
  have HOE : Hid (X.ownsRow (w.heap.size + 3) 41 5 (.slice (some ⟨g1, 0, none⟩) es.length c1) es.length (es.flatMap flM.c)) := ho1
  have HOH : Hid (X.ownsRow (w.heap.size + 3) 55 7 (.slice (some ⟨h1, 0, none⟩) ms.length c2) ms.length (ms.flatMap flH.c)) := ho2
  have x0 : X.cell? ⟨w.heap.size, 0, none⟩ = some (.string sn) := bcell hp.box rfl
  have x1 : X.cell? ⟨w.heap.size, 1, none⟩ = some (.int .i64 nx) := bcell hp.box rfl
  have x2 : X.cell? ⟨w.heap.size, 2, none⟩ = some (.slice ga es.length cg) := bcell hp.box rfl
  have x3 : X.cell? ⟨w.heap.size, 3, none⟩ = some (.slice ha ms.length ch) := bcell hp.box rfl
  have hok := spec_okb sn nx es ms ga ha cg ch X HF.out (HY.out.inn hp.bel) (HE.out.inn hp.bel)
  clear hcopy oe1 om1 hb1 hWb hp ho1 ho2
  obtain ⟨ob, hob⟩ : ∃ ob, okB sn nx es ms = ob := ⟨_, rfl⟩
  rw [hob] at hok HGD
  go_wp2_with (go_at_call 12; fail)
  clear hX x0 x1 x2 x3
  refine hok.mono ?_
  rintro e w2 ⟨rfl, hb2⟩
  clear hok
  cases ob with
  | false =>
    obtain rfl : GD = false := by rw [← HGD.out]; exact rfl
    obtain rfl : es = AR := HAR.out.symm
    obtain rfl : ms = AH := HAH.out.symm
    obtain rfl : qpp.headM [] = AM := HAM.out.symm
    clear HAR HAH HAM HGD
    have hp9 := HPX.out.on hb2
    have z0 : w2.cell? ⟨w.heap.size + 1, 0, none⟩ = some (.string ⟨#[]⟩) := bcell hp9.res rfl
    have z1 : w2.cell? ⟨w.heap.size + 1, 1, none⟩ = some (.int .i64 0) := bcell hp9.res rfl
    have z2 : w2.cell? ⟨w.heap.size + 1, 2, none⟩ = some (.slice none 0 0) := bcell hp9.res rfl
    have z3 : w2.cell? ⟨w.heap.size + 1, 3, none⟩ = some (.slice none 0 0) := bcell hp9.res rfl
    have y0 : w2.cell? ⟨w.heap.size + 2, 0, none⟩ = some (.int .i64 0) := bcell hp9.rem rfl
    have y1 : w2.cell? ⟨w.heap.size + 2, 1, none⟩ = some (.string ⟨#[]⟩) := bcell hp9.rem rfl
    have y2 : w2.cell? ⟨w.heap.size + 2, 2, none⟩ = some (.string ⟨#[]⟩) := bcell hp9.rem rfl
    have y3 : w2.cell? ⟨w.heap.size + 2, 3, none⟩ = some (.string ⟨#[]⟩) := bcell hp9.rem rfl
    have y4 : w2.cell? ⟨w.heap.size + 2, 4, none⟩ = some (.bool false) := bcell hp9.rem rfl
    have f0 := bfree hp9.res 0
    have f1 := bfree hp9.res 1
    have f2 := bfree hp9.res 2
    have f3 := bfree hp9.res 3
    have e0 := bfree hp9.rem 0
    have e1 := bfree hp9.rem 1
    have e2 := bfree hp9.rem 2
    have e3 := bfree hp9.rem 3
    have e4 := bfree hp9.rem 4
    have n0 : w2.cell? ⟨w1.heap.size, 0, none⟩ = some (.string sn) := bcell hp9.out rfl
    have n1 : w2.cell? ⟨w1.heap.size, 1, none⟩ = some (.int .i64 nx) := bcell hp9.out rfl
    have n2 : w2.cell? ⟨w1.heap.size, 2, none⟩ = some (.slice (some ⟨g1, 0, none⟩) es.length c1) := bcell hp9.out rfl
    have n3 : w2.cell? ⟨w1.heap.size, 3, none⟩ = some (.slice (some ⟨h1, 0, none⟩) ms.length c2) := bcell hp9.out rfl
    have hne1 : w1.heap.size ≠ w.heap.size + 1 := by have := hp9.h8; omega
    have hne2 : w1.heap.size ≠ w.heap.size + 2 := by have := hp9.h8; omega
    have hne3 : w.heap.size + 1 ≠ w1.heap.size := by have := hp9.h8; omega
    have hne4 : w.heap.size + 2 ≠ w1.heap.size := by have := hp9.h8; omega
    have HFN : Hid (w2.ownsRow (w.heap.size + 3) 41 5 (.slice (some ⟨g1, 0, none⟩) es.length c1) es.length (es.flatMap flM.c) ∧ w2.ownsRow (w.heap.size + 3) 55 7 (.slice (some ⟨h1, 0, none⟩) ms.length c2) ms.length (ms.flatMap flH.c) ∧ Below w.heap.size w w2) := ⟨own_stay HOE.out hb2, own_stay HOH.out hb2, hp9.bel⟩
    clear hp9
    go_wp2
    refine bodyPost_ret (v := .tuple #[.agg #[.string sn, .int .i64 nx, .slice (some ⟨g1, 0, none⟩) es.length c1, .slice (some ⟨h1, 0, none⟩) ms.length c2], .agg #[.int .i64 0, .string ⟨#[]⟩, .string ⟨#[]⟩, .string ⟨#[]⟩, .bool false], .bool false]) (by simp [results, Try.results18, go_sem, z0, z1, z2, z3, y0, y1, y2, y3, y4]) rfl ⟨_, _, _, _, rfl, ?_, ?_, ?_⟩
    · exact own_low (own9 HFN.out.1 (by omega) (by omega)) (by omega)
    · exact .inr ⟨_, rfl, own_low (own9 HFN.out.2.1 (by omega) (by omega)) (by omega)⟩
    · exact (s9.bel HFN.out.2.2 (by omega) (by omega))
  | true =>
    obtain ⟨d1, hd1⟩ : ∃ d, decide (0 ≤ o ∧ o ≤ 1000) = d := ⟨_, rfl⟩
    obtain ⟨d2, hd2⟩ : ∃ d, decide (1 ≤ t ∧ t ≤ 1000000000) = d := ⟨_, rfl⟩
    have k1 := qhd.within o 0 1000 w2
    have k2 := qhd.within t 1 1000000000 w2
    rw [hd1] at k1 HGD
    rw [hd2] at k2 HGD
    clear hd1 hd2
    go_wp2_with (go_at_call 40; fail)
    refine k1.mono ?_
    rintro e wh ⟨rfl, hwh⟩
    obtain rfl := hwh
    clear k1
    cases d1 with
    | false =>
      obtain rfl : GD = false := by rw [← HGD.out]; exact rfl
      obtain rfl : es = AR := HAR.out.symm
      obtain rfl : ms = AH := HAH.out.symm
      obtain rfl : qpp.headM [] = AM := HAM.out.symm
      clear HAR HAH HAM HGD
      have hp9 := HPX.out.on hb2
      have z0 : w2.cell? ⟨w.heap.size + 1, 0, none⟩ = some (.string ⟨#[]⟩) := bcell hp9.res rfl
      have z1 : w2.cell? ⟨w.heap.size + 1, 1, none⟩ = some (.int .i64 0) := bcell hp9.res rfl
      have z2 : w2.cell? ⟨w.heap.size + 1, 2, none⟩ = some (.slice none 0 0) := bcell hp9.res rfl
      have z3 : w2.cell? ⟨w.heap.size + 1, 3, none⟩ = some (.slice none 0 0) := bcell hp9.res rfl
      have y0 : w2.cell? ⟨w.heap.size + 2, 0, none⟩ = some (.int .i64 0) := bcell hp9.rem rfl
      have y1 : w2.cell? ⟨w.heap.size + 2, 1, none⟩ = some (.string ⟨#[]⟩) := bcell hp9.rem rfl
      have y2 : w2.cell? ⟨w.heap.size + 2, 2, none⟩ = some (.string ⟨#[]⟩) := bcell hp9.rem rfl
      have y3 : w2.cell? ⟨w.heap.size + 2, 3, none⟩ = some (.string ⟨#[]⟩) := bcell hp9.rem rfl
      have y4 : w2.cell? ⟨w.heap.size + 2, 4, none⟩ = some (.bool false) := bcell hp9.rem rfl
      have f0 := bfree hp9.res 0
      have f1 := bfree hp9.res 1
      have f2 := bfree hp9.res 2
      have f3 := bfree hp9.res 3
      have e0 := bfree hp9.rem 0
      have e1 := bfree hp9.rem 1
      have e2 := bfree hp9.rem 2
      have e3 := bfree hp9.rem 3
      have e4 := bfree hp9.rem 4
      have n0 : w2.cell? ⟨w1.heap.size, 0, none⟩ = some (.string sn) := bcell hp9.out rfl
      have n1 : w2.cell? ⟨w1.heap.size, 1, none⟩ = some (.int .i64 nx) := bcell hp9.out rfl
      have n2 : w2.cell? ⟨w1.heap.size, 2, none⟩ = some (.slice (some ⟨g1, 0, none⟩) es.length c1) := bcell hp9.out rfl
      have n3 : w2.cell? ⟨w1.heap.size, 3, none⟩ = some (.slice (some ⟨h1, 0, none⟩) ms.length c2) := bcell hp9.out rfl
      have hne1 : w1.heap.size ≠ w.heap.size + 1 := by have := hp9.h8; omega
      have hne2 : w1.heap.size ≠ w.heap.size + 2 := by have := hp9.h8; omega
      have hne3 : w.heap.size + 1 ≠ w1.heap.size := by have := hp9.h8; omega
      have hne4 : w.heap.size + 2 ≠ w1.heap.size := by have := hp9.h8; omega
      have HFN : Hid (w2.ownsRow (w.heap.size + 3) 41 5 (.slice (some ⟨g1, 0, none⟩) es.length c1) es.length (es.flatMap flM.c) ∧ w2.ownsRow (w.heap.size + 3) 55 7 (.slice (some ⟨h1, 0, none⟩) ms.length c2) ms.length (ms.flatMap flH.c) ∧ Below w.heap.size w w2) := ⟨own_stay HOE.out hb2, own_stay HOH.out hb2, hp9.bel⟩
      clear hp9
      go_wp2
      refine bodyPost_ret (v := .tuple #[.agg #[.string sn, .int .i64 nx, .slice (some ⟨g1, 0, none⟩) es.length c1, .slice (some ⟨h1, 0, none⟩) ms.length c2], .agg #[.int .i64 0, .string ⟨#[]⟩, .string ⟨#[]⟩, .string ⟨#[]⟩, .bool false], .bool false]) (by simp [results, Try.results18, go_sem, z0, z1, z2, z3, y0, y1, y2, y3, y4]) rfl ⟨_, _, _, _, rfl, ?_, ?_, ?_⟩
      · exact own_low (own9 HFN.out.1 (by omega) (by omega)) (by omega)
      · exact .inr ⟨_, rfl, own_low (own9 HFN.out.2.1 (by omega) (by omega)) (by omega)⟩
      · exact (s9.bel HFN.out.2.2 (by omega) (by omega))
    | true =>
      go_wp2_with (go_at_call 40; fail)
      refine k2.mono ?_
      rintro e wh ⟨rfl, hwh⟩
      obtain rfl := hwh
      clear k2
      cases d2 with
      | false =>
        obtain rfl : GD = false := by rw [← HGD.out]; exact rfl
        obtain rfl : es = AR := HAR.out.symm
        obtain rfl : ms = AH := HAH.out.symm
        obtain rfl : qpp.headM [] = AM := HAM.out.symm
        clear HAR HAH HAM HGD
        have hp9 := HPX.out.on hb2
        have z0 : w2.cell? ⟨w.heap.size + 1, 0, none⟩ = some (.string ⟨#[]⟩) := bcell hp9.res rfl
        have z1 : w2.cell? ⟨w.heap.size + 1, 1, none⟩ = some (.int .i64 0) := bcell hp9.res rfl
        have z2 : w2.cell? ⟨w.heap.size + 1, 2, none⟩ = some (.slice none 0 0) := bcell hp9.res rfl
        have z3 : w2.cell? ⟨w.heap.size + 1, 3, none⟩ = some (.slice none 0 0) := bcell hp9.res rfl
        have y0 : w2.cell? ⟨w.heap.size + 2, 0, none⟩ = some (.int .i64 0) := bcell hp9.rem rfl
        have y1 : w2.cell? ⟨w.heap.size + 2, 1, none⟩ = some (.string ⟨#[]⟩) := bcell hp9.rem rfl
        have y2 : w2.cell? ⟨w.heap.size + 2, 2, none⟩ = some (.string ⟨#[]⟩) := bcell hp9.rem rfl
        have y3 : w2.cell? ⟨w.heap.size + 2, 3, none⟩ = some (.string ⟨#[]⟩) := bcell hp9.rem rfl
        have y4 : w2.cell? ⟨w.heap.size + 2, 4, none⟩ = some (.bool false) := bcell hp9.rem rfl
        have f0 := bfree hp9.res 0
        have f1 := bfree hp9.res 1
        have f2 := bfree hp9.res 2
        have f3 := bfree hp9.res 3
        have e0 := bfree hp9.rem 0
        have e1 := bfree hp9.rem 1
        have e2 := bfree hp9.rem 2
        have e3 := bfree hp9.rem 3
        have e4 := bfree hp9.rem 4
        have n0 : w2.cell? ⟨w1.heap.size, 0, none⟩ = some (.string sn) := bcell hp9.out rfl
        have n1 : w2.cell? ⟨w1.heap.size, 1, none⟩ = some (.int .i64 nx) := bcell hp9.out rfl
        have n2 : w2.cell? ⟨w1.heap.size, 2, none⟩ = some (.slice (some ⟨g1, 0, none⟩) es.length c1) := bcell hp9.out rfl
        have n3 : w2.cell? ⟨w1.heap.size, 3, none⟩ = some (.slice (some ⟨h1, 0, none⟩) ms.length c2) := bcell hp9.out rfl
        have hne1 : w1.heap.size ≠ w.heap.size + 1 := by have := hp9.h8; omega
        have hne2 : w1.heap.size ≠ w.heap.size + 2 := by have := hp9.h8; omega
        have hne3 : w.heap.size + 1 ≠ w1.heap.size := by have := hp9.h8; omega
        have hne4 : w.heap.size + 2 ≠ w1.heap.size := by have := hp9.h8; omega
        have HFN : Hid (w2.ownsRow (w.heap.size + 3) 41 5 (.slice (some ⟨g1, 0, none⟩) es.length c1) es.length (es.flatMap flM.c) ∧ w2.ownsRow (w.heap.size + 3) 55 7 (.slice (some ⟨h1, 0, none⟩) ms.length c2) ms.length (ms.flatMap flH.c) ∧ Below w.heap.size w w2) := ⟨own_stay HOE.out hb2, own_stay HOH.out hb2, hp9.bel⟩
        clear hp9
        go_wp2
        refine bodyPost_ret (v := .tuple #[.agg #[.string sn, .int .i64 nx, .slice (some ⟨g1, 0, none⟩) es.length c1, .slice (some ⟨h1, 0, none⟩) ms.length c2], .agg #[.int .i64 0, .string ⟨#[]⟩, .string ⟨#[]⟩, .string ⟨#[]⟩, .bool false], .bool false]) (by simp [results, Try.results18, go_sem, z0, z1, z2, z3, y0, y1, y2, y3, y4]) rfl ⟨_, _, _, _, rfl, ?_, ?_, ?_⟩
        · exact own_low (own9 HFN.out.1 (by omega) (by omega)) (by omega)
        · exact .inr ⟨_, rfl, own_low (own9 HFN.out.2.1 (by omega) (by omega)) (by omega)⟩
        · exact (s9.bel HFN.out.2.2 (by omega) (by omega))
      | true =>
        have hp2 := HPX.out.on hb2
        have x0 : w2.cell? ⟨w.heap.size, 0, none⟩ = some (.string sn) := bcell hp2.box rfl
        have x1 : w2.cell? ⟨w.heap.size, 1, none⟩ = some (.int .i64 nx) := bcell hp2.box rfl
        have x2 : w2.cell? ⟨w.heap.size, 2, none⟩ = some (.slice ga es.length cg) := bcell hp2.box rfl
        have x3 : w2.cell? ⟨w.heap.size, 3, none⟩ = some (.slice ha ms.length ch) := bcell hp2.box rfl
        clear hp2
        by_cases hes : es = []
        · have hl0 : ((es.length : Int) == 0) = true := by simp [hes]
          have hie : es.isEmpty = true := by simp [hes]
          clear hes
          obtain rfl : GD = false := by rw [← HGD.out]; exact (by rw [hie]; rfl)
          obtain rfl : es = AR := HAR.out.symm
          obtain rfl : ms = AH := HAH.out.symm
          obtain rfl : qpp.headM [] = AM := HAM.out.symm
          clear HAR HAH HAM HGD
          have hp9 := HPX.out.on hb2
          have z0 : w2.cell? ⟨w.heap.size + 1, 0, none⟩ = some (.string ⟨#[]⟩) := bcell hp9.res rfl
          have z1 : w2.cell? ⟨w.heap.size + 1, 1, none⟩ = some (.int .i64 0) := bcell hp9.res rfl
          have z2 : w2.cell? ⟨w.heap.size + 1, 2, none⟩ = some (.slice none 0 0) := bcell hp9.res rfl
          have z3 : w2.cell? ⟨w.heap.size + 1, 3, none⟩ = some (.slice none 0 0) := bcell hp9.res rfl
          have y0 : w2.cell? ⟨w.heap.size + 2, 0, none⟩ = some (.int .i64 0) := bcell hp9.rem rfl
          have y1 : w2.cell? ⟨w.heap.size + 2, 1, none⟩ = some (.string ⟨#[]⟩) := bcell hp9.rem rfl
          have y2 : w2.cell? ⟨w.heap.size + 2, 2, none⟩ = some (.string ⟨#[]⟩) := bcell hp9.rem rfl
          have y3 : w2.cell? ⟨w.heap.size + 2, 3, none⟩ = some (.string ⟨#[]⟩) := bcell hp9.rem rfl
          have y4 : w2.cell? ⟨w.heap.size + 2, 4, none⟩ = some (.bool false) := bcell hp9.rem rfl
          have f0 := bfree hp9.res 0
          have f1 := bfree hp9.res 1
          have f2 := bfree hp9.res 2
          have f3 := bfree hp9.res 3
          have e0 := bfree hp9.rem 0
          have e1 := bfree hp9.rem 1
          have e2 := bfree hp9.rem 2
          have e3 := bfree hp9.rem 3
          have e4 := bfree hp9.rem 4
          have n0 : w2.cell? ⟨w1.heap.size, 0, none⟩ = some (.string sn) := bcell hp9.out rfl
          have n1 : w2.cell? ⟨w1.heap.size, 1, none⟩ = some (.int .i64 nx) := bcell hp9.out rfl
          have n2 : w2.cell? ⟨w1.heap.size, 2, none⟩ = some (.slice (some ⟨g1, 0, none⟩) es.length c1) := bcell hp9.out rfl
          have n3 : w2.cell? ⟨w1.heap.size, 3, none⟩ = some (.slice (some ⟨h1, 0, none⟩) ms.length c2) := bcell hp9.out rfl
          have hne1 : w1.heap.size ≠ w.heap.size + 1 := by have := hp9.h8; omega
          have hne2 : w1.heap.size ≠ w.heap.size + 2 := by have := hp9.h8; omega
          have hne3 : w.heap.size + 1 ≠ w1.heap.size := by have := hp9.h8; omega
          have hne4 : w.heap.size + 2 ≠ w1.heap.size := by have := hp9.h8; omega
          have HFN : Hid (w2.ownsRow (w.heap.size + 3) 41 5 (.slice (some ⟨g1, 0, none⟩) es.length c1) es.length (es.flatMap flM.c) ∧ w2.ownsRow (w.heap.size + 3) 55 7 (.slice (some ⟨h1, 0, none⟩) ms.length c2) ms.length (ms.flatMap flH.c) ∧ Below w.heap.size w w2) := ⟨own_stay HOE.out hb2, own_stay HOH.out hb2, hp9.bel⟩
          clear hp9
          go_wp2
          refine bodyPost_ret (v := .tuple #[.agg #[.string sn, .int .i64 nx, .slice (some ⟨g1, 0, none⟩) es.length c1, .slice (some ⟨h1, 0, none⟩) ms.length c2], .agg #[.int .i64 0, .string ⟨#[]⟩, .string ⟨#[]⟩, .string ⟨#[]⟩, .bool false], .bool false]) (by simp [results, Try.results18, go_sem, z0, z1, z2, z3, y0, y1, y2, y3, y4]) rfl ⟨_, _, _, _, rfl, ?_, ?_, ?_⟩
          · exact own_low (own9 HFN.out.1 (by omega) (by omega)) (by omega)
          · exact .inr ⟨_, rfl, own_low (own9 HFN.out.2.1 (by omega) (by omega)) (by omega)⟩
          · exact (s9.bel HFN.out.2.2 (by omega) (by omega))
        · exact absurd hes0.out hes
end Go.Proofs.Ytnlcmheahihlpaa.qom

/- The first and the last append of ThreeApp where what is appended is nothing at all. -/
namespace Go.Proofs.Ytnlcmheahihlpaa.tan
open Go.ChangeShapes Go.WideShapes Go.ChangeAt Go.RowKit Go.Proofs.Ytnlcmheahihlpaa.fl Go.Proofs.Ytnlcmheahihlpaa.ta
set_option linter.unusedVariables false

variable {p : Pr} {x : J} {ws : G → List (Nat × Value)} {act : Act} {Q : Exit → Act → World → Prop} {o : Oper}
theorem app_run {ST s1 s2 : Nat} {v v' u : Value} {f : Act} {W w' : World} (hop : o.op = .call { callee := .builtin .append, args := #[.tmp s1, .tmp s2], argTypes := #[ST, ST] }) (e1 : f.eval (.tmp s1) = v) (e2 : f.eval (.tmp s2) = u) (hr : (Builtin.append_ #[ST, ST] o.type #[v, u]).run Try.prog W = .ok v' w') : (execOp f.eval o).run Try.prog W = .ok (.value v') w' := by
  unfold execOp
  simp only [hop, resolve, invoke, builtin, Sem.run_bind, Sem.run_pure, Result.andThen_ok, List.map_toArray, List.map_cons, List.map_nil, e1, e2, hr]
theorem grown_self (w : World) (r : Option Nat) : w.grownBy w r := ⟨rfl, rfl, rfl, Nat.le_refl _, fun _ _ _ => rfl⟩
variable {ST : TypeId} {i0 : TypeInfo} {z : Value}
theorem st1 (hx : x.up) (ht : Try.prog.underlying ST = some (.slice p.T)) (hi : Try.prog.info? p.T = some i0)
    {s1 s2 d idx : Nat} (hop : o.op = .call { callee := .builtin .append, args := #[.tmp s1, .tmp s2], argTypes := #[ST, ST] }) (hdst : o.dst = some d) (hsz : d < act.tmps.size ∧ s1 < act.tmps.size ∧ s2 < act.tmps.size)
    (ld : ∀ g, (ws g).lookup d = some g.v1) (l1 : ∀ g, (ws g).lookup s1 = some (.slice (some ⟨g.e0, 0, none⟩) 0 0)) (l2 : ∀ g, (ws g).lookup s2 = some (.slice none p.k 0)) (hidx : ∀ g, ((ws g)[idx]?.map (·.1)) = some d) (hset : ∀ g (v : Value), ws { g with v1 := v } = (ws g).set idx (d, v))
    (hk : p.k = 0) (hxs : p.xs = [])
    (hdep : ∃ e ∈ o.after, Region.binds .any e = true ∧ e.on = x.j0) : gh.Step Try.prog (fun s => dk.sets act (ws s)) (C p x) Q x.j1 o := by
  refine gh.step_val (by rw [hop]; simp) fun s L W hdp h0 hC => ?_
  obtain ⟨xp, mp, yp, zp⟩ := hdep
  have lp := hdp xp mp yp
  rw [zp] at lp
  obtain ⟨u0, u1, u2, u3, u4⟩ := hx
  have hd := hC.d
  rw [h0] at hd
  have hold := hd.at0 lp rfl
  have hr := run_append_owned_none (P := Try.prog) (w := W) p.W0.heap.size ST o.type p.T i0 p.n ht hi _ 0 [] hold
  refine ⟨{ s with v1 := .slice (some ⟨s.e0, 0, none⟩) 0 0 }, .slice (some ⟨s.e0, 0, none⟩) 0 0, dk.agree_sets idx d _ hdst (hidx s) (hset s _), (fun d' hd => by rw [hdst] at hd; cases hd; exact dk.sets_on _ hsz.1 _ (ld _)), ?_⟩
  rw [app_run hop (dk.eval_on _ _ hsz.2.1 (l1 s)) (dk.eval_on _ _ hsz.2.2 (l2 s)) (by rw [hk]; exact hr)]
  refine ⟨rfl, ?_⟩
  unfold C
  rw [more_on, more_off L (show x.j0 ≠ x.j1 by omega), more_off L (show x.j2 ≠ x.j1 by omega), more_off L (show x.j3 ≠ x.j1 by omega), more_off L (show x.j4 ≠ x.j1 by omega), more_off L (show x.j5 ≠ x.j1 by omega)]
  exact hd.s1 lp (grown_self _ _) (by rw [hk, hxs]; exact hold) (.inl rfl)
theorem st4 (hx : x.up) (ht : Try.prog.underlying ST = some (.slice p.T)) (hi : Try.prog.info? p.T = some i0)
    {s1 s2 d idx : Nat} (hop : o.op = .call { callee := .builtin .append, args := #[.tmp s1, .tmp s2], argTypes := #[ST, ST] }) (hdst : o.dst = some d) (hsz : d < act.tmps.size ∧ s1 < act.tmps.size ∧ s2 < act.tmps.size)
    (ld : ∀ g, (ws g).lookup d = some g.v3) (l1 : ∀ g, (ws g).lookup s1 = some g.v2) (l2 : ∀ g, (ws g).lookup s2 = some (.slice none p.m 0)) (hidx : ∀ g, ((ws g)[idx]?.map (·.1)) = some d) (hset : ∀ g (v : Value), ws { g with v3 := v } = (ws g).set idx (d, v))
    (hm : p.m = 0) (hys : p.ys = [])
    (hdep : ∃ e ∈ o.after, Region.binds .any e = true ∧ e.on = x.j3) : gh.Step Try.prog (fun s => dk.sets act (ws s)) (C p x) Q x.j4 o := by
  refine gh.step_val (by rw [hop]; simp) fun s L W hdp h0 hC => ?_
  obtain ⟨xp, mp, yp, zp⟩ := hdep
  have lp := hdp xp mp yp
  rw [zp] at lp
  obtain ⟨u0, u1, u2, u3, u4⟩ := hx
  have hd := hC.d
  rw [h0] at hd
  have hold := (hd.at3 lp).2.2 rfl
  have hr := run_append_owned_none (P := Try.prog) (w := W) p.W0.heap.size ST o.type p.T i0 p.n ht hi _ (p.k + 1) (p.xs ++ p.ms) hold
  refine ⟨{ s with v3 := s.v2 }, s.v2, dk.agree_sets idx d _ hdst (hidx s) (hset s _), (fun d' hd => by rw [hdst] at hd; cases hd; exact dk.sets_on _ hsz.1 _ (ld _)), ?_⟩
  rw [app_run hop (dk.eval_on _ _ hsz.2.1 (l1 s)) (dk.eval_on _ _ hsz.2.2 (l2 s)) (by rw [hm]; exact hr)]
  refine ⟨rfl, ?_⟩
  unfold C
  rw [more_on, more_off L (show x.j0 ≠ x.j4 by omega), more_off L (show x.j1 ≠ x.j4 by omega), more_off L (show x.j2 ≠ x.j4 by omega), more_off L (show x.j3 ≠ x.j4 by omega), more_off L (show x.j5 ≠ x.j4 by omega)]
  exact hd.s4 lp (grown_self _ _) (by rw [hm, hys, List.append_nil]; exact hold)
end Go.Proofs.Ytnlcmheahihlpaa.tan

/- The specification's Pop where what is held is nothing at all. -/
namespace Go.Proofs.Ytnlcmheahihlpaa.qom
open Go.ChangeShapes Go.WideShapes Go.ChangeAt Go.RowKit Go.Proofs.Ytnlcmheahihlpaa.fl Go.Proofs.Ytnlcmheahihlpaa.qsp
set_option linter.unusedVariables false

def wsN (s n n8 k : Nat) (o t q : Int) (x y z : ByteArray) (ag : Bool) (g : ta.G) : List (Nat × Value) := [(83, .slice (some ⟨g.e0, 0, none⟩) 0 0), (84, .pointer (some ⟨s, 3, none⟩)), (85, .slice none n 0), (86, .int .i64 k), (87, .slice none k 0), (88, g.v1), (89, .int .i64 t), (90, .int .i64 o), (91, .agg #[.int .i64 q, .string x, .string y, .string z, .bool ag]), (92, .agg #[.int .i64 t, .int .i64 o, .int .i64 q, .string x, .string y, .string z, .bool ag]), (93, .slice (some ⟨g.h, 0, none⟩) 1 1), (94, g.v2), (95, .pointer (some ⟨s, 3, none⟩)), (96, .slice none n 0), (97, .int .i64 k), (98, .slice none (n - k) 0), (99, g.v3), (100, .pointer (some ⟨n8, 3, none⟩))]
set_option maxRecDepth 100000 in
set_option maxHeartbeats 4000000 in
theorem spec_popN (sn : ByteArray) (nx : Int) (es : List flM.Ms) (ms : List flH.Hd) (g cg : Nat) (o t : Int) (w : World) (F : Fit sn es ms) (hcg : es.length ≤ cg) (hms0 : Hid (ms.length = 0)) (hY : Row flM.c 5 w w.heap.size (some ⟨g, 0, none⟩) es) (hE : Row flH.c 7 w w.heap.size none ms) :
    Calls Try.prog 18 #[.agg #[.string sn, .int .i64 nx, .slice (some ⟨g, 0, none⟩) es.length cg, .slice none ms.length 0], .int .i64 o, .int .i64 t] w fun e w' => SA w sn nx (qpp.ansR sn nx es ms o t) (qpp.ansH sn nx es ms o t) (qpp.ansM sn nx es ms o t) (qpp.good sn nx es ms o t) e w' := by
  have hWb : Below w.heap.size w (((w.alloc (.cells #[.string sn, .int .i64 nx, .slice (some ⟨g, 0, none⟩) es.length cg, .slice none ms.length 0] 27)).alloc (.cells #[.string ⟨#[]⟩, .int .i64 0, .slice none 0 0, .slice none 0 0] 27)).alloc (.cells #[.int .i64 0, .string ⟨#[]⟩, .string ⟨#[]⟩, .string ⟨#[]⟩, .bool false] 41)) := (((Below.refl _ _).alloc (Nat.le_refl _) _).alloc (by simp) _).alloc (by simp; omega) _
  have hcopy := spec_copy sn nx es ms (some ⟨g, 0, none⟩) none cg 0 (((w.alloc (.cells #[.string sn, .int .i64 nx, .slice (some ⟨g, 0, none⟩) es.length cg, .slice none ms.length 0] 27)).alloc (.cells #[.string ⟨#[]⟩, .int .i64 0, .slice none 0 0, .slice none 0 0] 27)).alloc (.cells #[.int .i64 0, .string ⟨#[]⟩, .string ⟨#[]⟩, .string ⟨#[]⟩, .bool false] 41)) F ⟨_, .inl rfl⟩ ⟨⟨0, 0, none⟩, .inr ⟨rfl, hms0.out, rfl⟩⟩ (hY.inn hWb) (hE.inn hWb)
  have HF : Hid (Fit sn es ms) := F
  have hml := HF.out.ml
  have hel0 := HF.out.el
  have HCG : Hid (es.length ≤ cg ∧ ms.length ≤ 0) := ⟨hcg, Nat.le_of_eq hms0.out⟩
  have HY : Hid (Row flM.c 5 w w.heap.size (some ⟨g, 0, none⟩) es) := hY
  have HE : Hid (Row flH.c 7 w w.heap.size none ms) := hE
  have HAR : Hid (qpp.ansR sn nx es ms o t = if qpp.good sn nx es ms o t = true then es.tail else es) := rfl
  have HAH : Hid (qpp.ansH sn nx es ms o t = if qpp.good sn nx es ms o t = true then ms.take (qpp.atO o ms ms.length) ++ ⟨t, o, qpp.headM es⟩ :: ms.drop (qpp.atO o ms ms.length) else ms) := rfl
  have HAM : Hid (qpp.ansM sn nx es ms o t = if qpp.good sn nx es ms o t = true then qpp.headM es else qpp.headM []) := rfl
  have HGD : Hid (qpp.good sn nx es ms o t = (okB sn nx es ms && qpp.hand o t && !es.isEmpty && !ms.any (qpp.late o t))) := rfl
  obtain ⟨AR, hAR⟩ : ∃ y, qpp.ansR sn nx es ms o t = y := ⟨_, rfl⟩
  obtain ⟨AH, hAH⟩ : ∃ y, qpp.ansH sn nx es ms o t = y := ⟨_, rfl⟩
  obtain ⟨AM, hAM⟩ : ∃ y, qpp.ansM sn nx es ms o t = y := ⟨_, rfl⟩
  obtain ⟨GD, hGD⟩ : ∃ y, qpp.good sn nx es ms o t = y := ⟨_, rfl⟩
  rw [hAR, hGD] at HAR
  rw [hAH, hGD] at HAH
  rw [hAM, hGD] at HAM
  rw [hGD] at HGD
  have HGD : Hid ((okB sn nx es ms && (decide (0 ≤ o ∧ o ≤ 1000) && decide (1 ≤ t ∧ t ≤ 1000000000)) && !es.isEmpty && !ms.any (qpp.late o t)) = GD) := HGD.out.symm
  simp only [hAR, hAH, hAM, hGD]
  clear hcg hY hE F hAR hAH hAM hGD
  go_enter Try.func18, Try.ntmps18
  go_wp2_with (go_at_call 26; fail)
  refine hcopy.mono ?_
  rintro e w1 ⟨g1, c1, h1, c2, rfl, oe1, om1, _, hb1⟩
  obtain ⟨hp, ho1, ho2⟩ := first_px sn nx es ms (some ⟨g, 0, none⟩) none cg 0 w w1 g1 c1 h1 c2 hb1 oe1 om1
  obtain ⟨X, hX⟩ : ∃ X, w1.alloc (.cells #[.string sn, .int .i64 nx, (.slice (some ⟨g1, 0, none⟩) es.length c1), (.slice (some ⟨h1, 0, none⟩) ms.length c2)] 27) = X := ⟨_, rfl⟩
  rw [hX] at hp ho1 ho2
  have HPX : Hid (PX w sn nx es ms (some ⟨g, 0, none⟩) none cg 0 w1.heap.size (.slice (some ⟨g1, 0, none⟩) es.length c1) (.slice (some ⟨h1, 0, none⟩) ms.length c2) X) := hp
  have HOE : Hid (X.ownsRow (w.heap.size + 3) 41 5 (.slice (some ⟨g1, 0, none⟩) es.length c1) es.length (es.flatMap flM.c)) := ho1
  have HOH : Hid (X.ownsRow (w.heap.size + 3) 55 7 (.slice (some ⟨h1, 0, none⟩) ms.length c2) ms.length (ms.flatMap flH.c)) := ho2
  have x0 : X.cell? ⟨w.heap.size, 0, none⟩ = some (.string sn) := bcell hp.box rfl
  have x1 : X.cell? ⟨w.heap.size, 1, none⟩ = some (.int .i64 nx) := bcell hp.box rfl
  have x2 : X.cell? ⟨w.heap.size, 2, none⟩ = some (.slice (some ⟨g, 0, none⟩) es.length cg) := bcell hp.box rfl
  have x3 : X.cell? ⟨w.heap.size, 3, none⟩ = some (.slice none ms.length 0) := bcell hp.box rfl
  have hok := spec_okb sn nx es ms (some ⟨g, 0, none⟩) none cg 0 X HF.out (HY.out.inn hp.bel) (HE.out.inn hp.bel)
  clear hcopy oe1 om1 hb1 hWb hp ho1 ho2
  obtain ⟨ob, hob⟩ : ∃ ob, okB sn nx es ms = ob := ⟨_, rfl⟩
  rw [hob] at hok HGD
  go_wp2_with (go_at_call 12; fail)
  clear hX x0 x1 x2 x3
  refine hok.mono ?_
  rintro e w2 ⟨rfl, hb2⟩
  clear hok
  cases ob with
  | false =>
    obtain rfl : GD = false := by rw [← HGD.out]; exact rfl
    obtain rfl : es = AR := HAR.out.symm
    obtain rfl : ms = AH := HAH.out.symm
    obtain rfl : qpp.headM [] = AM := HAM.out.symm
    clear HAR HAH HAM HGD
    have hp9 := HPX.out.on hb2
    have z0 : w2.cell? ⟨w.heap.size + 1, 0, none⟩ = some (.string ⟨#[]⟩) := bcell hp9.res rfl
    have z1 : w2.cell? ⟨w.heap.size + 1, 1, none⟩ = some (.int .i64 0) := bcell hp9.res rfl
    have z2 : w2.cell? ⟨w.heap.size + 1, 2, none⟩ = some (.slice none 0 0) := bcell hp9.res rfl
    have z3 : w2.cell? ⟨w.heap.size + 1, 3, none⟩ = some (.slice none 0 0) := bcell hp9.res rfl
    have y0 : w2.cell? ⟨w.heap.size + 2, 0, none⟩ = some (.int .i64 0) := bcell hp9.rem rfl
    have y1 : w2.cell? ⟨w.heap.size + 2, 1, none⟩ = some (.string ⟨#[]⟩) := bcell hp9.rem rfl
    have y2 : w2.cell? ⟨w.heap.size + 2, 2, none⟩ = some (.string ⟨#[]⟩) := bcell hp9.rem rfl
    have y3 : w2.cell? ⟨w.heap.size + 2, 3, none⟩ = some (.string ⟨#[]⟩) := bcell hp9.rem rfl
    have y4 : w2.cell? ⟨w.heap.size + 2, 4, none⟩ = some (.bool false) := bcell hp9.rem rfl
    have f0 := bfree hp9.res 0
    have f1 := bfree hp9.res 1
    have f2 := bfree hp9.res 2
    have f3 := bfree hp9.res 3
    have e0 := bfree hp9.rem 0
    have e1 := bfree hp9.rem 1
    have e2 := bfree hp9.rem 2
    have e3 := bfree hp9.rem 3
    have e4 := bfree hp9.rem 4
    have n0 : w2.cell? ⟨w1.heap.size, 0, none⟩ = some (.string sn) := bcell hp9.out rfl
    have n1 : w2.cell? ⟨w1.heap.size, 1, none⟩ = some (.int .i64 nx) := bcell hp9.out rfl
    have n2 : w2.cell? ⟨w1.heap.size, 2, none⟩ = some (.slice (some ⟨g1, 0, none⟩) es.length c1) := bcell hp9.out rfl
    have n3 : w2.cell? ⟨w1.heap.size, 3, none⟩ = some (.slice (some ⟨h1, 0, none⟩) ms.length c2) := bcell hp9.out rfl
    have hne1 : w1.heap.size ≠ w.heap.size + 1 := by have := hp9.h8; omega
    have hne2 : w1.heap.size ≠ w.heap.size + 2 := by have := hp9.h8; omega
    have hne3 : w.heap.size + 1 ≠ w1.heap.size := by have := hp9.h8; omega
    have hne4 : w.heap.size + 2 ≠ w1.heap.size := by have := hp9.h8; omega
    have HFN : Hid (w2.ownsRow (w.heap.size + 3) 41 5 (.slice (some ⟨g1, 0, none⟩) es.length c1) es.length (es.flatMap flM.c) ∧ w2.ownsRow (w.heap.size + 3) 55 7 (.slice (some ⟨h1, 0, none⟩) ms.length c2) ms.length (ms.flatMap flH.c) ∧ Below w.heap.size w w2) := ⟨own_stay HOE.out hb2, own_stay HOH.out hb2, hp9.bel⟩
    clear hp9
    go_wp2
    refine bodyPost_ret (v := .tuple #[.agg #[.string sn, .int .i64 nx, .slice (some ⟨g1, 0, none⟩) es.length c1, .slice (some ⟨h1, 0, none⟩) ms.length c2], .agg #[.int .i64 0, .string ⟨#[]⟩, .string ⟨#[]⟩, .string ⟨#[]⟩, .bool false], .bool false]) (by simp [results, Try.results18, go_sem, z0, z1, z2, z3, y0, y1, y2, y3, y4]) rfl ⟨_, _, _, _, rfl, ?_, ?_, ?_⟩
    · exact own_low (own9 HFN.out.1 (by omega) (by omega)) (by omega)
    · exact .inr ⟨_, rfl, own_low (own9 HFN.out.2.1 (by omega) (by omega)) (by omega)⟩
    · exact (s9.bel HFN.out.2.2 (by omega) (by omega))
  | true =>
    obtain ⟨d1, hd1⟩ : ∃ d, decide (0 ≤ o ∧ o ≤ 1000) = d := ⟨_, rfl⟩
    obtain ⟨d2, hd2⟩ : ∃ d, decide (1 ≤ t ∧ t ≤ 1000000000) = d := ⟨_, rfl⟩
    have k1 := qhd.within o 0 1000 w2
    have k2 := qhd.within t 1 1000000000 w2
    rw [hd1] at k1 HGD
    rw [hd2] at k2 HGD
    clear hd1 hd2
    go_wp2_with (go_at_call 40; fail)
    refine k1.mono ?_
    rintro e wh ⟨rfl, hwh⟩
    obtain rfl := hwh
    clear k1
    cases d1 with
    | false =>
      obtain rfl : GD = false := by rw [← HGD.out]; exact rfl
      obtain rfl : es = AR := HAR.out.symm
      obtain rfl : ms = AH := HAH.out.symm
      obtain rfl : qpp.headM [] = AM := HAM.out.symm
      clear HAR HAH HAM HGD
      have hp9 := HPX.out.on hb2
      have z0 : w2.cell? ⟨w.heap.size + 1, 0, none⟩ = some (.string ⟨#[]⟩) := bcell hp9.res rfl
      have z1 : w2.cell? ⟨w.heap.size + 1, 1, none⟩ = some (.int .i64 0) := bcell hp9.res rfl
      have z2 : w2.cell? ⟨w.heap.size + 1, 2, none⟩ = some (.slice none 0 0) := bcell hp9.res rfl
      have z3 : w2.cell? ⟨w.heap.size + 1, 3, none⟩ = some (.slice none 0 0) := bcell hp9.res rfl
      have y0 : w2.cell? ⟨w.heap.size + 2, 0, none⟩ = some (.int .i64 0) := bcell hp9.rem rfl
      have y1 : w2.cell? ⟨w.heap.size + 2, 1, none⟩ = some (.string ⟨#[]⟩) := bcell hp9.rem rfl
      have y2 : w2.cell? ⟨w.heap.size + 2, 2, none⟩ = some (.string ⟨#[]⟩) := bcell hp9.rem rfl
      have y3 : w2.cell? ⟨w.heap.size + 2, 3, none⟩ = some (.string ⟨#[]⟩) := bcell hp9.rem rfl
      have y4 : w2.cell? ⟨w.heap.size + 2, 4, none⟩ = some (.bool false) := bcell hp9.rem rfl
      have f0 := bfree hp9.res 0
      have f1 := bfree hp9.res 1
      have f2 := bfree hp9.res 2
      have f3 := bfree hp9.res 3
      have e0 := bfree hp9.rem 0
      have e1 := bfree hp9.rem 1
      have e2 := bfree hp9.rem 2
      have e3 := bfree hp9.rem 3
      have e4 := bfree hp9.rem 4
      have n0 : w2.cell? ⟨w1.heap.size, 0, none⟩ = some (.string sn) := bcell hp9.out rfl
      have n1 : w2.cell? ⟨w1.heap.size, 1, none⟩ = some (.int .i64 nx) := bcell hp9.out rfl
      have n2 : w2.cell? ⟨w1.heap.size, 2, none⟩ = some (.slice (some ⟨g1, 0, none⟩) es.length c1) := bcell hp9.out rfl
      have n3 : w2.cell? ⟨w1.heap.size, 3, none⟩ = some (.slice (some ⟨h1, 0, none⟩) ms.length c2) := bcell hp9.out rfl
      have hne1 : w1.heap.size ≠ w.heap.size + 1 := by have := hp9.h8; omega
      have hne2 : w1.heap.size ≠ w.heap.size + 2 := by have := hp9.h8; omega
      have hne3 : w.heap.size + 1 ≠ w1.heap.size := by have := hp9.h8; omega
      have hne4 : w.heap.size + 2 ≠ w1.heap.size := by have := hp9.h8; omega
      have HFN : Hid (w2.ownsRow (w.heap.size + 3) 41 5 (.slice (some ⟨g1, 0, none⟩) es.length c1) es.length (es.flatMap flM.c) ∧ w2.ownsRow (w.heap.size + 3) 55 7 (.slice (some ⟨h1, 0, none⟩) ms.length c2) ms.length (ms.flatMap flH.c) ∧ Below w.heap.size w w2) := ⟨own_stay HOE.out hb2, own_stay HOH.out hb2, hp9.bel⟩
      clear hp9
      go_wp2
      refine bodyPost_ret (v := .tuple #[.agg #[.string sn, .int .i64 nx, .slice (some ⟨g1, 0, none⟩) es.length c1, .slice (some ⟨h1, 0, none⟩) ms.length c2], .agg #[.int .i64 0, .string ⟨#[]⟩, .string ⟨#[]⟩, .string ⟨#[]⟩, .bool false], .bool false]) (by simp [results, Try.results18, go_sem, z0, z1, z2, z3, y0, y1, y2, y3, y4]) rfl ⟨_, _, _, _, rfl, ?_, ?_, ?_⟩
      · exact own_low (own9 HFN.out.1 (by omega) (by omega)) (by omega)
      · exact .inr ⟨_, rfl, own_low (own9 HFN.out.2.1 (by omega) (by omega)) (by omega)⟩
      · exact (s9.bel HFN.out.2.2 (by omega) (by omega))
    | true =>
      go_wp2_with (go_at_call 40; fail)
      refine k2.mono ?_
      rintro e wh ⟨rfl, hwh⟩
      obtain rfl := hwh
      clear k2
      cases d2 with
      | false =>
        obtain rfl : GD = false := by rw [← HGD.out]; exact rfl
        obtain rfl : es = AR := HAR.out.symm
        obtain rfl : ms = AH := HAH.out.symm
        obtain rfl : qpp.headM [] = AM := HAM.out.symm
        clear HAR HAH HAM HGD
        have hp9 := HPX.out.on hb2
        have z0 : w2.cell? ⟨w.heap.size + 1, 0, none⟩ = some (.string ⟨#[]⟩) := bcell hp9.res rfl
        have z1 : w2.cell? ⟨w.heap.size + 1, 1, none⟩ = some (.int .i64 0) := bcell hp9.res rfl
        have z2 : w2.cell? ⟨w.heap.size + 1, 2, none⟩ = some (.slice none 0 0) := bcell hp9.res rfl
        have z3 : w2.cell? ⟨w.heap.size + 1, 3, none⟩ = some (.slice none 0 0) := bcell hp9.res rfl
        have y0 : w2.cell? ⟨w.heap.size + 2, 0, none⟩ = some (.int .i64 0) := bcell hp9.rem rfl
        have y1 : w2.cell? ⟨w.heap.size + 2, 1, none⟩ = some (.string ⟨#[]⟩) := bcell hp9.rem rfl
        have y2 : w2.cell? ⟨w.heap.size + 2, 2, none⟩ = some (.string ⟨#[]⟩) := bcell hp9.rem rfl
        have y3 : w2.cell? ⟨w.heap.size + 2, 3, none⟩ = some (.string ⟨#[]⟩) := bcell hp9.rem rfl
        have y4 : w2.cell? ⟨w.heap.size + 2, 4, none⟩ = some (.bool false) := bcell hp9.rem rfl
        have f0 := bfree hp9.res 0
        have f1 := bfree hp9.res 1
        have f2 := bfree hp9.res 2
        have f3 := bfree hp9.res 3
        have e0 := bfree hp9.rem 0
        have e1 := bfree hp9.rem 1
        have e2 := bfree hp9.rem 2
        have e3 := bfree hp9.rem 3
        have e4 := bfree hp9.rem 4
        have n0 : w2.cell? ⟨w1.heap.size, 0, none⟩ = some (.string sn) := bcell hp9.out rfl
        have n1 : w2.cell? ⟨w1.heap.size, 1, none⟩ = some (.int .i64 nx) := bcell hp9.out rfl
        have n2 : w2.cell? ⟨w1.heap.size, 2, none⟩ = some (.slice (some ⟨g1, 0, none⟩) es.length c1) := bcell hp9.out rfl
        have n3 : w2.cell? ⟨w1.heap.size, 3, none⟩ = some (.slice (some ⟨h1, 0, none⟩) ms.length c2) := bcell hp9.out rfl
        have hne1 : w1.heap.size ≠ w.heap.size + 1 := by have := hp9.h8; omega
        have hne2 : w1.heap.size ≠ w.heap.size + 2 := by have := hp9.h8; omega
        have hne3 : w.heap.size + 1 ≠ w1.heap.size := by have := hp9.h8; omega
        have hne4 : w.heap.size + 2 ≠ w1.heap.size := by have := hp9.h8; omega
        have HFN : Hid (w2.ownsRow (w.heap.size + 3) 41 5 (.slice (some ⟨g1, 0, none⟩) es.length c1) es.length (es.flatMap flM.c) ∧ w2.ownsRow (w.heap.size + 3) 55 7 (.slice (some ⟨h1, 0, none⟩) ms.length c2) ms.length (ms.flatMap flH.c) ∧ Below w.heap.size w w2) := ⟨own_stay HOE.out hb2, own_stay HOH.out hb2, hp9.bel⟩
        clear hp9
        go_wp2
        refine bodyPost_ret (v := .tuple #[.agg #[.string sn, .int .i64 nx, .slice (some ⟨g1, 0, none⟩) es.length c1, .slice (some ⟨h1, 0, none⟩) ms.length c2], .agg #[.int .i64 0, .string ⟨#[]⟩, .string ⟨#[]⟩, .string ⟨#[]⟩, .bool false], .bool false]) (by simp [results, Try.results18, go_sem, z0, z1, z2, z3, y0, y1, y2, y3, y4]) rfl ⟨_, _, _, _, rfl, ?_, ?_, ?_⟩
        · exact own_low (own9 HFN.out.1 (by omega) (by omega)) (by omega)
        · exact .inr ⟨_, rfl, own_low (own9 HFN.out.2.1 (by omega) (by omega)) (by omega)⟩
        · exact (s9.bel HFN.out.2.2 (by omega) (by omega))
      | true =>
        have hp2 := HPX.out.on hb2
        have x0 : w2.cell? ⟨w.heap.size, 0, none⟩ = some (.string sn) := bcell hp2.box rfl
        have x1 : w2.cell? ⟨w.heap.size, 1, none⟩ = some (.int .i64 nx) := bcell hp2.box rfl
        have x2 : w2.cell? ⟨w.heap.size, 2, none⟩ = some (.slice (some ⟨g, 0, none⟩) es.length cg) := bcell hp2.box rfl
        have x3 : w2.cell? ⟨w.heap.size, 3, none⟩ = some (.slice none ms.length 0) := bcell hp2.box rfl
        clear hp2
        by_cases hes : es = []
        · have hl0 : ((es.length : Int) == 0) = true := by simp [hes]
          have hie : es.isEmpty = true := by simp [hes]
          clear hes
          obtain rfl : GD = false := by rw [← HGD.out]; exact (by rw [hie]; rfl)
          obtain rfl : es = AR := HAR.out.symm
          obtain rfl : ms = AH := HAH.out.symm
          obtain rfl : qpp.headM [] = AM := HAM.out.symm
          clear HAR HAH HAM HGD
          have hp9 := HPX.out.on hb2
          have z0 : w2.cell? ⟨w.heap.size + 1, 0, none⟩ = some (.string ⟨#[]⟩) := bcell hp9.res rfl
          have z1 : w2.cell? ⟨w.heap.size + 1, 1, none⟩ = some (.int .i64 0) := bcell hp9.res rfl
          have z2 : w2.cell? ⟨w.heap.size + 1, 2, none⟩ = some (.slice none 0 0) := bcell hp9.res rfl
          have z3 : w2.cell? ⟨w.heap.size + 1, 3, none⟩ = some (.slice none 0 0) := bcell hp9.res rfl
          have y0 : w2.cell? ⟨w.heap.size + 2, 0, none⟩ = some (.int .i64 0) := bcell hp9.rem rfl
          have y1 : w2.cell? ⟨w.heap.size + 2, 1, none⟩ = some (.string ⟨#[]⟩) := bcell hp9.rem rfl
          have y2 : w2.cell? ⟨w.heap.size + 2, 2, none⟩ = some (.string ⟨#[]⟩) := bcell hp9.rem rfl
          have y3 : w2.cell? ⟨w.heap.size + 2, 3, none⟩ = some (.string ⟨#[]⟩) := bcell hp9.rem rfl
          have y4 : w2.cell? ⟨w.heap.size + 2, 4, none⟩ = some (.bool false) := bcell hp9.rem rfl
          have f0 := bfree hp9.res 0
          have f1 := bfree hp9.res 1
          have f2 := bfree hp9.res 2
          have f3 := bfree hp9.res 3
          have e0 := bfree hp9.rem 0
          have e1 := bfree hp9.rem 1
          have e2 := bfree hp9.rem 2
          have e3 := bfree hp9.rem 3
          have e4 := bfree hp9.rem 4
          have n0 : w2.cell? ⟨w1.heap.size, 0, none⟩ = some (.string sn) := bcell hp9.out rfl
          have n1 : w2.cell? ⟨w1.heap.size, 1, none⟩ = some (.int .i64 nx) := bcell hp9.out rfl
          have n2 : w2.cell? ⟨w1.heap.size, 2, none⟩ = some (.slice (some ⟨g1, 0, none⟩) es.length c1) := bcell hp9.out rfl
          have n3 : w2.cell? ⟨w1.heap.size, 3, none⟩ = some (.slice (some ⟨h1, 0, none⟩) ms.length c2) := bcell hp9.out rfl
          have hne1 : w1.heap.size ≠ w.heap.size + 1 := by have := hp9.h8; omega
          have hne2 : w1.heap.size ≠ w.heap.size + 2 := by have := hp9.h8; omega
          have hne3 : w.heap.size + 1 ≠ w1.heap.size := by have := hp9.h8; omega
          have hne4 : w.heap.size + 2 ≠ w1.heap.size := by have := hp9.h8; omega
          have HFN : Hid (w2.ownsRow (w.heap.size + 3) 41 5 (.slice (some ⟨g1, 0, none⟩) es.length c1) es.length (es.flatMap flM.c) ∧ w2.ownsRow (w.heap.size + 3) 55 7 (.slice (some ⟨h1, 0, none⟩) ms.length c2) ms.length (ms.flatMap flH.c) ∧ Below w.heap.size w w2) := ⟨own_stay HOE.out hb2, own_stay HOH.out hb2, hp9.bel⟩
          clear hp9
          go_wp2
          refine bodyPost_ret (v := .tuple #[.agg #[.string sn, .int .i64 nx, .slice (some ⟨g1, 0, none⟩) es.length c1, .slice (some ⟨h1, 0, none⟩) ms.length c2], .agg #[.int .i64 0, .string ⟨#[]⟩, .string ⟨#[]⟩, .string ⟨#[]⟩, .bool false], .bool false]) (by simp [results, Try.results18, go_sem, z0, z1, z2, z3, y0, y1, y2, y3, y4]) rfl ⟨_, _, _, _, rfl, ?_, ?_, ?_⟩
          · exact own_low (own9 HFN.out.1 (by omega) (by omega)) (by omega)
          · exact .inr ⟨_, rfl, own_low (own9 HFN.out.2.1 (by omega) (by omega)) (by omega)⟩
          · exact (s9.bel HFN.out.2.2 (by omega) (by omega))
        · have hl0 : ((es.length : Int) == 0) = false := by simp [hes]
          have hie : es.isEmpty = false := by simp [hes]
          obtain ⟨⟨q, x, y, z, ag⟩, h0, hr0, hrt⟩ : ∃ r0, es[0]? = some r0 ∧ qpp.headM es = r0 ∧ es = r0 :: es.tail := by
            cases es with
            | nil => exact absurd rfl hes
            | cons r l => exact ⟨r, rfl, rfl, rfl⟩
          have HH0 : Hid (es[0]? = some ⟨q, x, y, z, ag⟩ ∧ qpp.headM es = ⟨q, x, y, z, ag⟩ ∧ es = ⟨q, x, y, z, ag⟩ :: es.tail) := ⟨h0, hr0, hrt⟩
          clear hes h0 hr0 hrt
          go_wp2
          go_loopw [10, 11] (fun a i wr => ∃ k av : Nat, k ≤ ms.length ∧ i = .int .i64 k ∧ a = .int .i64 av ∧ Hid (qpp.atO o ms k = av ∧ (ms.take k).any (qpp.late o t) = false) ∧ Hid (Below X.heap.size X wr)) (fun _ i _ => ms.length - (intOf i).toNat)
          case atStart => exact ⟨0, 0, Nat.zero_le _, rfl, rfl, ⟨rfl, by simp⟩, hb2⟩
          case round =>
            obtain ⟨k, av, hk, rfl, rfl, hn, hBr⟩ := hrel
            have hpr := HPX.out.on hBr.out
            have HROW : Hid (Row flH.c 7 wr wr.heap.size none ms) := HE.out.inn hpr.bel
            clear x0 x1 x2 x3
            have x0 : wr.cell? ⟨w.heap.size, 0, none⟩ = some (.string sn) := bcell hpr.box rfl
            have x1 : wr.cell? ⟨w.heap.size, 1, none⟩ = some (.int .i64 nx) := bcell hpr.box rfl
            have x2 : wr.cell? ⟨w.heap.size, 2, none⟩ = some (.slice (some ⟨g, 0, none⟩) es.length cg) := bcell hpr.box rfl
            have x3 : wr.cell? ⟨w.heap.size, 3, none⟩ = some (.slice none ms.length 0) := bcell hpr.box rfl
            clear hpr
            by_cases hkl : k < ms.length
            · exact absurd hkl (by have := hms0.out; omega)
            · have f0 : decide ((k : Int) < (ms.length : Int)) = false := by simp; omega
              obtain rfl : k = ms.length := by omega
              obtain rfl : GD = true := by rw [← HGD.out, hie]; have := hn.out.2; rw [List.take_length] at this; rw [this]; rfl
              have HTA : Hid (es.tail = AR) := HAR.out.symm
              obtain ⟨hcge, hche⟩ := HCG.out
              have hmx : qpp.headM es = ⟨q, x, y, z, ag⟩ := HH0.out.2.1
              have hav : av ≤ ms.length := by rw [← hn.out.1]; exact qpp.atO_le _ _ _
              have havc : av ≤ 0 := Nat.le_trans hav hche
              have HAH2 : Hid (ms.take av ++ ⟨t, o, ⟨q, x, y, z, ag⟩⟩ :: ms.drop av = AH) := by
                have := HAH.out
                rw [if_pos rfl, hn.out.1, hmx] at this
                exact this.symm
              obtain rfl : (⟨q, x, y, z, ag⟩ : flM.Ms) = AM := by have := HAM.out; rw [if_pos rfl, hmx] at this; exact this.symm
              have HRM : Hid (Row flM.c 5 wr wr.heap.size (some ⟨g, 0, none⟩) es) := HY.out.inn (HPX.out.on hBr.out).bel
              obtain ⟨e0, e1, e2, e3, e4⟩ := cellM HRM.out HH0.out.1
              have e0 : wr.cell? ⟨g, 0, none⟩ = some (.int .i64 q) := e0
              have e1 : wr.cell? ⟨g, 1, none⟩ = some (.string x) := e1
              have e2 : wr.cell? ⟨g, 2, none⟩ = some (.string y) := e2
              have e3 : wr.cell? ⟨g, 3, none⟩ = some (.string z) := e3
              have e4 : wr.cell? ⟨g, 4, none⟩ = some (.bool ag) := e4
              have hel : 0 < es.length := by rw [HH0.out.2.2]; simp
              have hel1 : (0 : Int) < (es.length : Int) := by omega
              have hel2 : 1 ≤ cg := by omega
              have hel3 : 1 ≤ es.length := by omega
              clear HAR HAH HAM HGD hmx hcge
              have hpr := HPX.out.on hBr.out
              have hwr : w.heap.size + 3 ≤ wr.heap.size := by have := hpr.lt; have := hpr.h8; omega
              have hal : Below wr.heap.size wr ((wr.alloc (.cells #[.int .i64 q, .string x, .string y, .string z, .bool ag] 41)).alloc (.cells #[] 41)) := ((Below.refl _ _).alloc (Nat.le_refl _) _).alloc (by simp) _
              have hMB := bold (bnew wr #[.int .i64 q, .string x, .string y, .string z, .bool ag] 41) (.cells #[] 41)
              have ho := own_empty (wr.alloc (.cells #[.int .i64 q, .string x, .string y, .string z, .bool ag] 41)) (w.heap.size + 3) 41 5 (by simp; omega)
              have hsz1 : (wr.alloc (.cells #[.int .i64 q, .string x, .string y, .string z, .bool ag] 41)).heap.size = wr.heap.size + 1 := by simp
              rw [hsz1] at ho
              obtain ⟨V, hV⟩ : ∃ V, (wr.alloc (.cells #[.int .i64 q, .string x, .string y, .string z, .bool ag] 41)).alloc (.cells #[] 41) = V := ⟨_, rfl⟩
              have hVs : V.heap.size = wr.heap.size + 2 := by rw [← hV]; simp
              rw [hV] at hal hMB ho
              have hpV := hpr.on hal
              have v2 : V.cell? ⟨w.heap.size, 2, none⟩ = some (.slice (some ⟨g, 0, none⟩) es.length cg) := bcell hpV.box rfl
              have HPV : Hid (PX w sn nx es ms (some ⟨g, 0, none⟩) none cg 0 w1.heap.size (.slice (some ⟨g1, 0, none⟩) es.length c1) (.slice (some ⟨h1, 0, none⟩) ms.length c2) V) := hpV
              have HOV : Hid (V.ownsRow (w.heap.size + 3) 41 5 (.slice (some ⟨wr.heap.size + 1, 0, none⟩) 0 0) 0 []) := ho
              have HMB : Hid (V.heap[wr.heap.size]? = some (.cells #[.int .i64 q, .string x, .string y, .string z, .bool ag] 41 (0, 0))) := hMB
              have HRV : Hid (Row flM.c 5 V V.heap.size (some ⟨g, 0, none⟩) es) := HY.out.inn hpV.bel
              have HHV : Hid (Row flH.c 7 V V.heap.size none ms) := HE.out.inn hpV.bel
              obtain ⟨i0, hi, hz0, hz1, hz2⟩ := infoY
              clear hpr hpV ho hMB
              by_cases hc1 : cg = 1
              · have HTL : Hid (es.tail.length = 0) := by show es.tail.length = 0; rw [List.length_tail]; have := HCG.out.1; omega
                have NEWS : Hid (∀ (j : Nat) (u : Value), (es.tail.flatMap flM.c)[j]? = some u → V.cell? ((⟨g, 0, none⟩ : Addr).add j) = some u) := fun j u hu => by rw [List.eq_nil_of_length_eq_zero HTL.out] at hu; simp at hu
                have hle : es.length - 1 = 0 := by have := HCG.out.1; omega
                go_wp2_with (at_builtin; refine wpList_append_own _ rfl _ _ 24 rfl (w.heap.size + 3) 41 i0 (.agg #[.int .i64 0, .string ByteArray.empty, .string ByteArray.empty, .string ByteArray.empty, .bool false]) 5 64 Try.underlying24 hi hz0 hz1 hz2 rfl (by decide) _ 0 [] rfl (by exact HOV.out) ⟨g, 0, none⟩ (0) (0) (es.tail.flatMap flM.c) rfl (by rw [flat_len flM.c_len, HTL.out]) (by exact NEWS.out) (oneY _) (by unfold maxLen; omega) (by omega) (by omega) ?_)
                intro v1 wA hown1 hgrow1 hnil1
                obtain ⟨g5, c5, rfl, hg5, hg5l⟩ := form hown1 (fun e => by first | exact hnil1 e | (have := hnil1.1 e; cases this.1))
                have hgr1 : V.grownBy wA (some (wr.heap.size + 1)) := hgrow1
                have hpA := HPV.out.grown hgr1 (by have := (HPX.out.on hBr.out).lt; omega)
                have hownA : wA.ownsRow (w.heap.size + 3) 41 5 (.slice (some ⟨g5, 0, none⟩) AR.length c5) AR.length (AR.flatMap flM.c) := by rw [← HTA.out, HTL.out]; first | exact hown1 | simpa using hown1
                have HMA : Hid (wA.heap[wr.heap.size]? = some (.cells #[.int .i64 q, .string x, .string y, .string z, .bool ag] 41 (0, 0))) := grown_at hgr1 HMB.out (by simp)
                have u2 : wA.cell? ⟨w1.heap.size, 2, none⟩ = some (.slice (some ⟨g1, 0, none⟩) es.length c1) := bcell hpA.out rfl
                have u2f := bfree hpA.out 2
                have HPA : Hid (PX w sn nx es ms (some ⟨g, 0, none⟩) none cg 0 w1.heap.size (.slice (some ⟨g1, 0, none⟩) es.length c1) (.slice (some ⟨h1, 0, none⟩) ms.length c2) wA) := hpA
                have HOA : Hid (wA.ownsRow (w.heap.size + 3) 41 5 (.slice (some ⟨g5, 0, none⟩) AR.length c5) AR.length (AR.flatMap flM.c)) := hownA
                have hw1r : w1.heap.size < wr.heap.size := (HPX.out.on hBr.out).lt
                clear hown1 hgrow1 hnil1 hpA hownA hgr1 v2 hal hV
                go_wp2
                have hpY : PX w sn nx es ms (some ⟨g, 0, none⟩) none cg 0 w1.heap.size (.slice (some ⟨g5, 0, none⟩) AR.length c5) (.slice (some ⟨h1, 0, none⟩) ms.length c2) (wA.setCell ⟨w1.heap.size, 2, none⟩ (.slice (some ⟨g5, 0, none⟩) (0) c5)) := by rw [← HTA.out, HTL.out]; exact HPA.out.put2 _
                have hoY : (wA.setCell ⟨w1.heap.size, 2, none⟩ (.slice (some ⟨g5, 0, none⟩) (0) c5)).ownsRow (w.heap.size + 3) 41 5 (.slice (some ⟨g5, 0, none⟩) AR.length c5) AR.length (AR.flatMap flM.c) := owns_set HOA.out (owns_ne (by decide) HOA.out HPA.out.out) _
                have hMY : (wA.setCell ⟨w1.heap.size, 2, none⟩ (.slice (some ⟨g5, 0, none⟩) (0) c5)).heap[wr.heap.size]? = some (.cells #[.int .i64 q, .string x, .string y, .string z, .bool ag] 41 (0, 0)) := boff HMA.out _ _ _ (by omega)
                obtain ⟨Y, hYY⟩ : ∃ Y, wA.setCell ⟨w1.heap.size, 2, none⟩ (.slice (some ⟨g5, 0, none⟩) (0) c5) = Y := ⟨_, rfl⟩
                rw [hYY] at hpY hoY hMY ⊢
                have HPY : Hid (PX w sn nx es ms (some ⟨g, 0, none⟩) none cg 0 w1.heap.size (.slice (some ⟨g5, 0, none⟩) AR.length c5) (.slice (some ⟨h1, 0, none⟩) ms.length c2) Y) := hpY
                have HOY : Hid (Y.ownsRow (w.heap.size + 3) 41 5 (.slice (some ⟨g5, 0, none⟩) AR.length c5) AR.length (AR.flatMap flM.c)) := hoY
                have HMY : Hid (Y.heap[wr.heap.size]? = some (.cells #[.int .i64 q, .string x, .string y, .string z, .bool ag] 41 (0, 0))) := hMY
                have HHY : Hid (Row flH.c 7 Y Y.heap.size none ms) := HE.out.inn hpY.bel
                have hn8 : w.heap.size ≠ w1.heap.size := by have := hpY.h8; omega
                obtain ⟨i1, ki, kz0, kz1, kz2⟩ := infoK
                clear hYY hpY hoY hMY HPA HOA HMA u2 u2f x0 x1 x2 x3 e0 e1 e2 e3 e4
                refine dk.region_gsets (wsN w.heap.size ms.length w1.heap.size av o t q x y z ag) [83, 84, 85, 86, 87, 88, 89, 90, 91, 92, 93, 94, 95, 96, 97, 98, 99, 100] (ta.C ⟨Y, 55, 7, (ms.take av).flatMap flH.c, [.int .i64 t, .int .i64 o, .int .i64 q, .string x, .string y, .string z, .bool ag], (ms.drop av).flatMap flH.c, av, ms.length - av, w1.heap.size, 3⟩ J0) ⟨0, .slice none 0 0, 0, .slice none 0 0, .slice none 0 0⟩ (by kernel_rfl) (by kernel_rfl) (fun _ => rfl) (by kernel_rfl) (ta.start _ _ _) ?each ?fin
                case each =>
                  refine ⟨ta.st0 (x := J0) (d := 83) (idx := 0) J0_up (by simp) rfl (by simp) (fun g => rfl) (fun g => rfl) (fun g e => rfl) (fun s W => by simp [execOp, go_sem]), ?_⟩
                  refine ⟨ta.quiet (by decide) (by simp) (.pointer (some ⟨w.heap.size, 3, none⟩)) (by rintro s _ ⟨⟩; exact dk.sets_on _ (by simp) _ rfl) (fun s W hW => by simp [execOp, go_sem, Act.eval, dk.sets_get, wsN, List.lookup]), ?_⟩
                  refine ⟨ta.quiet (by decide) (by simp) (.slice none ms.length 0) (by rintro s _ ⟨⟩; exact dk.sets_on _ (by simp) _ rfl) (fun s W hW => by have c : W.cell? ⟨w.heap.size, 3, none⟩ = some (.slice none ms.length 0) := bcell (hW _ _ HPY.out.box hn8) rfl; simp [execOp, go_sem, Act.eval, dk.sets_get, wsN, List.lookup, c]), ?_⟩
                  refine ⟨ta.quiet (by decide) (by simp) (.int .i64 av) (by rintro s _ ⟨⟩; exact dk.sets_on _ (by simp) _ rfl) (fun s W hW => by simp [execOp, go_sem, Act.eval, dk.sets_get, wsN, List.lookup]), ?_⟩
                  refine ⟨ta.quiet (by decide) (by simp) (.slice none av 0) (by rintro s _ ⟨⟩; exact dk.sets_on _ (by simp) _ rfl) (fun s W hW => by have h0 : av = 0 := Nat.le_zero.1 havc; simp [execOp, go_sem, Act.eval, dk.sets_get, wsN, List.lookup, h0]), ?_⟩
                  refine ⟨tan.st1 (x := J0) (d := 88) (s1 := 83) (s2 := 87) (idx := 5) J0_up Try.underlying25 ki rfl rfl ⟨by simp, by simp, by simp⟩ (fun g => rfl) (fun g => rfl) (fun g => rfl) (fun g => rfl) (fun g v => rfl) (Nat.le_zero.1 havc) (by show (ms.take av).flatMap flH.c = []; rw [List.eq_nil_of_length_eq_zero hms0.out]; simp) ⟨⟨0, .data⟩, by simp, rfl, rfl⟩, ?_⟩
                  refine ⟨ta.quiet (by decide) (by simp) (.int .i64 t) (by rintro s _ ⟨⟩; exact dk.sets_on _ (by simp) _ rfl) (fun s W hW => by simp [execOp, go_sem, Act.eval, dk.sets_get, wsN, List.lookup]), ?_⟩
                  refine ⟨ta.quiet (by decide) (by simp) (.int .i64 o) (by rintro s _ ⟨⟩; exact dk.sets_on _ (by simp) _ rfl) (fun s W hW => by simp [execOp, go_sem, Act.eval, dk.sets_get, wsN, List.lookup]), ?_⟩
                  refine ⟨ta.quiet (by decide) (by simp) (.agg #[.int .i64 q, .string x, .string y, .string z, .bool ag]) (by rintro s _ ⟨⟩; exact dk.sets_on _ (by simp) _ rfl) (fun s W hW => by obtain ⟨d0, d1, d2, d3, d4⟩ := box5 (hW _ _ HMY.out (by show wr.heap.size ≠ w1.heap.size; omega)); simp [execOp, go_sem, Act.eval, dk.sets_get, wsN, List.lookup, d0, d1, d2, d3, d4]), ?_⟩
                  refine ⟨ta.quiet (by decide) (by simp) (.agg #[.int .i64 t, .int .i64 o, .int .i64 q, .string x, .string y, .string z, .bool ag]) (by rintro s _ ⟨⟩; exact dk.sets_on _ (by simp) _ rfl) (fun s W hW => by simp [execOp, go_sem, Act.eval, dk.sets_get, wsN, List.lookup]), ?_⟩
                  refine ⟨ta.st2 (x := J0) (d := 93) (idx := 10) J0_up (by simp) rfl (by simp) (fun g => rfl) (fun g => rfl) (fun g e => rfl) (fun s W => by simp [execOp, go_sem, Act.eval, dk.sets_get, wsN, List.lookup]), ?_⟩
                  refine ⟨ta.st3 (x := J0) (d := 94) (s1 := 88) (s2 := 93) (idx := 11) J0_up Try.underlying25 ki kz0 kz1 kz2 rfl (by show 0 < 7; decide) rfl rfl ⟨by simp, by simp, by simp⟩ (fun g => rfl) (fun g => rfl) (fun g => rfl) (fun g => rfl) (fun g v => rfl) rfl (by intro u hu; simp at hu; rcases hu with rfl | rfl | rfl | rfl | rfl | rfl | rfl <;> rfl) (by show av ≤ 1048576; omega) (by show (av + 1) * 80 ≤ 140737488355328; omega) ⟨⟨5, .data⟩, by simp, rfl, rfl⟩ ⟨⟨10, .data⟩, by simp, rfl, rfl⟩, ?_⟩
                  refine ⟨ta.quiet (by decide) (by simp) (.pointer (some ⟨w.heap.size, 3, none⟩)) (by rintro s _ ⟨⟩; exact dk.sets_on _ (by simp) _ rfl) (fun s W hW => by simp [execOp, go_sem, Act.eval, dk.sets_get, wsN, List.lookup]), ?_⟩
                  refine ⟨ta.quiet (by decide) (by simp) (.slice none ms.length 0) (by rintro s _ ⟨⟩; exact dk.sets_on _ (by simp) _ rfl) (fun s W hW => by have c : W.cell? ⟨w.heap.size, 3, none⟩ = some (.slice none ms.length 0) := bcell (hW _ _ HPY.out.box hn8) rfl; simp [execOp, go_sem, Act.eval, dk.sets_get, wsN, List.lookup, c]), ?_⟩
                  refine ⟨ta.quiet (by decide) (by simp) (.int .i64 av) (by rintro s _ ⟨⟩; exact dk.sets_on _ (by simp) _ rfl) (fun s W hW => by simp [execOp, go_sem, Act.eval, dk.sets_get, wsN, List.lookup]), ?_⟩
                  refine ⟨ta.quiet (by decide) (by simp) (.slice none (ms.length - av) 0) (by rintro s _ ⟨⟩; exact dk.sets_on _ (by simp) _ rfl) (fun s W hW => by simp [execOp, go_sem, Act.eval, dk.sets_get, wsN, List.lookup, hav]), ?_⟩
                  refine ⟨tan.st4 (x := J0) (d := 99) (s1 := 94) (s2 := 98) (idx := 16) J0_up Try.underlying25 ki rfl rfl ⟨by simp, by simp, by simp⟩ (fun g => rfl) (fun g => rfl) (fun g => rfl) (fun g => rfl) (fun g v => rfl) (by show ms.length - av = 0; have := hms0.out; omega) (by show (ms.drop av).flatMap flH.c = []; rw [List.eq_nil_of_length_eq_zero hms0.out]; simp) ⟨⟨11, .data⟩, by simp, rfl, rfl⟩, ?_⟩
                  refine ⟨ta.quiet (by decide) (by simp) (.pointer (some ⟨w1.heap.size, 3, none⟩)) (by rintro s _ ⟨⟩; exact dk.sets_on _ (by simp) _ rfl) (fun s W hW => by simp [execOp, go_sem, Act.eval, dk.sets_get, wsN, List.lookup]), ?_⟩
                  exact ⟨ta.st5 (x := J0) J0_up (by simp) rfl HPY.out.lt (fun s W hW hv => by obtain ⟨va, vn, vc, hv⟩ := hv; have hu := hW _ _ HPY.out.out; have c : W.cell? ⟨w1.heap.size, 3, none⟩ = some (.slice (some ⟨h1, 0, none⟩) ms.length c2) := bcell hu rfl; have f := bfree hu 3; rw [hv]; simp [execOp, go_sem, Act.eval, dk.sets_get, wsN, List.lookup, c, f, hv]) ⟨⟨16, .data⟩, by simp, rfl, rfl⟩, trivial⟩
                case fin =>
                  intro gg L W hL hC
                  obtain ⟨V2, hV2, hWV, hown⟩ := ta.done hC J0_up (N := 19) (by decide) hL
                  replace hown : W.ownsRow Y.heap.size 55 7 gg.v3 (av + 1 + (ms.length - av)) ((ms.take av).flatMap flH.c ++ [.int .i64 t, .int .i64 o, .int .i64 q, .string x, .string y, .string z, .bool ag] ++ (ms.drop av).flatMap flH.c) := hown
                  have hlen : av + 1 + (ms.length - av) = AH.length := by rw [← HAH2.out]; simp; omega
                  have hfl : (ms.take av).flatMap flH.c ++ [.int .i64 t, .int .i64 o, .int .i64 q, .string x, .string y, .string z, .bool ag] ++ (ms.drop av).flatMap flH.c = AH.flatMap flH.c := by rw [← HAH2.out]; simp [flH.c]
                  rw [hfl, hlen] at hown
                  obtain ⟨h5, d5, hv3⟩ := form_pos hown (by rw [← hlen]; omega)
                  rw [hv3] at hown hWV
                  replace hV2 : Below Y.heap.size Y V2 := hV2
                  replace hWV : W = V2.setCell ⟨w1.heap.size, 3, none⟩ (.slice (some ⟨h5, 0, none⟩) AH.length d5) := hWV
                  have hpW : PX w sn nx es ms (some ⟨g, 0, none⟩) none cg 0 w1.heap.size (.slice (some ⟨g5, 0, none⟩) AR.length c5) (.slice (some ⟨h5, 0, none⟩) AH.length d5) W := by rw [hWV]; exact (HPY.out.on hV2).put3 _
                  have hoeW : W.ownsRow (w.heap.size + 3) 41 5 (.slice (some ⟨g5, 0, none⟩) AR.length c5) AR.length (AR.flatMap flM.c) := by rw [hWV]; exact owns_set (own_stay HOY.out hV2) (owns_ne (by decide) (own_stay HOY.out hV2) (HPY.out.on hV2).out) _
                  have hohW : W.ownsRow (w.heap.size + 3) 55 7 (.slice (some ⟨h5, 0, none⟩) AH.length d5) AH.length (AH.flatMap flH.c) := own_low hown (by have := HPY.out.lt; have := HPY.out.h8; omega)
                  have hMW : W.heap[wr.heap.size]? = some (.cells #[.int .i64 q, .string x, .string y, .string z, .bool ag] 41 (0, 0)) := by rw [hWV]; exact boff (bstay HMY.out hV2 (Array.getElem?_eq_some_iff.1 HMY.out).1) _ _ _ (by omega)
                  obtain ⟨d0, d1, d2, d3, d4⟩ := box5 hMW
                  have hmn1 : wr.heap.size ≠ w.heap.size + 1 := by omega
                  have hmn2 : wr.heap.size ≠ w.heap.size + 2 := by omega
                  have hmn3 : w.heap.size + 1 ≠ wr.heap.size := by omega
                  have hmn4 : w.heap.size + 2 ≠ wr.heap.size := by omega
                  simp only [dk.sets, wsN, hv3]
                  have HPW : Hid (PX w sn nx es ms (some ⟨g, 0, none⟩) none cg 0 w1.heap.size (.slice (some ⟨g5, 0, none⟩) AR.length c5) (.slice (some ⟨h5, 0, none⟩) AH.length d5) W) := hpW
                  have HOEW : Hid (W.ownsRow (w.heap.size + 3) 41 5 (.slice (some ⟨g5, 0, none⟩) AR.length c5) AR.length (AR.flatMap flM.c)) := hoeW
                  have HOHW : Hid (W.ownsRow (w.heap.size + 3) 55 7 (.slice (some ⟨h5, 0, none⟩) AH.length d5) AH.length (AH.flatMap flH.c)) := hohW
                  clear hC hL hV2 hWV hown hlen hfl hv3 hpW hoeW hohW hMW
                  have hp9 := HPW.out
                  have z0 : W.cell? ⟨w.heap.size + 1, 0, none⟩ = some (.string ⟨#[]⟩) := bcell hp9.res rfl
                  have z1 : W.cell? ⟨w.heap.size + 1, 1, none⟩ = some (.int .i64 0) := bcell hp9.res rfl
                  have z2 : W.cell? ⟨w.heap.size + 1, 2, none⟩ = some (.slice none 0 0) := bcell hp9.res rfl
                  have z3 : W.cell? ⟨w.heap.size + 1, 3, none⟩ = some (.slice none 0 0) := bcell hp9.res rfl
                  have y0 : W.cell? ⟨w.heap.size + 2, 0, none⟩ = some (.int .i64 0) := bcell hp9.rem rfl
                  have y1 : W.cell? ⟨w.heap.size + 2, 1, none⟩ = some (.string ⟨#[]⟩) := bcell hp9.rem rfl
                  have y2 : W.cell? ⟨w.heap.size + 2, 2, none⟩ = some (.string ⟨#[]⟩) := bcell hp9.rem rfl
                  have y3 : W.cell? ⟨w.heap.size + 2, 3, none⟩ = some (.string ⟨#[]⟩) := bcell hp9.rem rfl
                  have y4 : W.cell? ⟨w.heap.size + 2, 4, none⟩ = some (.bool false) := bcell hp9.rem rfl
                  have f0 := bfree hp9.res 0
                  have f1 := bfree hp9.res 1
                  have f2 := bfree hp9.res 2
                  have f3 := bfree hp9.res 3
                  have e0 := bfree hp9.rem 0
                  have e1 := bfree hp9.rem 1
                  have e2 := bfree hp9.rem 2
                  have e3 := bfree hp9.rem 3
                  have e4 := bfree hp9.rem 4
                  have n0 : W.cell? ⟨w1.heap.size, 0, none⟩ = some (.string sn) := bcell hp9.out rfl
                  have n1 : W.cell? ⟨w1.heap.size, 1, none⟩ = some (.int .i64 nx) := bcell hp9.out rfl
                  have n2 : W.cell? ⟨w1.heap.size, 2, none⟩ = some (.slice (some ⟨g5, 0, none⟩) AR.length c5) := bcell hp9.out rfl
                  have n3 : W.cell? ⟨w1.heap.size, 3, none⟩ = some (.slice (some ⟨h5, 0, none⟩) AH.length d5) := bcell hp9.out rfl
                  have hne1 : w1.heap.size ≠ w.heap.size + 1 := by have := hp9.h8; omega
                  have hne2 : w1.heap.size ≠ w.heap.size + 2 := by have := hp9.h8; omega
                  have hne3 : w.heap.size + 1 ≠ w1.heap.size := by have := hp9.h8; omega
                  have hne4 : w.heap.size + 2 ≠ w1.heap.size := by have := hp9.h8; omega
                  have HFN : Hid (W.ownsRow (w.heap.size + 3) 41 5 (.slice (some ⟨g5, 0, none⟩) AR.length c5) AR.length (AR.flatMap flM.c) ∧ W.ownsRow (w.heap.size + 3) 55 7 (.slice (some ⟨h5, 0, none⟩) AH.length d5) AH.length (AH.flatMap flH.c) ∧ Below w.heap.size w W) := ⟨HOEW.out, HOHW.out, hp9.bel⟩
                  clear hp9
                  go_wp2
                  go_region_with (fail)
                  all_goals go_wp2
                  all_goals
                    refine bodyPost_ret (v := .tuple #[.agg #[.string sn, .int .i64 nx, .slice (some ⟨g5, 0, none⟩) AR.length c5, .slice (some ⟨h5, 0, none⟩) AH.length d5], .agg #[.int .i64 q, .string x, .string y, .string z, .bool ag], .bool true]) (by simp [results, Try.results18, go_sem, z0, z1, z2, z3, y0, y1, y2, y3, y4]) rfl ⟨_, _, _, _, rfl, ?_, ?_, ?_⟩
                    · exact own_low (own_stay (own9 HFN.out.1 (by omega) (by omega)) (Below.drew (Below.refl _ _))) (by omega)
                    · exact .inr ⟨_, rfl, own_low (own_stay (own9 HFN.out.2.1 (by omega) (by omega)) (Below.drew (Below.refl _ _))) (by omega)⟩
                    · exact Below.drew (s9.bel HFN.out.2.2 (by omega) (by omega))
              · have HTL : Hid (es.tail.length = es.length - 1) := by show es.tail.length = es.length - 1; rw [List.length_tail]
                have NEWS : Hid (∀ (j : Nat) (u : Value), (es.tail.flatMap flM.c)[j]? = some u → V.cell? ((⟨g, 5, none⟩ : Addr).add j) = some u) := newsT HRV.out HH0.out.2.2
                go_wp2_with (at_builtin; refine wpList_append_own _ rfl _ _ 24 rfl (w.heap.size + 3) 41 i0 (.agg #[.int .i64 0, .string ByteArray.empty, .string ByteArray.empty, .string ByteArray.empty, .bool false]) 5 64 Try.underlying24 hi hz0 hz1 hz2 rfl (by decide) _ 0 [] rfl (by exact HOV.out) ⟨g, 5, none⟩ (es.length - 1) (cg - 1) (es.tail.flatMap flM.c) rfl (by rw [flat_len flM.c_len, HTL.out]) (by exact NEWS.out) (oneY _) (by unfold maxLen; omega) (by omega) (by omega) ?_)
                intro v1 wA hown1 hgrow1 hnil1
                obtain ⟨g5, c5, rfl, hg5, hg5l⟩ := form hown1 (fun e => by first | exact hnil1 e | (have := hnil1.1 e; cases this.1))
                have hgr1 : V.grownBy wA (some (wr.heap.size + 1)) := hgrow1
                have hpA := HPV.out.grown hgr1 (by have := (HPX.out.on hBr.out).lt; omega)
                have hownA : wA.ownsRow (w.heap.size + 3) 41 5 (.slice (some ⟨g5, 0, none⟩) AR.length c5) AR.length (AR.flatMap flM.c) := by rw [← HTA.out, HTL.out]; first | exact hown1 | simpa using hown1
                have HMA : Hid (wA.heap[wr.heap.size]? = some (.cells #[.int .i64 q, .string x, .string y, .string z, .bool ag] 41 (0, 0))) := grown_at hgr1 HMB.out (by simp)
                have u2 : wA.cell? ⟨w1.heap.size, 2, none⟩ = some (.slice (some ⟨g1, 0, none⟩) es.length c1) := bcell hpA.out rfl
                have u2f := bfree hpA.out 2
                have HPA : Hid (PX w sn nx es ms (some ⟨g, 0, none⟩) none cg 0 w1.heap.size (.slice (some ⟨g1, 0, none⟩) es.length c1) (.slice (some ⟨h1, 0, none⟩) ms.length c2) wA) := hpA
                have HOA : Hid (wA.ownsRow (w.heap.size + 3) 41 5 (.slice (some ⟨g5, 0, none⟩) AR.length c5) AR.length (AR.flatMap flM.c)) := hownA
                have hw1r : w1.heap.size < wr.heap.size := (HPX.out.on hBr.out).lt
                clear hown1 hgrow1 hnil1 hpA hownA hgr1 v2 hal hV
                go_wp2
                have hpY : PX w sn nx es ms (some ⟨g, 0, none⟩) none cg 0 w1.heap.size (.slice (some ⟨g5, 0, none⟩) AR.length c5) (.slice (some ⟨h1, 0, none⟩) ms.length c2) (wA.setCell ⟨w1.heap.size, 2, none⟩ (.slice (some ⟨g5, 0, none⟩) (es.length - 1) c5)) := by rw [← HTA.out, HTL.out]; exact HPA.out.put2 _
                have hoY : (wA.setCell ⟨w1.heap.size, 2, none⟩ (.slice (some ⟨g5, 0, none⟩) (es.length - 1) c5)).ownsRow (w.heap.size + 3) 41 5 (.slice (some ⟨g5, 0, none⟩) AR.length c5) AR.length (AR.flatMap flM.c) := owns_set HOA.out (owns_ne (by decide) HOA.out HPA.out.out) _
                have hMY : (wA.setCell ⟨w1.heap.size, 2, none⟩ (.slice (some ⟨g5, 0, none⟩) (es.length - 1) c5)).heap[wr.heap.size]? = some (.cells #[.int .i64 q, .string x, .string y, .string z, .bool ag] 41 (0, 0)) := boff HMA.out _ _ _ (by omega)
                obtain ⟨Y, hYY⟩ : ∃ Y, wA.setCell ⟨w1.heap.size, 2, none⟩ (.slice (some ⟨g5, 0, none⟩) (es.length - 1) c5) = Y := ⟨_, rfl⟩
                rw [hYY] at hpY hoY hMY ⊢
                have HPY : Hid (PX w sn nx es ms (some ⟨g, 0, none⟩) none cg 0 w1.heap.size (.slice (some ⟨g5, 0, none⟩) AR.length c5) (.slice (some ⟨h1, 0, none⟩) ms.length c2) Y) := hpY
                have HOY : Hid (Y.ownsRow (w.heap.size + 3) 41 5 (.slice (some ⟨g5, 0, none⟩) AR.length c5) AR.length (AR.flatMap flM.c)) := hoY
                have HMY : Hid (Y.heap[wr.heap.size]? = some (.cells #[.int .i64 q, .string x, .string y, .string z, .bool ag] 41 (0, 0))) := hMY
                have HHY : Hid (Row flH.c 7 Y Y.heap.size none ms) := HE.out.inn hpY.bel
                have hn8 : w.heap.size ≠ w1.heap.size := by have := hpY.h8; omega
                obtain ⟨i1, ki, kz0, kz1, kz2⟩ := infoK
                clear hYY hpY hoY hMY HPA HOA HMA u2 u2f x0 x1 x2 x3 e0 e1 e2 e3 e4
                refine dk.region_gsets (wsN w.heap.size ms.length w1.heap.size av o t q x y z ag) [83, 84, 85, 86, 87, 88, 89, 90, 91, 92, 93, 94, 95, 96, 97, 98, 99, 100] (ta.C ⟨Y, 55, 7, (ms.take av).flatMap flH.c, [.int .i64 t, .int .i64 o, .int .i64 q, .string x, .string y, .string z, .bool ag], (ms.drop av).flatMap flH.c, av, ms.length - av, w1.heap.size, 3⟩ J0) ⟨0, .slice none 0 0, 0, .slice none 0 0, .slice none 0 0⟩ (by kernel_rfl) (by kernel_rfl) (fun _ => rfl) (by kernel_rfl) (ta.start _ _ _) ?each ?fin
                case each =>
                  refine ⟨ta.st0 (x := J0) (d := 83) (idx := 0) J0_up (by simp) rfl (by simp) (fun g => rfl) (fun g => rfl) (fun g e => rfl) (fun s W => by simp [execOp, go_sem]), ?_⟩
                  refine ⟨ta.quiet (by decide) (by simp) (.pointer (some ⟨w.heap.size, 3, none⟩)) (by rintro s _ ⟨⟩; exact dk.sets_on _ (by simp) _ rfl) (fun s W hW => by simp [execOp, go_sem, Act.eval, dk.sets_get, wsN, List.lookup]), ?_⟩
                  refine ⟨ta.quiet (by decide) (by simp) (.slice none ms.length 0) (by rintro s _ ⟨⟩; exact dk.sets_on _ (by simp) _ rfl) (fun s W hW => by have c : W.cell? ⟨w.heap.size, 3, none⟩ = some (.slice none ms.length 0) := bcell (hW _ _ HPY.out.box hn8) rfl; simp [execOp, go_sem, Act.eval, dk.sets_get, wsN, List.lookup, c]), ?_⟩
                  refine ⟨ta.quiet (by decide) (by simp) (.int .i64 av) (by rintro s _ ⟨⟩; exact dk.sets_on _ (by simp) _ rfl) (fun s W hW => by simp [execOp, go_sem, Act.eval, dk.sets_get, wsN, List.lookup]), ?_⟩
                  refine ⟨ta.quiet (by decide) (by simp) (.slice none av 0) (by rintro s _ ⟨⟩; exact dk.sets_on _ (by simp) _ rfl) (fun s W hW => by have h0 : av = 0 := Nat.le_zero.1 havc; simp [execOp, go_sem, Act.eval, dk.sets_get, wsN, List.lookup, h0]), ?_⟩
                  refine ⟨tan.st1 (x := J0) (d := 88) (s1 := 83) (s2 := 87) (idx := 5) J0_up Try.underlying25 ki rfl rfl ⟨by simp, by simp, by simp⟩ (fun g => rfl) (fun g => rfl) (fun g => rfl) (fun g => rfl) (fun g v => rfl) (Nat.le_zero.1 havc) (by show (ms.take av).flatMap flH.c = []; rw [List.eq_nil_of_length_eq_zero hms0.out]; simp) ⟨⟨0, .data⟩, by simp, rfl, rfl⟩, ?_⟩
                  refine ⟨ta.quiet (by decide) (by simp) (.int .i64 t) (by rintro s _ ⟨⟩; exact dk.sets_on _ (by simp) _ rfl) (fun s W hW => by simp [execOp, go_sem, Act.eval, dk.sets_get, wsN, List.lookup]), ?_⟩
                  refine ⟨ta.quiet (by decide) (by simp) (.int .i64 o) (by rintro s _ ⟨⟩; exact dk.sets_on _ (by simp) _ rfl) (fun s W hW => by simp [execOp, go_sem, Act.eval, dk.sets_get, wsN, List.lookup]), ?_⟩
                  refine ⟨ta.quiet (by decide) (by simp) (.agg #[.int .i64 q, .string x, .string y, .string z, .bool ag]) (by rintro s _ ⟨⟩; exact dk.sets_on _ (by simp) _ rfl) (fun s W hW => by obtain ⟨d0, d1, d2, d3, d4⟩ := box5 (hW _ _ HMY.out (by show wr.heap.size ≠ w1.heap.size; omega)); simp [execOp, go_sem, Act.eval, dk.sets_get, wsN, List.lookup, d0, d1, d2, d3, d4]), ?_⟩
                  refine ⟨ta.quiet (by decide) (by simp) (.agg #[.int .i64 t, .int .i64 o, .int .i64 q, .string x, .string y, .string z, .bool ag]) (by rintro s _ ⟨⟩; exact dk.sets_on _ (by simp) _ rfl) (fun s W hW => by simp [execOp, go_sem, Act.eval, dk.sets_get, wsN, List.lookup]), ?_⟩
                  refine ⟨ta.st2 (x := J0) (d := 93) (idx := 10) J0_up (by simp) rfl (by simp) (fun g => rfl) (fun g => rfl) (fun g e => rfl) (fun s W => by simp [execOp, go_sem, Act.eval, dk.sets_get, wsN, List.lookup]), ?_⟩
                  refine ⟨ta.st3 (x := J0) (d := 94) (s1 := 88) (s2 := 93) (idx := 11) J0_up Try.underlying25 ki kz0 kz1 kz2 rfl (by show 0 < 7; decide) rfl rfl ⟨by simp, by simp, by simp⟩ (fun g => rfl) (fun g => rfl) (fun g => rfl) (fun g => rfl) (fun g v => rfl) rfl (by intro u hu; simp at hu; rcases hu with rfl | rfl | rfl | rfl | rfl | rfl | rfl <;> rfl) (by show av ≤ 1048576; omega) (by show (av + 1) * 80 ≤ 140737488355328; omega) ⟨⟨5, .data⟩, by simp, rfl, rfl⟩ ⟨⟨10, .data⟩, by simp, rfl, rfl⟩, ?_⟩
                  refine ⟨ta.quiet (by decide) (by simp) (.pointer (some ⟨w.heap.size, 3, none⟩)) (by rintro s _ ⟨⟩; exact dk.sets_on _ (by simp) _ rfl) (fun s W hW => by simp [execOp, go_sem, Act.eval, dk.sets_get, wsN, List.lookup]), ?_⟩
                  refine ⟨ta.quiet (by decide) (by simp) (.slice none ms.length 0) (by rintro s _ ⟨⟩; exact dk.sets_on _ (by simp) _ rfl) (fun s W hW => by have c : W.cell? ⟨w.heap.size, 3, none⟩ = some (.slice none ms.length 0) := bcell (hW _ _ HPY.out.box hn8) rfl; simp [execOp, go_sem, Act.eval, dk.sets_get, wsN, List.lookup, c]), ?_⟩
                  refine ⟨ta.quiet (by decide) (by simp) (.int .i64 av) (by rintro s _ ⟨⟩; exact dk.sets_on _ (by simp) _ rfl) (fun s W hW => by simp [execOp, go_sem, Act.eval, dk.sets_get, wsN, List.lookup]), ?_⟩
                  refine ⟨ta.quiet (by decide) (by simp) (.slice none (ms.length - av) 0) (by rintro s _ ⟨⟩; exact dk.sets_on _ (by simp) _ rfl) (fun s W hW => by simp [execOp, go_sem, Act.eval, dk.sets_get, wsN, List.lookup, hav]), ?_⟩
                  refine ⟨tan.st4 (x := J0) (d := 99) (s1 := 94) (s2 := 98) (idx := 16) J0_up Try.underlying25 ki rfl rfl ⟨by simp, by simp, by simp⟩ (fun g => rfl) (fun g => rfl) (fun g => rfl) (fun g => rfl) (fun g v => rfl) (by show ms.length - av = 0; have := hms0.out; omega) (by show (ms.drop av).flatMap flH.c = []; rw [List.eq_nil_of_length_eq_zero hms0.out]; simp) ⟨⟨11, .data⟩, by simp, rfl, rfl⟩, ?_⟩
                  refine ⟨ta.quiet (by decide) (by simp) (.pointer (some ⟨w1.heap.size, 3, none⟩)) (by rintro s _ ⟨⟩; exact dk.sets_on _ (by simp) _ rfl) (fun s W hW => by simp [execOp, go_sem, Act.eval, dk.sets_get, wsN, List.lookup]), ?_⟩
                  exact ⟨ta.st5 (x := J0) J0_up (by simp) rfl HPY.out.lt (fun s W hW hv => by obtain ⟨va, vn, vc, hv⟩ := hv; have hu := hW _ _ HPY.out.out; have c : W.cell? ⟨w1.heap.size, 3, none⟩ = some (.slice (some ⟨h1, 0, none⟩) ms.length c2) := bcell hu rfl; have f := bfree hu 3; rw [hv]; simp [execOp, go_sem, Act.eval, dk.sets_get, wsN, List.lookup, c, f, hv]) ⟨⟨16, .data⟩, by simp, rfl, rfl⟩, trivial⟩
                case fin =>
                  intro gg L W hL hC
                  obtain ⟨V2, hV2, hWV, hown⟩ := ta.done hC J0_up (N := 19) (by decide) hL
                  replace hown : W.ownsRow Y.heap.size 55 7 gg.v3 (av + 1 + (ms.length - av)) ((ms.take av).flatMap flH.c ++ [.int .i64 t, .int .i64 o, .int .i64 q, .string x, .string y, .string z, .bool ag] ++ (ms.drop av).flatMap flH.c) := hown
                  have hlen : av + 1 + (ms.length - av) = AH.length := by rw [← HAH2.out]; simp; omega
                  have hfl : (ms.take av).flatMap flH.c ++ [.int .i64 t, .int .i64 o, .int .i64 q, .string x, .string y, .string z, .bool ag] ++ (ms.drop av).flatMap flH.c = AH.flatMap flH.c := by rw [← HAH2.out]; simp [flH.c]
                  rw [hfl, hlen] at hown
                  obtain ⟨h5, d5, hv3⟩ := form_pos hown (by rw [← hlen]; omega)
                  rw [hv3] at hown hWV
                  replace hV2 : Below Y.heap.size Y V2 := hV2
                  replace hWV : W = V2.setCell ⟨w1.heap.size, 3, none⟩ (.slice (some ⟨h5, 0, none⟩) AH.length d5) := hWV
                  have hpW : PX w sn nx es ms (some ⟨g, 0, none⟩) none cg 0 w1.heap.size (.slice (some ⟨g5, 0, none⟩) AR.length c5) (.slice (some ⟨h5, 0, none⟩) AH.length d5) W := by rw [hWV]; exact (HPY.out.on hV2).put3 _
                  have hoeW : W.ownsRow (w.heap.size + 3) 41 5 (.slice (some ⟨g5, 0, none⟩) AR.length c5) AR.length (AR.flatMap flM.c) := by rw [hWV]; exact owns_set (own_stay HOY.out hV2) (owns_ne (by decide) (own_stay HOY.out hV2) (HPY.out.on hV2).out) _
                  have hohW : W.ownsRow (w.heap.size + 3) 55 7 (.slice (some ⟨h5, 0, none⟩) AH.length d5) AH.length (AH.flatMap flH.c) := own_low hown (by have := HPY.out.lt; have := HPY.out.h8; omega)
                  have hMW : W.heap[wr.heap.size]? = some (.cells #[.int .i64 q, .string x, .string y, .string z, .bool ag] 41 (0, 0)) := by rw [hWV]; exact boff (bstay HMY.out hV2 (Array.getElem?_eq_some_iff.1 HMY.out).1) _ _ _ (by omega)
                  obtain ⟨d0, d1, d2, d3, d4⟩ := box5 hMW
                  have hmn1 : wr.heap.size ≠ w.heap.size + 1 := by omega
                  have hmn2 : wr.heap.size ≠ w.heap.size + 2 := by omega
                  have hmn3 : w.heap.size + 1 ≠ wr.heap.size := by omega
                  have hmn4 : w.heap.size + 2 ≠ wr.heap.size := by omega
                  simp only [dk.sets, wsN, hv3]
                  have HPW : Hid (PX w sn nx es ms (some ⟨g, 0, none⟩) none cg 0 w1.heap.size (.slice (some ⟨g5, 0, none⟩) AR.length c5) (.slice (some ⟨h5, 0, none⟩) AH.length d5) W) := hpW
                  have HOEW : Hid (W.ownsRow (w.heap.size + 3) 41 5 (.slice (some ⟨g5, 0, none⟩) AR.length c5) AR.length (AR.flatMap flM.c)) := hoeW
                  have HOHW : Hid (W.ownsRow (w.heap.size + 3) 55 7 (.slice (some ⟨h5, 0, none⟩) AH.length d5) AH.length (AH.flatMap flH.c)) := hohW
                  clear hC hL hV2 hWV hown hlen hfl hv3 hpW hoeW hohW hMW
                  have hp9 := HPW.out
                  have z0 : W.cell? ⟨w.heap.size + 1, 0, none⟩ = some (.string ⟨#[]⟩) := bcell hp9.res rfl
                  have z1 : W.cell? ⟨w.heap.size + 1, 1, none⟩ = some (.int .i64 0) := bcell hp9.res rfl
                  have z2 : W.cell? ⟨w.heap.size + 1, 2, none⟩ = some (.slice none 0 0) := bcell hp9.res rfl
                  have z3 : W.cell? ⟨w.heap.size + 1, 3, none⟩ = some (.slice none 0 0) := bcell hp9.res rfl
                  have y0 : W.cell? ⟨w.heap.size + 2, 0, none⟩ = some (.int .i64 0) := bcell hp9.rem rfl
                  have y1 : W.cell? ⟨w.heap.size + 2, 1, none⟩ = some (.string ⟨#[]⟩) := bcell hp9.rem rfl
                  have y2 : W.cell? ⟨w.heap.size + 2, 2, none⟩ = some (.string ⟨#[]⟩) := bcell hp9.rem rfl
                  have y3 : W.cell? ⟨w.heap.size + 2, 3, none⟩ = some (.string ⟨#[]⟩) := bcell hp9.rem rfl
                  have y4 : W.cell? ⟨w.heap.size + 2, 4, none⟩ = some (.bool false) := bcell hp9.rem rfl
                  have f0 := bfree hp9.res 0
                  have f1 := bfree hp9.res 1
                  have f2 := bfree hp9.res 2
                  have f3 := bfree hp9.res 3
                  have e0 := bfree hp9.rem 0
                  have e1 := bfree hp9.rem 1
                  have e2 := bfree hp9.rem 2
                  have e3 := bfree hp9.rem 3
                  have e4 := bfree hp9.rem 4
                  have n0 : W.cell? ⟨w1.heap.size, 0, none⟩ = some (.string sn) := bcell hp9.out rfl
                  have n1 : W.cell? ⟨w1.heap.size, 1, none⟩ = some (.int .i64 nx) := bcell hp9.out rfl
                  have n2 : W.cell? ⟨w1.heap.size, 2, none⟩ = some (.slice (some ⟨g5, 0, none⟩) AR.length c5) := bcell hp9.out rfl
                  have n3 : W.cell? ⟨w1.heap.size, 3, none⟩ = some (.slice (some ⟨h5, 0, none⟩) AH.length d5) := bcell hp9.out rfl
                  have hne1 : w1.heap.size ≠ w.heap.size + 1 := by have := hp9.h8; omega
                  have hne2 : w1.heap.size ≠ w.heap.size + 2 := by have := hp9.h8; omega
                  have hne3 : w.heap.size + 1 ≠ w1.heap.size := by have := hp9.h8; omega
                  have hne4 : w.heap.size + 2 ≠ w1.heap.size := by have := hp9.h8; omega
                  have HFN : Hid (W.ownsRow (w.heap.size + 3) 41 5 (.slice (some ⟨g5, 0, none⟩) AR.length c5) AR.length (AR.flatMap flM.c) ∧ W.ownsRow (w.heap.size + 3) 55 7 (.slice (some ⟨h5, 0, none⟩) AH.length d5) AH.length (AH.flatMap flH.c) ∧ Below w.heap.size w W) := ⟨HOEW.out, HOHW.out, hp9.bel⟩
                  clear hp9
                  go_wp2
                  go_region_with (fail)
                  all_goals go_wp2
                  all_goals
                    refine bodyPost_ret (v := .tuple #[.agg #[.string sn, .int .i64 nx, .slice (some ⟨g5, 0, none⟩) AR.length c5, .slice (some ⟨h5, 0, none⟩) AH.length d5], .agg #[.int .i64 q, .string x, .string y, .string z, .bool ag], .bool true]) (by simp [results, Try.results18, go_sem, z0, z1, z2, z3, y0, y1, y2, y3, y4]) rfl ⟨_, _, _, _, rfl, ?_, ?_, ?_⟩
                    · exact own_low (own_stay (own9 HFN.out.1 (by omega) (by omega)) (Below.drew (Below.refl _ _))) (by omega)
                    · exact .inr ⟨_, rfl, own_low (own_stay (own9 HFN.out.2.1 (by omega) (by omega)) (Below.drew (Below.refl _ _))) (by omega)⟩
                    · exact Below.drew (s9.bel HFN.out.2.2 (by omega) (by omega))
end Go.Proofs.Ytnlcmheahihlpaa.qom
