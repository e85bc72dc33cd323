/- A mark put among ascending marks: where it goes, and the list behind it. -/
import Derived.Test.YtlfhfcgcfggjcaaDoorStreamWay
import Derived.Test.YtlfhfcgcfggjcaaDoorMarkFind
namespace Go.Proofs.YtlfhfcgcfggjcaaDoor.smp
open Go.ChangeShapes Go.WideShapes Go.ChangeAt Go.RowKit Go.Proofs.YtlfhfcgcfggjcaaDoor.fl Go.Proofs.YtlfhfcgcfggjcaaDoor.fo Go.Proofs.YtlfhfcgcfggjcaaDoor.rc Go.Proofs.YtlfhfcgcfggjcaaDoor.rr Go.Proofs.YtlfhfcgcfggjcaaDoor.rf Go.Proofs.YtlfhfcgcfggjcaaDoor.rs Go.Proofs.YtlfhfcgcfggjcaaDoor.ro Go.Proofs.YtlfhfcgcfggjcaaDoor.st Go.Proofs.YtlfhfcgcfggjcaaDoor.srd Go.Proofs.YtlfhfcgcfggjcaaDoor.scp Go.Proofs.YtlfhfcgcfggjcaaDoor.spw
set_option linter.unusedVariables false

def posM : List Ex → ByteArray → Nat
  | [], _ => 0
  | e :: l, r => if lt e.n r then posM l r + 1 else 0
theorem posM_le : ∀ (l : List Ex) (r : ByteArray), posM l r ≤ l.length
  | [], _ => Nat.le_refl _
  | e :: l, r => by
    unfold posM
    have := posM_le l r
    split
    · simpa using this
    · exact Nat.zero_le _
theorem posM_eq : ∀ (l : List Ex) (r : ByteArray) (p : Nat), p ≤ l.length → (∀ (i : Nat) a, i < p → l[i]? = some a → lt a.n r = true) → (∀ a, l[p]? = some a → lt a.n r = false) → posM l r = p
  | [], r, p, h, _, _ => by simp at h; subst h; rfl
  | e :: l, r, 0, _, _, h3 => by
    unfold posM
    rw [h3 e rfl]
    rfl
  | e :: l, r, p + 1, h1, h2, h3 => by
    unfold posM
    rw [h2 0 e (by omega) rfl, if_pos rfl, posM_eq l r p (by simpa using h1) (fun i a hi ha => h2 (i + 1) a (by omega) (by simpa using ha)) (fun a ha => h3 a (by simpa using ha))]
theorem posM_of {l : List Ex} {r : ByteArray} {p : Nat} (h : PosE l r p) : posM l r = p :=
  posM_eq l r p h.1 (fun i a hi ha => cmp_neg.1 (h.2.1 i a hi ha)) (fun a ha => by
    have := h.2.2 p a (Nat.le_refl _) ha
    cases hh : lt a.n r with
    | false => rfl
    | true => have := cmp_neg.2 hh; omega)
/-- whether the mark at a place is the reader's -/
def isM (l : List Ex) (p : Nat) (r : ByteArray) : Bool := match l[p]? with | some a => decide (a.n = r) | none => false
def restM (l : List Ex) (r : ByteArray) : List Ex := if isM l (posM l r) r = true then l.drop (posM l r + 1) else l.drop (posM l r)
def setM (l : List Ex) (r : ByteArray) (o : Int) : List Ex := l.take (posM l r) ++ ⟨r, o⟩ :: restM l r
theorem setM_le (l : List Ex) (r : ByteArray) (o : Int) : (setM l r o).length ≤ l.length + 1 := by
  have := posM_le l r
  unfold setM restM
  split <;> simp <;> omega
theorem setM_mem {l : List Ex} {r : ByteArray} {o : Int} {e : Ex} (h : e ∈ setM l r o) : e ∈ l ∨ e = ⟨r, o⟩ := by
  unfold setM restM at h
  rcases List.mem_append.1 h with h | h
  · exact .inl (List.mem_of_mem_take h)
  · rcases List.mem_cons.1 h with h | h
    · exact .inr h
    · split at h <;> exact .inl (List.mem_of_mem_drop h)
theorem isM_true {l : List Ex} {p : Nat} {r : ByteArray} : isM l p r = true ↔ ∃ a, l[p]? = some a ∧ cmpT a.n r = 0 := by
  unfold isM
  cases h : l[p]? with
  | none => simp
  | some a => simp [cmp_zero]
/-- there already: it is put in its place -/
theorem setM_there {l : List Ex} {r : ByteArray} {o : Int} {p : Nat} (h : posM l r = p) (hm : isM l p r = true) : setM l r o = l.set p ⟨r, o⟩ := by
  subst h
  have hp : posM l r < l.length := by
    obtain ⟨a, ha, _⟩ := isM_true.1 hm
    exact (List.getElem?_eq_some_iff.1 ha).1
  unfold setM restM
  rw [if_pos hm, List.set_eq_take_append_cons_drop, if_pos hp]
/-- not there: it is put between -/
theorem setM_new {l : List Ex} {r : ByteArray} {o : Int} {p : Nat} (h : posM l r = p) (hm : isM l p r = false) : setM l r o = l.take p ++ ⟨r, o⟩ :: l.drop p := by
  subst h
  unfold setM restM
  rw [if_neg (by rw [hm]; simp)]
noncomputable def fits (sn : ByteArray) (lo nx : Int) (es : List flY.En) (ms : List Ex) (r : ByteArray) (o : Int) : Bool := okB sn lo nx es ms && okB sn lo nx es (setM ms r o)
noncomputable def ansM (sn : ByteArray) (lo nx : Int) (es : List flY.En) (ms : List Ex) (r : ByteArray) (o : Int) : List Ex := if fits sn lo nx es ms r o = true then setM ms r o else ms
theorem ansM_le (sn : ByteArray) (lo nx : Int) (es : List flY.En) (ms : List Ex) (r : ByteArray) (o : Int) : (ansM sn lo nx es ms r o).length ≤ ms.length + 1 := by
  unfold ansM
  split
  · exact setM_le _ _ _
  · omega
theorem fit_mark {sn : ByteArray} {lo nx o : Int} {es : List flY.En} {ms : List Ex} {r : ByteArray} (F : Fit sn es ms) (hok : OkT sn lo nx es ms) (hb : r.size ≤ 1048576) : Fit sn es (setM ms r o) :=
  ⟨F.ns, F.el, by have := hok.ml; have := setM_le ms r o; omega, F.eb, fun e he => by
    rcases setM_mem he with h | h
    · exact F.mb e h
    · subst h; exact hb⟩

/-- what stands on the way, where the marks change -/
structure SM (w : World) (sn : ByteArray) (lo nx : Int) (es : List flY.En) (ms : List Ex) (g h : Option Addr) (cg ch : Nat) (n8 : Nat) (g1 c1 h1 c2 : Nat) (m : List Ex) (X : World) : Prop where
  bel : Below w.heap.size w X
  box : X.heap[w.heap.size]? = some (.cells #[.string sn, .int .i64 lo, .int .i64 nx, .slice g es.length cg, .slice h ms.length ch] 27 (0, 0))
  res : X.heap[w.heap.size + 1]? = some (.cells #[.string ⟨#[]⟩, .int .i64 0, .int .i64 0, .slice none 0 0, .slice none 0 0] 27 (0, 0))
  out : X.heap[n8]? = some (.cells #[.string sn, .int .i64 lo, .int .i64 nx, .slice (some ⟨g1, 0, none⟩) es.length c1, .slice (some ⟨h1, 0, none⟩) m.length c2] 27 (0, 0))
  oe : X.ownsRow (w.heap.size + 2) 43 3 (.slice (some ⟨g1, 0, none⟩) es.length c1) es.length (es.flatMap flY.c)
  om : X.ownsRow (w.heap.size + 2) 45 2 (.slice (some ⟨h1, 0, none⟩) m.length c2) m.length (m.flatMap flK.c)
  h8 : w.heap.size + 2 ≤ n8
section
variable {w : World} {sn : ByteArray} {lo nx : Int} {es : List flY.En} {ms : List Ex} {g h : Option Addr} {cg ch : Nat} {n8 g1 c1 h1 c2 : Nat} {m : List Ex} {X X' : World}
theorem SM.on (hs : SM w sn lo nx es ms g h cg ch n8 g1 c1 h1 c2 m X) (hb : Below X.heap.size X X') : SM w sn lo nx es ms g h cg ch n8 g1 c1 h1 c2 m X' :=
  ⟨hs.bel.trans (hb.mono hs.bel.size), bstay hs.box hb (Array.getElem?_eq_some_iff.1 hs.box).1, bstay hs.res hb (Array.getElem?_eq_some_iff.1 hs.res).1, bstay hs.out hb (Array.getElem?_eq_some_iff.1 hs.out).1, own_stay hs.oe hb, own_stay hs.om hb, hs.h8⟩
theorem SM.size (hs : SM w sn lo nx es ms g h cg ch n8 g1 c1 h1 c2 m X) : w.heap.size + 2 ≤ X.heap.size := (Array.getElem?_eq_some_iff.1 hs.res).1
theorem sm_of (hs : SP w sn lo nx es ms g h cg ch n8 lo nx g1 c1 h1 c2 es X) : SM w sn lo nx es ms g h cg ch n8 g1 c1 h1 c2 ms X := ⟨hs.bel, hs.box, hs.res, hs.out, hs.oe, hs.om, hs.h8⟩
end
/-- the same, the marks' row aside -/
structure ST (w : World) (sn : ByteArray) (lo nx : Int) (es : List flY.En) (ms : List Ex) (g h : Option Addr) (cg ch : Nat) (n8 : Nat) (g1 c1 : Nat) (x4 : Value) (X : World) : Prop where
  bel : Below w.heap.size w X
  box : X.heap[w.heap.size]? = some (.cells #[.string sn, .int .i64 lo, .int .i64 nx, .slice g es.length cg, .slice h ms.length ch] 27 (0, 0))
  res : X.heap[w.heap.size + 1]? = some (.cells #[.string ⟨#[]⟩, .int .i64 0, .int .i64 0, .slice none 0 0, .slice none 0 0] 27 (0, 0))
  out : X.heap[n8]? = some (.cells #[.string sn, .int .i64 lo, .int .i64 nx, .slice (some ⟨g1, 0, none⟩) es.length c1, x4] 27 (0, 0))
  oe : X.ownsRow (w.heap.size + 2) 43 3 (.slice (some ⟨g1, 0, none⟩) es.length c1) es.length (es.flatMap flY.c)
  h8 : w.heap.size + 2 ≤ n8
section
variable {w : World} {sn : ByteArray} {lo nx : Int} {es : List flY.En} {ms : List Ex} {g h : Option Addr} {cg ch : Nat} {n8 g1 c1 h1 c2 b n c : Nat} {x4 : Value} {xs : List Value} {m : List Ex} {X X' : World}
theorem SM.st (hs : SM w sn lo nx es ms g h cg ch n8 g1 c1 h1 c2 m X) : ST w sn lo nx es ms g h cg ch n8 g1 c1 (.slice (some ⟨h1, 0, none⟩) m.length c2) X := ⟨hs.bel, hs.box, hs.res, hs.out, hs.oe, hs.h8⟩
theorem ST.on (hs : ST w sn lo nx es ms g h cg ch n8 g1 c1 x4 X) (hb : Below X.heap.size X X') : ST w sn lo nx es ms g h cg ch n8 g1 c1 x4 X' :=
  ⟨hs.bel.trans (hb.mono hs.bel.size), bstay hs.box hb (Array.getElem?_eq_some_iff.1 hs.box).1, bstay hs.res hb (Array.getElem?_eq_some_iff.1 hs.res).1, bstay hs.out hb (Array.getElem?_eq_some_iff.1 hs.out).1, own_stay hs.oe hb, hs.h8⟩
theorem ST.size (hs : ST w sn lo nx es ms g h cg ch n8 g1 c1 x4 X) : w.heap.size + 2 ≤ X.heap.size := (Array.getElem?_eq_some_iff.1 hs.res).1
theorem ST.alloc (hs : ST w sn lo nx es ms g h cg ch n8 g1 c1 x4 X) (o : Obj) : ST w sn lo nx es ms g h cg ch n8 g1 c1 x4 (X.alloc o) := hs.on ((Below.refl _ _).alloc (Nat.le_refl _) _)
theorem ST.grown (hs : ST w sn lo nx es ms g h cg ch n8 g1 c1 x4 X) (hg : X.grownBy X' (some b)) (hm : X.ownsRow (w.heap.size + 2) 45 2 (.slice (some ⟨b, 0, none⟩) n c) n xs) : ST w sn lo nx es ms g h cg ch n8 g1 c1 x4 X' := by
  have hb := (owns_at hm).1
  have n1 := owns_ne (by decide) hm hs.box
  have n2 := owns_ne (by decide) hm hs.res
  have n3 := owns_ne (by decide) hm hs.out
  have n4 : g1 ≠ b := by
    obtain ⟨_, cur, hcur⟩ := owns_at hm
    exact owns_ne (by decide) hs.oe hcur
  exact ⟨hs.bel.grown hg hs.bel.size (fun k hk => by cases hk; omega), grown_at hg hs.box (by simpa using n1), grown_at hg hs.res (by simpa using n2), grown_at hg hs.out (by simpa using n3), hs.oe.kept hg (.inr (by simp [Value.ownBlock]; exact n4)), hs.h8⟩
/-- the new row is stored -/
theorem ST.store (hs : ST w sn lo nx es ms g h cg ch n8 g1 c1 x4 X) (hm : X.ownsRow (w.heap.size + 2) 45 2 (.slice (some ⟨h1, 0, none⟩) m.length c2) m.length (m.flatMap flK.c)) : SM w sn lo nx es ms g h cg ch n8 g1 c1 h1 c2 m (X.setCell ⟨n8, 4, none⟩ (.slice (some ⟨h1, 0, none⟩) m.length c2)) := by
  have h8 := hs.h8
  exact ⟨hs.bel.setCell (by show w.heap.size ≤ n8; omega) _, boff hs.box _ _ _ (by omega), boff hs.res _ _ _ (by omega), bset hs.out 4 _, owns_set hs.oe (owns_ne (by decide) hs.oe hs.out) _, owns_set hm (owns_ne (by decide) hm hs.out) _, h8⟩
end
/-- the cells of a part of the marks -/
theorem news_take {w : World} {h : Nat} {ms : List Ex} (hE : RE w h ms) (k : Nat) : ∀ (j : Nat) (u : Value), ((ms.take k).flatMap flK.c)[j]? = some u → w.cell? ((⟨h, 0, none⟩ : Addr).add j) = some u := fun j u hu => newsK hE j u (by
  have e : ms.flatMap flK.c = (ms.take k).flatMap flK.c ++ (ms.drop k).flatMap flK.c := by rw [← List.flatMap_append, List.take_append_drop]
  rw [e, List.getElem?_append_left (List.getElem?_eq_some_iff.1 hu).1]
  exact hu)
theorem news_drop {w : World} {h : Nat} {ms : List Ex} (hE : RE w h ms) (k : Nat) (hk : k ≤ ms.length) : ∀ (j : Nat) (u : Value), ((ms.drop k).flatMap flK.c)[j]? = some u → w.cell? ((⟨h, k * 2, none⟩ : Addr).add j) = some u := fun j u hu => by
  have e : ms.flatMap flK.c = (ms.take k).flatMap flK.c ++ (ms.drop k).flatMap flK.c := by rw [← List.flatMap_append, List.take_append_drop]
  have hl : ((ms.take k).flatMap flK.c).length = k * 2 := by rw [flat_len flK.c_len, List.length_take]; congr 1; omega
  have := newsK hE (k * 2 + j) u (by rw [e, List.getElem?_append_right (by rw [hl]; omega), hl, show k * 2 + j - k * 2 = j by omega]; exact hu)
  rw [add_at] at this ⊢
  rw [Nat.zero_add] at this
  exact this
end Go.Proofs.YtlfhfcgcfggjcaaDoor.smp
