/- The program's writer over a form's letters: what is so behind each letter, and what one letter's deed does. -/
import Derived.Test.YtnmooolnmhidbaaDoorWriterText
import Derived.Test.YtnmooolnmhidbaaDoorWriterNum
import Derived.Test.YtnmooolnmhidbaaDoorDeedsWalks
import Derived.Test.YtnmooolnmhidbaaDoorWriteLib
namespace Go.Proofs.YtnmooolnmhidbaaDoor.wd
set_option linter.unusedVariables false
open Go.ChangeShapes Go.WideShapes Go.ChangeAt Go.RowKit Go.Proofs.YtnmooolnmhidbaaDoor.ls Go.Proofs.YtnmooolnmhidbaaDoor.me Go.Proofs.YtnmooolnmhidbaaDoor.mp Go.Proofs.YtnmooolnmhidbaaDoor.wt

/-- the bytes and the words of what a method has -/
def bytesL : List UInt8 → List ByteArray → List Int → ByteArray
  | [], _, _ => ByteArray.empty
  | c :: f, ts, ns =>
    if c = 115 then (match ts with | [] => ByteArray.empty | t :: r => ps.out t ++ bytesL f r ns)
    else (match ns with | [] => ByteArray.empty | n :: r => pi.text n ((c.toNat : Int) - 48) ++ bytesL f ts r)
def wordsL : List UInt8 → List ByteArray → List Int → List ByteArray
  | [], _, _ => []
  | c :: f, ts, ns =>
    if c = 115 then (match ts with | [] => [] | t :: r => eqTo t :: wordsL f r ns)
    else (match ns with | [] => [] | n :: r => decOf n :: wordsL f ts r)

theorem wr_below {w w' : World} {B wb g : Nat} {ts : List ByteArray} {ns : List Int} {bs : ByteArray} {ws : List ByteArray} (h : Wr w B wb g ts ns bs ws) (hb : Below w.heap.size w w') (hB : B ≤ w.heap.size) : Wr w' B wb g ts ns bs ws := by
  obtain ⟨ta, na, tc, nc, wc, hblk, hS, hI, hown, hgw, hB1, hB2, htc, hnc⟩ := h
  refine ⟨ta, na, tc, nc, wc, by rw [hb.block _ (Array.getElem?_eq_some_iff.1 hblk).1]; exact hblk, hS.below (hb.mono hB), hI.below (hb.mono hB), ?_, hgw, hB1, hB2, htc, hnc⟩
  exact hown.kept (row := none) ⟨hb.os, hb.tape, hb.output, hb.size, fun i hi _ => hb.block i hi⟩ (by right; simp [Value.ownBlock])

/-- what is so when k letters are done -/
structure Lp (w : World) (hd : ByteArray) (ws0 : List ByteArray) (F : List UInt8) (ts : List ByteArray) (ns : List Int) (wb m k : Nat) (wr : World) (g : Nat) (ts' : List ByteArray) (ns' : List Int) (bs : ByteArray) (ws : List ByteArray) : Prop where
  it : Wr wr w.heap.size wb g ts' ns' bs ws
  ok : okL (F.drop k) ts' ns' = okL F ts ns
  by' : bs ++ bytesL (F.drop k) ts' ns' = hd ++ bytesL F ts ns
  wd : ws ++ wordsL (F.drop k) ts' ns' = ws0 ++ wordsL F ts ns
  bsz : bs.size ≤ 16 + 264 * k
  wsz : ws.length ≤ 2 + k
  tl : ts'.length ≤ 1048576
  tx : ∀ x ∈ ts', x.size ≤ 1048576
  nl : ns'.length ≤ 1048576
  nw : ∀ x ∈ ns', (Lit.int .i64 x).wf = true
  bel : Below w.heap.size w wr
  res : wr.heap[w.heap.size + 1]? = some (.cells wl.zeros 55 (0, 0))
  map : wr.heap[m]? = some (ml.mapOf dd.deeds)
  g1 : g ≠ w.heap.size + 1
  g2 : g ≠ m
  n1 : wb ≠ w.heap.size + 1
  n2 : wb ≠ m

/-- .. whatever is left -/
def At (w : World) (hd : ByteArray) (ws0 : List ByteArray) (F : List UInt8) (ts : List ByteArray) (ns : List Int) (wb m k : Nat) (wr : World) : Prop := ∃ g ts' ns' bs ws, Lp w hd ws0 F ts ns wb m k wr g ts' ns' bs ws

/-- a deed that fails -/
def Fails (w : World) (F : List UInt8) (ts : List ByteArray) (ns : List Int) (w2 : World) : Prop := okL F ts ns = false ∧ Below w.heap.size w w2 ∧ w2.heap[w.heap.size + 1]? = some (.cells wl.zeros 55 (0, 0))

section
variable {w : World} {hd : ByteArray} {ws0 : List ByteArray} {F : List UInt8} {ts : List ByteArray} {ns : List Int} {wb m k : Nat} {wr : World}

theorem Lp.below {g : Nat} {ts' : List ByteArray} {ns' : List Int} {bs : ByteArray} {ws : List ByteArray} (h : Lp w hd ws0 F ts ns wb m k wr g ts' ns' bs ws) {w' : World} (hb : Below wr.heap.size wr w') : Lp w hd ws0 F ts ns wb m k w' g ts' ns' bs ws :=
  { h with
    it := wr_below h.it hb h.bel.size
    bel := h.bel.trans (hb.mono h.bel.size)
    res := by rw [hb.block _ (Array.getElem?_eq_some_iff.1 h.res).1]; exact h.res
    map := by rw [hb.block _ (Array.getElem?_eq_some_iff.1 h.map).1]; exact h.map }

theorem At.below (h : At w hd ws0 F ts ns wb m k wr) {w' : World} (hb : Below wr.heap.size wr w') : At w hd ws0 F ts ns wb m k w' := by
  obtain ⟨g, ts', ns', bs, ws, h⟩ := h
  exact ⟨g, ts', ns', bs, ws, h.below hb⟩
theorem At.map (h : At w hd ws0 F ts ns wb m k wr) : wr.heap[m]? = some (ml.mapOf dd.deeds) := by
  obtain ⟨g, ts', ns', bs, ws, h⟩ := h
  exact h.map

theorem fails_of {g : Nat} {ts' : List ByteArray} {ns' : List Int} {bs : ByteArray} {ws : List ByteArray} (h : Lp w hd ws0 F ts ns wb m k wr g ts' ns' bs ws) {w' : World} (hb : Below wr.heap.size wr w') (hf : okL (F.drop k) ts' ns' = false) : Fails w F ts ns w' :=
  ⟨h.ok ▸ hf, (h.below hb).bel, (h.below hb).res⟩

theorem deed_text (hk : k < F.length) (hk5 : F.length ≤ 5) (hc : F[k] = 115) (h : At w hd ws0 F ts ns wb m k wr) :
    Calls Tryd.prog 63 #[.pointer (some ⟨wb, 0, none⟩), .int .i64 0] wr fun e w2 => (e = .returned (.bool true) ∧ At w hd ws0 F ts ns wb m (k + 1) w2) ∨ (e = .returned (.bool false) ∧ Fails w F ts ns w2) := by
  obtain ⟨g, ts', ns', bs, ws, h⟩ := h
  have hdr : F.drop k = 115 :: F.drop (k + 1) := by rw [drop_cons hk, hc]
  cases ts' with
  | nil =>
    refine (text_none ns' bs ws w.heap.size wb g 0 wr h.it).mono ?_
    rintro e w2 ⟨rfl, rfl⟩
    exact .inr ⟨rfl, fails_of h (Below.refl _ _) (by rw [hdr, okL_none])⟩
  | cons x r =>
    have htl := h.tl
    have hxs := h.tx x (by simp)
    simp at htl
    by_cases hx : x.size ≤ 255
    · refine (text_put x r ns' bs ws w.heap.size wb g 0 wr h.it hx (by omega) (by have := h.bsz; omega) (by have := h.wsz; omega)).mono ?_
      rintro e w2 ⟨rfl, ⟨g', hwr, hg', hkp⟩, hb⟩
      have rlt := (Array.getElem?_eq_some_iff.1 h.res).1
      have mlt := (Array.getElem?_eq_some_iff.1 h.map).1
      refine .inl ⟨rfl, g', r, ns', _, _, { h with it := hwr, ok := ?_, by' := ?_, wd := ?_, bsz := ?_, wsz := ?_, tl := by omega, tx := fun y hy => h.tx y (by simp [hy]), bel := h.bel.trans hb, res := ?_, map := ?_, g1 := ?_, g2 := ?_ }⟩
      · rw [← h.ok, hdr, okL_text hx]
      · rw [← h.by', hdr]; simp [bytesL, ByteArray.append_assoc]
      · rw [← h.wd, hdr]; simp [wordsL]
      · have := h.bsz; rw [ByteArray.size_append, out_size hx]; omega
      · have := h.wsz; simp; omega
      · rw [hkp _ rlt (Ne.symm h.n1) (Ne.symm h.g1)]; exact h.res
      · rw [hkp _ mlt (Ne.symm h.n2) (Ne.symm h.g2)]; exact h.map
      · rcases hg' with rfl | hg'
        · exact h.g1
        · omega
      · rcases hg' with rfl | hg'
        · exact h.g2
        · omega
    · refine (text_long x r ns' bs ws w.heap.size wb g 0 wr h.it (by omega) hxs (by omega)).mono ?_
      rintro e w2 ⟨rfl, hb⟩
      exact .inr ⟨rfl, fails_of h hb (by rw [hdr, okL_long (by omega)])⟩

theorem deed_num (hk : k < F.length) (hk5 : F.length ≤ 5) (hc : F[k] ≠ 115) (h : At w hd ws0 F ts ns wb m k wr) (htab : Lib.TabBelow Tryd.prog w.heap.size w "internal/strconv.uint64pow10" .u64 Lib.pow10Tab) :
    Calls Tryd.prog 65 #[.pointer (some ⟨wb, 0, none⟩), .int .i64 ((F[k].toNat : Int) - 48)] wr fun e w2 => (e = .returned (.bool true) ∧ At w hd ws0 F ts ns wb m (k + 1) w2) ∨ (e = .returned (.bool false) ∧ Fails w F ts ns w2) := by
  obtain ⟨g, ts', ns', bs, ws, h⟩ := h
  have hdr : F.drop k = F[k] :: F.drop (k + 1) := drop_cons hk
  cases ns' with
  | nil =>
    refine (num_none ts' bs ws w.heap.size wb g _ wr h.it).mono ?_
    rintro e w2 ⟨rfl, rfl⟩
    exact .inr ⟨rfl, fails_of h (Below.refl _ _) (by rw [hdr, okL_nonums hc])⟩
  | cons n r =>
    have hnl := h.nl
    obtain ⟨hn1, hn2⟩ := bounds_i64 (h.nw n (by simp))
    simp at hnl
    by_cases hx : pi.fits n ((F[k].toNat : Int) - 48) = true
    · refine (num_put n r ts' bs ws w.heap.size wb g _ wr h.it hn1 hn2 hx (by omega) (by have := h.bsz; omega) (by have := h.wsz; omega) (htab.on h.bel)).mono ?_
      rintro e w2 ⟨rfl, ⟨g', hwr, hg', hkp⟩, hb⟩
      have rlt := (Array.getElem?_eq_some_iff.1 h.res).1
      have mlt := (Array.getElem?_eq_some_iff.1 h.map).1
      refine .inl ⟨rfl, g', ts', r, _, _, { h with it := hwr, ok := ?_, by' := ?_, wd := ?_, bsz := ?_, wsz := ?_, nl := by omega, nw := fun y hy => h.nw y (by simp [hy]), bel := h.bel.trans hb, res := ?_, map := ?_, g1 := ?_, g2 := ?_ }⟩
      · rw [← h.ok, hdr, okL_num hc hx]
      · rw [← h.by', hdr]; simp [bytesL, hc, ByteArray.append_assoc]
      · rw [← h.wd, hdr]; simp [wordsL, hc]
      · have := h.bsz; have := pi.text_size n ((F[k].toNat : Int) - 48); rw [ByteArray.size_append]; omega
      · have := h.wsz; simp; omega
      · rw [hkp _ rlt (Ne.symm h.n1) (Ne.symm h.g1)]; exact h.res
      · rw [hkp _ mlt (Ne.symm h.n2) (Ne.symm h.g2)]; exact h.map
      · rcases hg' with rfl | hg'
        · exact h.g1
        · omega
      · rcases hg' with rfl | hg'
        · exact h.g2
        · omega
    · refine (num_bad n r ts' bs ws w.heap.size wb g _ wr h.it hn2 (by simpa using hx) (by omega)).mono ?_
      rintro e w2 ⟨rfl, hb⟩
      exact .inr ⟨rfl, fails_of h hb (by rw [hdr, okL_nonum hc (by simpa using hx)])⟩
end
end Go.Proofs.YtnmooolnmhidbaaDoor.wd
