/- The program's Spoken: a builder that takes the frames of each reply; new memory alone. -/
import Derived.Test.YtnmooolnmhidbaaDoorSpokenReply
import Derived.Test.YtnmooolnmhidbaaDoorBuildBig
namespace Go.Proofs.YtnmooolnmhidbaaDoor.spi
open Go.ChangeShapes Go.WideShapes Go.ChangeAt Go.RowKit Go.Proofs.YtnmooolnmhidbaaDoor.fl Go.Proofs.YtnmooolnmhidbaaDoor.rp Go.Proofs.YtnmooolnmhidbaaDoor.spk Go.Proofs.YtnmooolnmhidbaaDoor.sps
set_option linter.unusedVariables false

/-- a builder that holds s, written or not yet -/
def Bd (w : World) (B b : Nat) (s : ByteArray) : Prop := (s = ⟨#[]⟩ ∧ B ≤ b ∧ w.heap[b]? = some (.cells #[.pointer none, .slice none 0 0] 91 (0, 0))) ∨ Lib.BuilderAt 91 5 B b (.pointer (some ⟨b, 0, none⟩)) (Lib.strCells s) w
theorem Bd.lt {w : World} {B b : Nat} {s : ByteArray} (h : Bd w B b s) : b < w.heap.size := by
  rcases h with ⟨_, _, h⟩ | h
  · exact (Array.getElem?_eq_some_iff.1 h).1
  · exact h.lt
theorem Bd.on {w w' : World} {B b : Nat} {s : ByteArray} (h : Bd w B b s) (hb : Below w.heap.size w w') : Bd w' B b s := by
  rcases h with ⟨h1, h2, h3⟩ | ⟨h1, v, h2, ⟨h3, h4⟩, h5⟩
  · exact .inl ⟨h1, h2, bstay h3 hb (Array.getElem?_eq_some_iff.1 h3).1⟩
  · refine .inr ⟨h1, v, bstay h2 hb (Array.getElem?_eq_some_iff.1 h2).1, ⟨h3, ?_⟩, h5⟩
    rcases h4 with h4 | ⟨g, cap, cur, e1, e2, e3, e4⟩
    · exact .inl h4
    · exact .inr ⟨g, cap, cur, e1, e2, bstay e3 hb (Array.getElem?_eq_some_iff.1 e3).1, e4⟩
theorem Bd.write {w : World} {B b : Nat} {s : ByteArray} (h : Bd w B b s) (t : ByteArray) (hl : s.size + t.size ≤ 100000000000) (hB : B ≤ w.heap.size) :
    Calls Tryd.prog 54 #[.pointer (some ⟨b, 0, none⟩), .string t] w fun e w' => e = .returned (.tuple #[.int .i64 t.size, .nilIface]) ∧ Bd w' B b (s ++ t) ∧ Below B w w' := by
  rcases h with ⟨rfl, h2, h3⟩ | h
  · refine (jbb.write0 b B t w h3 h2 (by omega) hB).mono ?_
    rintro e w' ⟨rfl, h4, h5⟩
    exact ⟨rfl, .inr (by rw [nil_app]; exact h4), h5⟩
  · refine (jbb.writeS b B (Lib.strCells s) t w h (by rw [Lib.strCells_length]; omega) hB).mono ?_
    rintro e w' ⟨rfl, h4, h5⟩
    exact ⟨rfl, .inr (by rw [← jbb.cells_app]; exact h4), h5⟩
theorem Bd.text {w : World} {B b : Nat} {s : ByteArray} (h : Bd w B b s) (hB : B ≤ w.heap.size) :
    Calls Tryd.prog 56 #[.pointer (some ⟨b, 0, none⟩)] w fun e w' => e = .returned (.string s) ∧ Below B w w' := by
  rcases h with ⟨rfl, h2, h3⟩ | h
  · exact shBuilderLaid.Builder_String_any B b [] w (.inl ⟨h2, .slice none 0 0, h3, World.ownsRow_nil _ _ _ _, by simp [Value.ownBlock]⟩) hB
  · have := shBuilderLaid.Builder_String_any B b s.data.toList w (.inr h) hB
    simpa using this

/-- the weight of replies bounds what is said -/
theorem rep_wt (no : Int) (r : Rp) : (rep no r).size ≤ 8080 + 4040 * wtP r := by
  have h1 := first_size no r
  have h3 := pf.bytes_size 2 no (hdw.hdr r.b.size)
  have h4 := pieces_length no r.b
  have h2 : (cat (pieces no r.b)).size ≤ (pieces no r.b).length * 4040 := cat_size (fun x hx => by
    obtain ⟨y, _, rfl⟩ := List.mem_map.1 hx
    exact pf.bytes_size _ _ _)
  have h5 : r.b.size ≤ wtP r := by unfold wtP; omega
  unfold rep body
  split
  · rw [ByteArray.size_append, ByteArray.size_append]
    have := Nat.mul_le_mul_right 4040 (Nat.le_trans h4 h5)
    omega
  · omega
theorem take_wt (no : Int) : ∀ (l : List Rp) (k : Nat), (cat ((l.map (rep no)).take k)).size ≤ 8080 * l.length + 4040 * fl.bulk wtP l
  | [], k => by rw [List.map_nil, List.take_nil]; exact Nat.zero_le _
  | r :: l, 0 => Nat.zero_le _
  | r :: l, k + 1 => by
    have h1 := rep_wt no r
    have h2 := take_wt no l k
    simp only [List.map_cons, List.take_succ_cons, cat, ByteArray.size_append, List.length_cons, fl.bulk]
    rw [Nat.mul_add, Nat.mul_add]
    omega

set_option maxRecDepth 100000 in
set_option maxHeartbeats 2000000 in
theorem impl_spoken (no : Int) (l : List Rp) (a : Option Addr) (cap : Nat) (w : World) (hn : no ≤ 9223372036854775807) (hl : l.length + fl.bulk wtP l ≤ 1048576) (hF : ∀ r ∈ l, Fit r) (hS : VP w w.heap.size a l) (ht : mi.Tab w) :
    Calls Tryd.prog 24 #[.int .i64 no, .slice a l.length cap] w fun e w' => e = .returned (.string (spoken no l)) ∧ Below w.heap.size w w' := by
  have hal : Below w.heap.size w (w.alloc (.cells #[.pointer none, .slice none 0 0] 91)) := (Below.refl _ _).alloc (Nat.le_refl _) _
  have hbd : Bd (w.alloc (.cells #[.pointer none, .slice none 0 0] 91)) w.heap.size w.heap.size ⟨#[]⟩ := .inl ⟨rfl, Nat.le_refl _, bnew w _ _⟩
  obtain ⟨W, hW⟩ : ∃ W, w.alloc (.cells #[.pointer none, .slice none 0 0] 91) = W := ⟨_, rfl⟩
  rw [hW] at hal hbd
  have HBD : Hid (Bd W w.heap.size w.heap.size ⟨#[]⟩) := hbd
  have HVR : Hid (∀ r ∈ l, ls.Sl Value.string w w.heap.size r.ta r.ts ∧ ls.Sl (Value.int .i64) w w.heap.size r.na r.ns) := hS.2
  have HF : Hid (∀ r ∈ l, Fit r) := hF
  have HT : Hid (mi.Tab w) := ht
  have hll : l.length ≤ 1048576 := by omega
  rcases hS.1 with rfl | ⟨b, off, rfl, hlt, hc⟩
  · have hst := hbd.text hal.size
    clear hbd
    go_enter Tryd.func24, Tryd.ntmps24
    go_wp2
    clear hW
    refine wp_loop_rounds 1 ?_
    rw [rounds_succ]
    go_wp2_with (go_at_call 56; fail)
    refine hst.mono ?_
    rintro e w1 ⟨rfl, hb1⟩
    go_wp2
    go_ret
    exact ⟨rfl, hal.trans hb1⟩
  have HC : Hid (∀ (i : Nat) (e : Rp), l[i]? = some e → ∀ (j : Nat) (v : Value), (cP e)[j]? = some v → w.cell? ⟨b, off + i * 6 + j, none⟩ = some v) := hc
  clear hc hF hS hbd ht
  go_enter Tryd.func24, Tryd.ntmps24
  go_wp2
  clear hW
  go_loopw [10] (fun x wr => ∃ (k : Nat) (s : ByteArray), k ≤ l.length ∧ x = .int .i64 k ∧ Hid (∀ _ : Unit, s = cat ((l.map (rep no)).take k)) ∧ Below w.heap.size w wr ∧ Hid (Bd wr w.heap.size w.heap.size s)) (fun x _ => l.length - (intOf x).toNat)
  case atStart => exact ⟨0, ⟨#[]⟩, Nat.zero_le _, rfl, fun _ => rfl, hal, HBD⟩
  case round =>
    obtain ⟨k, s, hk, rfl, hs, hbel, hbd⟩ := hrel
    have hbs := hbel.size
    by_cases hkl : k < l.length
    · have HG : Hid (l[k]? = some l[k]) := List.getElem?_eq_getElem hkl
      have hfit := HF.out l[k] (List.getElem_mem hkl)
      have hrow := HVR.out l[k] (List.getElem_mem hkl)
      have hi2 : (k : Int) < (l.length : Int) := by omega
      obtain ⟨⟨c, i, ta, tc, ts, na, nc, ns, hb, b_⟩, he⟩ : ∃ e, l[k] = e := ⟨_, rfl⟩
      rw [he] at HG hfit hrow
      have HMK : Hid ((l.map (rep no))[k]? = some (rep no ⟨c, i, ta, tc, ts, na, nc, ns, hb, b_⟩)) := by show _ = _; rw [List.getElem?_map, HG.out]; rfl
      have c0 : wr.cell? ⟨b, off + k * 6, none⟩ = some (.int .i64 c) := (hbel.cell (p := ⟨b, off + k * 6, none⟩) hlt).trans (HC.out k _ HG.out 0 _ rfl)
      have c1 : wr.cell? ⟨b, off + k * 6 + 1, none⟩ = some (.int .i64 i) := (hbel.cell (p := ⟨b, off + k * 6 + 1, none⟩) hlt).trans (HC.out k _ HG.out 1 _ rfl)
      have c2 : wr.cell? ⟨b, off + k * 6 + 2, none⟩ = some (.slice ta ts.length tc) := (hbel.cell (p := ⟨b, off + k * 6 + 2, none⟩) hlt).trans (HC.out k _ HG.out 2 _ rfl)
      have c3 : wr.cell? ⟨b, off + k * 6 + 3, none⟩ = some (.slice na ns.length nc) := (hbel.cell (p := ⟨b, off + k * 6 + 3, none⟩) hlt).trans (HC.out k _ HG.out 3 _ rfl)
      have c4 : wr.cell? ⟨b, off + k * 6 + 4, none⟩ = some (.bool hb) := (hbel.cell (p := ⟨b, off + k * 6 + 4, none⟩) hlt).trans (HC.out k _ HG.out 4 _ rfl)
      have c5 : wr.cell? ⟨b, off + k * 6 + 5, none⟩ = some (.string b_) := (hbel.cell (p := ⟨b, off + k * 6 + 5, none⟩) hlt).trans (HC.out k _ HG.out 5 _ rfl)
      obtain ⟨t, htt⟩ : ∃ t, rep no ⟨c, i, ta, tc, ts, na, nc, ns, hb, b_⟩ = t := ⟨_, rfl⟩
      have hsz : s.size + t.size ≤ 100000000000 := by
        have h1 := take_wt no l (k + 1)
        rw [cat_take HMK.out, ← hs.out (), htt, ByteArray.size_append] at h1
        omega
      have HN : Hid (∀ _ : Unit, s ++ t = cat ((l.map (rep no)).take (k + 1))) := fun _ => by rw [cat_take HMK.out, ← hs.out (), htt]
      have hrep := fun V (hV : Below w.heap.size w V) => impl_reply no c i ts ns ta na tc nc hb b_ V hn hfit ⟨me.inn hrow.1 hV, me.inn hrow.2 hV⟩ (mi.tab_on HT.out hV)
      simp only [htt] at hrep
      have hal2 : Below wr.heap.size wr (wr.alloc (.cells #[.int .i64 c, .int .i64 i, .slice ta ts.length tc, .slice na ns.length nc, .bool hb, .string b_] 83)) := (Below.refl _ _).alloc (Nat.le_refl _) _
      have hbd2 := hbd.out.on hal2
      have hV2 := hbel.trans (hal2.mono hbs)
      have hcall := hrep _ hV2
      clear he hfit hrow htt hrep
      go_wp2_with (go_at_call 55; fail)
      refine hcall.mono ?_
      rintro e w1 ⟨rfl, hb1⟩
      have hB1 : Below w.heap.size w w1 := hV2.trans (hb1.mono hV2.size)
      have hwr := (hbd2.on hb1).write t hsz hB1.size
      clear hcall hbd2 c0 c1 c2 c3 c4 c5
      go_wp2_with (go_at_call 54; fail)
      refine hwr.mono ?_
      rintro e w2 ⟨rfl, hbd3, hb2⟩
      have hB2 : Below w.heap.size w w2 := hB1.trans hb2
      have HBD3 : Hid (Bd w2 w.heap.size w.heap.size (s ++ t)) := hbd3
      clear hwr hbd3
      go_wp2
      go_roundw
      case rel => exact ⟨k + 1, _, by omega, by go_num, HN, hB2, HBD3⟩
      case measure => simp [intOf]; omega
    · obtain rfl : k = l.length := by omega
      have HE : Hid (∀ _ : Unit, s = spoken no l) := fun _ => by rw [hs.out ()]; unfold spoken; rw [show l.length = (l.map (rep no)).length by rw [List.length_map], List.take_length]
      have hst := hbd.out.text hbs
      clear hs
      go_wp2_with (go_at_call 56; fail)
      refine hst.mono ?_
      rintro e w1 ⟨rfl, hb1⟩
      have hB1 := hbel.trans hb1
      clear hst
      go_wp2
      go_ret
      exact ⟨by rw [← HE.out ()]; rfl, hB1⟩
end Go.Proofs.YtnmooolnmhidbaaDoor.spi
