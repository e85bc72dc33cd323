/- The program's writeMethod: it answers whether a method is as its form tells, its bytes and its words; it lays new memory alone. -/
import Derived.Test.YtnmooolnmhidbaaDoorWriteDeeds
import Derived.Laws.EntriesVeiled
namespace Go.Proofs.YtnmooolnmhidbaaDoor.wm
set_option linter.unusedVariables false
open Go.ChangeShapes Go.WideShapes Go.ChangeAt Go.RowKit Go.Proofs.YtnmooolnmhidbaaDoor.ls Go.Proofs.YtnmooolnmhidbaaDoor.me Go.Proofs.YtnmooolnmhidbaaDoor.mp Go.Proofs.YtnmooolnmhidbaaDoor.wt Go.Proofs.YtnmooolnmhidbaaDoor.wd

/-- WHAT IT ANSWERS -/
def outB (c i : Int) (ts : List ByteArray) (ns : List Int) : ByteArray := if ok c i ts ns then (pi.text c 2 ++ pi.text i 2) ++ bytesL (F c i) ts ns else ByteArray.empty
def outW (c i : Int) (ts : List ByteArray) (ns : List Int) : List ByteArray := if ok c i ts ns then [decOf c, decOf i] ++ wordsL (F c i) ts ns else []

def Post (c i : Int) (ts : List ByteArray) (ns : List Int) (w : World) (e : Ending) (w' : World) : Prop :=
  ∃ (a1 a2 a3 : Option Addr) (l1 l2 l3 c1 c2 c3 : Nat), e = .returned (.tuple #[.agg #[.slice a1 l1 c1, .slice a2 l2 c2, .string (outB c i ts ns), .slice a3 l3 c3], .bool (ok c i ts ns)]) ∧
    w'.ownsRow w.heap.size 9 1 (.slice a3 l3 c3) (outW c i ts ns).length ((outW c i ts ns).map Value.string) ∧ Below w.heap.size w w'

theorem post_no {c i : Int} {ts : List ByteArray} {ns : List Int} {w w' : World} (h : ok c i ts ns = false) (hb : Below w.heap.size w w') : Post c i ts ns w (.returned (.tuple #[.agg #[.slice none 0 0, .slice none 0 0, .string ⟨#[]⟩, .slice none 0 0], .bool false])) w' := by
  refine ⟨none, none, none, 0, 0, 0, 0, 0, 0, ?_, ?_, hb⟩
  · unfold outB; rw [h]; rfl
  · unfold outW; rw [h]; exact World.ownsRow_nil _ _ _ _

theorem write_no (c i : Int) (ts : List ByteArray) (ns : List Int) (ta na : Option Addr) (tc nc : Nat) (w : World) (wc : (Lit.int .i64 c).wf = true) (wi : (Lit.int .i64 i).wf = true) (hk : (fo.known c i).isSome = false) :
    Calls Tryd.prog 33 #[.agg #[.int .i64 c, .int .i64 i, .slice ta ts.length tc, .slice na ns.length nc]] w (Post c i ts ns w) := by
  obtain ⟨fs, hfs⟩ : ∃ fs, fo.letters c i = fs := ⟨_, rfl⟩
  have hform := fun W => fo.impl_form c i W wc wi
  simp only [hk, hfs] at hform
  have hok : ok c i ts ns = false := by unfold ok; rw [hk]; rfl
  have HOK : Hid (ok c i ts ns = false) := hok
  clear hk hfs wc wi hok
  go_enter Tryd.func33, Tryd.ntmps33
  go_wp2_with (go_at_call 41; refine (hform _).mono ?_; rintro e w1 ⟨rfl, hb1⟩; obtain ⟨hc1, hf1⟩ := bcell hb1)
  refine bodyPost_ret (v := .tuple #[.agg #[.slice none 0 0, .slice none 0 0, .string ⟨#[]⟩, .slice none 0 0], .bool false]) (by simp [results, Tryd.results33, go_sem, hc1]) rfl ?_
  have hbw : Below w.heap.size w w1 := (((Below.refl _ _).alloc (Nat.le_refl _) _).alloc (by simp) _).trans (hb1.mono (by simp; omega))
  exact post_no HOK.out ((((hbw.setCell (by simp) _).setCell (by simp) _).setCell (by simp) _).setCell (by simp) _)

def finW (B tl tc nl nc : Nat) (c i : Int) (ta na : Option Addr) (fs p1 p2 d1 d2 : ByteArray) (s : wl.Gh) : Act := Act.mk (tmps := #[.agg #[.int .i64 c, .int .i64 i, .slice ta tl tc, .slice na nl nc], .pointer (some ⟨B, 0, none⟩), .pointer (some ⟨B + 1, 0, none⟩), .bool false, .string fs, .bool true, .pointer (some ⟨s.g, 0, none⟩), undef, undef, undef, .tuple #[.string fs, .bool true], .pointer (some ⟨B, 0, none⟩), .int .i64 c, .pointer (some ⟨B, 1, none⟩), .int .i64 i, .tuple #[.string fs, .bool true], .string fs, .bool true, .bool true, .bool false, undef, .pointer (some ⟨B, 2, none⟩), .slice ta tl tc, .pointer (some ⟨B, 3, none⟩), .slice na nl nc, .pointer (some ⟨B, 0, none⟩), .int .i64 c, .string p1, .pointer (some ⟨B, 1, none⟩), .int .i64 i, .string p2, .string (p1 ++ p2), .pointer (some ⟨B, 0, none⟩), .int .i64 c, .string d1, .pointer (some ⟨B, 1, none⟩), .int .i64 i, .string d2, .slice (some ⟨s.h, 0, none⟩) 2 2, .agg #[.slice ta tl tc, .slice na nl nc, .string (p1 ++ p2), .slice (some ⟨s.k, 0, none⟩) 2 2], undef, undef, undef, undef, undef, undef, undef, undef, undef, undef, undef, undef, undef, undef, undef, undef, undef, undef, undef, undef, undef, undef, undef, undef, undef, undef, undef, undef, undef, undef, undef]) (defers := [])

theorem words_owned {w' : World} {B h : Nat} {d1 d2 : ByteArray} (hB : B ≤ h) (hb : w'.heap[h]? = some (.cells #[.string d1, .string d2] 9 (0, 0))) : w'.ownsRow B 9 1 (.slice (some ⟨h, 0, none⟩) 2 2) 2 ([d1, d2].map Value.string) :=
  ⟨rfl, .inr ⟨h, 2, _, rfl, hB, hb, Nat.le_refl _, by unfold maxLen; omega, rfl, rfl⟩⟩

set_option maxRecDepth 100000 in
set_option maxHeartbeats 4000000 in
theorem write_yes (c i : Int) (ts : List ByteArray) (ns : List Int) (ta na : Option Addr) (tc nc : Nat) (w : World) (wc : (Lit.int .i64 c).wf = true) (wi : (Lit.int .i64 i).wf = true) (hk : (fo.known c i).isSome = true)
    (hl : ts.length ≤ 1048576) (hx : ∀ x ∈ ts, x.size ≤ 1048576) (hn : ns.length ≤ 1048576) (hnw : ∀ x ∈ ns, (Lit.int .i64 x).wf = true) (hS : Sl Value.string w w.heap.size ta ts) (hI : Sl (Value.int .i64) w w.heap.size na ns) (htc : ts.length ≤ tc) (hnc : ns.length ≤ nc)
    (htab : Lib.TabBelow Tryd.prog w.heap.size w "internal/strconv.uint64pow10" .u64 Lib.pow10Tab) :
    Calls Tryd.prog 33 #[.agg #[.int .i64 c, .int .i64 i, .slice ta ts.length tc, .slice na ns.length nc]] w (Post c i ts ns w) := by
  obtain ⟨fs, hfs⟩ : ∃ fs, fo.letters c i = fs := ⟨_, rfl⟩
  have hform := fun W => fo.impl_form c i W wc wi
  simp only [hk, hfs] at hform
  have hF5 := F_length c i
  have HLT : Hid (∀ x ∈ F c i, letter x = true) := letters_ok c i
  have HF : Hid (F c i = fs.data.toList) := by unfold Hid F; rw [hfs]
  have HOK : Hid (ok c i ts ns = okL (F c i) ts ns) := by unfold Hid ok; rw [hk]; rfl
  obtain ⟨bc1, bc2⟩ := bounds_i64 wc
  obtain ⟨bi1, bi2⟩ := bounds_i64 wi
  have hfl : fs.size ≤ 5 := by rw [HF.out] at hF5; simpa using hF5
  clear hk hfs wc wi hF5
  have HX : Hid (∀ x ∈ ts, x.size ≤ 1048576) := hx
  have HN : Hid (∀ x ∈ ns, (Lit.int .i64 x).wf = true) := hnw
  have HS : Hid (Sl Value.string w w.heap.size ta ts) := hS
  have HI : Hid (Sl (Value.int .i64) w w.heap.size na ns) := hI
  have HT : Hid (Lib.TabBelow Tryd.prog w.heap.size w "internal/strconv.uint64pow10" .u64 Lib.pow10Tab) := htab
  clear hx hnw hS hI htab
  go_enter Tryd.func33, Tryd.ntmps33
  go_wp2_with (go_at_call 41; refine (hform _).mono ?_; rintro e W ⟨rfl, hb1⟩)
  have hbW : Below w.heap.size w W := (((Below.refl _ _).alloc (Nat.le_refl _) _).alloc (by simp) _).trans (hb1.mono (by simp; omega))
  have hz : w.heap.size + 1 + 1 ≤ W.heap.size := by have := hb1.size; simpa using this
  have b0 : W.heap[w.heap.size]? = some (.cells #[.int .i64 c, .int .i64 i, .slice ta ts.length tc, .slice na ns.length nc] 28 (0, 0)) := by
    rw [hb1.block _ (by simp; omega), Below.heap_alloc _ _ _ (by simp)]
    exact (MapKept.heap_alloc _ _).1
  have b1 : W.heap[w.heap.size + 1]? = some (.cells wl.zeros 55 (0, 0)) := by
    rw [hb1.block _ (by simp), show w.heap.size + 1 = (w.alloc (.cells #[.int .i64 c, .int .i64 i, .slice ta ts.length tc, .slice na ns.length nc] 28)).heap.size by simp]
    exact (MapKept.heap_alloc _ _).1
  clear hb1 hform
  have q0 := cell_of (o := 0) b0 rfl
  have q1 := cell_of (o := 1) b0 rfl
  have q2 := cell_of (o := 2) b0 rfl
  have q3 := cell_of (o := 3) b0 rfl
  have lB : w.heap.size < W.heap.size := by omega
  obtain ⟨p1, hp1e⟩ : ∃ p, pi.text c 2 = p := ⟨_, rfl⟩
  obtain ⟨p2, hp2e⟩ : ∃ p, pi.text i 2 = p := ⟨_, rfl⟩
  obtain ⟨d1, hd1e⟩ : ∃ d, decOf c = d := ⟨_, rfl⟩
  obtain ⟨d2, hd2e⟩ : ∃ d, decOf i = d := ⟨_, rfl⟩
  have hp1 : ∀ w' : World, W.grownBy w' none → Calls Tryd.prog 58 #[.int .i64 c, .int .i64 2] w' fun e w'' => e = .returned (.string p1) ∧ Below w'.heap.size w' w'' := fun w' _ => by rw [← hp1e]; exact pi.impl_put c 2 w' bc2
  have hp2 : ∀ w' : World, W.grownBy w' none → Calls Tryd.prog 58 #[.int .i64 i, .int .i64 2] w' fun e w'' => e = .returned (.string p2) ∧ Below w'.heap.size w' w'' := fun w' _ => by rw [← hp2e]; exact pi.impl_put i 2 w' bi2
  have htw : ∀ w' : World, W.grownBy w' none → Lib.TabIs Tryd.prog w' "internal/strconv.uint64pow10" .u64 Lib.pow10Tab := fun w' hg => HT.out w' (hbW.trans ⟨hg.os, hg.tape, hg.output, hg.size, fun k hk => hg.block k (by omega) (by simp)⟩)
  have hd1 : ∀ w' : World, W.grownBy w' none → Calls Tryd.prog 59 #[.int .i64 c] w' fun e w'' => e = .returned (.string d1) ∧ Below w'.heap.size w' w'' := fun w' hg => by rw [← hd1e]; exact di.impl_dec c w' bc1 bc2 (htw w' hg)
  have hd2 : ∀ w' : World, W.grownBy w' none → Calls Tryd.prog 59 #[.int .i64 i] w' fun e w'' => e = .returned (.string d2) ∧ Below w'.heap.size w' w'' := fun w' hg => by rw [← hd2e]; exact di.impl_dec i w' bi1 bi2 (htw w' hg)
  have sp1 : p1.size ≤ 8 := by rw [← hp1e]; exact pi.text_size _ _
  have sp2 : p2.size ≤ 8 := by rw [← hp2e]; exact pi.text_size _ _
  have HP1 : Hid (pi.text c 2 = p1) := hp1e
  have HP2 : Hid (pi.text i 2 = p2) := hp2e
  have HD1 : Hid (decOf c = d1) := hd1e
  have HD2 : Hid (decOf i = d2) := hd2e
  have HB1 : Hid (W.heap[w.heap.size + 1]? = some (.cells wl.zeros 55 (0, 0))) := b1
  clear hp1e hp2e hd1e hd2e b1 b0
  refine gh.region_ghost (finW w.heap.size ts.length tc ns.length nc c i ta na fs p1 p2 d1 d2) (wl.Cw W (.slice ta ts.length tc) (.slice na ns.length nc) (p1 ++ p2) d1 d2) ⟨0, 0, 0⟩ ?x1 ?x2 ?x3 ?x4 [0, 1, 2, 3, 4, 5, 7, 8, 9, 10, 11, 12, 13, 14, 15, 16, 17, 18, 19, 20, 40, 41, 42, 43, 44, 45, 46, 47, 48, 49, 50, 51, 52, 53, 54, 55, 56, 57, 58, 59, 60, 61, 62, 63, 64, 65, 66, 67, 68, 69, 70] ?x5 ?x6 ?x7 ?each ?fin
  case x1 => kernel_rfl
  case x2 => kernel_rfl
  case x3 => rfl
  case x4 => exact fun _ => by kernel_rfl
  case x5 => kernel_rfl
  case x7 => exact wl.cw_start (W := W) (w' := W.drew) ⟨rfl, rfl, rfl, Nat.le_refl _, fun _ _ _ => rfl⟩ _
  case x6 =>
    intro _
    repeat (first | exact trivial | refine ⟨rfl, ?_⟩)
  case each =>
    refine ⟨wl.st_field (by decide) (by decide) (by decide) _ _ _ w.heap.size 2 rfl (fun _ => rfl) (fun w' => by kernel_rfl) (by rintro s _ ⟨⟩; rfl), ?_⟩
    refine ⟨wl.st_load (by decide) (by decide) (by decide) _ _ w.heap.size 2 _ rfl (fun _ => rfl) (fun w' h => by simp [execOp, go_sem, h]) q2 lB (by rintro s _ ⟨⟩; rfl), ?_⟩
    refine ⟨wl.st_field (by decide) (by decide) (by decide) _ _ _ w.heap.size 3 rfl (fun _ => rfl) (fun w' => by kernel_rfl) (by rintro s _ ⟨⟩; rfl), ?_⟩
    refine ⟨wl.st_load (by decide) (by decide) (by decide) _ _ w.heap.size 3 _ rfl (fun _ => rfl) (fun w' h => by simp [execOp, go_sem, h]) q3 lB (by rintro s _ ⟨⟩; rfl), ?_⟩
    refine ⟨wl.st_field (by decide) (by decide) (by decide) _ _ _ w.heap.size 0 rfl (fun _ => rfl) (fun w' => by kernel_rfl) (by rintro s _ ⟨⟩; rfl), ?_⟩
    refine ⟨wl.st_load (by decide) (by decide) (by decide) _ _ w.heap.size 0 _ rfl (fun _ => rfl) (fun w' h => by simp [execOp, go_sem, h]) q0 lB (by rintro s _ ⟨⟩; rfl), ?_⟩
    refine ⟨wl.st_call (by decide) (by decide) (by decide) 58 _ _ #[.int .i64 c, .int .i64 2] (.string p1) rfl (fun _ => rfl) (by rintro s _ ⟨⟩; rfl) (fun w' => by simp [go_sem]) hp1, ?_⟩
    refine ⟨wl.st_field (by decide) (by decide) (by decide) _ _ _ w.heap.size 1 rfl (fun _ => rfl) (fun w' => by kernel_rfl) (by rintro s _ ⟨⟩; rfl), ?_⟩
    refine ⟨wl.st_load (by decide) (by decide) (by decide) _ _ w.heap.size 1 _ rfl (fun _ => rfl) (fun w' h => by simp [execOp, go_sem, h]) q1 lB (by rintro s _ ⟨⟩; rfl), ?_⟩
    refine ⟨wl.st_call (by decide) (by decide) (by decide) 58 _ _ #[.int .i64 i, .int .i64 2] (.string p2) rfl (fun _ => rfl) (by rintro s _ ⟨⟩; rfl) (fun w' => by simp [go_sem]) hp2, ?_⟩
    refine ⟨wl.st_add (by decide) (by decide) (by decide) _ _ _ _ p1 p2 rfl (fun _ => rfl) (fun _ => rfl) (by omega) (by rintro s _ ⟨⟩; rfl), ?_⟩
    refine ⟨wl.st_field (by decide) (by decide) (by decide) _ _ _ w.heap.size 0 rfl (fun _ => rfl) (fun w' => by kernel_rfl) (by rintro s _ ⟨⟩; rfl), ?_⟩
    refine ⟨wl.st_load (by decide) (by decide) (by decide) _ _ w.heap.size 0 _ rfl (fun _ => rfl) (fun w' h => by simp [execOp, go_sem, h]) q0 lB (by rintro s _ ⟨⟩; rfl), ?_⟩
    refine ⟨wl.st_call (by decide) (by decide) (by decide) 59 _ _ #[.int .i64 c] (.string d1) rfl (fun _ => rfl) (by rintro s _ ⟨⟩; rfl) (fun w' => by simp [go_sem]) hd1, ?_⟩
    refine ⟨wl.st_field (by decide) (by decide) (by decide) _ _ _ w.heap.size 1 rfl (fun _ => rfl) (fun w' => by kernel_rfl) (by rintro s _ ⟨⟩; rfl), ?_⟩
    refine ⟨wl.st_load (by decide) (by decide) (by decide) _ _ w.heap.size 1 _ rfl (fun _ => rfl) (fun w' h => by simp [execOp, go_sem, h]) q1 lB (by rintro s _ ⟨⟩; rfl), ?_⟩
    refine ⟨wl.st_call (by decide) (by decide) (by decide) 59 _ _ #[.int .i64 i] (.string d2) rfl (fun _ => rfl) (by rintro s _ ⟨⟩; rfl) (fun w' => by simp [go_sem]) hd2, ?_⟩
    refine ⟨wl.st_words _ _ rfl (fun _ => rfl) (fun _ => rfl) rfl (fun s h => ⟨gh.agree_of 38 (.slice (some ⟨h, 0, none⟩) 2 2) rfl rfl, rfl⟩), ?_⟩
    refine ⟨wl.st_whole (by simp) (fun s => .agg #[.slice ta ts.length tc, .slice na ns.length nc, .string (p1 ++ p2), .slice (some ⟨s.h, 0, none⟩) 2 2]) (fun s w' => by kernel_rfl) rfl (by kernel_rfl) (fun s => ⟨gh.agree_of 39 (.agg #[.slice ta ts.length tc, .slice na ns.length nc, .string (p1 ++ p2), .slice (some ⟨s.h, 0, none⟩) 2 2]) rfl rfl, rfl⟩), ?_⟩
    refine ⟨wl.st_alloc rfl rfl (fun w' => by simp [execOp, go_sem]; rfl) (fun s g => ⟨gh.agree_of 6 (.pointer (some ⟨g, 0, none⟩)) rfl rfl, rfl⟩), ?_⟩
    refine ⟨wl.st_store _ _ rfl rfl (fun _ => rfl) (fun _ => rfl) (by kernel_rfl) (by kernel_rfl) (by kernel_rfl), ?_⟩
    exact trivial
  case fin =>
    intro s L w' hL hC
    obtain ⟨hg, ha, hb, hne, _, hkk⟩ := hC
    obtain ⟨hh, blkh⟩ := ha (hL 17 (of_decide_eq_true (by kernel_rfl)))
    obtain ⟨hgg, blkg⟩ := hb (hL 19 (of_decide_eq_true (by kernel_rfl)))
    rw [if_pos (hL 20 (of_decide_eq_true (by kernel_rfl)))] at blkg
    have hsg := hne (hL 17 (of_decide_eq_true (by kernel_rfl))) (hL 19 (of_decide_eq_true (by kernel_rfl)))
    have hk18 := (hkk (hL 18 (of_decide_eq_true (by kernel_rfl)))).2
    obtain ⟨sh, sg, sk⟩ := s
    simp only at hk18 hh hgg blkh blkg hsg
    subst hk18
    clear ha hb hne hkk hp1 hp2 hd1 hd2 htw q0 q1 q2 q3 hL
    have hbw' : Below w.heap.size w w' := hbW.trans ⟨hg.os, hg.tape, hg.output, hg.size, fun k hk => hg.block k (by omega) (by simp)⟩
    have hres := (hg.block (w.heap.size + 1) (by omega) (by simp)).trans HB1.out
    have hgw' : sg < w'.heap.size := (Array.getElem?_eq_some_iff.1 blkg).1
    have hhw' : sk < w'.heap.size := (Array.getElem?_eq_some_iff.1 blkh).1
    have hal : Below w'.heap.size w' (w'.alloc (ml.mapOf dd.deeds)) := (Below.refl _ _).alloc (Nat.le_refl _) _
    have HAT : Hid (At w (p1 ++ p2) [d1, d2] fs.data.toList ts ns sg w'.heap.size 0 (w'.alloc (ml.mapOf dd.deeds))) := by
      refine ⟨sk, ts, ns, p1 ++ p2, [d1, d2], ?_⟩
      exact { it := wr_below ⟨ta, na, tc, nc, 2, blkg, HS.out.below hbw', HI.out.below hbw', words_owned (by omega) blkh, hsg, by omega, by omega, htc, hnc⟩ hal hbw'.size
              ok := rfl
              by' := rfl
              wd := rfl
              bsz := by rw [ByteArray.size_append]; omega
              wsz := by simp
              tl := hl
              tx := HX.out
              nl := hn
              nw := HN.out
              bel := hbw'.trans (hal.mono hbw'.size)
              res := by rw [hal.block _ (Array.getElem?_eq_some_iff.1 hres).1]; exact hres
              map := (MapKept.heap_alloc _ _).1
              g1 := by omega
              g2 := by omega
              n1 := by omega
              n2 := by omega }
    have hws : w.heap.size + 1 + 1 ≤ w'.heap.size := by have := hg.size; omega
    clear hres blkg blkh hg hal hsg hh
    unfold finW
    go_wp2_with (go_at_call 42; refine (dd.impl_deeds _).mono ?_; rintro e _ ⟨rfl, rfl⟩)
    go_loopw [43] (fun sk wr => ∃ k : Nat, k ≤ fs.size ∧ sk = .int .i64 k ∧ Hid (At w (p1 ++ p2) [d1, d2] fs.data.toList ts ns sg w'.heap.size k wr) ∧ w'.heap.size < wr.heap.size) (fun sk _ => fs.size - (intOf sk).toNat)
    case atStart => exact ⟨0, by omega, rfl, HAT, by simp⟩
    case round =>
      obtain ⟨k, hk, rfl, hat, hlw⟩ := hrel
      by_cases hkf : k < fs.size
      · have hkF : k < fs.data.toList.length := by simpa using hkf
        have hgk : fs.data.toList[k] = fs[k] := rfl
        have hF5' : fs.data.toList.length ≤ 5 := by simpa using hfl
        by_cases hsl : fs[k] = 115
        · have hlk : (Instr.lookup 68 (.map (some w'.heap.size)) (.int .u8 (fs[k].toNat : Int)) false).run Tryd.prog wr = .ok (.agg #[.int .i64 0, .func (.func 63) #[] #[], .func (.func 64) #[] #[]]) wr := by
            rw [hsl]
            exact dd.look_text hat.out.map
          have hdeed := deed_text (F := fs.data.toList) hkF hF5' (hgk.trans hsl) (hat.out.below (w' := wr.alloc (.cells #[.int .i64 0, .func (.func 63) #[] #[], .func (.func 64) #[] #[]] 73)) ((Below.refl _ _).alloc (Nat.le_refl _) _))
          clear hsl hgk
          go_wp2_with fail
          refine hdeed.mono ?_
          rintro e w2 (⟨rfl, hat2⟩ | ⟨rfl, hf⟩)
          · have HA2 : Hid (At w (p1 ++ p2) [d1, d2] fs.data.toList ts ns sg w'.heap.size (k + 1) w2) := hat2
            have hl2 : w'.heap.size < w2.heap.size := (Array.getElem?_eq_some_iff.1 hat2.map).1
            clear hat2
            go_wp2
            go_roundw
            case rel => exact ⟨k + 1, by omega, by go_num, HA2, hl2⟩
            case measure => simp [intOf]; omega
          · obtain ⟨hokf, hbf, hrf⟩ := hf
            have HOF : Hid (ok c i ts ns = false) := by unfold Hid; rw [HOK.out, HF.out]; exact hokf
            have r0 : w2.cell? ⟨w.heap.size + 1, 0, none⟩ = some (.slice none 0 0) := cell_of (o := 0) hrf rfl
            have r1 : w2.cell? ⟨w.heap.size + 1, 1, none⟩ = some (.slice none 0 0) := cell_of (o := 1) hrf rfl
            have r2 : w2.cell? ⟨w.heap.size + 1, 2, none⟩ = some (.string ⟨#[]⟩) := cell_of (o := 2) hrf rfl
            have r3 : w2.cell? ⟨w.heap.size + 1, 3, none⟩ = some (.slice none 0 0) := cell_of (o := 3) hrf rfl
            have g0 := free_of (o := 0) hrf
            have g1 := free_of (o := 1) hrf
            have g2 := free_of (o := 2) hrf
            have g3 := free_of (o := 3) hrf
            clear hrf hokf
            go_wp2
            refine bodyPost_ret (v := .tuple #[.agg #[.slice none 0 0, .slice none 0 0, .string ⟨#[]⟩, .slice none 0 0], .bool false]) (by simp [results, Tryd.results33, go_sem, r0, r1, r2, r3]) rfl ?_
            exact post_no HOF.out ((((hbf.setCell (by simp) _).setCell (by simp) _).setCell (by simp) _).setCell (by simp) _)
        · have hlet : letter fs[k] = true := HLT.out fs[k] (by rw [HF.out, ← hgk]; exact List.getElem_mem hkF)
          have hlk : (Instr.lookup 68 (.map (some w'.heap.size)) (.int .u8 (fs[k].toNat : Int)) false).run Tryd.prog wr = .ok (.agg #[.int .i64 ((fs[k].toNat : Int) - 48), .func (.func 65) #[] #[], .func (.func 66) #[] #[]]) wr :=
            dd.look_num hat.out.map fs[k] hlet hsl
          have hdeed := deed_num (F := fs.data.toList) hkF hF5' (by rw [hgk]; exact hsl) (hat.out.below (w' := wr.alloc (.cells #[.int .i64 ((fs[k].toNat : Int) - 48), .func (.func 65) #[] #[], .func (.func 66) #[] #[]] 73)) ((Below.refl _ _).alloc (Nat.le_refl _) _)) HT.out
          rw [hgk] at hdeed
          clear hsl hgk hlet
          go_wp2_with fail
          refine hdeed.mono ?_
          rintro e w2 (⟨rfl, hat2⟩ | ⟨rfl, hf⟩)
          · have HA2 : Hid (At w (p1 ++ p2) [d1, d2] fs.data.toList ts ns sg w'.heap.size (k + 1) w2) := hat2
            have hl2 : w'.heap.size < w2.heap.size := (Array.getElem?_eq_some_iff.1 hat2.map).1
            clear hat2
            go_wp2
            go_roundw
            case rel => exact ⟨k + 1, by omega, by go_num, HA2, hl2⟩
            case measure => simp [intOf]; omega
          · obtain ⟨hokf, hbf, hrf⟩ := hf
            have HOF : Hid (ok c i ts ns = false) := by unfold Hid; rw [HOK.out, HF.out]; exact hokf
            have r0 : w2.cell? ⟨w.heap.size + 1, 0, none⟩ = some (.slice none 0 0) := cell_of (o := 0) hrf rfl
            have r1 : w2.cell? ⟨w.heap.size + 1, 1, none⟩ = some (.slice none 0 0) := cell_of (o := 1) hrf rfl
            have r2 : w2.cell? ⟨w.heap.size + 1, 2, none⟩ = some (.string ⟨#[]⟩) := cell_of (o := 2) hrf rfl
            have r3 : w2.cell? ⟨w.heap.size + 1, 3, none⟩ = some (.slice none 0 0) := cell_of (o := 3) hrf rfl
            have g0 := free_of (o := 0) hrf
            have g1 := free_of (o := 1) hrf
            have g2 := free_of (o := 2) hrf
            have g3 := free_of (o := 3) hrf
            clear hrf hokf
            go_wp2
            refine bodyPost_ret (v := .tuple #[.agg #[.slice none 0 0, .slice none 0 0, .string ⟨#[]⟩, .slice none 0 0], .bool false]) (by simp [results, Tryd.results33, go_sem, r0, r1, r2, r3]) rfl ?_
            exact post_no HOF.out ((((hbf.setCell (by simp) _).setCell (by simp) _).setCell (by simp) _).setCell (by simp) _)
      · obtain rfl : k = fs.size := by omega
        obtain ⟨g, ts', ns', bs, ws, hlp⟩ := hat.out
        have hdr : fs.data.toList.drop fs.size = [] := List.drop_of_length_le (by simp)
        have hok' := hlp.ok
        have hby' := hlp.by'
        have hwd' := hlp.wd
        rw [hdr] at hok' hby' hwd'
        obtain ⟨ta', na', tc', nc', wc', hblk, hS', hI', hown, hgw, hB1, hB2, _, _⟩ := hlp.it
        have hrf := hlp.res
        have hbf := hlp.bel
        have hwne := hlp.n1
        have hgne := hlp.g1
        have e0 : wr.cell? ⟨sg, 0, none⟩ = some (.slice ta' ts'.length tc') := cell_of (o := 0) hblk rfl
        have e1 : wr.cell? ⟨sg, 1, none⟩ = some (.slice na' ns'.length nc') := cell_of (o := 1) hblk rfl
        have e2 : wr.cell? ⟨sg, 2, none⟩ = some (.string bs) := cell_of (o := 2) hblk rfl
        have e3 : wr.cell? ⟨sg, 3, none⟩ = some (.slice (some ⟨g, 0, none⟩) ws.length wc') := cell_of (o := 3) hblk rfl
        have r0 : wr.cell? ⟨w.heap.size + 1, 0, none⟩ = some (.slice none 0 0) := cell_of (o := 0) hrf rfl
        have r1 : wr.cell? ⟨w.heap.size + 1, 1, none⟩ = some (.slice none 0 0) := cell_of (o := 1) hrf rfl
        have r2 : wr.cell? ⟨w.heap.size + 1, 2, none⟩ = some (.string ⟨#[]⟩) := cell_of (o := 2) hrf rfl
        have r3 : wr.cell? ⟨w.heap.size + 1, 3, none⟩ = some (.slice none 0 0) := cell_of (o := 3) hrf rfl
        have g0 := free_of (o := 0) hrf
        have g1 := free_of (o := 1) hrf
        have g2 := free_of (o := 2) hrf
        have g3 := free_of (o := 3) hrf
        have htl' := hlp.tl
        have hnl' := hlp.nl
        have HOW : Hid (wr.ownsRow w.heap.size 9 1 (.slice (some ⟨g, 0, none⟩) ws.length wc') ws.length (ws.map Value.string)) := hown
        have HBY : Hid (bs = (p1 ++ p2) ++ bytesL fs.data.toList ts ns) := by unfold Hid; rw [← hby']; simp [bytesL]
        have HWD : Hid (ws = [d1, d2] ++ wordsL fs.data.toList ts ns) := by unfold Hid; rw [← hwd']; simp [wordsL]
        have HO' : Hid (okL [] ts' ns' = ok c i ts ns) := by unfold Hid; rw [HOK.out, HF.out]; exact hok'
        clear hlp hat hdr hok' hby' hwd' hblk hS' hI' hown hrf
        by_cases ht0 : ts'.length = 0
        · by_cases hn0 : ns'.length = 0
          · have HOT : Hid (ok c i ts ns = true) := by
              unfold Hid
              rw [← HO'.out, List.length_eq_zero_iff.1 ht0, List.length_eq_zero_iff.1 hn0]
              rfl
            obtain rfl : ts' = [] := List.length_eq_zero_iff.1 ht0
            obtain rfl : ns' = [] := List.length_eq_zero_iff.1 hn0
            simp only [List.length_nil] at e0 e1
            clear ht0 hn0 htl' hnl'
            go_wp2
            refine bodyPost_ret (v := .tuple #[.agg #[.slice ta' 0 tc', .slice na' 0 nc', .string bs, .slice (some ⟨g, 0, none⟩) ws.length wc'], .bool true]) (by simp [results, Tryd.results33, go_sem, r0, r1, r2, r3]) rfl ?_
            refine ⟨ta', na', some ⟨g, 0, none⟩, 0, 0, ws.length, tc', nc', wc', ?_, ?_, ((((hbf.setCell (by simp) _).setCell (by simp) _).setCell (by simp) _).setCell (by simp) _)⟩
            · unfold outB
              rw [HOT.out, if_pos rfl, HP1.out, HP2.out, HF.out, ← HBY.out]
            · have hw : outW c i ts ns = ws := by unfold outW; rw [HOT.out, if_pos rfl, HD1.out, HD2.out, HF.out, ← HWD.out]
              rw [hw]
              exact owns_far (owns_far (owns_far (owns_far HOW.out (p := ⟨w.heap.size + 1, 0, none⟩) hgne _) (p := ⟨w.heap.size + 1, 1, none⟩) hgne _) (p := ⟨w.heap.size + 1, 2, none⟩) hgne _) (p := ⟨w.heap.size + 1, 3, none⟩) hgne _
          · have HOF : Hid (ok c i ts ns = false) := by
              unfold Hid
              rw [← HO'.out]
              cases ns' with
              | nil => simp at hn0
              | cons a b => simp [okL]
            have ht0' : decide ((0 : Int) < (ts'.length : Int)) = false := by rw [decide_eq_false_iff_not]; omega
            have hn0' : decide ((0 : Int) < (ns'.length : Int)) = true := by rw [decide_eq_true_eq]; omega
            go_wp2
            refine bodyPost_ret (v := .tuple #[.agg #[.slice none 0 0, .slice none 0 0, .string ⟨#[]⟩, .slice none 0 0], .bool false]) (by simp [results, Tryd.results33, go_sem, r0, r1, r2, r3]) rfl ?_
            exact post_no HOF.out ((((hbf.setCell (by simp) _).setCell (by simp) _).setCell (by simp) _).setCell (by simp) _)
        · have HOF : Hid (ok c i ts ns = false) := by
            unfold Hid
            rw [← HO'.out]
            cases ts' with
            | nil => simp at ht0
            | cons a b => simp [okL]
          have ht0' : decide ((0 : Int) < (ts'.length : Int)) = true := by rw [decide_eq_true_eq]; omega
          go_wp2
          refine bodyPost_ret (v := .tuple #[.agg #[.slice none 0 0, .slice none 0 0, .string ⟨#[]⟩, .slice none 0 0], .bool false]) (by simp [results, Tryd.results33, go_sem, r0, r1, r2, r3]) rfl ?_
          exact post_no HOF.out ((((hbf.setCell (by simp) _).setCell (by simp) _).setCell (by simp) _).setCell (by simp) _)

theorem impl_write (c i : Int) (ts : List ByteArray) (ns : List Int) (ta na : Option Addr) (tc nc : Nat) (w : World) (wc : (Lit.int .i64 c).wf = true) (wi : (Lit.int .i64 i).wf = true)
    (hl : ts.length ≤ 1048576) (hx : ∀ x ∈ ts, x.size ≤ 1048576) (hn : ns.length ≤ 1048576) (hnw : ∀ x ∈ ns, (Lit.int .i64 x).wf = true) (hS : Sl Value.string w w.heap.size ta ts) (hI : Sl (Value.int .i64) w w.heap.size na ns) (htc : ts.length ≤ tc) (hnc : ns.length ≤ nc)
    (htab : Lib.TabBelow Tryd.prog w.heap.size w "internal/strconv.uint64pow10" .u64 Lib.pow10Tab) :
    Calls Tryd.prog 33 #[.agg #[.int .i64 c, .int .i64 i, .slice ta ts.length tc, .slice na ns.length nc]] w (Post c i ts ns w) := by
  cases hk : (fo.known c i).isSome with
  | false => exact write_no c i ts ns ta na tc nc w wc wi hk
  | true => exact write_yes c i ts ns ta na tc nc w wc wi hk hl hx hn hnw hS hI htc hnc htab
end Go.Proofs.YtnmooolnmhidbaaDoor.wm
