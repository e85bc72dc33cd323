/- The specification's TableScan. -/
import Derived.Test.YtokaoafbgebelaaTd01
import Derived.Test.YtokaoafbgebelaaTd11
import Derived.Test.YtokaoafbgebelaaRunLib
import Derived.Test.YtokaoafbgebelaaTd10
import Derived.Test.YtokaoafbgebelaaTd03
import Derived.Test.YtokaoafbgebelaaAppendAny
import Derived.Test.YtokaoafbgebelaaTd04

/- copyPair and copyPairs: the same pairs, each text cloned, in a row of their own; new memory alone. -/
namespace Go.Proofs.Ytokaoafbgebelaa.cpp
open Go.ChangeShapes Go.WideShapes Go.ChangeAt Go.RowKit Go.Proofs.Ytokaoafbgebelaa.fl Go.Proofs.Ytokaoafbgebelaa.rn
set_option linter.unusedVariables false

def fin (s : Nat) (pk pv : ByteArray) (pg : Bool) : Act := { tmps := #[.agg #[.string pk, .string pv, .bool pg], .pointer (some ⟨s, 0, none⟩), .pointer (some ⟨s + 1, 0, none⟩), .pointer (some ⟨s, 0, none⟩), .string pk, .string pk, .pointer (some ⟨s, 1, none⟩), .string pv, .string pv, .pointer (some ⟨s, 2, none⟩), .bool pg, .agg #[.string pk, .string pv, .bool pg]], defers := [] }
/-- the worlds on the way: nothing that was there is turned; the answer is laid once the store is done -/
def D (w : World) (pk pv : ByteArray) (pg : Bool) (b : Bool) (W : World) : Prop :=
  Below w.heap.size w W ∧ W.heap[w.heap.size]? = some (.cells #[.string pk, .string pv, .bool pg] 40 (0, 0)) ∧
    W.heap[w.heap.size + 1]? = some (.cells (if b then #[.string pk, .string pv, .bool pg] else #[.string ByteArray.empty, .string ByteArray.empty, .bool false]) 40 (0, 0))
theorem D.on {w : World} {pk pv : ByteArray} {pg : Bool} {b : Bool} {W W' : World} (h : D w pk pv pg b W) (hb : Below W.heap.size W W') : D w pk pv pg b W' := by
  obtain ⟨h1, h2, h3⟩ := h
  have hs : w.heap.size + 1 < W.heap.size := (Array.getElem?_eq_some_iff.1 h3).1
  exact ⟨h1.trans (hb.mono h1.size), bstay h2 hb (by omega), bstay h3 hb hs⟩

set_option maxRecDepth 100000 in
set_option maxHeartbeats 1000000 in
theorem copy_pair (e : flP.Pr) (w : World) (hx : e.k.size ≤ 1048576 ∧ e.v.size ≤ 1048576) : Calls Try.prog 39 #[.agg #[.string e.k, .string e.v, .bool e.g]] w fun r w' => r = .returned (.agg #[.string e.k, .string e.v, .bool e.g]) ∧ Below w.heap.size w w' := by
  obtain ⟨pk, pv, pg⟩ := e
  obtain ⟨hx1, hx2⟩ := hx
  have cl1 := fun W => cl.clone pk W (by have : pk.size ≤ 1048576 := hx1; omega)
  have cl2 := fun W => cl.clone pv W (by have : pv.size ≤ 1048576 := hx2; omega)
  have h0 : D w pk pv pg false ((w.alloc (.cells #[.string pk, .string pv, .bool pg] 40)).alloc (.cells #[.string ByteArray.empty, .string ByteArray.empty, .bool false] 40)).drew := by
    refine ⟨(((Below.refl _ _).alloc (Nat.le_refl _) _).alloc (by simp) _).drew, ?_, ?_⟩
    · exact bold (bnew w _ _) _
    · have := bnew (w.alloc (.cells #[.string pk, .string pv, .bool pg] 40)) #[.string ByteArray.empty, .string ByteArray.empty, .bool false] 40
      rw [World.size_alloc] at this
      exact this
  go_enter Try.func39, Try.ntmps39
  go_wp2
  refine dn.region_done (fin w.heap.size pk pv pg) (dk.Cl (D w pk pv pg) 9) (by kernel_rfl) (by kernel_rfl) rfl rfl [0, 1, 2] (by kernel_rfl) (fun s hs => by simp at hs; rcases hs with rfl | rfl | rfl <;> rfl) h0 ?each ?fin
  case each =>
    refine ⟨dk.q (by decide) (.pointer (some ⟨w.heap.size, 0, none⟩)) (by rintro _ ⟨⟩; rfl) (fun b W h => by simp [execOp, go_sem, fin, Act.eval]), ?_⟩
    refine ⟨dk.q (by decide) (.string pk) (by rintro _ ⟨⟩; rfl) (fun b W h => by have c : W.cell? ⟨w.heap.size, 0, none⟩ = some (.string pk) := bcell h.2.1 rfl; simp [execOp, go_sem, fin, Act.eval, c]), ?_⟩
    refine ⟨dk.call (by decide) 42 #[.string pk] (.string pk) (by rintro _ ⟨⟩; rfl) (fun b W h => by simp [go_sem, fin, Act.eval]) (fun b W h => (cl1 W).mono fun e w' ⟨h1, h2⟩ => ⟨h1, h.on h2⟩), ?_⟩
    refine ⟨dk.q (by decide) (.pointer (some ⟨w.heap.size, 1, none⟩)) (by rintro _ ⟨⟩; rfl) (fun b W h => by simp [execOp, go_sem, fin, Act.eval]), ?_⟩
    refine ⟨dk.q (by decide) (.string pv) (by rintro _ ⟨⟩; rfl) (fun b W h => by have c : W.cell? ⟨w.heap.size, 1, none⟩ = some (.string pv) := bcell h.2.1 rfl; simp [execOp, go_sem, fin, Act.eval, c]), ?_⟩
    refine ⟨dk.call (by decide) 42 #[.string pv] (.string pv) (by rintro _ ⟨⟩; rfl) (fun b W h => by simp [go_sem, fin, Act.eval]) (fun b W h => (cl2 W).mono fun e w' ⟨h1, h2⟩ => ⟨h1, h.on h2⟩), ?_⟩
    refine ⟨dk.q (by decide) (.pointer (some ⟨w.heap.size, 2, none⟩)) (by rintro _ ⟨⟩; rfl) (fun b W h => by simp [execOp, go_sem, fin, Act.eval]), ?_⟩
    refine ⟨dk.q (by decide) (.bool pg) (by rintro _ ⟨⟩; rfl) (fun b W h => by have c : W.cell? ⟨w.heap.size, 2, none⟩ = some (.bool pg) := bcell h.2.1 rfl; simp [execOp, go_sem, fin, Act.eval, c]), ?_⟩
    refine ⟨dk.q (by decide) (.agg #[.string pk, .string pv, .bool pg]) (by rintro _ ⟨⟩; rfl) (fun b W h => by simp [execOp, go_sem, fin, Act.eval]), ?_⟩
    refine ⟨dk.last rfl (fun W h => ?_), trivial⟩
    obtain ⟨h1, h2, h3⟩ := h
    have c0 : W.cell? ⟨w.heap.size + 1, 0, none⟩ = some (.string ByteArray.empty) := bcell h3 rfl
    have c1 : W.cell? ⟨w.heap.size + 1, 1, none⟩ = some (.string ByteArray.empty) := bcell h3 rfl
    have c2 : W.cell? ⟨w.heap.size + 1, 2, none⟩ = some (.bool false) := bcell h3 rfl
    have f0 := bfree h3 0
    have f1 := bfree h3 1
    have f2 := bfree h3 2
    refine ⟨((W.setCell ⟨w.heap.size + 1, 0, none⟩ (.string pk)).setCell ⟨w.heap.size + 1, 1, none⟩ (.string pv)).setCell ⟨w.heap.size + 1, 2, none⟩ (.bool pg), by simp [execOp, go_sem, fin, Act.eval, c0, c1, c2, f0, f1, f2], ?_, ?_, ?_⟩
    · exact ((h1.setCell (by show w.heap.size ≤ w.heap.size + 1; omega) _).setCell (by show w.heap.size ≤ w.heap.size + 1; omega) _).setCell (by show w.heap.size ≤ w.heap.size + 1; omega) _
    · exact boff (boff (boff h2 _ _ _ (by omega)) _ _ _ (by omega)) _ _ _ (by omega)
    · exact bset (bset (bset h3 0 (.string pk)) 1 (.string pv)) 2 (.bool pg)
  case fin =>
    intro L W hL hC
    have hC' : D w pk pv pg true W := by
      have := hL 9 (by decide)
      unfold dk.Cl at hC
      rw [this] at hC
      exact hC
    obtain ⟨h1, h2, h3⟩ := hC'
    have c0 : W.cell? ⟨w.heap.size + 1, 0, none⟩ = some (.string pk) := bcell h3 rfl
    have c1 : W.cell? ⟨w.heap.size + 1, 1, none⟩ = some (.string pv) := bcell h3 rfl
    have c2 : W.cell? ⟨w.heap.size + 1, 2, none⟩ = some (.bool pg) := bcell h3 rfl
    unfold fin
    go_wp2
    refine bodyPost_ret (v := .agg #[.string pk, .string pv, .bool pg]) (by simp [results, Try.results39, go_sem, c0, c1, c2]) rfl ⟨rfl, h1⟩

set_option maxRecDepth 100000 in
set_option maxHeartbeats 1000000 in
theorem copy_pairs (l : List flP.Pr) (a : Option Addr) (cap : Nat) (w : World) (hl : l.length ≤ 1048576) (hx : ∀ e ∈ l, e.k.size ≤ 1048576 ∧ e.v.size ≤ 1048576) (hS : Row flP.c 3 w w.heap.size a l) :
    Calls Try.prog 66 #[.slice a l.length cap] w fun e w' => e = .returned (.slice (some ⟨w.heap.size, 0, none⟩) l.length l.length) ∧ Own flP.c 3 40 w' w.heap.size l l.length ∧ Below w.heap.size w w' := by
  obtain ⟨i0, hi, hz0, hz1, hz2⟩ : ∃ i0, Try.prog.info? 40 = some i0 ∧ i0.zero = some (.agg #[.string ByteArray.empty, .string ByteArray.empty, .bool false]) ∧ i0.size = 3 ∧ i0.bytes = 40 := by
    have h := flP.info
    cases hh : Try.prog.info? 40 with
    | none => rw [hh] at h; cases h
    | some i => rw [hh] at h; simp at h; exact ⟨i, rfl, h.1, h.2.1, h.2.2⟩
  have hmk := run_makeSlice (P := Try.prog) w 24 40 i0 _ Try.underlying24 hi hz0 .i64 .i64 (l.length : Int) (l.length : Int) (by omega) (Int.le_refl _) (by rw [hz1]; simp; omega) (by rw [hz2]; omega) (by omega)
  rw [hz1, show ((l.length : Int)).toNat = l.length by omega] at hmk
  have hmk2 : (Instr.makeSlice 24 (.int .i64 (l.length : Int)) (.int .i64 (l.length : Int))).run Try.prog w = .ok (.slice (some ⟨w.heap.size, 0, none⟩) l.length l.length) (w.alloc (.cells (madeCells #[.string ByteArray.empty, .string ByteArray.empty, .bool false] (l.length * 3)) 40)) := hmk
  have hf0 : Own flP.c 3 40 (w.alloc (.cells (madeCells #[.string ByteArray.empty, .string ByteArray.empty, .bool false] (l.length * 3)) 40)) w.heap.size l 0 := made #[.string ByteArray.empty, .string ByteArray.empty, .bool false].toList w l rfl
  have hb0 : Below w.heap.size w (w.alloc (.cells (madeCells #[.string ByteArray.empty, .string ByteArray.empty, .bool false] (l.length * 3)) 40)) := (Below.refl _ _).alloc (Nat.le_refl _) _
  obtain ⟨W, hW⟩ : ∃ W, w.alloc (.cells (madeCells #[.string ByteArray.empty, .string ByteArray.empty, .bool false] (l.length * 3)) 40) = W := ⟨_, rfl⟩
  rw [hW] at hmk2 hf0 hb0
  have HF0 : Hid (Own flP.c 3 40 W w.heap.size l 0) := hf0
  have HX : Hid (∀ e ∈ l, e.k.size ≤ 1048576 ∧ e.v.size ≤ 1048576) := hx
  clear hmk hW hf0 hx
  rcases hS with rfl | ⟨b, off, rfl, hlt, hc⟩
  · have hmk3 : (Instr.makeSlice 24 (.int .i64 0) (.int .i64 0)).run Try.prog w = .ok (.slice (some ⟨w.heap.size, 0, none⟩) 0 0) W := by simpa using hmk2
    clear hmk2
    go_enter Try.func66, Try.ntmps66
    go_wp2
    refine wp_loop_rounds 1 ?_
    rw [rounds_succ]
    go_wp2
    go_ret
    exact ⟨rfl, HF0.out, hb0⟩
  · have HC : Hid (∀ (i : Nat) (e : flP.Pr), l[i]? = some e → ∀ (j : Nat) (v : Value), (flP.c e)[j]? = some v → w.cell? ⟨b, off + i * 3 + j, none⟩ = some v) := hc
    clear hc
    go_enter Try.func66, Try.ntmps66
    go_wp2
    go_loopw [4, 5, 11] (fun _ _ x wr => ∃ k : Nat, k ≤ l.length ∧ x = .int .i64 k ∧ Below w.heap.size w wr ∧ Hid (Own flP.c 3 40 wr w.heap.size l k)) (fun _ _ x _ => l.length - (intOf x).toNat)
    case atStart => exact ⟨0, Nat.zero_le _, rfl, hb0, HF0⟩
    case round =>
      obtain ⟨k, hk, rfl, hbel, hf⟩ := hrel
      have hbs := hbel.size
      by_cases hkl : k < l.length
      · have HG : Hid (l[k]? = some l[k]) := List.getElem?_eq_getElem hkl
        have hxs := HX.out l[k] (List.getElem_mem hkl)
        obtain ⟨⟨pk, pv, pg⟩, he⟩ : ∃ e, l[k] = e := ⟨_, rfl⟩
        rw [he] at HG hxs
        have c0 : wr.cell? ⟨b, off + k * 3, none⟩ = some (.string pk) := (hbel.cell (p := ⟨b, off + k * 3, none⟩) hlt).trans (HC.out k _ HG.out 0 _ rfl)
        have c1 : wr.cell? ⟨b, off + k * 3 + 1, none⟩ = some (.string pv) := (hbel.cell (p := ⟨b, off + k * 3 + 1, none⟩) hlt).trans (HC.out k _ HG.out 1 _ rfl)
        have c2 : wr.cell? ⟨b, off + k * 3 + 2, none⟩ = some (.bool pg) := (hbel.cell (p := ⟨b, off + k * 3 + 2, none⟩) hlt).trans (HC.out k _ HG.out 2 _ rfl)
        have hal : Below wr.heap.size wr (wr.alloc (.cells #[.string pk, .string pv, .bool pg] 40)) := (Below.refl _ _).alloc (Nat.le_refl _) _
        have hone := copy_pair ⟨pk, pv, pg⟩ (wr.alloc (.cells #[.string pk, .string pv, .bool pg] 40)) hxs
        have hfl := hf.out.lt
        have i2 : (k : Int) < (l.length : Int) := by omega
        clear he hxs
        go_wp2_with (go_at_call 39; refine hone.mono ?_; rintro e w1 ⟨rfl, hb1⟩; have hb1' : Below wr.heap.size wr w1 := hal.trans (hb1.mono hal.size); have hf1 := hf.out.below hb1' hfl; obtain ⟨v0, g0⟩ := hf1.at (k * 3) (by omega); have z0 := hf1.free (k * 3); obtain ⟨v1, g1⟩ := hf1.at (k * 3 + 1) (by omega); have z1 := hf1.free (k * 3 + 1); obtain ⟨v2, g2⟩ := hf1.at (k * 3 + 2) (by omega); have z2 := hf1.free (k * 3 + 2); have HN : Hid (Own flP.c 3 40 (((w1.setCell ⟨w.heap.size, k * 3, none⟩ (.string pk)).setCell ⟨w.heap.size, k * 3 + 1, none⟩ (.string pv)).setCell ⟨w.heap.size, k * 3 + 2, none⟩ (.bool pg)) w.heap.size l (k + 1)) := flP.own_set pk pv pg hf1 HG.out; clear hf1)
        go_roundw
        case rel => exact ⟨k + 1, by omega, by go_num, (((hbel.trans (hb1'.mono hbs)).setCell (Nat.le_refl _) _).setCell (Nat.le_refl _) _).setCell (Nat.le_refl _) _, HN⟩
        case measure => simp [intOf]; omega
      · obtain rfl : k = l.length := by omega
        go_wp2
        go_ret
        exact ⟨rfl, hf.out, hbel⟩
end Go.Proofs.Ytokaoafbgebelaa.cpp

/- The program's TableScan. -/
namespace Go.Proofs.Ytokaoafbgebelaa.sci
open Go.ChangeShapes Go.WideShapes Go.ChangeAt Go.RowKit Go.Proofs.Ytokaoafbgebelaa.fl Go.Proofs.Ytokaoafbgebelaa.rn Go.Proofs.Ytokaoafbgebelaa.rc Go.Proofs.Ytokaoafbgebelaa.ro Go.Proofs.Ytokaoafbgebelaa.tk Go.Proofs.Ytokaoafbgebelaa.tko
set_option linter.unusedVariables false

/-- the newest of each key -/
noncomputable def nwL (ls : List (List flP.Pr)) : List flP.Pr := @Classical.epsilon _ ⟨[]⟩ (mgp.Is ls)
theorem nwL_eq {ls : List (List flP.Pr)} {out : List flP.Pr} (h : mgp.Is ls out) : nwL ls = out := (@Classical.epsilon_spec _ (mgp.Is ls) ⟨out, h⟩).one h
def keep (fr to : ByteArray) (e : flP.Pr) : Bool := !e.g && !lt e.k fr && (to.size == 0 || lt e.k to)
noncomputable def scan (ys : List flP.Pr) (ls : List (List flP.Pr)) (fr to : ByteArray) : List flP.Pr := if okB ys ls = true then (nwL (ys :: ls)).filter (keep fr to) else []

def St (w3 : World) (fr to : ByteArray) (all : List flP.Pr) (k : Nat) (v : Value) (wr : World) : Prop := Below w3.heap.size w3 wr ∧ wr.ownsRow w3.heap.size 40 3 v ((all.take k).filter (keep fr to)).length (((all.take k).filter (keep fr to)).flatMap flP.c)
theorem own_stay {w w' : World} {B n m : Nat} {T : TypeId} {v : Value} {xs : List Value} (h : w.ownsRow B T m v n xs) (hb : Below w.heap.size w w') : w'.ownsRow B T m v n xs := rnw.own_below h hb
theorem next_no {fr to : ByteArray} {all : List flP.Pr} {k : Nat} {e : flP.Pr} (h : all[k]? = some e) (hk : keep fr to e = false) : (all.take (k + 1)).filter (keep fr to) = (all.take k).filter (keep fr to) := by
  obtain ⟨hl, rfl⟩ := List.getElem?_eq_some_iff.1 h
  rw [List.take_succ_eq_append_getElem hl, List.filter_append]
  simp [hk]
theorem next_yes {fr to : ByteArray} {all : List flP.Pr} {k : Nat} {e : flP.Pr} (h : all[k]? = some e) (hk : keep fr to e = true) : (all.take (k + 1)).filter (keep fr to) = (all.take k).filter (keep fr to) ++ [e] := by
  obtain ⟨hl, rfl⟩ := List.getElem?_eq_some_iff.1 h
  rw [List.take_succ_eq_append_getElem hl, List.filter_append]
  simp [hk]
theorem keep_no {fr to pk pv : ByteArray} (h : Op.bytesLess pk.toList fr.toList = true) : keep fr to ⟨pk, pv, false⟩ = false := by
  have h2 : lt pk fr = true := h
  simp [keep, h2]
theorem keep_all {fr pk pv : ByteArray} (h : Op.bytesLess pk.toList fr.toList = false) : keep fr ⟨#[]⟩ ⟨pk, pv, false⟩ = true := by
  have h2 : lt pk fr = false := h
  have h3 : (⟨#[]⟩ : ByteArray).size = 0 := rfl
  simp only [keep, h2, h3]
  rfl
theorem keep_over {fr to pk pv : ByteArray} (h : to ≠ ⟨#[]⟩) (h2 : Op.bytesLess pk.toList to.toList = false) : keep fr to ⟨pk, pv, false⟩ = false := by
  have h3 := (emp_eq h).2
  have h4 : lt pk to = false := h2
  simp [keep, h3, h4]
theorem keep_in {fr to pk pv : ByteArray} (h : Op.bytesLess pk.toList fr.toList = false) (h2 : Op.bytesLess pk.toList to.toList = true) : keep fr to ⟨pk, pv, false⟩ = true := by
  have h3 : lt pk fr = false := h
  have h4 : lt pk to = true := h2
  simp [keep, h3, h4]

set_option maxRecDepth 100000 in
set_option maxHeartbeats 2000000 in
theorem impl_scan (ys : List flP.Pr) (rs : List Rn) (ya ra : Option Addr) (yc rc : Nat) (fr to : ByteArray) (w : World) (F : tb.Fit ys rs) (q : Addr) (hRQ : apa.NQ ra q rs.length rc) (hyc : ys.length ≤ yc) (hrc : ∀ r ∈ rs, r.l.length ≤ r.c) (hY : Row flP.c 3 w w.heap.size ya ys) (hR : VR w w.heap.size ra rs) :
    Calls Try.prog 16 #[.agg #[.slice ya ys.length yc, .slice ra rs.length rc], .string fr, .string to] w fun r w' => ∃ v, r = .returned v ∧ (scan ys (rs.map (·.l)) fr to).length ≤ 6000 ∧ w'.ownsRow w.heap.size 40 3 v (scan ys (rs.map (·.l)) fr to).length ((scan ys (rs.map (·.l)) fr to).flatMap flP.c) ∧ Below w.heap.size w w' := by
  have hb : Below w.heap.size w (w.alloc (.cells #[.slice ya ys.length yc, .slice ra rs.length rc] 27)) := (Below.refl _ _).alloc (Nat.le_refl _) _
  have hA := bnew w #[.slice ya ys.length yc, .slice ra rs.length rc] 27
  obtain ⟨W, hW⟩ : ∃ W, w.alloc (.cells #[.slice ya ys.length yc, .slice ra rs.length rc] 27) = W := ⟨_, rfl⟩
  rw [hW] at hb hA
  have la := (Array.getElem?_eq_some_iff.1 hA).1
  have HA : Hid (W.heap[w.heap.size]? = some (.cells #[.slice ya ys.length yc, .slice ra rs.length rc] 27 (0, 0))) := hA
  have HY : Hid (Row flP.c 3 W W.heap.size ya ys) := hY.inn hb
  have HR : Hid (VR W W.heap.size ra rs) := hR.inn hb
  have HF : Hid (tb.Fit ys rs) := F
  have HCP : Hid (ys.length ≤ yc ∧ ∀ r ∈ rs, r.l.length ≤ r.c) := ⟨hyc, hrc⟩
  have hok := impl_okb ys rs ya ra yc rc W F HY.out HR.out
  have x0 : W.cell? ⟨w.heap.size, 0, none⟩ = some (.slice ya ys.length yc) := bcell hA rfl
  have x1 : W.cell? ⟨w.heap.size, 1, none⟩ = some (.slice ra rs.length rc) := bcell hA rfl
  obtain ⟨sc, hsc⟩ : ∃ sc, scan ys (rs.map (·.l)) fr to = sc := ⟨_, rfl⟩
  have HSC : Hid (scan ys (rs.map (·.l)) fr to = sc) := hsc
  rw [hsc]
  clear hY hR hA F hrc hsc
  go_enter Try.func16, Try.ntmps16
  go_wp2_with (go_at_call 12; fail)
  clear hW x0 x1
  refine hok.mono ?_
  rintro e w1 ⟨rfl, hb1⟩
  have hbw1 : Below w.heap.size w w1 := hb.trans (hb1.mono hb.size)
  clear hok
  cases hob : okB ys (rs.map (·.l)) with
  | false =>
    obtain rfl : sc = [] := by rw [← HSC.out]; unfold scan; rw [hob]; rfl
    clear hob HSC
    go_wp2
    go_ret
    exact ⟨_, rfl, Nat.zero_le _, World.ownsRow_nil _ _ _ _, hbw1⟩
  | true =>
    have hOK := okB_true.1 hob
    have hsc : Hid (sc = (nwL (ys :: rs.map (·.l))).filter (keep fr to)) := by unfold Hid; rw [← HSC.out]; unfold scan; rw [hob]; rfl
    clear HSC
    have hly := ly.layers ys rs ya ra yc rc w1 q hRQ HF.out (HY.out.inn hb1) (HR.out.inn hb1)
    have x0 : w1.cell? ⟨w.heap.size, 0, none⟩ = some (.slice ya ys.length yc) := bcell (bstay HA.out hb1 la) rfl
    have x1 : w1.cell? ⟨w.heap.size, 1, none⟩ = some (.slice ra rs.length rc) := bcell (bstay HA.out hb1 la) rfl
    have hll : ∀ r ∈ (⟨ya, yc, ys⟩ :: rs : List Rn), r.l.length ≤ 300 ∧ r.l.length ≤ r.c := fun r hr => by
      rcases List.mem_cons.1 hr with rfl | hr
      · exact ⟨hOK.yo.ll, HCP.out.1⟩
      · obtain ⟨i, hi⟩ := List.getElem?_of_mem hr
        exact ⟨(hOK.ro i r.l (by rw [List.getElem?_map, hi]; rfl)).ll, HCP.out.2 r hr⟩
    have hAs : ∀ l ∈ (⟨ya, yc, ys⟩ :: rs : List Rn).map (·.l), mgp.Asc l := fun l hl => by
      rw [List.map_cons] at hl
      rcases List.mem_cons.1 hl with rfl | hl
      · exact mgp.asc_of hOK.yo.up
      · obtain ⟨i, hi⟩ := List.getElem?_of_mem hl
        exact mgp.asc_of (hOK.ro i l hi).up
    have HNW : Hid (∀ (g c : Nat) (W2 : World), VR W2 W2.heap.size (some ⟨g, 0, none⟩) (⟨ya, yc, ys⟩ :: rs) → Calls Try.prog 38 #[.slice (some ⟨g, 0, none⟩) (rs.length + 1) c] W2 fun e w' => ∃ v, e = .returned v ∧ mgp.Is (ys :: rs.map (·.l)) (nwL (ys :: rs.map (·.l))) ∧ (nwL (ys :: rs.map (·.l))).length ≤ 6000 ∧ w'.ownsRow W2.heap.size 40 3 v (nwL (ys :: rs.map (·.l))).length ((nwL (ys :: rs.map (·.l))).flatMap flP.c) ∧ Below W2.heap.size W2 w') := fun g c W2 h =>
      (rnw.newest_run (⟨ya, yc, ys⟩ :: rs) (some ⟨g, 0, none⟩) c W2 (by have := hOK.rl; simp at this ⊢; omega) hll hAs h).mono fun e w' ⟨v, out, h1, h2, h5, h3, h4⟩ => by
        have e2 : nwL (ys :: rs.map (·.l)) = out := nwL_eq h2
        rw [e2]
        exact ⟨v, h1, h2, h5, h3, h4⟩
    clear hob hOK hll hAs
    go_wp2_with (go_at_call 37; fail)
    refine hly.mono ?_
    rintro e w2 ⟨g, c, rfl, hvr, hb2⟩
    have hnw := HNW.out g c w2 hvr
    have hbw2 : Below w.heap.size w w2 := hbw1.trans (hb2.mono hbw1.size)
    clear hly hvr x0 x1
    go_wp2_with (go_at_call 38; fail)
    refine hnw.mono ?_
    rintro e w3 ⟨v3, rfl, hIs3, hl3, ho3, hb3⟩
    have HKS : Hid (∀ e ∈ nwL (ys :: rs.map (·.l)), e.k.size ≤ 1048576 ∧ e.v.size ≤ 1048576) := fun e he => by
      obtain ⟨i, l, h1, h2, _⟩ := (hIs3.2 e).1 he
      cases i with
      | zero => simp at h1; subst h1; exact HF.out.yo e h2
      | succ i =>
        rw [List.getElem?_cons_succ, List.getElem?_map, Option.map_eq_some_iff] at h1
        obtain ⟨r, hr, rfl⟩ := h1
        exact (HF.out.ro r (List.mem_of_getElem? hr)).2 e h2
    have hbw3 : Below w.heap.size w w3 := hbw2.trans (hb3.mono hbw2.size)
    obtain ⟨va, vc, hv3, hrow3⟩ := own_row flP.c_len ho3
    subst hv3
    obtain ⟨all, hall⟩ : ∃ all, nwL (ys :: rs.map (·.l)) = all := ⟨_, rfl⟩
    rw [hall] at hsc HKS hrow3 ho3 hl3 ⊢
    clear hnw HNW hall hIs3
    go_wp2
    obtain ⟨i0, hi, hz0, hz1, hz2⟩ := info_parts rnw.infoP
    have HRW : Hid (Row flP.c 3 w3 w3.heap.size va all) := hrow3
    clear hrow3 ho3
    go_loopw [7, 9, 17] (fun v _ x wr => ∃ k : Nat, k ≤ all.length ∧ x = .int .i64 k ∧ Hid (St w3 fr to all k v wr)) (fun _ _ x _ => all.length - (intOf x).toNat)
    case atStart => exact ⟨0, Nat.zero_le _, rfl, ⟨Below.refl _ _, World.ownsRow_nil _ _ _ _⟩⟩
    case round =>
      obtain ⟨k, hk, rfl, hst⟩ := hrel
      by_cases hkl : k < all.length
      · have hbel := hst.out.1
        have hbs := hbel.size
        have HG : Hid (all[k]? = some all[k]) := List.getElem?_eq_getElem hkl
        have hks := HKS.out all[k] (List.getElem_mem hkl)
        obtain ⟨⟨pk, pv, pg⟩, he⟩ : ∃ e, all[k] = e := ⟨_, rfl⟩
        rw [he] at HG hks
        obtain ⟨b, off, rfl, hlt, hc⟩ := HRW.out.resolve_left (by rintro rfl; simp at hkl)
        have c0 : wr.cell? ⟨b, off + k * 3, none⟩ = some (.string pk) := (hbel.cell (p := ⟨b, off + k * 3, none⟩) hlt).trans (hc k _ HG.out 0 _ rfl)
        have c1 : wr.cell? ⟨b, off + k * 3 + 1, none⟩ = some (.string pv) := (hbel.cell (p := ⟨b, off + k * 3 + 1, none⟩) hlt).trans (hc k _ HG.out 1 _ rfl)
        have c2 : wr.cell? ⟨b, off + k * 3 + 2, none⟩ = some (.bool pg) := (hbel.cell (p := ⟨b, off + k * 3 + 2, none⟩) hlt).trans (hc k _ HG.out 2 _ rfl)
        have hbXr : Below wr.heap.size wr (wr.alloc (.cells #[.string pk, .string pv, .bool pg] 40)) := (Below.refl _ _).alloc (Nat.le_refl _) _
        have hA := bnew wr #[.string pk, .string pv, .bool pg] 40
        obtain ⟨X, hX⟩ : ∃ X, wr.alloc (.cells #[.string pk, .string pv, .bool pg] 40) = X := ⟨_, rfl⟩
        rw [hX] at hbXr hA
        have hbX : Below w3.heap.size w3 X := hbel.trans (hbXr.mono hbs)
        have x0 : X.cell? ⟨wr.heap.size, 0, none⟩ = some (.string pk) := bcell hA rfl
        have x1 : X.cell? ⟨wr.heap.size, 1, none⟩ = some (.string pv) := bcell hA rfl
        have x2 : X.cell? ⟨wr.heap.size, 2, none⟩ = some (.bool pg) := bcell hA rfl
        have i2 : (k : Int) < (all.length : Int) := by omega
        have hcp := fun (h : pg = false) => cpp.copy_pair ⟨pk, pv, false⟩ X hks
        have hlen : ((all.take k).filter (keep fr to)).length ≤ 6000 := by have := List.length_filter_le (keep fr to) (all.take k); rw [List.length_take] at this; omega
        clear he hc hA hks
        cases pg with
        | true =>
          clear hcp
          have HN : Hid ((all.take (k + 1)).filter (keep fr to) = (all.take k).filter (keep fr to)) := next_no HG.out (by simp [keep])
          have hst2 : Hid (St w3 fr to all (k + 1) u7 X) := by
            unfold Hid St
            rw [HN.out]
            exact ⟨hbX, own_stay hst.out.2 hbXr⟩
          go_wp2
          go_roundw
          case rel => exact ⟨k + 1, by omega, by go_num, hst2⟩
          case measure => simp [intOf]; omega
        | false =>
          replace hcp := hcp rfl
          subst hX
          cases hge : Op.bytesLess pk.toList fr.toList with
          | true =>
            have hkp : keep fr to ⟨pk, pv, false⟩ = false := keep_no hge
            clear hcp
            have HN : Hid ((all.take (k + 1)).filter (keep fr to) = (all.take k).filter (keep fr to)) := next_no HG.out (hkp)
            have hst2 : Hid (St w3 fr to all (k + 1) u7 (wr.alloc (.cells #[.string pk, .string pv, .bool false] 40))) := by
              unfold Hid St
              rw [HN.out]
              exact ⟨hbX, own_stay hst.out.2 hbXr⟩
            go_wp2
            go_roundw
            case rel => exact ⟨k + 1, by omega, by go_num, hst2⟩
            case measure => simp [intOf]; omega
          | false =>
            by_cases hto : to = ⟨#[]⟩
            · subst hto
              have hkp : keep fr ⟨#[]⟩ ⟨pk, pv, false⟩ = true := keep_all hge
              have HN : Hid ((all.take (k + 1)).filter (keep fr ⟨#[]⟩) = (all.take k).filter (keep fr ⟨#[]⟩) ++ [⟨pk, pv, false⟩]) := next_yes HG.out (hkp)
              go_wp2_with (go_at_call 39; fail)
              refine hcp.mono ?_
              rintro e w5 ⟨rfl, hb5⟩
              have hb5r : Below wr.heap.size wr w5 := hbXr.trans (hb5.mono hbXr.size)
              have hb53 : Below w3.heap.size w3 w5 := hbX.trans (hb5.mono hbX.size)
              have hal5 : Below w5.heap.size w5 (w5.alloc (.cells #[.string pk, .string pv, .bool false] 40)) := (Below.refl _ _).alloc (Nat.le_refl _) _
              obtain ⟨v', Y4, hr, ho, hg, _, _⟩ := run_append_own_at (P := Try.prog) (w5.alloc (.cells #[.string pk, .string pv, .bool false] 40)) w3.heap.size 24 24 40 i0 (.agg #[.string ByteArray.empty, .string ByteArray.empty, .bool false]) 3 40 Try.underlying24 hi hz0 hz1 hz2 rfl (by decide) u7 _ _ (own_stay (own_stay hst.out.2 hb5r) hal5) ⟨w5.heap.size, 0, none⟩ 1 1 [.string pk, .string pv, .bool false] rfl (fun j u hu => by rw [pap.add0]; exact bcell (bnew w5 _ _) (by simpa using hu)) (by intro u hu; simp at hu; rcases hu with rfl | rfl | rfl <;> rfl) (by unfold maxLen; omega) (by omega) (by have := hb53.size; simp; omega)
              have hst2 : Hid (St w3 fr ⟨#[]⟩ all (k + 1) v' Y4) := by
                unfold Hid St
                rw [HN.out, List.length_append, List.flatMap_append]
                refine ⟨(hb53.alloc hb53.size _).grown hg (by have := hb53.size; simp; omega) (fun b hb => (hst.out.2.lt b hb).1), by simpa [flP.c] using ho⟩
              clear hcp ho hg hal5 hst x0 x1 x2
              go_wp2_with (at_builtin; refine cpr.wpList_append_run rfl _ _ _ _ rfl _ _ _ rfl rfl hr ?_)
              go_roundw
              case rel => exact ⟨k + 1, by omega, by go_num, hst2⟩
              case measure => simp [intOf]; omega
            · have hto2 : (to.toList == ([] : List UInt8)) = false := (emp_eq hto).1
              have hto3 : to.toList ≠ [] := by simpa using hto2
              have hto4 : to.toList.isEmpty = false := by simpa using hto3
              cases hlt2 : Op.bytesLess pk.toList to.toList with
              | false =>
                have hkp : keep fr to ⟨pk, pv, false⟩ = false := keep_over hto hlt2
                clear hcp
                have HN : Hid ((all.take (k + 1)).filter (keep fr to) = (all.take k).filter (keep fr to)) := next_no HG.out (hkp)
                have hst2 : Hid (St w3 fr to all (k + 1) u7 (wr.alloc (.cells #[.string pk, .string pv, .bool false] 40))) := by
                  unfold Hid St
                  rw [HN.out]
                  exact ⟨hbX, own_stay hst.out.2 hbXr⟩
                go_wp2
                go_roundw
                case rel => exact ⟨k + 1, by omega, by go_num, hst2⟩
                case measure => simp [intOf]; omega
              | true =>
                have hkp : keep fr to ⟨pk, pv, false⟩ = true := keep_in hge hlt2
                have HN : Hid ((all.take (k + 1)).filter (keep fr to) = (all.take k).filter (keep fr to) ++ [⟨pk, pv, false⟩]) := next_yes HG.out (hkp)
                go_wp2_with (go_at_call 39; fail)
                refine hcp.mono ?_
                rintro e w5 ⟨rfl, hb5⟩
                have hb5r : Below wr.heap.size wr w5 := hbXr.trans (hb5.mono hbXr.size)
                have hb53 : Below w3.heap.size w3 w5 := hbX.trans (hb5.mono hbX.size)
                have hal5 : Below w5.heap.size w5 (w5.alloc (.cells #[.string pk, .string pv, .bool false] 40)) := (Below.refl _ _).alloc (Nat.le_refl _) _
                obtain ⟨v', Y4, hr, ho, hg, _, _⟩ := run_append_own_at (P := Try.prog) (w5.alloc (.cells #[.string pk, .string pv, .bool false] 40)) w3.heap.size 24 24 40 i0 (.agg #[.string ByteArray.empty, .string ByteArray.empty, .bool false]) 3 40 Try.underlying24 hi hz0 hz1 hz2 rfl (by decide) u7 _ _ (own_stay (own_stay hst.out.2 hb5r) hal5) ⟨w5.heap.size, 0, none⟩ 1 1 [.string pk, .string pv, .bool false] rfl (fun j u hu => by rw [pap.add0]; exact bcell (bnew w5 _ _) (by simpa using hu)) (by intro u hu; simp at hu; rcases hu with rfl | rfl | rfl <;> rfl) (by unfold maxLen; omega) (by omega) (by have := hb53.size; simp; omega)
                have hst2 : Hid (St w3 fr to all (k + 1) v' Y4) := by
                  unfold Hid St
                  rw [HN.out, List.length_append, List.flatMap_append]
                  refine ⟨(hb53.alloc hb53.size _).grown hg (by have := hb53.size; simp; omega) (fun b hb => (hst.out.2.lt b hb).1), by simpa [flP.c] using ho⟩
                clear hcp ho hg hal5 hst x0 x1 x2
                go_wp2_with (at_builtin; refine cpr.wpList_append_run rfl _ _ _ _ rfl _ _ _ rfl rfl hr ?_)
                go_roundw
                case rel => exact ⟨k + 1, by omega, by go_num, hst2⟩
                case measure => simp [intOf]; omega
      · obtain rfl : k = all.length := by omega
        have HFN : Hid (sc.length ≤ 6000 ∧ wr.ownsRow w.heap.size 40 3 u7 sc.length (sc.flatMap flP.c) ∧ Below w.heap.size w wr) := by
          unfold Hid
          have h2 := hst.out.2
          rw [List.take_length] at h2
          rw [hsc.out]
          exact ⟨Nat.le_trans (List.length_filter_le _ _) hl3, sct.own_low h2 (by have := hbw3.size; omega), hbw3.trans (hst.out.1.mono hbw3.size)⟩
        clear hst
        go_wp2
        go_ret
        exact ⟨_, rfl, HFN.out⟩
end Go.Proofs.Ytokaoafbgebelaa.sci

/- The specification's TableScan. -/
namespace Go.Proofs.Ytokaoafbgebelaa.scs
open Go.ChangeShapes Go.WideShapes Go.ChangeAt Go.RowKit Go.Proofs.Ytokaoafbgebelaa.fl Go.Proofs.Ytokaoafbgebelaa.rn Go.Proofs.Ytokaoafbgebelaa.rc Go.Proofs.Ytokaoafbgebelaa.ro Go.Proofs.Ytokaoafbgebelaa.tk Go.Proofs.Ytokaoafbgebelaa.tko Go.Proofs.Ytokaoafbgebelaa.sci
set_option linter.unusedVariables false

theorem news_row {w : World} {B : Nat} {p : Addr} {l : List flP.Pr} (h : Row flP.c 3 w B (some p) l) : ∀ j u, (l.flatMap flP.c)[j]? = some u → w.cell? (p.add j) = some u := fun j u hu => by
  rcases h with rfl | ⟨b, off, e, hlt, hc⟩
  · simp at hu
  · cases e
    obtain ⟨i, x, r, h1, h2, rfl⟩ := flat_get flP.c_len l j u hu
    have e2 : (⟨b, off, none⟩ : Addr).add (i * 3 + r) = ⟨b, off + i * 3 + r, none⟩ := by unfold Addr.add; split <;> simp_all <;> omega
    rw [e2]
    exact hc i x h1 r u h2
theorem newsN {w : World} {a : Option Addr} {q : Addr} {B c : Nat} {l : List flP.Pr} (hn : apa.NQ a q l.length c) (h : Row flP.c 3 w B a l) : ∀ j u, (l.flatMap flP.c)[j]? = some u → w.cell? (q.add j) = some u := fun j u hu => by
  have hl : 0 < l.length := by
    rcases Nat.eq_zero_or_pos l.length with h0 | h0
    · rw [List.length_eq_zero_iff.1 h0] at hu; simp at hu
    · exact h0
  have hq := hn.at hl
  subst hq
  exact news_row h j u hu
theorem one_all (l : List flP.Pr) : ∀ u ∈ l.flatMap flP.c, u.oneCell' = true := fun u hu => by
  obtain ⟨e, _, he⟩ := List.mem_flatMap.1 hu
  simp [flP.c] at he
  rcases he with rfl | rfl | rfl <;> rfl
/-- a growing list of pairs, never nil -/
def Al (B : Nat) (v : Value) (all : List flP.Pr) (w : World) : Prop := ∃ g c, v = .slice (some ⟨g, 0, none⟩) all.length c ∧ w.ownsRow B 40 3 v all.length (all.flatMap flP.c)

theorem Al.on {B : Nat} {v : Value} {all : List flP.Pr} {w w' : World} (h : Al B v all w) (hb : Below w.heap.size w w') : Al B v all w' := by
  obtain ⟨g, c, h1, h2⟩ := h
  exact ⟨g, c, h1, own_stay h2 hb⟩
theorem Al.row {B g c : Nat} {all : List flP.Pr} {w : World} (h : Al B (.slice (some ⟨g, 0, none⟩) all.length c) all w) : Row flP.c 3 w w.heap.size (some ⟨g, 0, none⟩) all ∧ all.length ≤ c := by
  obtain ⟨_, _, _, h2⟩ := h
  obtain ⟨a, cap, h3, h4⟩ := own_row flP.c_len h2
  cases h3
  refine ⟨h4, ?_⟩
  rcases h2.2 with ⟨h5, _⟩ | ⟨g', cap', cur, h5, _, _, h6, _⟩
  · cases h5
  · cases h5; exact h6
/-- what stands: the list, and what it is -/
structure Sp (w1 : World) (L : List (List flP.Pr)) (m : Nat) (v : Value) (all : List flP.Pr) (wr : World) : Prop where
  al : Al w1.heap.size v all wr
  bel : Below w1.heap.size w1 wr
  is : mgp.Is L all
  len : all.length ≤ m
theorem Sp.on {w1 : World} {L : List (List flP.Pr)} {m : Nat} {v : Value} {all : List flP.Pr} {wr w' : World} (h : Sp w1 L m v all wr) (hb : Below wr.heap.size wr w') : Sp w1 L m v all w' := ⟨h.al.on hb, h.bel.trans (hb.mono h.bel.size), h.is, h.len⟩
theorem take_app {L : List (List flP.Pr)} {i : Nat} {l : List flP.Pr} (h : L[i]? = some l) (ys : List flP.Pr) : (ys :: L.take i) ++ [l] = ys :: L.take (i + 1) := by
  obtain ⟨hl, rfl⟩ := List.getElem?_eq_some_iff.1 h
  rw [List.take_succ_eq_append_getElem hl]
  rfl
theorem asc_take {l : List flP.Pr} {k : Nat} {e : flP.Pr} (h : mgp.Asc l) (hk : l[k]? = some e) : l.take (k + 1) = l.take k ++ [e] ∧ mgp.Asc (l.take k ++ [e]) := by
  obtain ⟨hl, rfl⟩ := List.getElem?_eq_some_iff.1 hk
  have ht : l.take (k + 1) = l.take k ++ [l[k]] := by rw [List.take_succ_eq_append_getElem hl]
  exact ⟨ht, by rw [← ht]; exact h.sublist (List.take_sublist _ _)⟩
theorem fnd_some {l : List flP.Pr} {key : ByteArray} {z : flP.Pr} (h : tg.fnd l key = some z) : z ∈ l ∧ z.k = key := by
  unfold tg.fnd at h
  exact ⟨List.mem_of_find?_eq_some h, by have := List.find?_some h; simpa using this⟩
theorem fnd_no {l : List flP.Pr} {key : ByteArray} (h : tg.fnd l key = none) : ∀ z ∈ l, z.k ≠ key := fun z hz => by
  unfold tg.fnd at h
  have := List.find?_eq_none.1 h z hz
  simpa using this

def S3 (w w9 : World) (gl : Nat) (fr to : ByteArray) (all : List flP.Pr) (k : Nat) (v : Value) (wx : World) : Prop := Below w.heap.size w wx ∧ wx.ownsRow w.heap.size 40 3 v ((all.take k).filter (keep fr to)).length (((all.take k).filter (keep fr to)).flatMap flP.c) ∧ v.ownBlock ≠ some gl ∧ wx.heap[gl]? = w9.heap[gl]? ∧ gl < wx.heap.size

set_option maxRecDepth 100000 in
set_option maxHeartbeats 2000000 in
theorem spec_scan (ys : List flP.Pr) (rs : List Rn) (ya ra : Option Addr) (yc rc : Nat) (yq : Addr) (hNQ : apa.NQ ya yq ys.length yc) (fr to : ByteArray) (w : World) (F : tb.Fit ys rs) (hY : Row flP.c 3 w w.heap.size ya ys) (hR : VR w w.heap.size ra rs) :
    Calls Try.prog 25 #[.agg #[.slice ya ys.length yc, .slice ra rs.length rc], .string fr, .string to] w fun r w' => ∃ v, r = .returned v ∧ w'.ownsRow w.heap.size 40 3 v (scan ys (rs.map (·.l)) fr to).length ((scan ys (rs.map (·.l)) fr to).flatMap flP.c) ∧ Below w.heap.size w w' := by
  have hb : Below w.heap.size w ((w.alloc (.cells #[.slice ya ys.length yc, .slice ra rs.length rc] 27)).alloc (.cells #[] 40)) := ((Below.refl _ _).alloc (Nat.le_refl _) _).alloc (by simp) _
  have hA := bold (bnew w #[.slice ya ys.length yc, .slice ra rs.length rc] 27) (.cells #[] 40)
  have ho0 : ((w.alloc (.cells #[.slice ya ys.length yc, .slice ra rs.length rc] 27)).alloc (.cells #[] 40)).ownsRow w.heap.size 40 3 (.slice (some ⟨w.heap.size + 1, 0, none⟩) 0 0) 0 [] := by
    have := World.ownsRow_made (base := w.heap.size) (e := 40) (size := 3) (w.alloc (.cells #[.slice ya ys.length yc, .slice ra rs.length rc] 27)) #[] 0 (by simp) (by unfold maxLen; omega) (by simp)
    simpa using this
  obtain ⟨W, hW⟩ : ∃ W, (w.alloc (.cells #[.slice ya ys.length yc, .slice ra rs.length rc] 27)).alloc (.cells #[] 40) = W := ⟨_, rfl⟩
  rw [hW] at hb hA ho0
  have la := (Array.getElem?_eq_some_iff.1 hA).1
  have HA : Hid (W.heap[w.heap.size]? = some (.cells #[.slice ya ys.length yc, .slice ra rs.length rc] 27 (0, 0))) := hA
  have HO0 : Hid (W.ownsRow w.heap.size 40 3 (.slice (some ⟨w.heap.size + 1, 0, none⟩) 0 0) 0 []) := ho0
  have HY : Hid (Row flP.c 3 W W.heap.size ya ys) := hY.inn hb
  have HR : Hid (VR W W.heap.size ra rs) := hR.inn hb
  have HF : Hid (tb.Fit ys rs) := F
  have hok := spec_okb ys rs ya ra yc rc W F HY.out HR.out
  have x0 : W.cell? ⟨w.heap.size, 0, none⟩ = some (.slice ya ys.length yc) := bcell hA rfl
  have x1 : W.cell? ⟨w.heap.size, 1, none⟩ = some (.slice ra rs.length rc) := bcell hA rfl
  obtain ⟨sc, hsc⟩ : ∃ sc, scan ys (rs.map (·.l)) fr to = sc := ⟨_, rfl⟩
  have HSC : Hid (scan ys (rs.map (·.l)) fr to = sc) := hsc
  rw [hsc]
  have la2 := (ho0.lt (w.heap.size + 1) rfl).2
  clear hY hR hA F hsc ho0
  go_enter Try.func25, Try.ntmps25
  go_wp2_with (go_at_call 13; fail)
  clear hW x0 x1
  refine hok.mono ?_
  rintro e w1 ⟨rfl, hb1⟩
  have hbw1 : Below w.heap.size w w1 := hb.trans (hb1.mono hb.size)
  have HO1 : Hid (w1.ownsRow w.heap.size 40 3 (.slice (some ⟨w.heap.size + 1, 0, none⟩) 0 0) 0 []) := own_stay HO0.out hb1
  clear hok HO0
  cases hob : okB ys (rs.map (·.l)) with
  | false =>
    obtain rfl : sc = [] := by rw [← HSC.out]; unfold scan; rw [hob]; rfl
    clear hob HSC
    go_wp2
    go_ret
    exact ⟨_, rfl, HO1.out, hbw1⟩
  | true =>
    have HOK : Hid (OkT ys (rs.map (·.l))) := okB_true.1 hob
    have hsc : Hid (sc = (nwL (ys :: rs.map (·.l))).filter (keep fr to)) := by unfold Hid; rw [← HSC.out]; unfold scan; rw [hob]; rfl
    have x0 : w1.cell? ⟨w.heap.size, 0, none⟩ = some (.slice ya ys.length yc) := bcell (bstay HA.out hb1 la) rfl
    have x1 : w1.cell? ⟨w.heap.size, 1, none⟩ = some (.slice ra rs.length rc) := bcell (bstay HA.out hb1 la) rfl
    clear hob HSC
    obtain ⟨i0, hi, hz0, hz1, hz2⟩ := info_parts rnw.infoP
    have hbs1 := hb1.size
    have hbw1s := hbw1.size
    have hal1 : Below w1.heap.size w1 (w1.alloc (.cells #[] 40)) := (Below.refl _ _).alloc (Nat.le_refl _) _
    have hmade : (w1.alloc (.cells #[] 40)).ownsRow w1.heap.size 40 3 (.slice (some ⟨w1.heap.size, 0, none⟩) 0 0) 0 [] := World.ownsRow_made w1 #[] 0 (Nat.le_refl _) (by unfold maxLen; omega) (by simp)
    have x0' : (w1.alloc (.cells #[] 40)).cell? ⟨w.heap.size, 0, none⟩ = some (.slice ya ys.length yc) := (hal1.cell (p := ⟨w.heap.size, 0, none⟩) (by show w.heap.size < w1.heap.size; omega)).trans x0
    have hyw : Row flP.c 3 (w1.alloc (.cells #[] 40)) (w1.alloc (.cells #[] 40)).heap.size ya ys := (HY.out.inn hb1).inn hal1
    obtain ⟨X, hX⟩ : ∃ X, w1.alloc (.cells #[] 40) = X := ⟨_, rfl⟩
    rw [hX] at hal1 hmade x0' hyw
    have hyl := HOK.out.yo.ll
    obtain ⟨v', Y, hr, ho, hg, hnil⟩ := apa.run_append_any (P := Try.prog) X w1.heap.size 24 24 40 i0 (.agg #[.string ByteArray.empty, .string ByteArray.empty, .bool false]) 3 40 Try.underlying24 hi hz0 hz1 hz2 rfl (by decide) _ 0 [] hmade ya yq ys.length yc hNQ (ys.flatMap flP.c) (flat_len flP.c_len ys) (newsN hNQ hyw) (one_all ys) (by unfold maxLen; omega) (by omega) hal1.size
    have hbY : Below w1.heap.size w1 Y := hal1.grown hg hal1.size (fun b hb => (hmade.lt b hb).1)
    rw [Nat.zero_add, List.nil_append] at ho
    obtain ⟨ga, ca, rfl⟩ : ∃ ga ca, v' = .slice (some ⟨ga, 0, none⟩) ys.length ca := by
      obtain ⟨_, ⟨rfl, h0⟩ | ⟨g, cap, cur, e, _⟩⟩ := ho
      · have := hnil.1 rfl; cases this.1
      · exact ⟨_, _, e⟩
    have HAL : Hid (Al w1.heap.size (.slice (some ⟨ga, 0, none⟩) ys.length ca) ys Y) := ⟨ga, ca, rfl, ho⟩
    clear hmade hyw ho hg hnil x0 x1 hal1
    go_wp2_with (at_builtin; refine cpr.wpList_append_run rfl _ _ _ _ rfl _ _ _ rfl rfl hr ?_)
    clear hr hX x0' hi hz0 hz1 hz2
    obtain ⟨ls, hls⟩ : ∃ ls, rs.map (·.l) = ls := ⟨_, rfl⟩
    rw [hls] at HOK hsc
    have HLS : Hid (rs.map (·.l) = ls) := hls
    have hrl8 : rs.length ≤ 8 := by have := HOK.out.rl; rw [← hls] at this; simpa using this
    have HSP0 : Hid (Sp w1 (ys :: ls.take 0) (300 * (0 + 1)) (.slice (some ⟨ga, 0, none⟩) ys.length ca) ys Y) := ⟨HAL.out, hbY, by rw [List.take_zero]; exact mgs.is_one (mgp.asc_of HOK.out.yo.up), by omega⟩
    have HBX : Hid (∀ wr, Below w1.heap.size w1 wr → wr.cell? ⟨w.heap.size, 1, none⟩ = some (.slice ra rs.length rc)) := fun wr h => bcell (bstay (bstay HA.out hb1 la) h (by omega)) rfl
    clear hls HAL hbY
    go_loopw [8, 9, 10, 11, 12] (fun v x _ _ _ wr => ∃ (i : Nat) (all : List flP.Pr), i ≤ rs.length ∧ x = .int .i64 i ∧ Hid (Sp w1 (ys :: ls.take i) (300 * (i + 1)) v all wr)) (fun _ x _ _ _ _ => rs.length - (intOf x).toNat)
    case atStart => exact ⟨0, ys, Nat.zero_le _, rfl, HSP0⟩
    case round =>
      obtain ⟨i, all, hil, rfl, hsp⟩ := hrel
      have x1 := HBX.out wr hsp.out.bel
      by_cases hir : i < rs.length
      · have HG : Hid (rs[i]? = some rs[i]) := List.getElem?_eq_getElem hir
        obtain ⟨⟨qa, qc, ql⟩, he⟩ : ∃ e, rs[i] = e := ⟨_, rfl⟩
        rw [he] at HG
        have hrw := HR.out.2 ⟨qa, qc, ql⟩ (List.mem_of_getElem? HG.out)
        have HQR : Hid (Row flP.c 3 W W.heap.size qa ql) := hrw
        obtain ⟨b, off, rfl, hlt, hc⟩ := HR.out.1.resolve_left (by rintro rfl; simp at hir)
        have HRC : Hid (∀ wx, Below w1.heap.size w1 wx → wx.cell? ⟨b, off + i, none⟩ = some (.slice qa ql.length qc)) := fun wx h => by
          have h1 : W.cell? ⟨b, off + i, none⟩ = some (.slice qa ql.length qc) := by have := hc i _ HG.out 0 _ rfl; simpa using this
          exact ((h.cell (p := ⟨b, off + i, none⟩) (by show b < w1.heap.size; omega)).trans (hb1.cell (p := ⟨b, off + i, none⟩) hlt)).trans h1
        have hq : ls[i]? = some ql := by rw [← HLS.out, List.getElem?_map, HG.out]; rfl
        have HQ : Hid (ls[i]? = some ql) := hq
        have hokl := HOK.out.ro i ql hq
        have hql : ql.length ≤ 300 := hokl.ll
        have HQA : Hid (mgp.Asc ql) := mgp.asc_of hokl.up
        have i2 : (i : Int) < (rs.length : Int) := by omega
        have HSI : Hid (Sp w1 ((ys :: ls.take i) ++ [ql.take 0]) (300 * (i + 1) + 0) u8 all wr) := ⟨hsp.out.al, hsp.out.bel, by rw [List.take_zero]; exact mgs.is_nil hsp.out.is, hsp.out.len⟩
        clear he hrw hc hq hokl hsp
        go_wp2
        go_loopw [8, 10, 11, 12] (fun v x _ _ wx => ∃ (k : Nat) (al2 : List flP.Pr), k ≤ ql.length ∧ x = .int .i64 k ∧ Hid (Sp w1 ((ys :: ls.take i) ++ [ql.take k]) (300 * (i + 1) + k) v al2 wx)) (fun _ x _ _ _ => ql.length - (intOf x).toNat)
        case atStart => exact ⟨0, all, Nat.zero_le _, rfl, HSI⟩
        case round =>
          obtain ⟨k, al2, hkl, rfl, hsi⟩ := hrel
          have y1 := HBX.out _ hsi.out.bel
          have yr := HRC.out _ hsi.out.bel
          by_cases hk : k < ql.length
          · have HE : Hid (ql[k]? = some ql[k]) := List.getElem?_eq_getElem hk
            obtain ⟨⟨pk, pv, pg⟩, hpe⟩ : ∃ e, ql[k] = e := ⟨_, rfl⟩
            rw [hpe] at HE
            obtain ⟨qb, qo, rfl, hqlt, hqc⟩ := HQR.out.resolve_left (by rintro rfl; simp at hk)
            have HPC : Hid (∀ wx, Below w1.heap.size w1 wx → wx.cell? ⟨qb, qo + k * 3, none⟩ = some (.string pk) ∧ wx.cell? ⟨qb, qo + k * 3 + 1, none⟩ = some (.string pv) ∧ wx.cell? ⟨qb, qo + k * 3 + 2, none⟩ = some (.bool pg)) := fun wx h => by
              have go : ∀ (o : Nat) (v : Value), W.cell? ⟨qb, o, none⟩ = some v → wx.cell? ⟨qb, o, none⟩ = some v := fun o v hv => ((h.cell (p := ⟨qb, o, none⟩) (by show qb < w1.heap.size; omega)).trans (hb1.cell (p := ⟨qb, o, none⟩) hqlt)).trans hv
              exact ⟨go _ _ (hqc k _ HE.out 0 _ rfl), go _ _ (hqc k _ HE.out 1 _ rfl), go _ _ (hqc k _ HE.out 2 _ rfl)⟩
            obtain ⟨p0, _, _⟩ := HPC.out wr hsi.out.bel
            obtain ⟨gl, cl, rfl, _⟩ := hsi.out.al
            have hln : al2.length ≤ 3000 := by have := hsi.out.len; omega
            have hfi := tg.spec_find al2 (some ⟨gl, 0, none⟩) cl pk wr (by omega) hsi.out.al.row.1
            obtain ⟨hT1, hT2⟩ := asc_take HQA.out HE.out
            have HOLD : Hid (∀ z, tg.fnd al2 pk = some z → mgp.Is ((ys :: ls.take i) ++ [ql.take (k + 1)]) al2) := fun z hz => by rw [hT1]; exact mgs.is_old hsi.out.is hT2 (fnd_some hz).1 (fnd_some hz).2
            have HNEW : Hid (tg.fnd al2 pk = none → mgp.Is ((ys :: ls.take i) ++ [ql.take (k + 1)]) (ptp.setP al2 ⟨pk, pv, pg⟩)) := fun hz => by rw [hT1]; exact mgs.is_new hsi.out.is (fnd_no hz)
            obtain ⟨fo, hfo⟩ : ∃ fo, tg.fnd al2 pk = fo := ⟨_, rfl⟩
            rw [hfo] at hfi HOLD HNEW
            obtain ⟨⟨fk, fv, fg⟩, hfp⟩ : ∃ e, fo.getD tg.p0 = e := ⟨_, rfl⟩
            rw [hfp] at hfi
            have i3 : (k : Int) < (ql.length : Int) := by omega
            clear hpe hqc hT1 hT2 hfo hfp
            cases fo with
            | some z =>
              have hfi : Calls Try.prog 52 #[.slice (some ⟨gl, 0, none⟩) al2.length cl, .string pk] wr fun r w' => r = .returned (.tuple #[.agg #[.string fk, .string fv, .bool fg], .bool true]) ∧ Below wr.heap.size wr w' := hfi
              go_wp2_with (go_at_call 52; fail)
              refine hfi.mono ?_
              rintro e w2 ⟨rfl, hb2⟩
              have hb2' : Below wr.heap.size wr (w2.alloc (.cells #[.string fk, .string fv, .bool fg] 40)) := hb2.alloc hb2.size _
              have HN : Hid (Sp w1 ((ys :: ls.take i) ++ [ql.take (k + 1)]) (300 * (i + 1) + (k + 1)) (.slice (some ⟨gl, 0, none⟩) al2.length cl) al2 (w2.alloc (.cells #[.string fk, .string fv, .bool fg] 40))) := by
                have h := hsi.out.on hb2'
                exact ⟨h.al, h.bel, HOLD.out z rfl, by have := h.len; omega⟩
              clear hfi hsi HOLD HNEW p0 y1 yr
              go_wp2
              go_roundw
              case rel => exact ⟨k + 1, al2, by omega, by go_num, HN⟩
              case measure => simp [intOf]; omega
            | none =>
              have hfi : Calls Try.prog 52 #[.slice (some ⟨gl, 0, none⟩) al2.length cl, .string pk] wr fun r w' => r = .returned (.tuple #[.agg #[.string fk, .string fv, .bool fg], .bool false]) ∧ Below wr.heap.size wr w' := hfi
              go_wp2_with (go_at_call 52; fail)
              refine hfi.mono ?_
              rintro e w2 ⟨rfl, hb2⟩
              have hb2' : Below wr.heap.size wr (w2.alloc (.cells #[.string fk, .string fv, .bool fg] 40)) := hb2.alloc hb2.size _
              have HSX : Hid (Sp w1 ((ys :: ls.take i) ++ [ql.take k]) (300 * (i + 1) + k) (.slice (some ⟨gl, 0, none⟩) al2.length cl) al2 (w2.alloc (.cells #[.string fk, .string fv, .bool fg] 40))) := hsi.out.on hb2'
              have hset := pss.spec_set al2 gl cl pk pv pg (w2.alloc (.cells #[.string fk, .string fv, .bool fg] 40)) (by omega) HSX.out.al.row.2 HSX.out.al.row.1
              obtain ⟨q0, q1, q2⟩ := HPC.out _ HSX.out.bel
              have z1 := HBX.out _ HSX.out.bel
              have zr := HRC.out _ HSX.out.bel
              clear hfi hsi HOLD p0 y1 yr hb2'
              go_wp2_with (go_at_call 53; fail)
              refine hset.mono ?_
              rintro e w3 ⟨g2, c2, rfl, ho3, hb3⟩
              have hXs := HSX.out.bel.size
              have HN : Hid (Sp w1 ((ys :: ls.take i) ++ [ql.take (k + 1)]) (300 * (i + 1) + (k + 1)) (.slice (some ⟨g2, 0, none⟩) (ptp.setP al2 ⟨pk, pv, pg⟩).length c2) (ptp.setP al2 ⟨pk, pv, pg⟩) w3) :=
                ⟨⟨g2, c2, rfl, sct.own_low ho3 hXs⟩, HSX.out.bel.trans (hb3.mono hXs), HNEW.out (by trivial), by have := HSX.out.len; have := ptp.setP_le al2 ⟨pk, pv, pg⟩; omega⟩
              clear hset ho3 hb3 HSX HNEW q0 q1 q2 z1 zr
              go_wp2
              go_roundw
              case rel => exact ⟨k + 1, ptp.setP al2 ⟨pk, pv, pg⟩, by omega, by go_num, HN⟩
              case measure => simp [intOf]; omega
          · obtain rfl : k = ql.length := by omega
            have HN : Hid (Sp w1 (ys :: ls.take (i + 1)) (300 * (i + 1 + 1)) u8 al2 wr) := by
              have h := hsi.out
              rw [List.take_length, take_app HQ.out] at h
              exact ⟨h.al, h.bel, h.is, by have := h.len; omega⟩
            clear hsi
            go_wp2
            go_roundw
            case rel => exact ⟨i + 1, al2, by omega, by go_num, HN⟩
            case measure => simp [intOf]; omega
      · obtain rfl : i = rs.length := by omega
        have hlsl : ls.length = rs.length := by rw [← HLS.out]; simp
        have hIs : mgp.Is (ys :: ls) all := by have := hsp.out.is; rw [← hlsl, List.take_length] at this; exact this
        have hall : Hid (sc = all.filter (keep fr to)) := by unfold Hid; rw [hsc.out, nwL_eq hIs]
        have hln : all.length ≤ 3000 := by have := hsp.out.len; omega
        have HSP : Hid (Sp w1 (ys :: ls.take rs.length) (300 * (rs.length + 1)) u8 all wr) := hsp.out
        obtain ⟨gl, cl, rfl, _⟩ := hsp.out.al
        have HRW : Hid (Row flP.c 3 wr wr.heap.size (some ⟨gl, 0, none⟩) all) := hsp.out.al.row.1
        have HGL : Hid (w1.heap.size ≤ gl ∧ gl < wr.heap.size) := by
          obtain ⟨_, _, _, h2⟩ := hsp.out.al
          exact h2.lt gl rfl
        have HOO : Hid (wr.ownsRow w.heap.size 40 3 (.slice (some ⟨w.heap.size + 1, 0, none⟩) 0 0) 0 []) := own_stay HO1.out hsp.out.bel
        have hbwr : Below w.heap.size w wr := hbw1.trans (hsp.out.bel.mono hbw1s)
        clear hsp hIs hir hil hlsl HSP
        obtain ⟨i0, hi, hz0, hz1, hz2⟩ := info_parts rnw.infoP
        have hgl1 := HGL.out
        go_wp2
        obtain ⟨w9, hw9⟩ : ∃ w9, wr = w9 := ⟨wr, rfl⟩
        rw [hw9] at hbwr HOO HRW HGL hgl1 ⊢
        clear hw9
        go_loopw [7, 13] (fun v x wx => ∃ k : Nat, k ≤ all.length ∧ x = .int .i64 k ∧ Hid (S3 w w9 gl fr to all k v wx)) (fun _ x _ => all.length - (intOf x).toNat)
        case atStart => exact ⟨0, Nat.zero_le _, rfl, ⟨hbwr, HOO.out, by show some (w.heap.size + 1) ≠ some gl; intro h; have := Option.some.inj h; omega, rfl, hgl1.2⟩⟩
        case round =>
          obtain ⟨k, hk, rfl, hst⟩ := hrel
          by_cases hkl : k < all.length
          · obtain ⟨s1, s2, s3, s4, s5⟩ := hst.out
            have s6 := s1.size
            have HG : Hid (all[k]? = some all[k]) := List.getElem?_eq_getElem hkl
            obtain ⟨⟨pk, pv, pg⟩, he⟩ : ∃ e, all[k] = e := ⟨_, rfl⟩
            rw [he] at HG
            obtain ⟨b, off, hbo, hlt, hc⟩ := HRW.out.resolve_left (by rintro rfl; simp at hkl)
            cases hbo
            have go : ∀ (o : Nat) (v : Value), w9.cell? ⟨gl, o, none⟩ = some v → wr.cell? ⟨gl, o, none⟩ = some v := fun o v hv => (World.cell?_of_block (a := ⟨gl, o, none⟩) s4).trans hv
            have c0 : wr.cell? ⟨gl, k * 3, none⟩ = some (.string pk) := go _ _ (by have := hc k _ HG.out 0 _ rfl; simpa using this)
            have c1 : wr.cell? ⟨gl, k * 3 + 1, none⟩ = some (.string pv) := go _ _ (by have := hc k _ HG.out 1 _ rfl; simpa using this)
            have c2 : wr.cell? ⟨gl, k * 3 + 2, none⟩ = some (.bool pg) := go _ _ (by have := hc k _ HG.out 2 _ rfl; simpa using this)
            have i2 : (k : Int) < (all.length : Int) := by omega
            have hlen : ((all.take k).filter (keep fr to)).length ≤ 3000 := by have := List.length_filter_le (keep fr to) (all.take k); rw [List.length_take] at this; omega
            clear he hc go
            cases pg with
            | true =>
              have HN : Hid ((all.take (k + 1)).filter (keep fr to) = (all.take k).filter (keep fr to)) := next_no HG.out (by simp [keep])
              have hst2 : Hid (S3 w w9 gl fr to all (k + 1) u7 wr) := by
                unfold Hid S3
                rw [HN.out]
                exact hst.out
              go_wp2
              go_roundw
              case rel => exact ⟨k + 1, by omega, by go_num, hst2⟩
              case measure => simp [intOf]; omega
            | false =>
              cases hge : Op.bytesLess pk.toList fr.toList with
              | true =>
                have hkp : keep fr to ⟨pk, pv, false⟩ = false := keep_no hge
                have HN : Hid ((all.take (k + 1)).filter (keep fr to) = (all.take k).filter (keep fr to)) := next_no HG.out (hkp)
                have hst2 : Hid (S3 w w9 gl fr to all (k + 1) u7 wr) := by
                  unfold Hid S3
                  rw [HN.out]
                  exact hst.out
                go_wp2
                go_roundw
                case rel => exact ⟨k + 1, by omega, by go_num, hst2⟩
                case measure => simp [intOf]; omega
              | false =>
                by_cases hto : to = ⟨#[]⟩
                · subst hto
                  have hkp : keep fr ⟨#[]⟩ ⟨pk, pv, false⟩ = true := keep_all hge
                  have HN : Hid ((all.take (k + 1)).filter (keep fr ⟨#[]⟩) = (all.take k).filter (keep fr ⟨#[]⟩) ++ [⟨pk, pv, false⟩]) := next_yes HG.out (hkp)
                  have hal5 : Below wr.heap.size wr (wr.alloc (.cells #[.string pk, .string pv, .bool false] 40)) := (Below.refl _ _).alloc (Nat.le_refl _) _
                  obtain ⟨v', Y4, hr, ho, hg, _, hat⟩ := run_append_own_at (P := Try.prog) (wr.alloc (.cells #[.string pk, .string pv, .bool false] 40)) w.heap.size 24 24 40 i0 (.agg #[.string ByteArray.empty, .string ByteArray.empty, .bool false]) 3 40 Try.underlying24 hi hz0 hz1 hz2 rfl (by decide) u7 _ _ (own_stay s2 hal5) ⟨wr.heap.size, 0, none⟩ 1 1 [.string pk, .string pv, .bool false] rfl (fun j u hu => by rw [pap.add0]; exact bcell (bnew wr _ _) (by simpa using hu)) (by intro u hu; simp at hu; rcases hu with rfl | rfl | rfl <;> rfl) (by unfold maxLen; omega) (by omega) (by simp; omega)
                  have hst2 : Hid (S3 w w9 gl fr ⟨#[]⟩ all (k + 1) v' Y4) := by
                    unfold Hid S3
                    rw [HN.out, List.length_append, List.flatMap_append]
                    have hgs := hg.size
                    simp at hgs
                    refine ⟨(s1.alloc (by omega) _).grown hg (by simp; omega) (fun b hb => (s2.lt b hb).1), by simpa [flP.c] using ho, ?_, ((hg.block gl (by simp; omega) (Ne.symm s3)).trans (hal5.block gl s5)).trans s4, by omega⟩
                    rcases hat with h | h
                    · rw [h]; exact s3
                    · rw [h]; intro h2; have := Option.some.inj h2; simp at this; omega
                  clear ho hg hal5 hst hat s1 s2 s3 s4
                  go_wp2_with (at_builtin; refine cpr.wpList_append_run rfl _ _ _ _ rfl _ _ _ rfl rfl hr ?_)
                  go_roundw
                  case rel => exact ⟨k + 1, by omega, by go_num, hst2⟩
                  case measure => simp [intOf]; omega
                · have hto2 : (to.toList == ([] : List UInt8)) = false := (emp_eq hto).1
                  have hto3 : to.toList ≠ [] := by simpa using hto2
                  have hto4 : to.toList.isEmpty = false := by simpa using hto3
                  cases hlt2 : Op.bytesLess pk.toList to.toList with
                  | false =>
                    have hkp : keep fr to ⟨pk, pv, false⟩ = false := keep_over hto hlt2
                    have HN : Hid ((all.take (k + 1)).filter (keep fr to) = (all.take k).filter (keep fr to)) := next_no HG.out (hkp)
                    have hst2 : Hid (S3 w w9 gl fr to all (k + 1) u7 wr) := by
                      unfold Hid S3
                      rw [HN.out]
                      exact hst.out
                    go_wp2
                    go_roundw
                    case rel => exact ⟨k + 1, by omega, by go_num, hst2⟩
                    case measure => simp [intOf]; omega
                  | true =>
                    have hkp : keep fr to ⟨pk, pv, false⟩ = true := keep_in hge hlt2
                    have HN : Hid ((all.take (k + 1)).filter (keep fr to) = (all.take k).filter (keep fr to) ++ [⟨pk, pv, false⟩]) := next_yes HG.out (hkp)
                    have hal5 : Below wr.heap.size wr (wr.alloc (.cells #[.string pk, .string pv, .bool false] 40)) := (Below.refl _ _).alloc (Nat.le_refl _) _
                    obtain ⟨v', Y4, hr, ho, hg, _, hat⟩ := run_append_own_at (P := Try.prog) (wr.alloc (.cells #[.string pk, .string pv, .bool false] 40)) w.heap.size 24 24 40 i0 (.agg #[.string ByteArray.empty, .string ByteArray.empty, .bool false]) 3 40 Try.underlying24 hi hz0 hz1 hz2 rfl (by decide) u7 _ _ (own_stay s2 hal5) ⟨wr.heap.size, 0, none⟩ 1 1 [.string pk, .string pv, .bool false] rfl (fun j u hu => by rw [pap.add0]; exact bcell (bnew wr _ _) (by simpa using hu)) (by intro u hu; simp at hu; rcases hu with rfl | rfl | rfl <;> rfl) (by unfold maxLen; omega) (by omega) (by simp; omega)
                    have hst2 : Hid (S3 w w9 gl fr to all (k + 1) v' Y4) := by
                      unfold Hid S3
                      rw [HN.out, List.length_append, List.flatMap_append]
                      have hgs := hg.size
                      simp at hgs
                      refine ⟨(s1.alloc (by omega) _).grown hg (by simp; omega) (fun b hb => (s2.lt b hb).1), by simpa [flP.c] using ho, ?_, ((hg.block gl (by simp; omega) (Ne.symm s3)).trans (hal5.block gl s5)).trans s4, by omega⟩
                      rcases hat with h | h
                      · rw [h]; exact s3
                      · rw [h]; intro h2; have := Option.some.inj h2; simp at this; omega
                    clear ho hg hal5 hst hat s1 s2 s3 s4
                    go_wp2_with (at_builtin; refine cpr.wpList_append_run rfl _ _ _ _ rfl _ _ _ rfl rfl hr ?_)
                    go_roundw
                    case rel => exact ⟨k + 1, by omega, by go_num, hst2⟩
                    case measure => simp [intOf]; omega
          · obtain rfl : k = all.length := by omega
            have HFN : Hid (wr.ownsRow w.heap.size 40 3 u7 sc.length (sc.flatMap flP.c) ∧ Below w.heap.size w wr) := by
              unfold Hid
              have h2 := hst.out.2.1
              rw [List.take_length] at h2
              rw [hall.out]
              exact ⟨h2, hst.out.1⟩
            clear hst
            go_wp2
            go_ret
            exact ⟨_, rfl, HFN.out⟩
end Go.Proofs.Ytokaoafbgebelaa.scs
