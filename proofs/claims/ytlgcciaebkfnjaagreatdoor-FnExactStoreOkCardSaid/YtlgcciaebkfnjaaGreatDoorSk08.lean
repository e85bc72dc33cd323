/- The specification's l07Copy: the region of its loop that copies one run. -/
import Derived.Test.YtlgcciaebkfnjaaGreatDoorDoneKit
import Derived.Test.YtlgcciaebkfnjaaGreatDoorSk07
import Derived.Test.YtlgcciaebkfnjaaGreatDoorRunLib
import Derived.Test.YtlgcciaebkfnjaaGreatDoorFlPair
import Derived.Test.YtlgcciaebkfnjaaGreatDoorSk01
import Derived.Maps.AppendAt
import Derived.Test.YtlgcciaebkfnjaaGreatDoorFlatOff
import Derived.Test.YtlgcciaebkfnjaaGreatDoorTabLib

/- copyPair and copyPairs: the same pairs, each text cloned, in a row of their own; new memory alone. -/
namespace Go.Proofs.YtlgcciaebkfnjaaGreatDoor.cpp
open Go.ChangeShapes Go.WideShapes Go.ChangeAt Go.RowKit Go.Proofs.YtlgcciaebkfnjaaGreatDoor.fl Go.Proofs.YtlgcciaebkfnjaaGreatDoor.rn
set_option linter.unusedVariables false

def fin (s : Nat) (pk pv : ByteArray) (pg : Bool) : Act := { tmps := #[.agg #[.string pk, .string pv, .bool pg], .pointer (some ⟨s, 0, none⟩), .pointer (some ⟨s + 1, 0, none⟩), .pointer (some ⟨s, 0, none⟩), .string pk, .string pk, .pointer (some ⟨s, 1, none⟩), .string pv, .string pv, .pointer (some ⟨s, 2, none⟩), .bool pg, .agg #[.string pk, .string pv, .bool pg]], defers := [] }
/-- the worlds on the way: nothing that was there is turned; the answer is laid once the store is done -/
def D (w : World) (pk pv : ByteArray) (pg : Bool) (b : Bool) (W : World) : Prop :=
  Below w.heap.size w W ∧ W.heap[w.heap.size]? = some (.cells #[.string pk, .string pv, .bool pg] 49 (0, 0)) ∧
    W.heap[w.heap.size + 1]? = some (.cells (if b then #[.string pk, .string pv, .bool pg] else #[.string ByteArray.empty, .string ByteArray.empty, .bool false]) 49 (0, 0))
theorem D.on {w : World} {pk pv : ByteArray} {pg : Bool} {b : Bool} {W W' : World} (h : D w pk pv pg b W) (hb : Below W.heap.size W W') : D w pk pv pg b W' := by
  obtain ⟨h1, h2, h3⟩ := h
  have hs : w.heap.size + 1 < W.heap.size := (Array.getElem?_eq_some_iff.1 h3).1
  exact ⟨h1.trans (hb.mono h1.size), bstay h2 hb (by omega), bstay h3 hb hs⟩

set_option maxRecDepth 100000 in
set_option maxHeartbeats 1000000 in
theorem copy_pair (e : flP.Pr) (w : World) (hx : e.k.size ≤ 1048576 ∧ e.v.size ≤ 1048576) : Calls Tryz.prog 98 #[.agg #[.string e.k, .string e.v, .bool e.g]] w fun r w' => r = .returned (.agg #[.string e.k, .string e.v, .bool e.g]) ∧ Below w.heap.size w w' := by
  obtain ⟨pk, pv, pg⟩ := e
  obtain ⟨hx1, hx2⟩ := hx
  have cl1 := fun W => cl.clone pk W (by have : pk.size ≤ 1048576 := hx1; omega)
  have cl2 := fun W => cl.clone pv W (by have : pv.size ≤ 1048576 := hx2; omega)
  have h0 : D w pk pv pg false ((w.alloc (.cells #[.string pk, .string pv, .bool pg] 49)).alloc (.cells #[.string ByteArray.empty, .string ByteArray.empty, .bool false] 49)).drew := by
    refine ⟨(((Below.refl _ _).alloc (Nat.le_refl _) _).alloc (by simp) _).drew, ?_, ?_⟩
    · exact bold (bnew w _ _) _
    · have := bnew (w.alloc (.cells #[.string pk, .string pv, .bool pg] 49)) #[.string ByteArray.empty, .string ByteArray.empty, .bool false] 49
      rw [World.size_alloc] at this
      exact this
  go_enter Tryz.func98, Tryz.ntmps98
  go_wp2
  refine dn.region_done (fin w.heap.size pk pv pg) (dk.Cl (D w pk pv pg) 9) (by kernel_rfl) (by kernel_rfl) rfl rfl [0, 1, 2] (by kernel_rfl) (fun s hs => by simp at hs; rcases hs with rfl | rfl | rfl <;> rfl) h0 ?each ?fin
  case each =>
    refine ⟨dk.q (by decide) (.pointer (some ⟨w.heap.size, 0, none⟩)) (by rintro _ ⟨⟩; rfl) (fun b W h => by simp [execOp, go_sem, fin, Act.eval]), ?_⟩
    refine ⟨dk.q (by decide) (.string pk) (by rintro _ ⟨⟩; rfl) (fun b W h => by have c : W.cell? ⟨w.heap.size, 0, none⟩ = some (.string pk) := bcell h.2.1 rfl; simp [execOp, go_sem, fin, Act.eval, c]), ?_⟩
    refine ⟨dk.call (by decide) 50 #[.string pk] (.string pk) (by rintro _ ⟨⟩; rfl) (fun b W h => by simp [go_sem, fin, Act.eval]) (fun b W h => (cl1 W).mono fun e w' ⟨h1, h2⟩ => ⟨h1, h.on h2⟩), ?_⟩
    refine ⟨dk.q (by decide) (.pointer (some ⟨w.heap.size, 1, none⟩)) (by rintro _ ⟨⟩; rfl) (fun b W h => by simp [execOp, go_sem, fin, Act.eval]), ?_⟩
    refine ⟨dk.q (by decide) (.string pv) (by rintro _ ⟨⟩; rfl) (fun b W h => by have c : W.cell? ⟨w.heap.size, 1, none⟩ = some (.string pv) := bcell h.2.1 rfl; simp [execOp, go_sem, fin, Act.eval, c]), ?_⟩
    refine ⟨dk.call (by decide) 50 #[.string pv] (.string pv) (by rintro _ ⟨⟩; rfl) (fun b W h => by simp [go_sem, fin, Act.eval]) (fun b W h => (cl2 W).mono fun e w' ⟨h1, h2⟩ => ⟨h1, h.on h2⟩), ?_⟩
    refine ⟨dk.q (by decide) (.pointer (some ⟨w.heap.size, 2, none⟩)) (by rintro _ ⟨⟩; rfl) (fun b W h => by simp [execOp, go_sem, fin, Act.eval]), ?_⟩
    refine ⟨dk.q (by decide) (.bool pg) (by rintro _ ⟨⟩; rfl) (fun b W h => by have c : W.cell? ⟨w.heap.size, 2, none⟩ = some (.bool pg) := bcell h.2.1 rfl; simp [execOp, go_sem, fin, Act.eval, c]), ?_⟩
    refine ⟨dk.q (by decide) (.agg #[.string pk, .string pv, .bool pg]) (by rintro _ ⟨⟩; rfl) (fun b W h => by simp [execOp, go_sem, fin, Act.eval]), ?_⟩
    refine ⟨dk.last rfl (fun W h => ?_), trivial⟩
    obtain ⟨h1, h2, h3⟩ := h
    have c0 : W.cell? ⟨w.heap.size + 1, 0, none⟩ = some (.string ByteArray.empty) := bcell h3 rfl
    have c1 : W.cell? ⟨w.heap.size + 1, 1, none⟩ = some (.string ByteArray.empty) := bcell h3 rfl
    have c2 : W.cell? ⟨w.heap.size + 1, 2, none⟩ = some (.bool false) := bcell h3 rfl
    have f0 := bfree h3 0
    have f1 := bfree h3 1
    have f2 := bfree h3 2
    refine ⟨((W.setCell ⟨w.heap.size + 1, 0, none⟩ (.string pk)).setCell ⟨w.heap.size + 1, 1, none⟩ (.string pv)).setCell ⟨w.heap.size + 1, 2, none⟩ (.bool pg), by simp [execOp, go_sem, fin, Act.eval, c0, c1, c2, f0, f1, f2], ?_, ?_, ?_⟩
    · exact ((h1.setCell (by show w.heap.size ≤ w.heap.size + 1; omega) _).setCell (by show w.heap.size ≤ w.heap.size + 1; omega) _).setCell (by show w.heap.size ≤ w.heap.size + 1; omega) _
    · exact boff (boff (boff h2 _ _ _ (by omega)) _ _ _ (by omega)) _ _ _ (by omega)
    · exact bset (bset (bset h3 0 (.string pk)) 1 (.string pv)) 2 (.bool pg)
  case fin =>
    intro L W hL hC
    have hC' : D w pk pv pg true W := by
      have := hL 9 (by decide)
      unfold dk.Cl at hC
      rw [this] at hC
      exact hC
    obtain ⟨h1, h2, h3⟩ := hC'
    have c0 : W.cell? ⟨w.heap.size + 1, 0, none⟩ = some (.string pk) := bcell h3 rfl
    have c1 : W.cell? ⟨w.heap.size + 1, 1, none⟩ = some (.string pv) := bcell h3 rfl
    have c2 : W.cell? ⟨w.heap.size + 1, 2, none⟩ = some (.bool pg) := bcell h3 rfl
    unfold fin
    go_wp2
    refine bodyPost_ret (v := .agg #[.string pk, .string pv, .bool pg]) (by simp [results, Tryz.results98, go_sem, c0, c1, c2]) rfl ⟨rfl, h1⟩

set_option maxRecDepth 100000 in
set_option maxHeartbeats 1000000 in
theorem copy_pairs (l : List flP.Pr) (a : Option Addr) (cap : Nat) (w : World) (hl : l.length ≤ 1048576) (hx : ∀ e ∈ l, e.k.size ≤ 1048576 ∧ e.v.size ≤ 1048576) (hS : Row flP.c 3 w w.heap.size a l) :
    Calls Tryz.prog 116 #[.slice a l.length cap] w fun e w' => e = .returned (.slice (some ⟨w.heap.size, 0, none⟩) l.length l.length) ∧ Own flP.c 3 49 w' w.heap.size l l.length ∧ Below w.heap.size w w' := by
  obtain ⟨i0, hi, hz0, hz1, hz2⟩ : ∃ i0, Tryz.prog.info? 49 = some i0 ∧ i0.zero = some (.agg #[.string ByteArray.empty, .string ByteArray.empty, .bool false]) ∧ i0.size = 3 ∧ i0.bytes = 40 := by
    have h := flP.info
    cases hh : Tryz.prog.info? 49 with
    | none => rw [hh] at h; cases h
    | some i => rw [hh] at h; simp at h; exact ⟨i, rfl, h.1, h.2.1, h.2.2⟩
  have hmk := run_makeSlice (P := Tryz.prog) w 24 49 i0 _ Tryz.underlying24 hi hz0 .i64 .i64 (l.length : Int) (l.length : Int) (by omega) (Int.le_refl _) (by rw [hz1]; simp; omega) (by rw [hz2]; omega) (by omega)
  rw [hz1, show ((l.length : Int)).toNat = l.length by omega] at hmk
  have hmk2 : (Instr.makeSlice 24 (.int .i64 (l.length : Int)) (.int .i64 (l.length : Int))).run Tryz.prog w = .ok (.slice (some ⟨w.heap.size, 0, none⟩) l.length l.length) (w.alloc (.cells (madeCells #[.string ByteArray.empty, .string ByteArray.empty, .bool false] (l.length * 3)) 49)) := hmk
  have hf0 : Own flP.c 3 49 (w.alloc (.cells (madeCells #[.string ByteArray.empty, .string ByteArray.empty, .bool false] (l.length * 3)) 49)) w.heap.size l 0 := made #[.string ByteArray.empty, .string ByteArray.empty, .bool false].toList w l rfl
  have hb0 : Below w.heap.size w (w.alloc (.cells (madeCells #[.string ByteArray.empty, .string ByteArray.empty, .bool false] (l.length * 3)) 49)) := (Below.refl _ _).alloc (Nat.le_refl _) _
  obtain ⟨W, hW⟩ : ∃ W, w.alloc (.cells (madeCells #[.string ByteArray.empty, .string ByteArray.empty, .bool false] (l.length * 3)) 49) = W := ⟨_, rfl⟩
  rw [hW] at hmk2 hf0 hb0
  have HF0 : Hid (Own flP.c 3 49 W w.heap.size l 0) := hf0
  have HX : Hid (∀ e ∈ l, e.k.size ≤ 1048576 ∧ e.v.size ≤ 1048576) := hx
  clear hmk hW hf0 hx
  rcases hS with rfl | ⟨b, off, rfl, hlt, hc⟩
  · have hmk3 : (Instr.makeSlice 24 (.int .i64 0) (.int .i64 0)).run Tryz.prog w = .ok (.slice (some ⟨w.heap.size, 0, none⟩) 0 0) W := by simpa using hmk2
    clear hmk2
    go_enter Tryz.func116, Tryz.ntmps116
    go_wp2
    refine wp_loop_rounds 1 ?_
    rw [rounds_succ]
    go_wp2
    go_ret
    exact ⟨rfl, HF0.out, hb0⟩
  · have HC : Hid (∀ (i : Nat) (e : flP.Pr), l[i]? = some e → ∀ (j : Nat) (v : Value), (flP.c e)[j]? = some v → w.cell? ⟨b, off + i * 3 + j, none⟩ = some v) := hc
    clear hc
    go_enter Tryz.func116, Tryz.ntmps116
    go_wp2
    go_loopw [4, 5, 11] (fun _ _ x wr => ∃ k : Nat, k ≤ l.length ∧ x = .int .i64 k ∧ Below w.heap.size w wr ∧ Hid (Own flP.c 3 49 wr w.heap.size l k)) (fun _ _ x _ => l.length - (intOf x).toNat)
    case atStart => exact ⟨0, Nat.zero_le _, rfl, hb0, HF0⟩
    case round =>
      obtain ⟨k, hk, rfl, hbel, hf⟩ := hrel
      have hbs := hbel.size
      by_cases hkl : k < l.length
      · have HG : Hid (l[k]? = some l[k]) := List.getElem?_eq_getElem hkl
        have hxs := HX.out l[k] (List.getElem_mem hkl)
        obtain ⟨⟨pk, pv, pg⟩, he⟩ : ∃ e, l[k] = e := ⟨_, rfl⟩
        rw [he] at HG hxs
        have c0 : wr.cell? ⟨b, off + k * 3, none⟩ = some (.string pk) := (hbel.cell (p := ⟨b, off + k * 3, none⟩) hlt).trans (HC.out k _ HG.out 0 _ rfl)
        have c1 : wr.cell? ⟨b, off + k * 3 + 1, none⟩ = some (.string pv) := (hbel.cell (p := ⟨b, off + k * 3 + 1, none⟩) hlt).trans (HC.out k _ HG.out 1 _ rfl)
        have c2 : wr.cell? ⟨b, off + k * 3 + 2, none⟩ = some (.bool pg) := (hbel.cell (p := ⟨b, off + k * 3 + 2, none⟩) hlt).trans (HC.out k _ HG.out 2 _ rfl)
        have hal : Below wr.heap.size wr (wr.alloc (.cells #[.string pk, .string pv, .bool pg] 49)) := (Below.refl _ _).alloc (Nat.le_refl _) _
        have hone := copy_pair ⟨pk, pv, pg⟩ (wr.alloc (.cells #[.string pk, .string pv, .bool pg] 49)) hxs
        have hfl := hf.out.lt
        have i2 : (k : Int) < (l.length : Int) := by omega
        clear he hxs
        go_wp2_with (go_at_call 98; refine hone.mono ?_; rintro e w1 ⟨rfl, hb1⟩; have hb1' : Below wr.heap.size wr w1 := hal.trans (hb1.mono hal.size); have hf1 := hf.out.below hb1' hfl; obtain ⟨v0, g0⟩ := hf1.at (k * 3) (by omega); have z0 := hf1.free (k * 3); obtain ⟨v1, g1⟩ := hf1.at (k * 3 + 1) (by omega); have z1 := hf1.free (k * 3 + 1); obtain ⟨v2, g2⟩ := hf1.at (k * 3 + 2) (by omega); have z2 := hf1.free (k * 3 + 2); have HN : Hid (Own flP.c 3 49 (((w1.setCell ⟨w.heap.size, k * 3, none⟩ (.string pk)).setCell ⟨w.heap.size, k * 3 + 1, none⟩ (.string pv)).setCell ⟨w.heap.size, k * 3 + 2, none⟩ (.bool pg)) w.heap.size l (k + 1)) := flP.own_set pk pv pg hf1 HG.out; clear hf1)
        go_roundw
        case rel => exact ⟨k + 1, by omega, by go_num, (((hbel.trans (hb1'.mono hbs)).setCell (Nat.le_refl _) _).setCell (Nat.le_refl _) _).setCell (Nat.le_refl _) _, HN⟩
        case measure => simp [intOf]; omega
      · obtain rfl : k = l.length := by omega
        go_wp2
        go_ret
        exact ⟨rfl, hf.out, hbel⟩
end Go.Proofs.YtlgcciaebkfnjaaGreatDoor.cpp

/- Rows of pairs handed to append. -/
namespace Go.Proofs.YtlgcciaebkfnjaaGreatDoor.sct
open Go.ChangeShapes Go.WideShapes Go.ChangeAt Go.RowKit Go.Proofs.YtlgcciaebkfnjaaGreatDoor.fl
set_option linter.unusedVariables false

theorem add0 (g j : Nat) : (⟨g, 0, none⟩ : Addr).add j = ⟨g, j, none⟩ := by unfold Addr.add; split <;> simp_all
theorem own_low {w : World} {B B' n : Nat} {U : TypeId} {s : Nat} {v : Value} {xs : List Value} (h : w.ownsRow B U s v n xs) (hb : B' ≤ B) : w.ownsRow B' U s v n xs := by
  obtain ⟨h0, h1 | ⟨g, cap, cur, h1, h2, h3⟩⟩ := h
  · exact ⟨h0, .inl h1⟩
  · exact ⟨h0, .inr ⟨g, cap, cur, h1, by omega, h3⟩⟩
theorem newsP {w : World} {a B : Nat} {l : List flP.Pr} (h : Row flP.c 3 w B (some ⟨a, 0, none⟩) l) : ∀ (j : Nat) (u : Value), (l.flatMap flP.c)[j]? = some u → w.cell? ((⟨a, 0, none⟩ : Addr).add j) = some u := fun j u hu => by
  obtain ⟨i, e, r, h1, h2, rfl⟩ := flat_get flP.c_len l j u hu
  rcases h with rfl | ⟨g, off, ha, _, hc⟩
  · simp at h1
  · cases ha
    rw [add0]
    have := hc i e h1 r u h2
    rw [Nat.zero_add] at this
    exact this
theorem oneP (l : List flP.Pr) : ∀ u ∈ l.flatMap flP.c, u.oneCell' = true := fun u hu => by
  obtain ⟨e, _, he⟩ := List.mem_flatMap.1 hu
  simp [flP.c] at he
  rcases he with rfl | rfl | rfl <;> rfl
theorem infoP : ∃ i0, Tryz.prog.info? 49 = some i0 ∧ i0.zero = some (.agg #[.string ByteArray.empty, .string ByteArray.empty, .bool false]) ∧ i0.size = 3 ∧ i0.bytes = 40 := by
  have h := flP.info
  cases hh : Tryz.prog.info? 49 with
  | none => rw [hh] at h; cases h
  | some i => rw [hh] at h; simp at h; exact ⟨i, rfl, h.1, h.2.1, h.2.2⟩
end Go.Proofs.YtlgcciaebkfnjaaGreatDoor.sct

/- The specification's l07Copy: the region of its loop that copies one run. -/
namespace Go.Proofs.YtlgcciaebkfnjaaGreatDoor.sct
open Go.ChangeShapes Go.WideShapes Go.ChangeAt Go.RowKit Go.Proofs.YtlgcciaebkfnjaaGreatDoor.fl Go.Proofs.YtlgcciaebkfnjaaGreatDoor.fo Go.Proofs.YtlgcciaebkfnjaaGreatDoor.rn
set_option linter.unusedVariables false

theorem form {w : World} {B n : Nat} {U : TypeId} {s g : Nat} {v : Value} {xs : List Value} (h : w.ownsRow B U s v n xs) (hv : v.ownBlock = some g) : ∃ cap, v = .slice (some ⟨g, 0, none⟩) n cap := by
  obtain ⟨_, ⟨rfl, h0⟩ | ⟨g', cap, cur, rfl, hB, hg, _⟩⟩ := h
  · simp [Value.ownBlock] at hv
  · simp [Value.ownBlock] at hv
    subst hv
    exact ⟨cap, rfl⟩
theorem typed {w : World} {B n : Nat} {U : TypeId} {s g : Nat} {v : Value} {xs : List Value} (h : w.ownsRow B U s v n xs) (hv : v.ownBlock = some g) : ∃ cur, w.heap[g]? = some (.cells cur U (0, 0)) := by
  obtain ⟨_, ⟨rfl, h0⟩ | ⟨g', cap, cur, rfl, hB, hg, _⟩⟩ := h
  · simp [Value.ownBlock] at hv
  · simp [Value.ownBlock] at hv
    subst hv
    exact ⟨cur, hg⟩
theorem tn_grow {W0 W W' : World} {S : Nat → Prop} {r : Option Nat} (h : Tn W0 W S) (hg : W.grownBy W' r) (hr : ∀ b, r = some b → b < W0.heap.size → S b) : Tn W0 W' S :=
  ⟨hg.os.trans h.os, hg.tape.trans h.tape, hg.output.trans h.output, Nat.le_trans h.size hg.size, fun k hk hs => (hg.block k (Nat.lt_of_lt_of_le hk h.size) (fun e => hs (hr k e.symm hk))).trans (h.block k hk hs)⟩
/-- what is drawn: the empty row, the run's new row and its room, the one run's place, the runs' row behind the append -/
structure G where
  e0 : Nat
  b1 : Nat
  q1 : Nat
  h : Nat
  v2 : Value
/-- the world ahead, below which nothing is of ours, the copy's place, its fresh pairs, its runs so far, and the run that is copied -/
structure Pm where
  W0 : World
  B : Nat
  n3 : Nat
  f0 : Value
  rv : Value
  k : Nat
  ys : List Value
  n : Nat
  xs : List Value
def v1 (p : Pm) (g : G) : Value := .slice (some ⟨g.b1, 0, none⟩) p.n g.q1
structure D (p : Pm) (g : G) (c1 c2 c8 c9 c10 c12 : Bool) (W : World) : Prop where
  tn : Tn p.W0 W (fun b => (c10 = true ∧ p.rv.ownBlock = some b) ∨ (c12 = true ∧ b = p.n3))
  out : W.heap[p.n3]? = some (.cells #[p.f0, if c12 then g.v2 else p.rv] 27 (0, 0))
  at2 : c2 = true → c8 = false → W.ownsRow p.W0.heap.size 49 3 (.slice (some ⟨g.e0, 0, none⟩) 0 0) 0 []
  at8 : c8 = true → c2 = true ∧ W.ownsRow p.W0.heap.size 49 3 (v1 p g) p.n p.xs
  at9 : c9 = true → c8 = true ∧ (c10 = false → W.heap[g.h]? = some (.cells #[v1 p g] 24 (0, 0)))
  at10 : c10 = true → c9 = true ∧ c1 = true ∧ W.ownsRow p.B 24 1 g.v2 (p.k + 1) (p.ys ++ [v1 p g])
  at12 : c12 = true → c10 = true
/-- what stands ahead -/
structure Ah (p : Pm) : Prop where
  lt : p.n3 < p.W0.heap.size
  out : p.W0.heap[p.n3]? = some (.cells #[p.f0, p.rv] 27 (0, 0))
  runs : p.W0.ownsRow p.B 24 1 p.rv p.k p.ys
  sz : p.B ≤ p.W0.heap.size
theorem Ah.ne {p : Pm} (h : Ah p) : p.rv.ownBlock ≠ some p.n3 := fun e => by
  obtain ⟨cur, hc⟩ := typed h.runs e
  rw [h.out] at hc
  simp at hc
theorem Ah.small {p : Pm} (h : Ah p) {b : Nat} (e : p.rv.ownBlock = some b) : b < p.W0.heap.size := (h.runs.lt b e).2
section
variable {p : Pm} {g : G} {c1 c2 c8 c9 c10 c12 : Bool} {W W' : World} {v : Value}
theorem no8 (h : D p g c1 false c8 c9 c10 c12 W) : c8 = false := by
  cases c8 with
  | false => rfl
  | true => have := (h.at8 rfl).1; cases this
theorem no9 (h : D p g c1 c2 false c9 c10 c12 W) : c9 = false := by
  cases c9 with
  | false => rfl
  | true => have := (h.at9 rfl).1; cases this
theorem no10 (h : D p g c1 c2 c8 false c10 c12 W) : c10 = false := by
  cases c10 with
  | false => rfl
  | true => have := (h.at10 rfl).1; cases this
theorem no101 (h : D p g false c2 c8 c9 c10 c12 W) : c10 = false := by
  cases c10 with
  | false => rfl
  | true => have := (h.at10 rfl).2.1; cases this
theorem no12 (h : D p g c1 c2 c8 c9 false c12 W) : c12 = false := by
  cases c12 with
  | false => rfl
  | true => have := h.at12 rfl; cases this
theorem D.below (h : D p g c1 c2 c8 c9 false false W) : Below p.W0.heap.size p.W0 W := h.tn.below (Nat.le_refl _) (fun k hk => by simp at hk)
theorem D.old (h : D p g c1 c2 c8 c9 c10 c12 W) {b : Nat} {o : Obj} (hb : p.W0.heap[b]? = some o) (hne : b ≠ p.n3) (hr : p.rv.ownBlock ≠ some b) : W.heap[b]? = some o := by
  rw [h.tn.block b (Array.getElem?_eq_some_iff.1 hb).1 (fun e => by rcases e with ⟨_, e⟩ | ⟨_, e⟩ <;> contradiction)]
  exact hb
theorem D.s1 (h : D p g false c2 c8 c9 c10 c12 W) : D p g true c2 c8 c9 c10 c12 W := by
  obtain rfl := no101 h
  exact ⟨h.tn, h.out, h.at2, h.at8, h.at9, fun e => (by cases e), h.at12⟩
theorem D.s2 (h : D p g c1 false c8 c9 c10 c12 W) (hA : Ah p) : D p { g with e0 := W.heap.size } c1 true c8 c9 c10 c12 (W.alloc (.cells #[] 49)) := by
  obtain rfl := no8 h
  obtain rfl := no9 h
  obtain rfl := no10 h
  obtain rfl := no12 h
  exact ⟨tn_grow h.tn (World.grownBy_alloc W _ none) (fun b e => by cases e), bold h.out _, fun _ _ => World.ownsRow_made W #[] 0 h.tn.size (by unfold maxLen; omega) (by simp), fun e => (by cases e), fun e => (by cases e), fun e => (by cases e), fun e => (by cases e)⟩
theorem D.s8 (h : D p g c1 c2 false c9 c10 c12 W) (hA : Ah p) (h2 : c2 = true) (hg : W.grownBy W' (some g.e0)) {b q : Nat} (ho : W'.ownsRow p.W0.heap.size 49 3 (.slice (some ⟨b, 0, none⟩) p.n q) p.n p.xs) : D p { g with b1 := b, q1 := q } c1 c2 true c9 c10 c12 W' := by
  obtain rfl := no9 h
  obtain rfl := no10 h
  obtain rfl := no12 h
  have he := ((h.at2 h2 rfl).lt g.e0 rfl)
  have hl := hA.lt
  exact ⟨tn_grow h.tn hg (fun b e hb => by cases e; omega), (hg.block _ (by have := h.tn.size; omega) (fun e => by have := Option.some.inj e; omega)).trans h.out, fun _ e => (by cases e), fun _ => ⟨h2, ho⟩, fun e => (by cases e), fun e => (by cases e), fun e => (by cases e)⟩
theorem D.s9 (h : D p g c1 c2 c8 false c10 c12 W) (hA : Ah p) (h8 : c8 = true) : D p { g with h := W.heap.size } c1 c2 c8 true c10 c12 (W.alloc (.cells #[v1 p g] 24)) := by
  obtain rfl := no10 h
  obtain rfl := no12 h
  exact ⟨tn_grow h.tn (World.grownBy_alloc W _ none) (fun b e => by cases e), bold h.out _, fun a b => (h.at2 a b).alloc _, fun a => ⟨(h.at8 a).1, (h.at8 a).2.alloc _⟩, fun _ => ⟨h8, fun _ => bnew W _ _⟩, fun e => (by cases e), fun e => (by cases e)⟩
theorem D.s10 (h : D p g c1 c2 c8 c9 false c12 W) (hA : Ah p) (h9 : c9 = true) (h1 : c1 = true) (hg : W.grownBy W' p.rv.ownBlock) (ho : W'.ownsRow p.B 24 1 v (p.k + 1) (p.ys ++ [v1 p g])) : D p { g with v2 := v } c1 c2 c8 c9 true c12 W' := by
  obtain rfl := no12 h
  have h8 := (h.at9 h9).1
  obtain ⟨h2, o8⟩ := h.at8 h8
  have hl := hA.lt
  refine ⟨tn_grow (h.tn.wide (fun k hk => by simp at hk)) hg (fun b e hb => .inl ⟨rfl, e⟩), (hg.block _ (by have := h.tn.size; omega) (fun e => hA.ne e.symm)).trans h.out, fun _ e => (by rw [h8] at e; cases e), fun _ => ⟨h2, o8.kept hg ?_⟩, fun _ => ⟨h8, fun e => (by cases e)⟩, fun _ => ⟨h9, h1, ho⟩, fun e => (by cases e)⟩
  right
  intro e
  have a1 := (o8.lt g.b1 rfl).1
  have a2 := hA.small (b := g.b1) (by rw [← e]; rfl)
  omega
theorem D.s12 (h : D p g c1 c2 c8 c9 c10 false W) (hA : Ah p) (h10 : c10 = true) : D p g c1 c2 c8 c9 c10 true (W.setCell ⟨p.n3, 1, none⟩ g.v2) := by
  obtain ⟨h9, h1, ho⟩ := h.at10 h10
  have h8 := (h.at9 h9).1
  obtain ⟨h2, o8⟩ := h.at8 h8
  have hl := hA.lt
  have hg : W.grownBy (W.setCell ⟨p.n3, 1, none⟩ g.v2) (some p.n3) := ⟨rfl, rfl, rfl, by simp, fun k hk hne => Below.heap_setCell _ _ _ _ (fun e => hne (by rw [e]))⟩
  refine ⟨tn_grow (h.tn.wide (fun k hk => ?_)) hg (fun b e hb => .inr ⟨rfl, (Option.some.inj e).symm⟩), bset h.out 1 g.v2, fun _ e => (by rw [h8] at e; cases e), fun _ => ⟨h2, o8.kept hg ?_⟩, fun _ => ⟨h8, fun e => (by rw [h10] at e; cases e)⟩, fun _ => ⟨h9, h1, ho.kept hg ?_⟩, fun _ => h10⟩
  · rcases hk with hk | ⟨hk, _⟩
    · exact .inl hk
    · cases hk
  · right
    intro e
    have a1 := (o8.lt p.n3 e).1
    omega
  · right
    intro e
    obtain ⟨cur, hc⟩ := typed ho e
    rw [h.out] at hc
    simp at hc
end
theorem more_on (L : Nat → Bool) (i : Nat) : dn.more L i i = true := by unfold dn.more; rw [if_pos rfl]
theorem more_off (L : Nat → Bool) {i j : Nat} (h : j ≠ i) : dn.more L i j = L j := by unfold dn.more; rw [if_neg h]
def C (p : Pm) (g : G) (L : Nat → Bool) (W : World) : Prop := D p g (L 1) (L 2) (L 8) (L 9) (L 10) (L 12) W
theorem C.d {p : Pm} {g : G} {L : Nat → Bool} {W : World} (h : C p g L W) : D p g (L 1) (L 2) (L 8) (L 9) (L 10) (L 12) W := h
def ws (p : Pm) (s0 b m rc a c : Nat) (g : G) : List (Nat × Value) := [(17, .pointer (some ⟨p.n3, 1, none⟩)), (18, p.rv), (19, .slice (some ⟨g.e0, 0, none⟩) 0 0), (20, .pointer (some ⟨s0, 1, none⟩)), (21, .slice (some ⟨b, 0, none⟩) m rc), (22, .int .i64 p.k), (23, .pointer (some ⟨b, p.k, none⟩)), (24, .slice (some ⟨a, 0, none⟩) p.n c), (25, v1 p g), (26, .slice (some ⟨g.h, 0, none⟩) 1 1), (27, g.v2), (28, .pointer (some ⟨p.n3, 1, none⟩))]
section
variable {p : Pm} {s0 b m rc a c : Nat} {act : Act} {Q : Exit → Act → World → Prop} {o : Oper}
theorem quiet {i : Nat} (hi : i = 0 ∨ i = 3 ∨ i = 4 ∨ i = 5 ∨ i = 6 ∨ i = 7 ∨ i = 11) (hsel : ∀ cs b, o.op ≠ .select cs b) (u : Value) (hd : ∀ s d, o.dst = some d → (dk.sets act (ws p s0 b m rc a c s)).tmps[d]? = some u)
    (hrun : ∀ s W, (∀ (b : Nat) (o : Obj), p.W0.heap[b]? = some o → b ≠ p.n3 → p.rv.ownBlock ≠ some b → W.heap[b]? = some o) → (execOp (dk.sets act (ws p s0 b m rc a c s)).eval o).run Tryz.prog W = .ok (.value u) W) : gh.Step Tryz.prog (fun s => dk.sets act (ws p s0 b m rc a c s)) (C p) Q i o := by
  refine gh.step_val hsel fun s L W hdp h0 hC => ⟨s, u, gh.Agree.refl _ _, hd s, ?_⟩
  rw [hrun s W (fun b o hb hne hr => hC.d.old hb hne hr)]
  refine ⟨rfl, ?_⟩
  unfold C
  rw [more_off L (show 1 ≠ i by omega), more_off L (show 2 ≠ i by omega), more_off L (show 8 ≠ i by omega), more_off L (show 9 ≠ i by omega), more_off L (show 10 ≠ i by omega), more_off L (show 12 ≠ i by omega)]
  exact hC
theorem st1 (hsel : ∀ cs b, o.op ≠ .select cs b) (hd : ∀ s d, o.dst = some d → (dk.sets act (ws p s0 b m rc a c s)).tmps[d]? = some p.rv)
    (hrun : ∀ s W, W.heap[p.n3]? = some (.cells #[p.f0, p.rv] 27 (0, 0)) → (execOp (dk.sets act (ws p s0 b m rc a c s)).eval o).run Tryz.prog W = .ok (.value p.rv) W) : gh.Step Tryz.prog (fun s => dk.sets act (ws p s0 b m rc a c s)) (C p) Q 1 o := by
  refine gh.step_val hsel fun s L W hdp h0 hC => ⟨s, p.rv, gh.Agree.refl _ _, hd s, ?_⟩
  have hd := hC.d
  rw [h0] at hd
  have e12 : L 12 = false := by
    have e10 := no101 hd
    rw [e10] at hd
    exact no12 hd
  have ho := hd.out
  rw [e12] at ho
  rw [hrun s W ho]
  refine ⟨rfl, ?_⟩
  unfold C
  rw [more_on, more_off L (show 2 ≠ 1 by omega), more_off L (show 8 ≠ 1 by omega), more_off L (show 9 ≠ 1 by omega), more_off L (show 10 ≠ 1 by omega), more_off L (show 12 ≠ 1 by omega)]
  exact hd.s1
theorem st2 (hA : Ah p) (hsz : 28 < act.tmps.size) (hop : o.op = .buildSlice 24 0 #[]) (hdst : o.dst = some 19) : gh.Step Tryz.prog (fun s => dk.sets act (ws p s0 b m rc a c s)) (C p) Q 2 o := by
  refine gh.step_val (by rw [hop]; simp) fun s L W hdp h0 hC => ⟨{ s with e0 := W.heap.size }, .slice (some ⟨W.heap.size, 0, none⟩) 0 0, dk.agree_sets 2 19 _ hdst rfl rfl, (fun d hd => by rw [hdst] at hd; cases hd; exact dk.sets_on _ (by omega) _ rfl), ?_⟩
  have hrun : (execOp (dk.sets act (ws p s0 b m rc a c s)).eval o).run Tryz.prog W = .ok (.value (.slice (some ⟨W.heap.size, 0, none⟩) 0 0)) (W.alloc (.cells #[] 49)) := by
    simp [execOp, hop, go_sem]
  rw [hrun]
  refine ⟨rfl, ?_⟩
  have hd := hC.d
  rw [h0] at hd
  unfold C
  rw [more_on, more_off L (show 1 ≠ 2 by omega), more_off L (show 8 ≠ 2 by omega), more_off L (show 9 ≠ 2 by omega), more_off L (show 10 ≠ 2 by omega), more_off L (show 12 ≠ 2 by omega)]
  exact hd.s2 hA
theorem app_run {ST s1 s2 m c : Nat} {a : Addr} {v v' : Value} {f : Act} {W w' : World} (hop : o.op = .call { callee := .builtin .append, args := #[.tmp s1, .tmp s2], argTypes := #[ST, ST] }) (e1 : f.eval (.tmp s1) = v) (e2 : f.eval (.tmp s2) = .slice (some a) m c) (hr : (Builtin.append_ #[ST, ST] o.type #[v, .slice (some a) m c]).run Tryz.prog W = .ok v' w') : (execOp f.eval o).run Tryz.prog W = .ok (.value v') w' := by
  unfold execOp
  simp only [hop, resolve, invoke, builtin, Sem.run_bind, Sem.run_pure, Result.andThen_ok, List.map_toArray, List.map_cons, List.map_nil, e1, e2, hr]
variable {i0 i1 : TypeInfo} {z z1 : Value}
theorem st8 (hA : Ah p) (hi : Tryz.prog.info? 49 = some i0) (hz : i0.zero = some z) (hn : i0.size = 3) (hb : i0.bytes = 40) (hzs : z.cells.size = 3) (hsz : 28 < act.tmps.size)
    (hop : o.op = .call { callee := .builtin .append, args := #[.tmp 19, .tmp 24], argTypes := #[24, 24] }) (hdst : o.dst = some 25)
    (hlen : p.xs.length = p.n * 3) (hnews : ∀ W, Below p.W0.heap.size p.W0 W → ∀ j u, p.xs[j]? = some u → W.cell? ((⟨a, 0, none⟩ : Addr).add j) = some u) (h1c : ∀ u ∈ p.xs, u.oneCell' = true) (hk : p.n ≤ 1048576)
    (hdep : ∃ e ∈ o.after, Region.binds .any e = true ∧ e.on = 2) : gh.Step Tryz.prog (fun s => dk.sets act (ws p s0 b m rc a c s)) (C p) Q 8 o := by
  refine gh.step_val (by rw [hop]; simp) fun s L W hdp h0 hC => ?_
  obtain ⟨xp, mp, yp, zp⟩ := hdep
  have lp := hdp xp mp yp
  rw [zp] at lp
  have hd := hC.d
  rw [h0] at hd
  have hbel : Below p.W0.heap.size p.W0 W := by
    have e9 := no9 hd
    rw [e9] at hd
    have e10 := no10 hd
    rw [e10] at hd
    have e12 := no12 hd
    rw [e12] at hd
    exact hd.below
  have hold := hd.at2 lp rfl
  obtain ⟨v', w', hr, ho, hg, _, hat⟩ := run_append_own_at (P := Tryz.prog) W p.W0.heap.size 24 o.type 49 i0 z 3 40 Tryz.underlying24 hi hz hn hb hzs (by omega) _ 0 [] hold ⟨a, 0, none⟩ p.n c p.xs hlen (hnews W hbel) h1c (by unfold maxLen; omega) (by omega) hd.tn.size
  rw [Nat.zero_add, List.nil_append] at ho
  obtain ⟨b', q', rfl⟩ : ∃ b' q', v' = .slice (some ⟨b', 0, none⟩) p.n q' := by
    rcases hat with ha | ha
    · exact ⟨_, form ho ha⟩
    · exact ⟨_, form ho ha⟩
  refine ⟨{ s with b1 := b', q1 := q' }, .slice (some ⟨b', 0, none⟩) p.n q', dk.agree_sets 8 25 _ hdst rfl rfl, (fun d' hd => by rw [hdst] at hd; cases hd; exact dk.sets_on _ (by omega) _ rfl), ?_⟩
  rw [app_run hop (dk.eval_on _ _ (by omega) rfl) (dk.eval_on _ _ (by omega) rfl) hr]
  refine ⟨rfl, ?_⟩
  unfold C
  rw [more_on, more_off L (show 1 ≠ 8 by omega), more_off L (show 2 ≠ 8 by omega), more_off L (show 9 ≠ 8 by omega), more_off L (show 10 ≠ 8 by omega), more_off L (show 12 ≠ 8 by omega)]
  exact hd.s8 hA lp hg ho
theorem st9 (hA : Ah p) (hsz : 28 < act.tmps.size) (hop : o.op = .buildSlice 25 1 #[(0, .tmp 25)]) (hdst : o.dst = some 26) (hdep : ∃ e ∈ o.after, Region.binds .any e = true ∧ e.on = 8) : gh.Step Tryz.prog (fun s => dk.sets act (ws p s0 b m rc a c s)) (C p) Q 9 o := by
  refine gh.step_val (by rw [hop]; simp) fun s L W hdp h0 hC => ⟨{ s with h := W.heap.size }, .slice (some ⟨W.heap.size, 0, none⟩) 1 1, dk.agree_sets 9 26 _ hdst rfl rfl, (fun d hd => by rw [hdst] at hd; cases hd; exact dk.sets_on _ (by omega) _ rfl), ?_⟩
  obtain ⟨xp, mp, yp, zp⟩ := hdep
  have lp := hdp xp mp yp
  rw [zp] at lp
  have e25 : (dk.sets act (ws p s0 b m rc a c s)).tmps[25]? = some (.slice (some ⟨s.b1, 0, none⟩) p.n s.q1) := dk.sets_on _ (by omega) _ rfl
  have hrun : (execOp (dk.sets act (ws p s0 b m rc a c s)).eval o).run Tryz.prog W = .ok (.value (.slice (some ⟨W.heap.size, 0, none⟩) 1 1)) (W.alloc (.cells #[v1 p s] 24)) := by
    simp [execOp, hop, go_sem, e25, v1]
  rw [hrun]
  refine ⟨rfl, ?_⟩
  have hd := hC.d
  rw [h0] at hd
  unfold C
  rw [more_on, more_off L (show 1 ≠ 9 by omega), more_off L (show 2 ≠ 9 by omega), more_off L (show 8 ≠ 9 by omega), more_off L (show 10 ≠ 9 by omega), more_off L (show 12 ≠ 9 by omega)]
  exact hd.s9 hA lp
theorem st10 (hA : Ah p) (hi : Tryz.prog.info? 24 = some i1) (hz : i1.zero = some z1) (hn : i1.size = 1) (hb : i1.bytes = 24) (hzs : z1.cells.size = 1) (hsz : 28 < act.tmps.size)
    (hop : o.op = .call { callee := .builtin .append, args := #[.tmp 18, .tmp 26], argTypes := #[25, 25] }) (hdst : o.dst = some 27) (hk : p.k ≤ 1048576)
    (hdep : ∃ e ∈ o.after, Region.binds .any e = true ∧ e.on = 9) (hdep1 : ∃ e ∈ o.after, Region.binds .any e = true ∧ e.on = 1) : gh.Step Tryz.prog (fun s => dk.sets act (ws p s0 b m rc a c s)) (C p) Q 10 o := by
  refine gh.step_val (by rw [hop]; simp) fun s L W hdp h0 hC => ?_
  obtain ⟨xp, mp, yp, zp⟩ := hdep
  have lp := hdp xp mp yp
  rw [zp] at lp
  obtain ⟨xq, mq, yq, zq⟩ := hdep1
  have lq := hdp xq mq yq
  rw [zq] at lq
  have hd := hC.d
  rw [h0] at hd
  have hbel : Below p.W0.heap.size p.W0 W := by
    have e12 := no12 hd
    rw [e12] at hd
    exact hd.below
  have hcell := (hd.at9 lp).2 rfl
  have hold : W.ownsRow p.B 24 1 p.rv p.k p.ys := hA.runs.kept (row := none) ⟨hbel.os, hbel.tape, hbel.output, hbel.size, fun k hk _ => hbel.block k hk⟩ (by cases p.rv.ownBlock <;> simp)
  have hnews : ∀ j u, [v1 p s][j]? = some u → W.cell? ((⟨s.h, 0, none⟩ : Addr).add j) = some u := fun j u hu => by
    rw [add0]
    exact bcell hcell (by simpa using hu)
  obtain ⟨v', w', hr, ho, hg, _, hat⟩ := run_append_own_at (P := Tryz.prog) W p.B 25 o.type 24 i1 z1 1 24 Tryz.underlying25 hi hz hn hb hzs (by omega) _ p.k p.ys hold ⟨s.h, 0, none⟩ 1 1 [v1 p s] rfl hnews (by intro u hu; simp at hu; subst hu; rfl) (by unfold maxLen; omega) (by omega) (Nat.le_trans hA.sz hd.tn.size)
  refine ⟨{ s with v2 := v' }, v', dk.agree_sets 10 27 _ hdst rfl rfl, (fun d' hd => by rw [hdst] at hd; cases hd; exact dk.sets_on _ (by omega) _ rfl), ?_⟩
  rw [app_run hop (dk.eval_on _ _ (by omega) rfl) (dk.eval_on _ _ (by omega) rfl) hr]
  refine ⟨rfl, ?_⟩
  unfold C
  rw [more_on, more_off L (show 1 ≠ 10 by omega), more_off L (show 2 ≠ 10 by omega), more_off L (show 8 ≠ 10 by omega), more_off L (show 9 ≠ 10 by omega), more_off L (show 12 ≠ 10 by omega)]
  exact hd.s10 hA lp lq hg ho
theorem st12 (hA : Ah p) (hsz : 28 < act.tmps.size) (hsel : ∀ cs b, o.op ≠ .select cs b) (hdst : o.dst = none)
    (hrun : ∀ s W, W.heap[p.n3]? = some (.cells #[p.f0, p.rv] 27 (0, 0)) → (∃ a n c, s.v2 = .slice a n c) → (execOp (dk.sets act (ws p s0 b m rc a c s)).eval o).run Tryz.prog W = .ok .skip (W.setCell ⟨p.n3, 1, none⟩ s.v2))
    (hdep : ∃ e ∈ o.after, Region.binds .any e = true ∧ e.on = 10) : gh.Step Tryz.prog (fun s => dk.sets act (ws p s0 b m rc a c s)) (C p) Q 12 o := by
  refine gh.step_val hsel fun s L W hdp h0 hC => ⟨s, undef, gh.Agree.refl _ _, (fun d hd => by rw [hdst] at hd; cases hd), ?_⟩
  obtain ⟨xp, mp, yp, zp⟩ := hdep
  have lp := hdp xp mp yp
  rw [zp] at lp
  have hd := hC.d
  rw [h0] at hd
  have hv : ∃ a n c, s.v2 = .slice a n c := by
    obtain ⟨_, ⟨e, _⟩ | ⟨g, cap, cur, e, _⟩⟩ := (hd.at10 lp).2.2
    · exact ⟨_, _, _, e⟩
    · exact ⟨_, _, _, e⟩
  rw [hrun s W hd.out hv]
  refine ⟨rfl, ?_⟩
  unfold C
  rw [more_on, more_off L (show 1 ≠ 12 by omega), more_off L (show 2 ≠ 12 by omega), more_off L (show 8 ≠ 12 by omega), more_off L (show 9 ≠ 12 by omega), more_off L (show 10 ≠ 12 by omega)]
  exact hd.s12 hA lp
end
/-- nothing is done yet -/
theorem start (p : Pm) (g : G) (hA : Ah p) : C p g (fun _ => false) p.W0.drew :=
  ⟨Tn.of _ (Below.refl _ _).drew, hA.out, fun e => (by cases e), fun e => (by cases e), fun e => (by cases e), fun e => (by cases e), fun e => (by cases e)⟩
/-- when all is done -/
theorem done {p : Pm} {g : G} {L : Nat → Bool} {W : World} (hC : C p g L W) (hL : ∀ i, i < 13 → L i = true) :
    Tn p.W0 W (fun b => p.rv.ownBlock = some b ∨ b = p.n3) ∧ W.heap[p.n3]? = some (.cells #[p.f0, g.v2] 27 (0, 0)) ∧ W.ownsRow p.W0.heap.size 49 3 (v1 p g) p.n p.xs ∧ W.ownsRow p.B 24 1 g.v2 (p.k + 1) (p.ys ++ [v1 p g]) := by
  have hd := hC.d
  rw [hL 8 (by omega), hL 10 (by omega), hL 12 (by omega)] at hd
  refine ⟨hd.tn.wide (fun k hk => ?_), hd.out, (hd.at8 rfl).2, (hd.at10 rfl).2.2⟩
  rcases hk with ⟨_, h⟩ | ⟨_, h⟩
  · exact .inl h
  · exact .inr h
end Go.Proofs.YtlgcciaebkfnjaaGreatDoor.sct
