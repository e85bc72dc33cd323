/- The specification's list of frames: the frames that a text begins with, one by one, in a new row. -/
import Derived.Test.YtkddnennodonhaaNextFrameWalks
import Derived.OwnWalk
namespace Go.Proofs.Ytkddnennodonhaa.fs
open Go.ChangeShapes Go.WideShapes Go.ChangeAt Go.RowKit
set_option linter.unusedVariables false

structure Fr where
  k : Int
  c : Int
  p : ByteArray
def cells (f : Fr) : List Value := [.int .i64 f.k, .int .i64 f.c, .string f.p]
def val (f : Fr) : Value := .agg #[.int .i64 f.k, .int .i64 f.c, .string f.p]
def rows (l : List Fr) : List Value := l.flatMap cells
theorem rows_length (l : List Fr) : (rows l).length = l.length * 3 := by
  induction l with
  | nil => rfl
  | cons x l ih => simp only [rows, List.flatMap_cons, List.length_append] at ih ⊢; rw [ih]; simp [cells]; omega
theorem rows_snoc (l : List Fr) (f : Fr) : rows (l ++ [f]) = rows l ++ cells f := by simp [rows]

def fOf (s : ByteArray) : Fr := ⟨gi.bt s 0, nf.chan s, nf.pay s⟩
def rest (s : ByteArray) : ByteArray := s.extract (nf.len s + 8) s.size
/-- the frames that s begins with, at most m, how many bytes they have, and the code that ended that -/
def frs : Nat → ByteArray → List Fr × Nat × Int
  | 0, _ => ([], 0, 0)
  | m + 1, s => if s.size = 0 then ([], 0, 0) else if nf.code s = 0 then (fOf s :: (frs m (rest s)).1, nf.len s + 8 + (frs m (rest s)).2.1, (frs m (rest s)).2.2) else ([], 0, nf.code s)
theorem frs_none (m : Nat) (s : ByteArray) (h : s.size = 0) : frs m s = ([], 0, 0) := by
  cases m with
  | zero => rfl
  | succ m => simp [frs, h]
theorem frs_bad (m : Nat) (s : ByteArray) (h : s.size ≠ 0) (hc : nf.code s ≠ 0) : frs (m + 1) s = ([], 0, nf.code s) := by simp [frs, h, hc]
theorem frs_ok (m : Nat) (s : ByteArray) (h : s.size ≠ 0) (hc : nf.code s = 0) : frs (m + 1) s = (fOf s :: (frs m (rest s)).1, nf.len s + 8 + (frs m (rest s)).2.1, (frs m (rest s)).2.2) := by simp [frs, h, hc]
theorem frs_length : ∀ (m : Nat) (s : ByteArray), (frs m s).1.length ≤ m
  | 0, s => by simp [frs]
  | m + 1, s => by
    by_cases h : s.size = 0
    · rw [frs_none _ _ h]; simp
    · by_cases hc : nf.code s = 0
      · rw [frs_ok _ _ h hc]
        have := frs_length m (rest s)
        simp only [List.length_cons]
        omega
      · rw [frs_bad _ _ h hc]; simp

/-- block g is a row that begins with the frames l -/
def Has (w : World) (g cap : Nat) (l : List Fr) : Prop :=
  ∃ cur, w.heap[g]? = some (.cells cur 25 (0, 0)) ∧ l.length ≤ cap ∧ cur.size = cap * 3 ∧ cur.toList.take (l.length * 3) = rows l
def Rowed (w : World) (B : Nat) (v : Value) (l : List Fr) : Prop :=
  (l = [] ∧ ∃ a c, v = .slice a 0 c) ∨ ∃ g cap, v = .slice (some ⟨g, 0, none⟩) l.length cap ∧ B ≤ g ∧ Has w g cap l
theorem rowed_of_owns {w : World} {base : Nat} {v : Value} {l : List Fr} (h : w.ownsRow base 25 3 v l.length (rows l)) : Rowed w base v l := by
  obtain ⟨_, h⟩ := h
  rcases h with ⟨hv, h0⟩ | ⟨g, cap, cur, hv, hb, hg, h1, _, h2, h3⟩
  · have hl := List.length_eq_zero_iff.1 h0
    exact .inl ⟨hl, none, 0, by rw [hv]⟩
  · exact .inr ⟨g, cap, hv, hb, cur, hg, h1, h2, h3⟩
theorem owns_below {w w' : World} {base n : Nat} {v : Value} {xs : List Value} {t : TypeId} {z : Nat} (h : w.ownsRow base t z v n xs) (hb : Below w.heap.size w w') : w'.ownsRow base t z v n xs :=
  h.kept (row := none) ⟨hb.os, hb.tape, hb.output, hb.size, fun i hi _ => hb.block i hi⟩ (by
    cases hv : v.ownBlock with
    | none => exact .inl rfl
    | some g => right; simp)

theorem infoF : (Try.prog.info? 25).map (fun i => (i.zero, i.size, i.bytes)) = some (some (.agg #[.int .i64 0, .int .i64 0, .string ⟨#[]⟩]), 3, 32) := by kernel_rfl

theorem ext_all (s : ByteArray) : s.extract 0 s.size = s := by
  apply ByteArray.ext
  apply Array.toList_inj.1
  rw [Lib.extract_to_end, List.drop_zero]
theorem ext_from (s : ByteArray) (a z : Nat) : (s.extract a s.size).extract z (s.extract a s.size).size = s.extract (a + z) s.size := by
  apply ByteArray.ext
  apply Array.toList_inj.1
  rw [Lib.extract_to_end, Lib.extract_to_end, Lib.extract_to_end, List.drop_drop]

theorem cell3_new (W : World) (t : TypeId) (x y z : Value) : ∀ j u, [x, y, z][j]? = some u → (W.alloc (.cells #[x, y, z] t)).cell? ((⟨W.heap.size, 0, none⟩ : Addr).add j) = some u := by
  intro j u hj
  have e : (⟨W.heap.size, 0, none⟩ : Addr).add j = ⟨W.heap.size, j, none⟩ := by unfold Addr.add; split <;> simp_all
  have hb : (W.alloc (.cells #[x, y, z] t)).heap[W.heap.size]? = some (.cells #[x, y, z] t) := heap_alloc_new W _
  rw [e]
  simp only [World.cell?, hb]
  simpa using hj

theorem slice_of {w : World} {base n z : Nat} {v : Value} {xs : List Value} {t : TypeId} (h : w.ownsRow base t z v n xs) : ∃ ao cap, v = .slice ao n cap := by
  rcases h.2 with ⟨hv, h0⟩ | ⟨g, cap, cur, hv, _⟩
  · exact ⟨none, 0, by rw [hv, h0]⟩
  · exact ⟨_, _, hv⟩
theorem rowed_to {w : World} {B : Nat} {v : Value} {l l' : List Fr} (h : Rowed w B v l) (e : l = l') : Rowed w B v l' := by subst e; exact h
theorem done_of {s : ByteArray} {l0 acc : List Fr} {n0 a : Nat} {c0 c : Int} (h1 : frs 200 s = (l0, n0, c0)) (h2 : frs 200 s = (acc, a, c)) : acc = l0 ∧ (a : Int) = n0 ∧ c = c0 := by
  rw [h1] at h2
  simp only [Prod.mk.injEq] at h2
  exact ⟨h2.1.symm, by omega, h2.2.2.symm⟩

set_option maxRecDepth 100000 in
theorem spec_frames (s : ByteArray) (w : World) (hs : s.size ≤ 1048576) :
    Calls Try.prog 28 #[.string s] w fun e w' => (∃ v, e = .returned (.tuple #[v, .int .i64 (frs 200 s).2.1, .int .i64 (frs 200 s).2.2]) ∧ Rowed w' w.heap.size v (frs 200 s).1) ∧ Below w.heap.size w w' := by
  obtain ⟨i0, hi, hz0, hz1, hz2⟩ := info_parts infoF
  obtain ⟨⟨l0, n0, c0⟩, hL⟩ : ∃ L, frs 200 s = L := ⟨_, rfl⟩
  rw [hL]
  have HL : Hid (frs 200 s = (l0, n0, c0)) := hL
  clear hL
  go_enter Try.func28, Try.ntmps28
  go_wp2
  go_loopw [5, 6, 7, 8, 9] (fun v x _ _ _ wr => ∃ (acc : List Fr) (a : Nat), acc.length ≤ 200 ∧ a ≤ s.size ∧ x = .int .i64 a ∧ wr.ownsRow w.heap.size 25 3 v acc.length (rows acc) ∧ Below w.heap.size w wr ∧ Hid (frs 200 s = (acc ++ (frs (200 - acc.length) (s.extract a s.size)).1, a + (frs (200 - acc.length) (s.extract a s.size)).2.1, (frs (200 - acc.length) (s.extract a s.size)).2.2))) (fun _ x _ _ _ _ => s.size - (intOf x).toNat)
  case atStart => exact ⟨[], 0, Nat.zero_le _, Nat.zero_le _, rfl, World.ownsRow_made w _ 0 (Nat.le_refl _) (Nat.zero_le _) rfl, (Below.refl _ _).alloc (Nat.le_refl _) _, by unfold Hid; rw [ext_all]; simp⟩
  case round =>
    obtain ⟨acc, a, hacc, ha, rfl, hown, hbel, hfrs⟩ := hrel
    have hBs := hbel.size
    obtain ⟨r, hr⟩ : ∃ r, s.extract a s.size = r := ⟨_, rfl⟩
    have hrs : r.size = s.size - a := by rw [← hr, ByteArray.size_extract]; omega
    rw [hr] at hfrs
    obtain ⟨ao, cap, rfl⟩ := slice_of hown
    by_cases hal : a < s.size
    · by_cases h200 : acc.length < 200
      · have hsl : ∀ W : World, (Instr.slice 9 (.string s) (some (.int .i64 (a : Int))) none none).run Try.prog W = .ok (.string r) W := fun W => by
          rw [run_slice_string_l (P := Try.prog) W 9 s Try.underlying9 .i64 (a : Int) (by omega) (by omega), show ((a : Int)).toNat = a by omega, hr]
        have hnx := fun W => nf.spec_next r W (by omega)
        by_cases hc : nf.code r = 0
        · have hval : nf.val r = .tuple #[.agg #[.int .i64 (gi.bt r 0), .int .i64 (nf.chan r), .string (nf.pay r)], .int .i64 ((nf.len r : Int) + 8), .int .i64 0] := by simp [nf.val, hc]
          rw [hval] at hnx
          have hok := nf.code_ok.1 hc
          obtain ⟨n, hn⟩ : ∃ n, nf.len r = n := ⟨_, rfl⟩
          have hnn : n + 8 ≤ r.size ∧ n ≤ 4000 := by omega
          have hnext : Hid (frs 200 s = ((acc ++ [fOf r]) ++ (frs (200 - (acc.length + 1)) (s.extract (a + (n + 8)) s.size)).1, (a + (n + 8)) + (frs (200 - (acc.length + 1)) (s.extract (a + (n + 8)) s.size)).2.1, (frs (200 - (acc.length + 1)) (s.extract (a + (n + 8)) s.size)).2.2)) := by
            unfold Hid
            have e1 : rest r = s.extract (a + (n + 8)) s.size := by unfold rest; rw [hn, ← hr, ext_from]
            have e2 : 200 - acc.length = (200 - (acc.length + 1)) + 1 := by omega
            rw [hfrs.out, e2, frs_ok _ r (by omega) hc, e1, hn]
            simp [Nat.add_assoc]
          obtain ⟨k, hk⟩ : ∃ k : Int, (gi.bt r 0 : Int) = k := ⟨_, rfl⟩
          obtain ⟨c, hcc⟩ : ∃ c, nf.chan r = c := ⟨_, rfl⟩
          obtain ⟨p, hp⟩ : ∃ p, nf.pay r = p := ⟨_, rfl⟩
          have hf : fOf r = ⟨k, c, p⟩ := by unfold fOf; rw [hk, hcc, hp]
          rw [hn, hk, hcc, hp] at hnx
          rw [hf] at hnext
          obtain ⟨hn1, hn2⟩ := hnn
          clear hval hok hn hk hcc hp hf hfrs hc hr
          go_wp2_with (first | (go_at_call 22; refine (hnx _).mono ?_; rintro e w1 ⟨rfl, hb1⟩; have hown1 := owns_below hown hb1) | (at_builtin; refine wpList_append_own _ rfl _ _ 32 rfl w.heap.size 25 i0 (.agg #[.int .i64 0, .int .i64 0, .string ⟨#[]⟩]) 3 32 Try.underlying32 hi hz0 hz1 hz2 rfl (by decide) _ _ _ rfl ((hown1.alloc _).alloc _) ⟨w1.heap.size + 1, 0, none⟩ 1 1 [.int .i64 k, .int .i64 c, .string p] rfl rfl ?c1 ?c2 ?c3 ?c4 ?c5 ?_))
          case c1 =>
            have h3 := cell3_new (w1.alloc (.cells #[.int .i64 k, .int .i64 c, .string p] 25)) 25 (.int .i64 k) (.int .i64 c) (.string p)
            simpa using h3
          case c2 => intro u hu; simp at hu; rcases hu with rfl | rfl | rfl <;> rfl
          case c3 => unfold maxLen; omega
          case c4 => omega
          case c5 => have := hb1.size; simp; omega
          intro v' w2 hown' hgrow _
          have hb1s := hb1.size
          have hbel1 : Below w.heap.size w w1 := hbel.trans (hb1.mono hBs)
          have hbel2 : Below w.heap.size w w2 := ((hbel1.alloc (by omega) _).alloc (by simp; omega) _).grown hgrow (by simp; omega) (fun k' hk' => (hown1.lt k' hk').1)
          have hown2 : w2.ownsRow w.heap.size 25 3 v' (acc ++ [(⟨k, c, p⟩ : Fr)]).length (rows (acc ++ [(⟨k, c, p⟩ : Fr)])) := by
            rw [rows_snoc]
            simpa [cells] using hown'
          clear hown hown1 hown' hgrow hbel hbel1 hnx hsl
          go_wp2
          go_roundw
          case rel => exact ⟨acc ++ [⟨k, c, p⟩], a + (n + 8), by simp; omega, by omega, by go_num, hown2, hbel2, by unfold Hid; simpa using hnext.out⟩
          case measure => simp [intOf]; omega
        · have hval : nf.val r = .tuple #[.agg #[.int .i64 0, .int .i64 0, .string ⟨#[]⟩], .int .i64 0, .int .i64 (nf.code r)] := by simp [nf.val, hc, nf.none3]
          rw [hval] at hnx
          have hend : frs 200 s = (acc, a, nf.code r) := by
            have e2 : 200 - acc.length = (200 - (acc.length + 1)) + 1 := by omega
            rw [hfrs.out, e2, frs_bad _ r (by omega) hc]
            simp
          obtain ⟨d, hd⟩ : ∃ d, nf.code r = d := ⟨_, rfl⟩
          rw [hd] at hnx hc hend
          have HE : Hid (acc = l0 ∧ (a : Int) = n0 ∧ d = c0) := done_of HL.out hend
          clear hval hend hfrs hd hr
          go_wp2_with (go_at_call 22; refine (hnx _).mono ?_; rintro e w1 ⟨rfl, hb1⟩; have hown1 := owns_below hown hb1)
          have hrow := rowed_to (rowed_of_owns (owns_below hown1 ((Below.refl _ _).alloc (Nat.le_refl _) (.cells #[.int .i64 0, .int .i64 0, .string ⟨#[]⟩] 25)))) HE.out.1
          go_ret3
          exact ⟨⟨_, by rw [HE.out.2.1, HE.out.2.2]; rfl, hrow⟩, (hbel.trans (hb1.mono hBs)).alloc (Nat.le_trans hBs hb1.size) _⟩
      · have hend : frs 200 s = (acc, a, 0) := by
          rw [hfrs.out, show 200 - acc.length = 0 by omega]
          simp [frs]
        have HE : Hid (acc = l0 ∧ (a : Int) = n0 ∧ (0 : Int) = c0) := done_of HL.out hend
        have hrow := rowed_to (rowed_of_owns hown) HE.out.1
        clear hend hfrs hr hown
        go_wp2
        go_ret3
        exact ⟨⟨_, by rw [HE.out.2.1, ← HE.out.2.2]; rfl, hrow⟩, hbel⟩
    · have hend : frs 200 s = (acc, a, 0) := by
        rw [hfrs.out, frs_none _ r (by omega)]
        simp
      have HE : Hid (acc = l0 ∧ (a : Int) = n0 ∧ (0 : Int) = c0) := done_of HL.out hend
      have hrow := rowed_to (rowed_of_owns hown) HE.out.1
      clear hend hfrs hr hown
      go_wp2
      go_ret3
      exact ⟨⟨_, by rw [HE.out.2.1, ← HE.out.2.2]; rfl, hrow⟩, hbel⟩
end Go.Proofs.Ytkddnennodonhaa.fs
