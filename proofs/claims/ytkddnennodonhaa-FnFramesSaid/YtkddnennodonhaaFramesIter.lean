/- The program's own iterator over the frames of a text: what it hands to a loop's body, one by one. -/
import Derived.RangeFuncNested
import Derived.RangeFuncBound
import Derived.RangeFuncCalls
import Derived.RangeFuncLeaves
import Derived.Shelf.Abstract
import Derived.Shelf.RegionOpen
import Derived.WalkKit
import Derived.OwnWalkIn
import Derived.TacticsInMore
import Derived.LoopNIn
import Derived.LoopIn
import Derived.Test.YtkddnennodonhaaFramesSpec
namespace Go.Proofs.Ytkddnennodonhaa.fi
open Go.RowKit Go.Shelf
set_option linter.unusedVariables false
attribute [local go_sem] Oper.semAt_some

/-- the texts at which NextFrame is asked, one behind the other -/
def rests : Nat → ByteArray → List ByteArray
  | 0, _ => []
  | m + 1, s => if s.size = 0 then [] else s :: (if nf.code s = 0 then rests m (fs.rest s) else [])
def fx (s : ByteArray) : fs.Fr := if nf.code s = 0 then fs.fOf s else ⟨0, 0, ⟨#[]⟩⟩
def fval (s : ByteArray) : Value := .agg #[.int .i64 (fx s).k, .int .i64 (fx s).c, .string (fx s).p]
def encs (s : ByteArray) : Array Value := #[fval s, .int .i64 (nf.code s)]

theorem rests_none (m : Nat) (s : ByteArray) (h : s.size = 0) : rests m s = [] := by
  cases m with
  | zero => rfl
  | succ m => simp [rests, h]
theorem rests_bad (m : Nat) (s : ByteArray) (h : s.size ≠ 0) (hc : nf.code s ≠ 0) : rests (m + 1) s = [s] := by simp [rests, h, hc]
theorem rests_ok (m : Nat) (s : ByteArray) (h : s.size ≠ 0) (hc : nf.code s = 0) : rests (m + 1) s = s :: rests m (fs.rest s) := by simp [rests, h, hc]

def tot (pre : List ByteArray) : Nat := (pre.map fun x => nf.len x + 8).sum
def Good (pre : List ByteArray) : Prop := ∀ x ∈ pre, nf.code x = 0
theorem tot_snoc (pre : List ByteArray) (x : ByteArray) : tot (pre ++ [x]) = tot pre + (nf.len x + 8) := by simp [tot]
theorem tot_le : ∀ (pre : List ByteArray), Good pre → tot pre ≤ pre.length * 4008
  | [], _ => by simp [tot]
  | x :: pre, h => by
    have h1 := (nf.code_ok.1 (h x (by simp))).2.2.1
    have h2 := tot_le pre (fun y hy => h y (by simp [hy]))
    simp only [tot, List.map_cons, List.sum_cons, List.length_cons] at h2 ⊢
    omega
theorem rest_size {s : ByteArray} (h : nf.code s = 0) : (fs.rest s).size = s.size - (nf.len s + 8) ∧ nf.len s + 8 ≤ s.size := by
  have h1 := nf.code_ok.1 h
  unfold fs.rest
  rw [ByteArray.size_extract]
  omega
theorem all_done : ∀ (f m : Nat) (s : ByteArray), s.size ≤ f → Good (rests f s) → (rests f s).length ≤ m → fs.frs m s = ((rests f s).map fs.fOf, tot (rests f s), 0)
  | 0, m, s, hf, _, _ => by rw [fs.frs_none _ _ (by omega)]; simp [rests, tot]
  | f + 1, m, s, hf, hg, hm => by
    by_cases h0 : s.size = 0
    · rw [fs.frs_none _ _ h0, rests_none _ _ h0]; simp [tot]
    · by_cases hc : nf.code s = 0
      · rw [rests_ok _ _ h0 hc] at hg hm ⊢
        obtain ⟨m', rfl⟩ : ∃ m', m = m' + 1 := ⟨m - 1, by simp at hm; omega⟩
        have hr := rest_size hc
        have ih := all_done f m' (fs.rest s) (by omega) (fun y hy => hg y (by simp [hy])) (by simpa using hm)
        rw [fs.frs_ok _ _ h0 hc, ih]
        simp [tot]
      · rw [rests_bad _ _ h0 hc] at hg
        exact absurd (hg s (by simp)) hc
theorem bad_done : ∀ (f m : Nat) (s x : ByteArray) (pre : List ByteArray), pre ++ [x] <+: rests f s → Good pre → nf.code x ≠ 0 → pre.length < m → fs.frs m s = (pre.map fs.fOf, tot pre, nf.code x)
  | 0, m, s, x, pre, hp, _, _, _ => by simp [rests] at hp
  | f + 1, m, s, x, pre, hp, hg, hx, hm => by
    obtain ⟨m', rfl⟩ : ∃ m', m = m' + 1 := ⟨m - 1, by omega⟩
    by_cases h0 : s.size = 0
    · rw [rests_none _ _ h0] at hp; simp at hp
    · cases pre with
      | nil =>
        by_cases hc : nf.code s = 0
        · rw [rests_ok _ _ h0 hc] at hp
          simp at hp
          subst hp
          exact absurd hc hx
        · rw [rests_bad _ _ h0 hc] at hp
          simp at hp
          subst hp
          rw [fs.frs_bad _ _ h0 hx]
          simp [tot]
      | cons y pre =>
        by_cases hc : nf.code s = 0
        · rw [rests_ok _ _ h0 hc, List.cons_append, List.cons_prefix_cons] at hp
          obtain ⟨rfl, hp⟩ := hp
          have ih := bad_done f m' (fs.rest y) x pre hp (fun z hz => hg z (by simp [hz])) hx (by simpa using hm)
          rw [fs.frs_ok _ _ h0 hc, ih]
          simp [tot]
        · rw [rests_bad _ _ h0 hc, List.cons_append, List.cons_prefix_cons] at hp
          obtain ⟨rfl, hp⟩ := hp
          simp at hp
theorem full_done : ∀ (f m : Nat) (s : ByteArray) (pre : List ByteArray), pre <+: rests f s → Good pre → pre.length = m → fs.frs m s = (pre.map fs.fOf, tot pre, 0)
  | f, m, s, [], _, _, hm => by
    obtain rfl : m = 0 := by simpa using hm.symm
    simp [fs.frs, tot]
  | 0, m, s, y :: pre, hp, _, _ => by simp [rests] at hp
  | f + 1, m, s, y :: pre, hp, hg, hm => by
    obtain ⟨m', rfl⟩ : ∃ m', m = m' + 1 := ⟨pre.length, by simpa using hm.symm⟩
    by_cases h0 : s.size = 0
    · rw [rests_none _ _ h0] at hp; simp at hp
    · by_cases hc : nf.code s = 0
      · rw [rests_ok _ _ h0 hc, List.cons_prefix_cons] at hp
        obtain ⟨rfl, hp⟩ := hp
        have ih := full_done f m' (fs.rest y) pre hp (fun z hz => hg z (by simp [hz])) (by simpa using hm)
        rw [fs.frs_ok _ _ h0 hc, ih]
        simp [tot]
      · rw [rests_bad _ _ h0 hc, List.cons_prefix_cons] at hp
        obtain ⟨rfl, hp⟩ := hp
        exact absurd (hg y (by simp)) hc

def strLen : Value → Nat
  | .string b => b.size
  | _ => 0

set_option maxRecDepth 100000 in
set_option maxHeartbeats 2000000 in
theorem each1 (n l Bn n₀ B : Nat) (hn : 1 ≤ n) (s : ByteArray) (hs : s.size ≤ 1048576) (J Jx : List ByteArray → World → Prop) (hJ : AbidesFrom B J)
    (hY : ∀ pre x W1, J pre W1 → pre.length < (rests s.size s).length → YieldAt Fence.wide (n - 1) Try.prog l (encs x) W1 fun e W' =>
      (e = .returned (.bool true) ∧ J (pre ++ [x]) W' ∧ Below n₀ W1 W') ∨ (e = .returned (.bool false) ∧ Jx (pre ++ [x]) W'))
    (W : World) (hBn : W.cell? ⟨Bn, 0, none⟩ = some (.string s)) (h0 : J [] W) :
    CallsIn Fence.wide n Try.prog 80 #[.func (.yield l) #[] #[], .pointer (some ⟨Bn, 0, none⟩)] W fun e W' => (∃ v, e = .returned v) ∧
      ((∃ ys, ys = rests s.size s ∧ J ys W') ∨ (∃ pre, pre <+: rests s.size s ∧ Jx pre W')) := by
  obtain ⟨xs, hxs⟩ : ∃ xs, rests s.size s = xs := ⟨_, rfl⟩
  have HX : Hid (rests s.size s = xs) := hxs
  rw [hxs] at hY ⊢
  clear hxs
  refine callsIn_of_wp Try.func80 rfl trivial ?_ rfl
  simp only [Try.ntmps80, List.size_toArray, List.length_cons, List.length_nil, Nat.reduceAdd, Nat.reduceSub, Array.replicate_succ, Array.replicate_zero, List.push_toArray, List.append_toArray, List.nil_append, List.cons_append]
  gi_wp2
  gi_loopw [3, 4, 5, 6] (fun y _ _ _ wr => ∃ (pre : List ByteArray) (r : ByteArray) (m : Nat), y = .string r ∧ r.size ≤ m ∧ r.size ≤ 1048576 ∧ xs = pre ++ rests m r ∧ J pre wr) (fun y _ _ _ _ => strLen y)
  case atStart => exact ⟨[], s, s.size, rfl, Nat.le_refl _, hs, HX.out.symm, h0⟩
  case round =>
    obtain ⟨pre, r, m, rfl, hrm, hr20, hx, hJs⟩ := hrel
    by_cases hr0 : r.size = 0
    · obtain rfl := nf.empty_of hr0
      have hx2 : Hid (pre = xs) := by unfold Hid; rw [hx, rests_none _ _ hr0]; simp
      clear hx
      gi_wp2
      go_end0
      exact ⟨⟨_, rfl⟩, .inl ⟨pre, hx2.out, hJs⟩⟩
    · obtain ⟨hl1, hl2⟩ := nf.not_empty (s := r) (by omega)
      obtain ⟨m', rfl⟩ : ∃ m', m = m' + 1 := ⟨m - 1, by omega⟩
      have hnx := fun W => nf.impl_next r W hr20
      by_cases hc : nf.code r = 0
      · have hval : nf.val r = .tuple #[.agg #[.int .i64 (gi.bt r 0), .int .i64 (nf.chan r), .string (nf.pay r)], .int .i64 ((nf.len r : Int) + 8), .int .i64 0] := by simp [nf.val, hc]
        have henc : encs r = #[.agg #[.int .i64 (gi.bt r 0), .int .i64 (nf.chan r), .string (nf.pay r)], .int .i64 0] := by simp [encs, fval, fx, hc, fs.fOf]
        rw [hval] at hnx
        have hok := nf.code_ok.1 hc
        have hx1 : xs = pre ++ (r :: rests m' (fs.rest r)) := by rw [hx, rests_ok _ _ hr0 hc]
        have hlt : pre.length < xs.length := by rw [hx1]; simp
        have hY1 := fun W hJ' => hY pre r W hJ' hlt
        rw [henc] at hY1
        have hrest : fs.rest r = r.extract (nf.len r + 8) r.size := rfl
        obtain ⟨k, hk⟩ : ∃ k : Int, (gi.bt r 0 : Int) = k := ⟨_, rfl⟩
        obtain ⟨c, hcc⟩ : ∃ c, nf.chan r = c := ⟨_, rfl⟩
        obtain ⟨p, hp⟩ : ∃ p, nf.pay r = p := ⟨_, rfl⟩
        obtain ⟨q, hq⟩ : ∃ q, nf.len r = q := ⟨_, rfl⟩
        rw [hq, hk, hcc, hp] at hnx
        rw [hk, hcc, hp] at hY1
        rw [hq] at hrest hok
        have hq8 : q + 8 ≤ r.size ∧ q ≤ 4000 := by omega
        obtain ⟨hq8, hq4⟩ := hq8
        have HX1 : Hid (xs = (pre ++ [r]) ++ rests m' (r.extract (q + 8) r.size)) := by unfold Hid; rw [hx1, hrest]; simp
        have hsl : ∀ W : World, (Instr.slice 9 (.string r) (some (.int .i64 ((q : Int) + 8))) none none).run Try.prog W = .ok (.string (r.extract (q + 8) r.size)) W := fun W => by
          rw [run_slice_string_l (P := Try.prog) W 9 r Try.underlying9 .i64 ((q : Int) + 8) (by omega) (by omega), show ((q : Int) + 8).toNat = q + 8 by omega]
        have hrs : (r.extract (q + 8) r.size).size = r.size - (q + 8) := by rw [ByteArray.size_extract]; omega
        have HR : Hid ((r.extract (q + 8) r.size).size = r.size - (q + 8)) := hrs
        clear hval henc hok hx hx1 hlt hrest hk hcc hp hq hc hrs hY
        gi_wp2_with (refine ⟨trivial, ?_⟩; gi_at_call 21; refine (callsIn_wide.2 (hnx _)).mono ?_; rintro e w1 ⟨rfl, hb1⟩; obtain ⟨fn, tmps, assign, body, hy, hR⟩ := hY1 _ (hJ pre _ _ none (hJ pre _ _ none hJs ⟨hb1.os, hb1.tape, hb1.output, hb1.size, fun i hi _ => hb1.block i hi⟩ (fun r e => by cases e)) (World.grownBy_alloc w1 (.cells #[.int .i64 k, .int .i64 c, .string p] 25) none) (fun r e => by cases e)))
        refine hR.mono ?_
        rintro e W3 (⟨rfl, hJ3, hk3⟩ | ⟨rfl, hJx3⟩)
        · clear hR hy hY1 hnx
          gi_wp2
          go_roundw
          case rel => exact ⟨pre ++ [r], _, m', rfl, by have := HR.out; omega, by have := HR.out; omega, HX1.out, hJ3⟩
          case measure => simp only [strLen]; have := HR.out; omega
        · clear hR hy hY1 hnx
          gi_wp2
          refine bodyPost_ret (results_none rfl _ _ _) rfl ?_
          exact ⟨⟨_, rfl⟩, .inr ⟨pre ++ [r], ⟨_, HX1.out.symm⟩, hJx3⟩⟩
      · have hval : nf.val r = .tuple #[.agg #[.int .i64 0, .int .i64 0, .string ⟨#[]⟩], .int .i64 0, .int .i64 (nf.code r)] := by simp [nf.val, hc, nf.none3]
        have henc : encs r = #[.agg #[.int .i64 0, .int .i64 0, .string ⟨#[]⟩], .int .i64 (nf.code r)] := by simp [encs, fval, fx, hc]
        rw [hval] at hnx
        have hx1 : xs = pre ++ [r] := by rw [hx, rests_bad _ _ hr0 hc]
        have hlt : pre.length < xs.length := by rw [hx1]; simp
        have hY1 := fun W hJ' => hY pre r W hJ' hlt
        rw [henc] at hY1
        obtain ⟨d, hd⟩ : ∃ d, nf.code r = d := ⟨_, rfl⟩
        rw [hd] at hnx hY1 hc
        have HX1 : Hid (xs = pre ++ [r]) := hx1
        have hdb : (d == 0) = false := by simpa using hc
        clear hval henc hx hx1 hlt hd hY
        gi_wp2_with (refine ⟨trivial, ?_⟩; gi_at_call 21; refine (callsIn_wide.2 (hnx _)).mono ?_; rintro e w1 ⟨rfl, hb1⟩; obtain ⟨fn, tmps, assign, body, hy, hR⟩ := hY1 _ (hJ pre _ _ none (hJ pre _ _ none hJs ⟨hb1.os, hb1.tape, hb1.output, hb1.size, fun i hi _ => hb1.block i hi⟩ (fun r e => by cases e)) (World.grownBy_alloc w1 (.cells #[.int .i64 0, .int .i64 0, .string ⟨#[]⟩] 25) none) (fun r e => by cases e)))
        refine hR.mono ?_
        rintro e W3 (⟨rfl, hJ3, hk3⟩ | ⟨rfl, hJx3⟩)
        · clear hR hy hY1 hnx
          gi_wp2
          refine bodyPost_ret (results_none rfl _ _ _) rfl ?_
          exact ⟨⟨_, rfl⟩, .inl ⟨pre ++ [r], HX1.out.symm, hJ3⟩⟩
        · clear hR hy hY1 hnx
          gi_wp2
          refine bodyPost_ret (results_none rfl _ _ _) rfl ?_
          exact ⟨⟨_, rfl⟩, .inr ⟨pre ++ [r], ⟨[], by rw [HX1.out]; simp⟩, hJx3⟩⟩

/-- eachFrame: its text is boxed; the function value captures the box -/
theorem each_in (n : Nat) (s : ByteArray) (w : World) :
    CallsIn Fence.wide n Try.prog 68 #[.string s] w fun e w' => e = .returned (.func (.func 80) #[] #[.pointer (some ⟨w.heap.size, 0, none⟩)]) ∧ w' = w.alloc (.cells #[.string s] 9) := by
  refine callsIn_of_wp Try.func68 rfl trivial ?_ rfl
  simp only [Try.ntmps68, List.size_toArray, List.length_cons, List.length_nil, Nat.reduceAdd, Nat.reduceSub, Array.replicate_succ, Array.replicate_zero, List.push_toArray, List.append_toArray, List.nil_append, List.cons_append]
  gi_wp2
  go_ret
  exact ⟨rfl, rfl⟩

theorem each_stops (n Bn n₀ : Nat) (hn : 1 ≤ n) (s : ByteArray) (hs : s.size ≤ 1048576) (w : World) (hBn : Bn < w.heap.size) (hc : w.cell? ⟨Bn, 0, none⟩ = some (.string s)) :
    SeqStopsK Fence.wide n Try.prog 80 #[.pointer (some ⟨Bn, 0, none⟩)] encs (Below n₀) (fun ys => ys = rests s.size s) (fun pre => pre <+: rests s.size s) (rests s.size s).length w := fun l J Jx W hW hJ _ hY h0 =>
  each1 n l Bn n₀ _ hn s hs J Jx hJ hY W ((hW.cell (p := ⟨Bn, 0, none⟩) hBn).trans hc) h0
end Go.Proofs.Ytkddnennodonhaa.fi
