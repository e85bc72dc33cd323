/- Held ones that are meant, and the rest; growing rows of held ones. -/
import Derived.Test.YtnlcmheahihlpaaQSpecWay
import Derived.ArgAppend
import Derived.Lib.SliceRun
namespace Go.Proofs.Ytnlcmheahihlpaa.qdp
open Go.ChangeShapes Go.WideShapes Go.ChangeAt Go.RowKit Go.Proofs.Ytnlcmheahihlpaa.fl Go.Proofs.Ytnlcmheahihlpaa.qsp
set_option linter.unusedVariables false

def hit (o t : Int) (a : Bool) (h : flH.Hd) : Bool := decide (h.o = o) && (decide (h.t = t) || (a && decide (h.t < t)))
def gone (o t : Int) (a : Bool) (hs : List flH.Hd) : List flH.Hd := hs.filter (hit o t a)
def left (o t : Int) (a : Bool) (hs : List flH.Hd) : List flH.Hd := hs.filter fun h => !hit o t a h
theorem both_yes {o t : Int} {a : Bool} {hs : List flH.Hd} {k : Nat} {h : flH.Hd} (hk : hs[k]? = some h) (hh : hit o t a h = true) : gone o t a (hs.take (k + 1)) = gone o t a (hs.take k) ++ [h] ∧ left o t a (hs.take (k + 1)) = left o t a (hs.take k) := by
  unfold gone left
  rw [List.take_add_one, List.filter_append, List.filter_append, hk]
  simp [hh]
theorem both_no {o t : Int} {a : Bool} {hs : List flH.Hd} {k : Nat} {h : flH.Hd} (hk : hs[k]? = some h) (hh : hit o t a h = false) : gone o t a (hs.take (k + 1)) = gone o t a (hs.take k) ∧ left o t a (hs.take (k + 1)) = left o t a (hs.take k) ++ [h] := by
  unfold gone left
  rw [List.take_add_one, List.filter_append, List.filter_append, hk]
  simp [hh]
theorem gone_le (o t : Int) (a : Bool) (hs : List flH.Hd) : (gone o t a hs).length ≤ hs.length := List.length_filter_le _ _
theorem left_le (o t : Int) (a : Bool) (hs : List flH.Hd) : (left o t a hs).length ≤ hs.length := List.length_filter_le _ _
noncomputable def ansH (nm : ByteArray) (nx : Int) (rs : List flM.Ms) (hs : List flH.Hd) (o t : Int) (a : Bool) : List flH.Hd := if okB nm nx rs hs = true then left o t a hs else hs
noncomputable def ansC (nm : ByteArray) (nx : Int) (rs : List flM.Ms) (hs : List flH.Hd) (o t : Int) (a : Bool) : Int := if okB nm nx rs hs = true then (gone o t a hs).length else 0
theorem infoH : ∃ i0, Try.prog.info? 55 = some i0 ∧ i0.zero = some (.agg #[.int .i64 0, .int .i64 0, .int .i64 0, .string ByteArray.empty, .string ByteArray.empty, .string ByteArray.empty, .bool false]) ∧ i0.size = 7 ∧ i0.bytes = 80 := infoK
/-- held ones in a row of its own above B, or none -/
def All (W : World) (B : Nat) (v : Value) (l : List flH.Hd) : Prop := (l = [] ∧ ∃ ao, v = .slice ao 0 0 ∧ (ao = none ∨ ∃ g, ao = some ⟨g, 0, none⟩)) ∨ ∃ g cap, v = .slice (some ⟨g, 0, none⟩) l.length cap ∧ W.ownsRow B 55 7 (.slice (some ⟨g, 0, none⟩) l.length cap) l.length (l.flatMap flH.c)
theorem All.form {W : World} {B : Nat} {v : Value} {l : List flH.Hd} (h : All W B v l) : ∃ ao cap, v = .slice ao l.length cap := by
  rcases h with ⟨rfl, ao, rfl, _⟩ | ⟨g, cap, rfl, _⟩
  · exact ⟨ao, 0, rfl⟩
  · exact ⟨_, cap, rfl⟩
theorem All.row {W : World} {B : Nat} {ao : Option Addr} {cap : Nat} {l : List flH.Hd} (h : All W B (.slice ao l.length cap) l) : Row flH.c 7 W W.heap.size ao l := by
  rcases h with ⟨rfl, _⟩ | ⟨g, cap', e, ho⟩
  · exact .inl rfl
  · cases e
    obtain ⟨a', c', e', hr⟩ := own_row flH.c_len ho
    cases e'
    exact hr
theorem All.on {W W' : World} {B : Nat} {v : Value} {l : List flH.Hd} (h : All W B v l) (hb : Below W.heap.size W W') : All W' B v l := by
  rcases h with h | ⟨g, cap, rfl, ho⟩
  · exact .inl h
  · exact .inr ⟨g, cap, rfl, ho.kept (row := none) ⟨hb.os, hb.tape, hb.output, hb.size, fun k hk _ => hb.block k hk⟩ (by simp [Value.ownBlock])⟩
theorem add0 (g j : Nat) : (⟨g, 0, none⟩ : Addr).add j = ⟨g, j, none⟩ := by unfold Addr.add; split <;> simp_all
theorem own_all {W : World} {B : Nat} {v : Value} {l : List flH.Hd} (hl : l ≠ []) (h : W.ownsRow B 55 7 v l.length (l.flatMap flH.c)) : All W B v l := by
  have hs := h
  obtain ⟨_, ⟨_, h0⟩ | ⟨g, cap, cur, rfl, _⟩⟩ := hs
  · exact absurd (List.eq_nil_of_length_eq_zero h0) hl
  · exact .inr ⟨g, cap, rfl, h⟩
theorem below_grown {W w' : World} {B : Nat} {r : Option Nat} (h : W.grownBy w' r) (hB : B ≤ W.heap.size) (hr : ∀ b, r = some b → B ≤ b) : Below B W w' := ⟨h.os, h.tape, h.output, h.size, fun k hk => h.block k (by omega) (fun e => by have := hr k e.symm; omega)⟩
/-- one more -/
theorem app_one {W : World} {B a : Nat} {v : Value} {l : List flH.Hd} (m : flH.Hd) (h : All W B v l) (hB : B ≤ W.heap.size) (hl : l.length ≤ 1048576) (hc : W.heap[a]? = some (.cells (flH.c m).toArray 55 (0, 0))) (ty : TypeId) :
    ∃ v' w', (Builtin.append_ #[25, 25] ty #[v, .slice (some ⟨a, 0, none⟩) 1 1]).run Try.prog W = .ok v' w' ∧ All w' B v' (l ++ [m]) ∧ Below B W w' ∧ (∀ k, k < W.heap.size → v.ownBlock ≠ some k → w'.heap[k]? = W.heap[k]?) ∧ (v'.ownBlock = v.ownBlock ∨ ∃ k, v'.ownBlock = some k ∧ W.heap.size ≤ k) ∧ W.heap.size ≤ w'.heap.size := by
  obtain ⟨i0, hi, hz0, hz1, hz2⟩ := infoH
  have hnews : ∀ j u, (flH.c m)[j]? = some u → W.cell? ((⟨a, 0, none⟩ : Addr).add j) = some u := fun j u hu => by
    rw [add0]
    exact bcell hc (by simpa using hu)
  have h1 : ∀ u ∈ flH.c m, u.oneCell' = true := fun u hu => by simp [flH.c] at hu; rcases hu with rfl | rfl | rfl | rfl | rfl | rfl | rfl <;> rfl
  have hfl : (l ++ [m]).flatMap flH.c = l.flatMap flH.c ++ flH.c m := by rw [List.flatMap_append]; simp
  have hln : (l ++ [m]).length = l.length + 1 := by simp
  rcases h with ⟨rfl, ao, rfl, _⟩ | ⟨g, cap, rfl, ho⟩
  · cases ao with
    | none =>
      obtain ⟨v', w', hr, ho, hg, _, hat⟩ := run_append_own_at (P := Try.prog) W B 25 ty 55 i0 (.agg #[.int .i64 0, .int .i64 0, .int .i64 0, .string ByteArray.empty, .string ByteArray.empty, .string ByteArray.empty, .bool false]) 7 80 Try.underlying25 hi hz0 hz1 hz2 rfl (by decide) (.slice none 0 0) 0 [] (World.ownsRow_nil W _ _ _) ⟨a, 0, none⟩ 1 1 (flH.c m) rfl hnews h1 (by unfold maxLen; omega) (by omega) hB
      exact ⟨v', w', hr, own_all (by simp) (by rw [hfl, hln]; simpa using ho), below_grown hg hB (fun b e => by simp [Value.ownBlock] at e), fun k hk hne => hg.block k hk (fun e => hne e.symm), (by rcases hat with h | h; exact .inl h; exact .inr ⟨_, h, Nat.le_refl _⟩), hg.size⟩
    | some b =>
      obtain ⟨v', w', hr, ho, hg⟩ := run_append_arg_grows (P := Try.prog) W 25 ty 55 i0 (.agg #[.int .i64 0, .int .i64 0, .int .i64 0, .string ByteArray.empty, .string ByteArray.empty, .string ByteArray.empty, .bool false]) 7 80 Try.underlying25 hi hz0 hz1 hz2 rfl (by decide) b 0 0 [] rfl (fun j u hu => by simp at hu) ⟨a, 0, none⟩ 1 1 (flH.c m) rfl hnews (by omega) (by unfold maxLen; omega) (by omega)
      refine ⟨v', w', hr, own_all (by simp) ?_, below_grown hg hB (fun b e => by cases e), fun k hk hne => hg.block k hk (fun e => by cases e), ?_, hg.size⟩
      rotate_left
      · obtain ⟨_, ⟨_, k2⟩ | ⟨g, cap, cur, k3, k4, _⟩⟩ := ho
        · simp at k2
        · exact .inr ⟨g, by rw [k3]; rfl, k4⟩
      rw [hfl, hln]
      obtain ⟨k1, k2 | ⟨g, cap, cur, k3, k4, k5⟩⟩ := ho
      · simp at k2
      · exact ⟨by simpa using k1, .inr ⟨g, cap, cur, by simpa using k3, by omega, by simpa using k5⟩⟩
  · obtain ⟨v', w', hr, ho', hg, _, hat⟩ := run_append_own_at (P := Try.prog) W B 25 ty 55 i0 (.agg #[.int .i64 0, .int .i64 0, .int .i64 0, .string ByteArray.empty, .string ByteArray.empty, .string ByteArray.empty, .bool false]) 7 80 Try.underlying25 hi hz0 hz1 hz2 rfl (by decide) _ l.length _ ho ⟨a, 0, none⟩ 1 1 (flH.c m) rfl hnews h1 (by unfold maxLen; omega) (by omega) hB
    exact ⟨v', w', hr, own_all (by simp) (by rw [hfl, hln]; exact ho'), below_grown hg hB (fun b e => by have := Option.some.inj e; subst this; exact (ho.lt g rfl).1), fun k hk hne => hg.block k hk (fun e => hne e.symm), (by rcases hat with h | h; exact .inl h; exact .inr ⟨_, h, Nat.le_refl _⟩), hg.size⟩
theorem All.keep {W w' : World} {B : Nat} {v : Value} {l : List flH.Hd} (h : All W B v l) (hk : ∀ g, v.ownBlock = some g → w'.heap[g]? = W.heap[g]?) : All w' B v l := by
  rcases h with h | ⟨g, cap, rfl, ho⟩
  · exact .inl h
  · refine .inr ⟨g, cap, rfl, ?_⟩
    obtain ⟨h1, h2 | ⟨g', cap', cur, h3, h4, h5, h6⟩⟩ := ho
    · exact ⟨h1, .inl h2⟩
    · exact ⟨h1, .inr ⟨g', cap', cur, h3, h4, (hk g' (by rw [h3]; rfl)).trans h5, h6⟩⟩
/-- two rows that grow, apart from each other, at or above B -/
structure Tk (W : World) (B : Nat) (v u : Value) (l r : List flH.Hd) (wr : World) : Prop where
  bel : Below B W wr
  lo : B ≤ wr.heap.size
  av : All wr B v l
  au : All wr B u r
  ne : ∀ g, v.ownBlock = some g → u.ownBlock ≠ some g
  vl : ∀ g, v.ownBlock = some g → g < wr.heap.size
  ul : ∀ g, u.ownBlock = some g → g < wr.heap.size
theorem Tk.swap {W wr : World} {B : Nat} {v u : Value} {l r : List flH.Hd} (h : Tk W B v u l r wr) : Tk W B u v r l wr := ⟨h.bel, h.lo, h.au, h.av, fun g h1 h2 => h.ne g h2 h1, h.ul, h.vl⟩
theorem Tk.on {W wr X : World} {B : Nat} {v u : Value} {l r : List flH.Hd} (h : Tk W B v u l r wr) (hb : Below wr.heap.size wr X) : Tk W B v u l r X :=
  ⟨h.bel.trans (hb.mono h.lo), Nat.le_trans h.lo hb.size, h.av.on hb, h.au.on hb, h.ne, fun g hg => Nat.lt_of_lt_of_le (h.vl g hg) hb.size, fun g hg => Nat.lt_of_lt_of_le (h.ul g hg) hb.size⟩
theorem Tk.app {W X : World} {B a : Nat} {v u : Value} {l r : List flH.Hd} (m : flH.Hd) (h : Tk W B v u l r X) (hl : l.length ≤ 1048576) (hc : X.heap[a]? = some (.cells (flH.c m).toArray 55 (0, 0))) (ty : TypeId) :
    ∃ v' w', (Builtin.append_ #[25, 25] ty #[v, .slice (some ⟨a, 0, none⟩) 1 1]).run Try.prog X = .ok v' w' ∧ Tk W B v' u (l ++ [m]) r w' := by
  obtain ⟨v', w', hrun, hall, hbel, hk, hat, hsz⟩ := app_one m h.av h.lo hl hc ty
  refine ⟨v', w', hrun, h.bel.trans hbel, Nat.le_trans h.lo hsz, hall, h.au.keep (fun g hg => hk g (h.ul g hg) (fun e => h.ne g e hg)), fun g hg hu => ?_, fun g hg => ?_, fun g hg => Nat.lt_of_lt_of_le (h.ul g hg) hsz⟩
  · rcases hat with e | ⟨k, e, hk2⟩
    · rw [e] at hg; exact h.ne g hg hu
    · rw [e] at hg; have hkg := Option.some.inj hg; subst hkg; have := h.ul _ hu; omega
  · rcases hall with ⟨h9, _⟩ | ⟨g', cap', h9, ho⟩
    · simp at h9
    · rw [h9] at hg
      exact (ho.lt g hg).2
end Go.Proofs.Ytnlcmheahihlpaa.qdp
