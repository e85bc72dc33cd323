/- What a right queue is; the specification's l05Message. -/
import Derived.Test.YtnlcmheahihlpaaQueueLib
import Derived.Test.YtnlcmheahihlpaaNameOkWalks
import Derived.Test.YtnlcmheahihlpaaKeyWalks
import Derived.Test.YtnlcmheahihlpaaQuietIn
import Derived.WalkSpells
import Derived.Lib.Strings
import Derived.Deep.QuietTactic
import Derived.BigQuiet
import Derived.Deep.RegionWith
import Derived.Laws.EntriesVeiled
namespace Go.Proofs.Ytnlcmheahihlpaa.qk
open Go.ChangeShapes Go.WideShapes Go.ChangeAt Go.RowKit Go.Proofs.Ytnlcmheahihlpaa.fl
set_option linter.unusedVariables false

def mOk (m : flM.Ms) (nx : Int) : Bool := decide (1 ≤ m.q ∧ m.q ≤ nx - 1) && ((decide (m.x = ⟨#[]⟩) || nm.good m.x) && (ky.good m.k && decide (m.b.size ≤ 3000)))
def hOk (h : flH.Hd) : Bool := decide (0 ≤ h.o ∧ h.o ≤ 1000) && decide (1 ≤ h.t ∧ h.t ≤ 1000000000)
def hLt (a b : flH.Hd) : Prop := a.o < b.o ∨ (a.o = b.o ∧ a.t < b.t)
structure OkQ (n : ByteArray) (nx : Int) (rs : List flM.Ms) (hs : List flH.Hd) : Prop where
  nmo : nm.good n = true
  nxo : 1 ≤ nx ∧ nx ≤ 1000000000
  ln : rs.length + hs.length ≤ 500
  rm : ∀ (i : Nat) (m : flM.Ms), rs[i]? = some m → mOk m nx = true
  ru : ∀ (i : Nat) (a b : flM.Ms), rs[i]? = some a → rs[i + 1]? = some b → a.q < b.q
  hm : ∀ (i : Nat) (h : flH.Hd), hs[i]? = some h → mOk h.m nx = true ∧ hOk h = true
  hu : ∀ (i : Nat) (a b : flH.Hd), hs[i]? = some a → hs[i + 1]? = some b → hLt a b
  d1 : ∀ (i k : Nat) (m : flM.Ms) (h : flH.Hd), rs[k]? = some m → hs[i]? = some h → m.q ≠ h.m.q
  d2 : ∀ (i k : Nat) (a b : flH.Hd), k < i → hs[k]? = some a → hs[i]? = some b → a.m.q ≠ b.m.q

theorem of_same {x y : ByteArray} (h : x.toList = y.toList) : x = y := by
  rw [Lib.toList_data, Lib.toList_data] at h
  exact ByteArray.ext (Array.toList_inj.1 h)

theorem ne_nil {x : ByteArray} (h : x ≠ ⟨#[]⟩) : ¬ x.toList = [] := fun e => h (of_same (e.trans (by rw [Lib.toList_data])))
set_option maxRecDepth 100000 in
set_option maxHeartbeats 2000000 in
theorem spec_msg (m : flM.Ms) (nx : Int) (w : World) (hnx : 1 ≤ nx ∧ nx ≤ 1000000000) (hm : m.x.size ≤ 1048576 ∧ m.k.size ≤ 1048576 ∧ m.b.size ≤ 1048576) :
    Calls Try.prog 41 #[.agg #[.int .i64 m.q, .string m.x, .string m.k, .string m.b, .bool m.a], .int .i64 nx] w fun e w' => e = .returned (.bool (mOk m nx)) ∧ Below w.heap.size w w' := by
  obtain ⟨q, x, k, b, a⟩ := m
  obtain ⟨h1, h2, h3⟩ := hm
  simp only at h1 h2 h3 ⊢
  have hin := fun W => ky.within q 1 (nx - 1) W
  have hnm := fun W => nm.spec_name x W h1
  have hky := fun W => ky.spec_key k W h2
  have hwr : IntKind.i64.wrap (nx - 1) = nx - 1 := by rw [IntKind.wrap_i64]; omega
  unfold mOk
  simp only
  generalize nm.good x = b2 at hnm ⊢
  generalize ky.good k = b3 at hky ⊢
  generalize decide (1 ≤ q ∧ q ≤ nx - 1) = b1 at hin ⊢
  have hb : Below w.heap.size w (w.alloc (.cells #[.int .i64 q, .string x, .string k, .string b, .bool a] 41)) := (Below.refl _ _).alloc (Nat.le_refl _) _
  by_cases hx : x = ⟨#[]⟩
  · subst hx
    by_cases h30 : b.size ≤ 3000
    · have g1 : (b.size : Int) ≤ 3000 := by omega
      cases b1 <;> cases b3
      all_goals
        go_enter Try.func41, Try.ntmps41
        go_wp2_with (first | (go_at_call 40; refine (hin _).mono ?_; rintro e w1 ⟨rfl, hw1⟩; obtain rfl := hw1.symm) | (go_at_call 39; refine (hnm _).mono ?_; rintro e w2 ⟨rfl, hw2⟩; obtain rfl := hw2.symm) | (go_at_call 64; refine (hky _).mono ?_; rintro e w3 ⟨rfl, hw3⟩; obtain rfl := hw3.symm))
        go_ret
        exact ⟨by first | (simp [h30]; done) | (simp [h30, g1]; done) | (simp [h30]; omega), hb⟩
    · have g1 : ¬ (b.size : Int) ≤ 3000 := by omega
      cases b1 <;> cases b3
      all_goals
        go_enter Try.func41, Try.ntmps41
        go_wp2_with (first | (go_at_call 40; refine (hin _).mono ?_; rintro e w1 ⟨rfl, hw1⟩; obtain rfl := hw1.symm) | (go_at_call 39; refine (hnm _).mono ?_; rintro e w2 ⟨rfl, hw2⟩; obtain rfl := hw2.symm) | (go_at_call 64; refine (hky _).mono ?_; rintro e w3 ⟨rfl, hw3⟩; obtain rfl := hw3.symm))
        go_ret
        exact ⟨by first | (simp [h30]; done) | (simp [h30, g1]; done) | (simp [h30]; omega), hb⟩
  · have hx2 : (x.toList == []) = false := by simp; exact ne_nil hx
    by_cases h30 : b.size ≤ 3000
    · have g1 : (b.size : Int) ≤ 3000 := by omega
      cases b1 <;> cases b2 <;> cases b3
      all_goals
        go_enter Try.func41, Try.ntmps41
        go_wp2_with (first | (go_at_call 40; refine (hin _).mono ?_; rintro e w1 ⟨rfl, hw1⟩; obtain rfl := hw1.symm) | (go_at_call 39; refine (hnm _).mono ?_; rintro e w2 ⟨rfl, hw2⟩; obtain rfl := hw2.symm) | (go_at_call 64; refine (hky _).mono ?_; rintro e w3 ⟨rfl, hw3⟩; obtain rfl := hw3.symm))
        go_ret
        exact ⟨by first | (simp [h30, hx]; done) | (simp [h30, hx]; omega), hb⟩
    · have g1 : ¬ (b.size : Int) ≤ 3000 := by omega
      cases b1 <;> cases b2 <;> cases b3
      all_goals
        go_enter Try.func41, Try.ntmps41
        go_wp2_with (first | (go_at_call 40; refine (hin _).mono ?_; rintro e w1 ⟨rfl, hw1⟩; obtain rfl := hw1.symm) | (go_at_call 39; refine (hnm _).mono ?_; rintro e w2 ⟨rfl, hw2⟩; obtain rfl := hw2.symm) | (go_at_call 64; refine (hky _).mono ?_; rintro e w3 ⟨rfl, hw3⟩; obtain rfl := hw3.symm))
        go_ret
        exact ⟨by first | (simp [h30, hx]; done) | (simp [h30, hx]; omega), hb⟩
def hB (a b : flH.Hd) : Bool := if a.o = b.o then decide (a.t < b.t) else decide (a.o < b.o)
theorem hB_true {a b : flH.Hd} : hB a b = true ↔ hLt a b := by
  unfold hB hLt
  split
  · rename_i h; simp [h]
  · rename_i h; simp [h]
theorem bdrewN {B : Nat} {a w : World} (h : Below B a w) (n : Nat) : Below B a (w.drewN n) := ⟨h.os, h.tape, h.output, h.size, h.block⟩
set_option maxRecDepth 100000 in
set_option maxHeartbeats 2000000 in
theorem spec_before (a b : flH.Hd) (w : World) :
    Calls Try.prog 42 #[.agg #[.int .i64 a.t, .int .i64 a.o, .int .i64 a.m.q, .string a.m.x, .string a.m.k, .string a.m.b, .bool a.m.a], .agg #[.int .i64 b.t, .int .i64 b.o, .int .i64 b.m.q, .string b.m.x, .string b.m.k, .string b.m.b, .bool b.m.a]] w fun e w' => e = .returned (.bool (hB a b)) ∧ Below w.heap.size w w' := by
  obtain ⟨at', ao, ⟨aq, ax, ak, ab, aa⟩⟩ := a
  obtain ⟨bt, bo, ⟨bq, bx, bk, bb, ba⟩⟩ := b
  have hbl : Below w.heap.size w ((w.alloc (.cells #[.int .i64 at', .int .i64 ao, .int .i64 aq, .string ax, .string ak, .string ab, .bool aa] 55)).alloc (.cells #[.int .i64 bt, .int .i64 bo, .int .i64 bq, .string bx, .string bk, .string bb, .bool ba] 55)) := ((Below.refl _ _).alloc (Nat.le_refl _) _).alloc (by simp) _
  have hA := bold (bnew w #[.int .i64 at', .int .i64 ao, .int .i64 aq, .string ax, .string ak, .string ab, .bool aa] 55) (.cells #[.int .i64 bt, .int .i64 bo, .int .i64 bq, .string bx, .string bk, .string bb, .bool ba] 55)
  have hB' := bnew (w.alloc (.cells #[.int .i64 at', .int .i64 ao, .int .i64 aq, .string ax, .string ak, .string ab, .bool aa] 55)) #[.int .i64 bt, .int .i64 bo, .int .i64 bq, .string bx, .string bk, .string bb, .bool ba] 55
  rw [World.size_alloc] at hB'
  obtain ⟨W, hW⟩ : ∃ W, (w.alloc (.cells #[.int .i64 at', .int .i64 ao, .int .i64 aq, .string ax, .string ak, .string ab, .bool aa] 55)).alloc (.cells #[.int .i64 bt, .int .i64 bo, .int .i64 bq, .string bx, .string bk, .string bb, .bool ba] 55) = W := ⟨_, rfl⟩
  rw [hW] at hbl hA hB'
  have a0 : W.cell? ⟨w.heap.size, 0, none⟩ = some (.int .i64 at') := bcell hA rfl
  have a1 : W.cell? ⟨w.heap.size, 1, none⟩ = some (.int .i64 ao) := bcell hA rfl
  have b0 : W.cell? ⟨w.heap.size + 1, 0, none⟩ = some (.int .i64 bt) := bcell hB' rfl
  have b1 : W.cell? ⟨w.heap.size + 1, 1, none⟩ = some (.int .i64 bo) := bcell hB' rfl
  have HA : Hid (W.heap[w.heap.size]? = _) := hA
  have HB : Hid (W.heap[w.heap.size + 1]? = _) := hB'
  have l1 := (Array.getElem?_eq_some_iff.1 hA).1
  have l2 := (Array.getElem?_eq_some_iff.1 hB').1
  clear hA hB'
  go_enter Try.func42, Try.ntmps42
  unfold hB
  simp only
  by_cases he : ao = bo
  · have he2 : (ao != bo) = false := by simp [he]
    rw [if_pos he]
    clear he
    go_wp2
    go_ret
    exact ⟨rfl, hbl⟩
  · have he2 : (ao != bo) = true := by simp [he]
    rw [if_neg he]
    clear he
    go_wp2
    go_ret
    exact ⟨rfl, hbl⟩
end Go.Proofs.Ytnlcmheahihlpaa.qk
