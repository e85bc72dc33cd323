/- FnMarks: the contracts in the words of its walk. -/
import Derived.Test.YtlfhfcgcfggjcaaDoorMarkBase
import Derived.WalkKit
import Derived.WalkLawsBesides
import Derived.ProofKit
import Derived.OpenShut
import Derived.ShutString
import Derived.Test.YtlfhfcgcfggjcaaDoorMw06
import Derived.Test.YtlfhfcgcfggjcaaDoorMw01
import Derived.Test.YtlfhfcgcfggjcaaDoorMw02
import Derived.Test.YtlfhfcgcfggjcaaDoorMw03

/- The two tests of a key, the specification's and the program's, answer alike at every text of at most 1048576 bytes; no world is changed. -/
namespace Go.Proofs.YtlfhfcgcfggjcaaDoor.ky
open Go.ChangeShapes Go.WideShapes Go.ChangeAt Go.RowKit

def bt (s : ByteArray) (k : Nat) : Nat := if h : k < s.size then s[k].toNat else 0
theorem bt_eq (s : ByteArray) (k : Nat) (h : k < s.size) : s[k].toNat = bt s k := by simp [bt, h]

def good (s : ByteArray) : Bool := decide (s.size ≤ 60 ∧ ∀ j, j < s.size → 33 ≤ bt s j ∧ bt s j ≤ 126)

theorem good_true (s : ByteArray) (h2 : s.size ≤ 60) (h : ∀ j, j < s.size → 33 ≤ bt s j ∧ bt s j ≤ 126) : good s = true := by
  simp only [good, decide_eq_true_eq]
  exact ⟨h2, fun j hj => h j hj⟩
theorem good_size (s : ByteArray) (h : 60 < s.size) : good s = false := by
  simp only [good, decide_eq_false_iff_not]
  omega
theorem good_byte (s : ByteArray) (j : Nat) (hj : j < s.size) (h : ¬ (33 ≤ bt s j ∧ bt s j ≤ 126)) : good s = false := by
  simp only [good, decide_eq_false_iff_not]
  intro hh
  exact h (hh.2 j hj)

theorem next_all {s : ByteArray} {k b : Nat} (hall : ∀ j, j < k → 33 ≤ bt s j ∧ bt s j ≤ 126) (hb : bt s k = b) (h1 : 33 ≤ b) (h2 : b ≤ 126) : ∀ j, j < k + 1 → 33 ≤ bt s j ∧ bt s j ≤ 126 := by
  intro j hj
  by_cases e : j = k
  · subst e; rw [hb]; exact ⟨h1, h2⟩
  · exact hall j (by omega)

theorem spec_key (s : ByteArray) (w : World) (hs : s.size ≤ 1048576) :
    Calls Tryd.prog 36 #[.string s] w fun e w' => e = .returned (.bool (good s)) ∧ w = w' := by
  go_enter Tryd.func36, Tryd.ntmps36
  go_wp2
  go_loop [3] (fun c => ∃ k : Nat, k ≤ s.size ∧ c = .int .i64 k ∧ Hid (∀ j, j < k → 33 ≤ bt s j ∧ bt s j ≤ 126)) (fun c => s.size - (intOf c).toNat)
  case atStart => exact ⟨0, Nat.zero_le _, rfl, fun j hj => by omega⟩
  case round =>
    obtain ⟨k, hk, rfl, hall⟩ := hrel
    by_cases hkz : k < s.size
    · obtain ⟨b, hb⟩ : ∃ b, s[k].toNat = b := ⟨_, rfl⟩
      have hbt : Hid (bt s k = b) := by unfold Hid; rw [← bt_eq s k hkz, hb]
      have hble : b ≤ 255 := by have := s[k].toNat_lt; omega
      have hin := within (b : Int) 33 126 w
      by_cases hn : 33 ≤ b ∧ b ≤ 126
      · rw [decide_eq_true (show (33 : Int) ≤ b ∧ (b : Int) ≤ 126 by omega)] at hin
        go_wp2_with (go_at_call 37; refine hin.mono ?_; rintro e w0 ⟨rfl, hw0⟩; obtain rfl := hw0.symm)
        go_round
        case rel => exact ⟨k + 1, by omega, by go_num, next_all hall.out hbt.out hn.1 hn.2⟩
        case measure => simp [intOf]; omega
      · rw [decide_eq_false (show ¬ ((33 : Int) ≤ b ∧ (b : Int) ≤ 126) by omega)] at hin
        go_wp2_with (go_at_call 37; refine hin.mono ?_; rintro e w0 ⟨rfl, hw0⟩; obtain rfl := hw0.symm)
        go_ret
        rw [good_byte s k hkz (by rw [hbt.out]; exact hn)]
        exact ⟨rfl, rfl⟩
    · obtain rfl : k = s.size := by omega
      go_wp2
      go_ret
      refine ⟨?_, rfl⟩
      by_cases h60 : s.size ≤ 60
      · rw [good_true s h60 hall.out]; simp; try omega
      · rw [good_size s (by omega)]; simp; try omega

theorem impl_key (s : ByteArray) (w : World) (hs : s.size ≤ 1048576) :
    Calls Tryd.prog 34 #[.string s] w fun e w' => e = .returned (.bool (good s)) ∧ w = w' := by
  by_cases h60 : 60 < s.size
  · rw [good_size s (by omega)]
    go_enter Tryd.func34, Tryd.ntmps34
    go_wp2
    go_ret
    exact ⟨rfl, rfl⟩
  go_enter Tryd.func34, Tryd.ntmps34
  go_wp2
  go_loop [9] (fun c => ∃ k : Nat, k ≤ s.size ∧ c = .int .i64 k ∧ Hid (∀ j, j < k → 33 ≤ bt s j ∧ bt s j ≤ 126)) (fun c => s.size - (intOf c).toNat)
  case atStart => exact ⟨0, Nat.zero_le _, rfl, fun j hj => by omega⟩
  case round =>
    obtain ⟨k, hk, rfl, hall⟩ := hrel
    by_cases hkz : k < s.size
    · obtain ⟨b, hb⟩ : ∃ b, s[k].toNat = b := ⟨_, rfl⟩
      have hbt : Hid (bt s k = b) := by unfold Hid; rw [← bt_eq s k hkz, hb]
      by_cases hn : 33 ≤ b
      · by_cases hm : b ≤ 126
        · go_wp2
          go_round
          case rel => exact ⟨k + 1, by omega, by go_num, next_all hall.out hbt.out hn hm⟩
          case measure => simp [intOf]; omega
        · go_wp2
          go_ret
          rw [good_byte s k hkz (by rw [hbt.out]; omega)]
          exact ⟨rfl, rfl⟩
      · go_wp2
        go_ret
        rw [good_byte s k hkz (by rw [hbt.out]; omega)]
        exact ⟨rfl, rfl⟩
    · obtain rfl : k = s.size := by omega
      go_wp2
      go_ret
      rw [good_true s (by omega) hall.out]
      exact ⟨rfl, rfl⟩
end Go.Proofs.YtlfhfcgcfggjcaaDoor.ky

/- StreamPart, the specification's and the program's. -/
namespace Go.Proofs.YtlfhfcgcfggjcaaDoor.prt
open Go.ChangeShapes Go.WideShapes Go.ChangeAt Go.RowKit
set_option linter.unusedVariables false

def part (k : ByteArray) (n : Int) : Int := if ky.good k = true ∧ 1 ≤ n ∧ n ≤ 1000 then (cs.sum k : Int) % n else -1
theorem sum_lt (k : ByteArray) : cs.sum k < 4294967296 := cs.xor_lt (cs.st_lt k _) (by decide)
theorem emod_lt {s : Nat} {n : Int} (h1 : 1 ≤ n) (hs : s < 4294967296) : 0 ≤ (s : Int) % n ∧ (s : Int) % n < 4294967296 := by
  have h2 : Int.tmod (s : Int) n = (s : Int) % n := Int.tmod_eq_emod_of_nonneg (by omega)
  obtain ⟨m, rfl⟩ : ∃ m : Nat, n = (m : Int) := ⟨n.toNat, by omega⟩
  have h3 : Int.tmod (s : Int) (m : Int) = ((s % m : Nat) : Int) := rfl
  have h4 := Nat.mod_le s m
  omega
theorem tmod_lt {s : Nat} {n : Int} (h1 : 1 ≤ n) (hs : s < 4294967296) : 0 ≤ Int.tmod (s : Int) n ∧ Int.tmod (s : Int) n < 4294967296 := by
  obtain ⟨m, rfl⟩ : ∃ m : Nat, n = (m : Int) := ⟨n.toNat, by omega⟩
  have h2 : Int.tmod (s : Int) (m : Int) = ((s % m : Nat) : Int) := rfl
  have h3 := Nat.mod_le s m
  omega
set_option maxHeartbeats 1000000 in
theorem spec_part (k : ByteArray) (n : Int) (w : World) (hs : k.size ≤ 1048576) : Calls Tryd.prog 17 #[.string k, .int .i64 n] w fun e w' => e = .returned (.int .i64 (part k n)) ∧ w' = w := by
  have hk := fun W => ky.spec_key k W hs
  have hc := fun W => cs.spec_sum k W hs
  have hl := sum_lt k
  obtain ⟨s, hsm⟩ : ∃ s, cs.sum k = s := ⟨_, rfl⟩
  unfold part
  rw [hsm] at hl ⊢
  simp only [hsm] at hc
  cases hg : ky.good k with
  | false =>
    simp only [hg] at hk
    rw [if_neg (by simp)]
    go_enter Tryd.func17, Tryd.ntmps17
    go_wp2_with (go_at_call 36; refine (hk _).mono ?_; rintro e w0 ⟨rfl, hw0⟩; rw [← hw0]; clear hw0 w0)
    go_ret
    exact ⟨rfl, rfl⟩
  | true =>
    simp only [hg] at hk
    by_cases hn : 1 ≤ n ∧ n ≤ 1000
    · have f0 : decide ((1 : Int) ≤ n ∧ n ≤ 1000) = true := decide_eq_true hn
      have n0 : n ≠ 0 := by omega
      have t0 := tmod_lt hn.1 hl
      have i1 : IntKind.i64.wrap (s : Int) = (s : Int) := by rw [IntKind.wrap_i64]; omega
      have t1 := emod_lt hn.1 hl
      have i3 : IntKind.i64.wrap ((s : Int) % n) = (s : Int) % n := by rw [IntKind.wrap_i64]; omega
      have i2 : IntKind.i64.wrap (Int.tmod (s : Int) n) = Int.tmod (s : Int) n := by rw [IntKind.wrap_i64]; omega
      rw [if_pos ⟨rfl, hn⟩]
      go_enter Tryd.func17, Tryd.ntmps17
      go_wp2_with (first | (go_at_call 36; refine (hk _).mono ?_; rintro e w0 ⟨rfl, hw0⟩; rw [← hw0]; clear hw0 w0) | (go_at_call 37; refine (ky.within _ _ _ _).mono ?_; rintro e w0 ⟨rfl, hw0⟩; rw [← hw0]; clear hw0 w0; try rw [f0]) | (go_at_call 38; refine (hc _).mono ?_; rintro e w0 ⟨rfl, hw0⟩; rw [← hw0]; clear hw0 w0))
      go_ret
      exact ⟨rfl, rfl⟩
    · have f0 : decide ((1 : Int) ≤ n ∧ n ≤ 1000) = false := decide_eq_false hn
      rw [if_neg (fun h => hn h.2)]
      go_enter Tryd.func17, Tryd.ntmps17
      go_wp2_with (first | (go_at_call 36; refine (hk _).mono ?_; rintro e w0 ⟨rfl, hw0⟩; rw [← hw0]; clear hw0 w0) | (go_at_call 37; refine (ky.within _ _ _ _).mono ?_; rintro e w0 ⟨rfl, hw0⟩; rw [← hw0]; clear hw0 w0; try rw [f0]))
      go_ret
      exact ⟨rfl, rfl⟩
set_option maxHeartbeats 1000000 in
theorem impl_part (k : ByteArray) (n : Int) (w : World) (hs : k.size ≤ 1048576) (htab : ∀ r, r < 16 → w.cell? ⟨0, r, none⟩ = some (.int .u32 (cs.tab r : Int))) : Calls Tryd.prog 13 #[.string k, .int .i64 n] w fun e w' => e = .returned (.int .i64 (part k n)) ∧ w' = w := by
  have hk := fun W => ky.impl_key k W hs
  have hc := cs.impl_sum k w hs htab
  have hl := sum_lt k
  obtain ⟨s, hsm⟩ : ∃ s, cs.sum k = s := ⟨_, rfl⟩
  unfold part
  rw [hsm] at hl ⊢ hc
  clear htab
  by_cases h1 : n < 1
  · have f1 : decide (n < 1) = true := decide_eq_true h1
    rw [if_neg (by omega)]
    go_enter Tryd.func13, Tryd.ntmps13
    go_wp2
    go_ret
    exact ⟨rfl, rfl⟩
  have f1 : decide (n < 1) = false := decide_eq_false h1
  by_cases h2 : 1000 < n
  · have f2 : decide ((1000 : Int) < n) = true := decide_eq_true h2
    rw [if_neg (by omega)]
    go_enter Tryd.func13, Tryd.ntmps13
    go_wp2
    go_ret
    exact ⟨rfl, rfl⟩
  have f2 : decide ((1000 : Int) < n) = false := decide_eq_false h2
  cases hg : ky.good k with
  | false =>
    simp only [hg] at hk
    rw [if_neg (by simp)]
    go_enter Tryd.func13, Tryd.ntmps13
    go_wp2_with (go_at_call 34; refine (hk _).mono ?_; rintro e w0 ⟨rfl, hw0⟩; rw [← hw0]; clear hw0 w0)
    go_ret
    exact ⟨rfl, rfl⟩
  | true =>
    simp only [hg] at hk
    have n0 : n ≠ 0 := by omega
    have t0 := tmod_lt (show 1 ≤ n by omega) hl
    have i1 : IntKind.i64.wrap (s : Int) = (s : Int) := by rw [IntKind.wrap_i64]; omega
    have t1 := emod_lt (show 1 ≤ n by omega) hl
    have i3 : IntKind.i64.wrap ((s : Int) % n) = (s : Int) % n := by rw [IntKind.wrap_i64]; omega
    have i2 : IntKind.i64.wrap (Int.tmod (s : Int) n) = Int.tmod (s : Int) n := by rw [IntKind.wrap_i64]; omega
    rw [if_pos ⟨rfl, by omega, by omega⟩]
    go_enter Tryd.func13, Tryd.ntmps13
    go_wp2_with (first | (go_at_call 34; refine (hk _).mono ?_; rintro e w0 ⟨rfl, hw0⟩; rw [← hw0]; clear hw0 w0) | (go_at_call 35; refine hc.mono ?_; rintro e w0 ⟨rfl, hw0⟩; rw [← hw0]; clear hw0 w0))
    go_ret
    exact ⟨rfl, rfl⟩

end Go.Proofs.YtlfhfcgcfggjcaaDoor.prt

/- FnMarks: the contracts in the words of its walk. -/
namespace Go.Proofs.YtlfhfcgcfggjcaaDoor.mtt
open Go.ChangeShapes Go.WideShapes Go.ChangeAt Go.RowKit Go.Proofs.YtlfhfcgcfggjcaaDoor.fl Go.Proofs.YtlfhfcgcfggjcaaDoor.fo Go.Proofs.YtlfhfcgcfggjcaaDoor.dw Go.Proofs.YtlfhfcgcfggjcaaDoor.rr Go.Proofs.YtlfhfcgcfggjcaaDoor.st Go.Proofs.YtlfhfcgcfggjcaaDoor.scp Go.Proofs.YtlfhfcgcfggjcaaDoor.spw Go.Proofs.YtlfhfcgcfggjcaaDoor.dsl
set_option linter.unusedVariables false

/-- a stream as it lies -/
structure Im (W : World) (es : List flY.En) (ms : List Ex) (ga : Option Addr) (cg : Nat) (ha : Option Addr) (ch : Nat) : Prop where
  re : Row flY.c 3 W W.heap.size ga es
  rm : Row flK.c 2 W W.heap.size ha ms
  pl : ∃ g k, (0 < es.length → ga = some ⟨g, 0, none⟩) ∧ (0 < ms.length → ha = some ⟨k, 0, none⟩) ∧ RY W g es ∧ RE W k ms
/-- the table of the sums is laid -/
def TB (W : World) : Prop := ∀ r, r < 16 → W.cell? ⟨0, r, none⟩ = some (.int .u32 (cs.tab r : Int))
theorem TB.below {W W' : World} (h : TB W) (hb : Below W.heap.size W W') : TB W' := fun r hr => (hb.cell (block_lt_of_cell (h r hr))).trans (h r hr)
theorem sS_small : (⟨#[115]⟩ : ByteArray).size ≤ 1000 := by decide
theorem part_in (k : ByteArray) (n : Int) : prt.part k n = -1 ∨ (0 ≤ prt.part k n ∧ prt.part k n < n) := by
  unfold prt.part
  split
  · next h => exact .inr ⟨Int.emod_nonneg _ (by omega), Int.emod_lt_of_pos _ (by omega)⟩
  · exact .inl rfl
section
variable {B : Nat} {W W' : World} {lo nx : Int} {es : List flY.En} {ms : List Ex} {ga : Option Addr} {cg : Nat} {ha : Option Addr} {ch : Nat}
theorem Im.below (h : Im W es ms ga cg ha ch) (hb : Below W.heap.size W W') : Im W' es ms ga cg ha ch := by
  obtain ⟨g, k, h1, h2, h3, h4⟩ := h.pl
  exact ⟨h.re.inn hb, h.rm.inn hb, ⟨g, k, h1, h2, h3.below hb, h4.below hb⟩⟩
theorem Dr.im (h : Dr B W es ms ga cg ha ch) (hW : 0 < W.heap.size) : Im W es ms ga cg ha ch := by
  obtain ⟨g, k, n1, n2, r1, r2, l1, l2⟩ := h.use hW
  obtain ⟨q1, q2⟩ := h.rows
  exact ⟨q1, q2, ⟨g, k, n1.at, n2.at, r1, r2⟩⟩
theorem ry_own {g : Nat} {T : TypeId} (h : OwnO flY.c 3 T W g 0 es es.length) : RY W g es := by
  refine ⟨h.lt, fun i e he => ?_⟩
  rcases h.row with rfl | ⟨b, o2, hb, hlt, hc⟩
  · simp at he
  · cases hb
    exact ⟨by simpa using hc i e he 0 _ rfl, by simpa using hc i e he 1 _ rfl, by simpa using hc i e he 2 _ rfl⟩
theorem re_own {g : Nat} {T : TypeId} (h : OwnO flK.c 2 T W g 0 ms ms.length) : RE W g ms := by
  refine ⟨h.lt, fun i e he => ?_⟩
  rcases h.row with rfl | ⟨b, o2, hb, hlt, hc⟩
  · simp at he
  · cases hb
    exact ⟨by simpa using hc i e he 0 _ rfl, by simpa using hc i e he 1 _ rfl⟩
theorem mark_fit {r : ByteArray} {o : Int} (h : Sm 500 nx es ms) (hr : r.size ≤ 1000) : Fit ⟨#[115]⟩ es (smp.ansM ⟨#[115]⟩ lo nx es ms r o) := by
  have F := h.fit (by omega) sS_small (sn := ⟨#[115]⟩)
  have hl := smp.ansM_le ⟨#[115]⟩ lo nx es ms r o
  refine ⟨F.ns, F.el, by have := h.ml; omega, F.eb, fun e he => ?_⟩
  unfold smp.ansM at he
  split at he
  · rcases smp.setM_mem he with he | he
    · exact F.mb e he
    · rw [he]; show r.size ≤ _; omega
  · exact F.mb e he
theorem t_mark (h : Dr B W es ms ga cg ha ch) (hW : 0 < W.heap.size) (hsm : Sm 500 nx es ms) (r : ByteArray) (o : Int) (hr : r.size ≤ 1000) : Calls Tryd.prog 6 #[.agg #[.string ⟨#[115]⟩, .int .i64 lo, .int .i64 nx, .slice ga es.length cg, .slice ha ms.length ch], .string r, .int .i64 o] W fun e w' =>
    ∃ sa ce sb cb, e = .returned (.tuple #[.agg #[.string ⟨#[115]⟩, .int .i64 lo, .int .i64 nx, .slice sa es.length ce, .slice sb (smp.ansM ⟨#[115]⟩ lo nx es ms r o).length cb], .bool (smp.fits ⟨#[115]⟩ lo nx es ms r o)]) ∧ Im w' es (smp.ansM ⟨#[115]⟩ lo nx es ms r o) sa ce sb cb ∧ Below W.heap.size W w' := by
  obtain ⟨g, k, n1, n2, r1, r2, l1, l2⟩ := h.use hW
  refine (imk.impl_mark ⟨#[115]⟩ lo nx es ms g k cg ch r o W (hsm.fit (by omega) sS_small) (by omega) r1 r2 ga ha n1.at n2.at).mono ?_
  rintro e w' ⟨g1, c1, g2, c2, rfl, _, _, _, _, m1, m2, hb⟩
  exact ⟨_, _, _, _, rfl, ⟨m1.row, m2.row, ⟨g1, g2, fun _ => rfl, fun _ => rfl, ry_own m1, re_own m2⟩⟩, hb⟩
theorem s_mark (h : Dr B W es ms ga cg ha ch) (hW : 0 < W.heap.size) (hsm : Sm 500 nx es ms) (r : ByteArray) (o : Int) (hr : r.size ≤ 1000) : Calls Tryd.prog 7 #[.agg #[.string ⟨#[115]⟩, .int .i64 lo, .int .i64 nx, .slice ga es.length cg, .slice ha ms.length ch], .string r, .int .i64 o] W fun e w' =>
    ∃ sa ce sb cb, e = .returned (.tuple #[.agg #[.string ⟨#[115]⟩, .int .i64 lo, .int .i64 nx, .slice sa es.length ce, .slice sb (smp.ansM ⟨#[115]⟩ lo nx es ms r o).length cb], .bool (smp.fits ⟨#[115]⟩ lo nx es ms r o)]) ∧ Im w' es (smp.ansM ⟨#[115]⟩ lo nx es ms r o) sa ce sb cb ∧ Below W.heap.size W w' := by
  obtain ⟨g, k, n1, n2, r1, r2, l1, l2⟩ := h.use hW
  refine (smk.spec_mark ⟨#[115]⟩ lo nx es ms g k cg ch r o W (hsm.fit (by omega) sS_small) (by omega) r1 r2 ga ha n1 n2 l2).mono ?_
  rintro e w' ⟨sa, ce, sb, cb, rfl, m1, m2, hb⟩
  exact ⟨_, _, _, _, rfl, Dr.im (dr_of m1 m2) (by have := hb.size; omega), hb⟩
theorem t_read (h : Dr B W es ms ga cg ha ch) (hW : 0 < W.heap.size) (hsm : Sm 500 nx es ms) (off most : Int) : Calls Tryd.prog 9 #[.agg #[.string ⟨#[115]⟩, .int .i64 lo, .int .i64 nx, .slice ga es.length cg, .slice ha ms.length ch], .int .i64 off, .int .i64 most] W fun e w' =>
    ∃ a cap, e = .returned (.slice a (srd.read ⟨#[115]⟩ lo nx es ms off most).length cap) ∧ Row flY.c 3 w' w'.heap.size a (srd.read ⟨#[115]⟩ lo nx es ms off most) ∧ Below W.heap.size W w' := by
  obtain ⟨g, k, n1, n2, r1, r2, l1, l2⟩ := h.use hW
  refine (sri.impl_read ⟨#[115]⟩ lo nx es ms g k cg ch off most W (hsm.fit (by omega) sS_small) 0 (ce.ryo r1) r2 ga ha n1 n2.at l1).mono ?_
  rintro e w' ⟨a, cap, rfl, hm, hb⟩
  exact ⟨a, cap, rfl, hm.row, hb⟩
theorem s_read (h : Dr B W es ms ga cg ha ch) (hW : 0 < W.heap.size) (hsm : Sm 500 nx es ms) (off most : Int) : Calls Tryd.prog 10 #[.agg #[.string ⟨#[115]⟩, .int .i64 lo, .int .i64 nx, .slice ga es.length cg, .slice ha ms.length ch], .int .i64 off, .int .i64 most] W fun e w' =>
    ∃ a cap, e = .returned (.slice a (srd.read ⟨#[115]⟩ lo nx es ms off most).length cap) ∧ Row flY.c 3 w' w'.heap.size a (srd.read ⟨#[115]⟩ lo nx es ms off most) ∧ Below W.heap.size W w' := by
  obtain ⟨g, k, n1, n2, r1, r2, l1, l2⟩ := h.use hW
  exact srd.spec_read ⟨#[115]⟩ lo nx es ms g k cg ch off most W (hsm.fit (by omega) sS_small) r1 r2 ga ha n1.at n2.at
theorem t_marked (h : Im W es ms ga cg ha ch) (F : Fit ⟨#[115]⟩ es ms) (rd : ByteArray) : Calls Tryd.prog 15 #[.agg #[.string ⟨#[115]⟩, .int .i64 lo, .int .i64 nx, .slice ga es.length cg, .slice ha ms.length ch], .string rd] W fun e w' => e = .returned (.int .i64 (smk.mark ms rd)) ∧ Below W.heap.size W w' := by
  obtain ⟨g, k, h1, h2, h3, h4⟩ := h.pl
  exact smk.impl_marked ⟨#[115]⟩ lo nx es ms g k cg ch rd W F h3 h4 ga ha h1 h2
theorem s_marked (h : Im W es ms ga cg ha ch) (F : Fit ⟨#[115]⟩ es ms) (rd : ByteArray) : Calls Tryd.prog 16 #[.agg #[.string ⟨#[115]⟩, .int .i64 lo, .int .i64 nx, .slice ga es.length cg, .slice ha ms.length ch], .string rd] W fun e w' => e = .returned (.int .i64 (smk.mark ms rd)) ∧ Below W.heap.size W w' := by
  obtain ⟨g, k, h1, h2, h3, h4⟩ := h.pl
  exact smk.spec_marked ⟨#[115]⟩ lo nx es ms g k cg ch rd W F h3 h4 ga ha h1 h2
theorem same {a2 b2 : Option Addr} {c2 d2 : Nat} (h : Im W es ms ga cg ha ch) (h2 : Im W es ms a2 c2 b2 d2) (F : Fit ⟨#[115]⟩ es ms) : Calls Tryd.prog 14 #[.agg #[.string ⟨#[115]⟩, .int .i64 lo, .int .i64 nx, .slice ga es.length cg, .slice ha ms.length ch], .agg #[.string ⟨#[115]⟩, .int .i64 lo, .int .i64 nx, .slice a2 es.length c2, .slice b2 ms.length d2]] W fun e w' => e = .returned (.bool true) ∧ Below W.heap.size W w' :=
  sst.same_stream ⟨#[115]⟩ lo nx es ms ga a2 ha b2 cg c2 ch d2 W F h.re h2.re h.rm h2.rm
end
end Go.Proofs.YtlfhfcgcfggjcaaDoor.mtt
