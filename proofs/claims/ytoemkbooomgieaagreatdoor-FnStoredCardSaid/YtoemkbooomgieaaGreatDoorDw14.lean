/- Records: what is read, on bytes: the records one behind the other, each from where the one ahead ended. -/
import Derived.Test.YtoemkbooomgieaaGreatDoorFlPair
import Derived.Test.YtoemkbooomgieaaGreatDoorQuietIn
import Derived.WalkSpells
import Derived.Below
import Derived.Lib.Strings
import Derived.Deep.RegionWith
import Derived.BigRegion
import Derived.Laws.EntriesVeiled
import Derived.Test.YtoemkbooomgieaaGreatDoorDw13
import Derived.Test.YtoemkbooomgieaaGreatDoorRows
import Derived.WalkKit
import Derived.WalkLawsBesides
import Derived.ProofKit
import Derived.OpenShut
import Derived.ShutString
import Derived.Laws.BitsAllLaws

/- A list of pairs that weighs little: each of it does. -/
namespace Go.Proofs.YtoemkbooomgieaaGreatDoor.bs
open Go.Proofs.YtoemkbooomgieaaGreatDoor.fl
structure Fit (l : List flP.Pr) : Prop where
  ll : l.length ≤ 1048576
  lo : ∀ e ∈ l, e.k.size ≤ 1048576 ∧ e.v.size ≤ 1048576
end Go.Proofs.YtoemkbooomgieaaGreatDoor.bs

/- What a right batch is; BatchOk, of the specification and of the program; new memory alone. -/
set_option linter.unusedVariables false
namespace Go.Proofs.YtoemkbooomgieaaGreatDoor.bo
open Go.ChangeShapes Go.WideShapes Go.ChangeAt Go.RowKit Go.Proofs.YtoemkbooomgieaaGreatDoor.fl

def okP (e : flP.Pr) : Prop := 1 ≤ e.k.size ∧ e.k.size ≤ 100 ∧ e.v.size ≤ 4000 ∧ (e.g = true → e.v = ⟨#[]⟩)
/-- a right batch -/
def OkB (l : List flP.Pr) : Prop := l.length ≤ 60 ∧ ∀ (i : Nat) e, l[i]? = some e → okP e
theorem emp_eq {v : ByteArray} (h : v ≠ ⟨#[]⟩) : (v.toList == ([] : List UInt8)) = false ∧ v.size ≠ 0 := by
  obtain ⟨⟨l⟩⟩ := v
  cases l with
  | nil => exact absurd rfl h
  | cons a r => exact ⟨by simp [ByteArray.toList_eq], by simp [ByteArray.size]⟩

/-- one bool, by what it tells -/
def Ans (r : Ending) (P : Prop) : Prop := ∃ b : Bool, r = .returned (.bool b) ∧ (b = true ↔ P)

set_option maxRecDepth 100000 in
theorem pair_ok (e : flP.Pr) (w : World) (hk : e.k.size ≤ 1048576) (hv : e.v.size ≤ 1048576) : Calls Tryz.prog 94 #[.agg #[.string e.k, .string e.v, .bool e.g]] w fun r w' => Ans r (okP e) ∧ Below w.heap.size w w' := by
  obtain ⟨pk, pv, pg⟩ := e
  have hb : ∀ pv pg, Below w.heap.size w (w.alloc (.cells #[.string pk, .string pv, .bool pg] 61)) := fun _ _ => (Below.refl _ _).alloc (Nat.le_refl _) _
  by_cases h3 : pg = true ∧ pv ≠ ⟨#[]⟩
  · obtain ⟨rfl, hne⟩ := h3
    obtain ⟨hv1, hv2⟩ := emp_eq hne
    have hbad : Hid (¬ okP ⟨pk, pv, true⟩) := fun h => hne (h.2.2.2 rfl)
    go_enter Tryz.func94, Tryz.ntmps94
    go_wp2
    go_ret
    exact ⟨⟨false, rfl, by simp; exact hbad.out⟩, hb _ _⟩
  have h3' : pg = false ∨ (pg = true ∧ pv = ⟨#[]⟩) := by
    cases pg with
    | false => exact .inl rfl
    | true => exact .inr ⟨rfl, Classical.byContradiction fun h2 => h3 ⟨rfl, h2⟩⟩
  have H3 : Hid (pg = true → pv = ⟨#[]⟩) := fun h => Classical.byContradiction fun h2 => h3 ⟨h, h2⟩
  clear h3
  by_cases h1 : 1 ≤ pk.size
  case neg =>
    have hd : decide ((1 : Int) ≤ (pk.size : Int)) = false := by simp; omega
    have hbad : Hid (¬ okP ⟨pk, pv, pg⟩) := fun h => h1 h.1
    rcases h3' with rfl | ⟨rfl, rfl⟩
    all_goals
      go_enter Tryz.func94, Tryz.ntmps94
      go_wp2
      go_ret
      exact ⟨⟨false, rfl, by simp; exact hbad.out⟩, hb _ _⟩
  case pos =>
    have hd : decide ((1 : Int) ≤ (pk.size : Int)) = true := by simp; omega
    by_cases h2 : pk.size ≤ 100
    case neg =>
      have hd2 : decide ((pk.size : Int) ≤ 100) = false := by simp; omega
      have hbad : Hid (¬ okP ⟨pk, pv, pg⟩) := fun h => h2 h.2.1
      rcases h3' with rfl | ⟨rfl, rfl⟩
      all_goals
        go_enter Tryz.func94, Tryz.ntmps94
        go_wp2
        go_ret
        exact ⟨⟨false, rfl, by simp; exact hbad.out⟩, hb _ _⟩
    case pos =>
      have hd2 : decide ((pk.size : Int) ≤ 100) = true := by simp; omega
      have hok : Hid (decide ((pv.size : Int) ≤ 4000) = true ↔ okP ⟨pk, pv, pg⟩) := by
        unfold Hid
        simp only [decide_eq_true_eq]
        exact ⟨fun h => ⟨h1, h2, by show pv.size ≤ 4000; omega, H3.out⟩, fun h => by have := h.2.2.1; simp only at this; omega⟩
      rcases h3' with rfl | ⟨rfl, rfl⟩
      all_goals
        go_enter Tryz.func94, Tryz.ntmps94
        go_wp2
        go_ret
        first | exact ⟨⟨_, rfl, hok.out⟩, hb _ _⟩ | exact ⟨⟨true, rfl, by simpa using hok.out⟩, hb _ _⟩

def OkM (m : Nat) (l : List flP.Pr) : Prop := l.length ≤ m ∧ ∀ (i : Nat) e, l[i]? = some e → okP e
theorem bad_m {m : Nat} {l : List flP.Pr} {k : Nat} {e : flP.Pr} (he : l[k]? = some e) (h1 : ¬ okP e) : ¬ OkM m l := fun h => h1 (h.2 k e he)
set_option maxRecDepth 100000 in
set_option maxHeartbeats 1000000 in
theorem impl_pairs (l : List flP.Pr) (a : Option Addr) (cap m : Nat) (hm : m ≤ 1048576) (w : World) (hl : l.length ≤ 1048576) (hx : ∀ e ∈ l, e.k.size ≤ 1048576 ∧ e.v.size ≤ 1048576) (hS : Row flP.c 3 w w.heap.size a l) :
    Calls Tryz.prog 66 #[.slice a l.length cap, .int .i64 m] w fun r w' => (∃ b : Bool, r = .returned (.bool b) ∧ (b = true ↔ OkM m l)) ∧ Below w.heap.size w w' := by
  by_cases hbig : m < l.length
  · have hd : m < l.length := by omega
    have hbad : Hid (¬ OkM m l) := fun h => by have := h.1; omega
    clear hS
    go_enter Tryz.func66, Tryz.ntmps66
    go_wp2
    go_ret
    exact ⟨⟨false, rfl, by simp; exact hbad.out⟩, Below.refl _ _⟩
  have hd : ¬ m < l.length := by omega
  have HS : Hid (Row flP.c 3 w w.heap.size a l) := hS
  have HX : Hid (∀ e ∈ l, e.k.size ≤ 1048576 ∧ e.v.size ≤ 1048576) := hx
  have HLL : Hid (l.length ≤ m) := by unfold Hid; omega
  clear hS hx hbig
  go_enter Tryz.func66, Tryz.ntmps66
  go_wp2
  go_loopw [6, 13] (fun _ x wr => ∃ k : Nat, k ≤ l.length ∧ x = .int .i64 k ∧ Hid (∀ (i : Nat) e, i < k → l[i]? = some e → okP e) ∧ Below w.heap.size w wr) (fun _ x _ => l.length - (intOf x).toNat)
  case atStart => exact ⟨0, Nat.zero_le _, rfl, fun i e h => by omega, Below.refl _ _⟩
  case round =>
    obtain ⟨k, hk, rfl, hgood, hbel⟩ := hrel
    have hbs := hbel.size
    by_cases hkl : k < l.length
    · rcases HS.out with h0 | ⟨b, off, rfl, hlt, hc⟩
      · rw [h0] at hkl; simp at hkl
      have HG : Hid (l[k]? = some l[k]) := List.getElem?_eq_getElem hkl
      have hxs := HX.out l[k] (List.getElem_mem hkl)
      obtain ⟨⟨pk, pv, pg⟩, he⟩ : ∃ e, l[k] = e := ⟨_, rfl⟩
      rw [he] at HG hxs
      have c0 : wr.cell? ⟨b, off + k * 3, none⟩ = some (.string pk) := (hbel.cell (p := ⟨b, off + k * 3, none⟩) hlt).trans (hc k _ HG.out 0 _ rfl)
      have c1 : wr.cell? ⟨b, off + k * 3 + 1, none⟩ = some (.string pv) := (hbel.cell (p := ⟨b, off + k * 3 + 1, none⟩) hlt).trans (hc k _ HG.out 1 _ rfl)
      have c2 : wr.cell? ⟨b, off + k * 3 + 2, none⟩ = some (.bool pg) := (hbel.cell (p := ⟨b, off + k * 3 + 2, none⟩) hlt).trans (hc k _ HG.out 2 _ rfl)
      have hone := pair_ok ⟨pk, pv, pg⟩ (wr.alloc (.cells #[.string pk, .string pv, .bool pg] 61)) hxs.1 hxs.2
      have hal : Below w.heap.size w (wr.alloc (.cells #[.string pk, .string pv, .bool pg] 61)) := hbel.alloc hbs _
      have i2 : (k : Int) < (l.length : Int) := by omega
      clear hc he hxs
      go_wp2_with (go_at_call 94; fail)
      refine hone.mono ?_
      rintro e w1 ⟨⟨bb, rfl, hbb⟩, hb1⟩
      have hb2 : Below w.heap.size w w1 := hal.trans (hb1.mono hal.size)
      have HBB : Hid (bb = true ↔ okP ⟨pk, pv, pg⟩) := hbb
      clear hone c0 c1 c2 hbb
      cases bb with
      | false =>
        have hbad : Hid (¬ OkM m l) := bad_m HG.out (fun h => by have := HBB.out.2 h; cases this)
        go_wp2
        go_ret
        exact ⟨⟨false, rfl, by simp; exact hbad.out⟩, hb2⟩
      | true =>
        have hn2 : Hid (∀ (i : Nat) e, i < k + 1 → l[i]? = some e → okP e) := fun i e hi h => by
          by_cases ei : i = k
          · subst ei; rw [HG.out] at h; cases h; exact HBB.out.1 (by trivial)
          · exact hgood.out i e (by omega) h
        go_wp2
        go_roundw
        case rel => exact ⟨k + 1, by omega, by go_num, hn2, hb2⟩
        case measure => simp [intOf]; omega
    · obtain rfl : k = l.length := by omega
      go_wp2
      go_ret
      exact ⟨⟨true, rfl, by simp; exact ⟨HLL.out, fun i e he => hgood.out i e (List.getElem?_eq_some_iff.1 he).1 he⟩⟩, hbel⟩

theorem impl_ok (l : List flP.Pr) (a : Option Addr) (cap : Nat) (w : World) (hl : l.length ≤ 1048576) (hx : ∀ e ∈ l, e.k.size ≤ 1048576 ∧ e.v.size ≤ 1048576) (hS : Row flP.c 3 w w.heap.size a l) :
    Calls Tryz.prog 83 #[.slice a l.length cap] w fun r w' => (∃ b : Bool, r = .returned (.bool b) ∧ (b = true ↔ OkB l)) ∧ Below w.heap.size w w' := by
  have hone := impl_pairs l a cap 60 (by omega) w hl hx hS
  go_enter Tryz.func83, Tryz.ntmps83
  go_wp2_with (go_at_call 66; refine hone.mono ?_; rintro e w1 ⟨⟨bb, rfl, hbb⟩, hb1⟩)
  go_ret
  exact ⟨⟨bb, rfl, hbb⟩, hb1⟩
noncomputable def okb (l : List flP.Pr) : Bool := @decide (OkB l) (Classical.propDecidable _)
theorem okb_iff (l : List flP.Pr) : okb l = true ↔ OkB l := by unfold okb; exact @decide_eq_true_iff _ (Classical.propDecidable _)
theorem okb_eq {l : List flP.Pr} {b : Bool} (h : b = true ↔ OkB l) : b = okb l := by
  cases b with
  | true => exact ((okb_iff l).2 (h.1 rfl)).symm
  | false =>
    cases h2 : okb l with
    | false => rfl
    | true => have := h.2 ((okb_iff l).1 h2); cases this
theorem impl_okb (l : List flP.Pr) (a : Option Addr) (cap : Nat) (w : World) (F : bs.Fit l) (hS : Row flP.c 3 w w.heap.size a l) :
    Calls Tryz.prog 83 #[.slice a l.length cap] w fun r w' => r = .returned (.bool (okb l)) ∧ Below w.heap.size w w' :=
  (impl_ok l a cap w F.ll F.lo hS).mono fun r w' ⟨⟨b, h1, h2⟩, h3⟩ => ⟨by rw [h1, okb_eq h2], h3⟩
end Go.Proofs.YtoemkbooomgieaaGreatDoor.bo

/- GetBatch: what is read, on bytes: the pairs one behind the other, each from where the one ahead ended. -/
namespace Go.Proofs.YtoemkbooomgieaaGreatDoor.gbp
open Go.ChangeShapes Go.WideShapes Go.ChangeAt Go.RowKit Go.Proofs.YtoemkbooomgieaaGreatDoor.fl
set_option linter.unusedVariables false

/-- the pair at a place, and the place behind it -/
def stp (s : ByteArray) (i : Int) : Option (flP.Pr × Int) :=
  if (gi.okAt s i 1 && (gs.here s (i + 1) && decide (gi.num s i 1 ≤ 1))) = true then
    (if gi.num s i 1 = 1 then some (⟨gs.text s (i + 1), ⟨#[]⟩, true⟩, gs.behind s (i + 1))
     else if gl.here s (gs.behind s (i + 1)) = true then some (⟨gs.text s (i + 1), gl.text s (gs.behind s (i + 1)), false⟩, gl.behind s (gs.behind s (i + 1))) else none)
  else none
/-- so many pairs from a place on, and the place behind them -/
def rn (s : ByteArray) : Nat → Int → Option (List flP.Pr × Int)
  | 0, i => some ([], i)
  | k + 1, i => match stp s i with
    | none => none
    | some (p, j) => match rn s k j with
      | none => none
      | some (l, e) => some (p :: l, e)
/-- the batch of all bytes -/
noncomputable def got (s : ByteArray) : Option (List flP.Pr) :=
  if (gi.okAt s 0 1 && decide (gi.num s 0 1 ≤ 60)) = true then
    match rn s (gi.num s 0 1).toNat 1 with
    | none => none
    | some (l, e) => if (decide (e = s.size) && bo.okb l) = true then some l else none
  else none
noncomputable def gotL (s : ByteArray) : List flP.Pr := (got s).getD []
noncomputable def gotB (s : ByteArray) : Bool := (got s).isSome
theorem got_none {s : ByteArray} (h : got s = none) : gotL s = [] ∧ gotB s = false := by
  unfold gotL gotB
  rw [h]
  exact ⟨rfl, rfl⟩
theorem got_some {s : ByteArray} {l : List flP.Pr} (h : got s = some l) : gotL s = l ∧ gotB s = true := by
  unfold gotL gotB
  rw [h]
  exact ⟨rfl, rfl⟩
/-- what is still to be read behind some pairs -/
def Left (s : ByteArray) (n : Nat) (l : List flP.Pr) (k : Nat) (i : Int) : Prop := rn s n 1 = match rn s k i with | none => none | some (m, e) => some (l ++ m, e)
theorem left_0 (s : ByteArray) (n : Nat) : Left s n [] n 1 := by
  unfold Left
  cases rn s n 1 with
  | none => rfl
  | some x => rfl
theorem left_no {s : ByteArray} {n : Nat} {l : List flP.Pr} {k : Nat} {i : Int} (h : Left s n l (k + 1) i) (hs : stp s i = none) : rn s n 1 = none := by
  unfold Left at h
  rw [h]
  unfold rn
  rw [hs]
theorem left_yes {s : ByteArray} {n : Nat} {l : List flP.Pr} {k : Nat} {i j : Int} {p : flP.Pr} (h : Left s n l (k + 1) i) (hs : stp s i = some (p, j)) : Left s n (l ++ [p]) k j := by
  unfold Left at h ⊢
  rw [h]
  simp only [rn, hs]
  cases hh : rn s k j with
  | none => simp
  | some x => simp
theorem left_end {s : ByteArray} {n : Nat} {l : List flP.Pr} {i : Int} (h : Left s n l 0 i) : rn s n 1 = some (l, i) := by
  unfold Left at h
  rw [h]
  simp [rn]
/-- a place behind a part lies in the text -/
theorem short_in {s : ByteArray} {i : Int} (h : gs.here s i = true) : 0 ≤ gs.behind s i ∧ gs.behind s i ≤ s.size := by
  unfold gs.behind
  rw [if_pos h]
  unfold gs.here at h
  simp only [Bool.and_eq_true, decide_eq_true_eq] at h
  have := gs.parts s i h.1.1
  omega
theorem long_in {s : ByteArray} {i : Int} (h : gl.here s i = true) : 0 ≤ gl.behind s i ∧ gl.behind s i ≤ s.size := by
  unfold gl.behind
  rw [if_pos h]
  unfold gl.here at h
  simp only [Bool.and_eq_true, decide_eq_true_eq] at h
  have := gl.parts s i h.1.1
  omega
theorem stop_at {s : ByteArray} {i : Int} (h : gi.okAt s i 1 = true) : gi.stop s i 1 = i + 1 := by
  unfold gi.stop
  rw [if_pos h]
theorem stop_no {s : ByteArray} {i : Int} (h : gi.okAt s i 1 = false) : gi.stop s i 1 = -1 ∧ gi.num s i 1 = 0 := by
  have := gs.none s i h
  exact ⟨this.2, this.1⟩
theorem short_no {s : ByteArray} {i : Int} (h : gs.here s i = false) : gs.behind s i = -1 := by
  unfold gs.behind
  rw [h]
  rfl
theorem long_no {s : ByteArray} {i : Int} (h : gl.here s i = false) : gl.behind s i = -1 := by
  unfold gl.behind
  rw [h]
  rfl
theorem at_in {s : ByteArray} {i : Int} (h : gi.okAt s i 1 = true) : 0 ≤ i ∧ i + 1 ≤ s.size ∧ 0 ≤ gi.num s i 1 ∧ gi.num s i 1 ≤ 255 := by
  have h1 := gs.parts s i h
  unfold gi.okAt at h
  simp only [Bool.and_eq_true, decide_eq_true_eq] at h
  omega
theorem text_small {s : ByteArray} {i : Int} (hs : s.size ≤ 1048576) : (gs.text s i).size ≤ 1048576 ∧ (gl.text s i).size ≤ 1048576 := by
  constructor
  · unfold gs.text
    split
    · rw [ByteArray.size_extract]; omega
    · simp
  · unfold gl.text
    split
    · rw [ByteArray.size_extract]; omega
    · simp
theorem stp_in {s : ByteArray} {i j : Int} {p : flP.Pr} (hs : s.size ≤ 1048576) (h : stp s i = some (p, j)) : 0 ≤ j ∧ j ≤ s.size ∧ p.k.size ≤ 1048576 ∧ p.v.size ≤ 1048576 := by
  unfold stp at h
  split at h
  · rename_i h1
    simp only [Bool.and_eq_true] at h1
    have a1 := short_in h1.2.1
    split at h
    · cases h
      exact ⟨a1.1, a1.2, (text_small hs).1, by show (0 : Nat) ≤ _; omega⟩
    · split at h
      · rename_i h3
        cases h
        have a2 := long_in h3
        exact ⟨a2.1, a2.2, (text_small hs).1, (text_small hs).2⟩
      · cases h
  · cases h
end Go.Proofs.YtoemkbooomgieaaGreatDoor.gbp

/- The two sums, the specification's and the program's, answer alike at every text of at most 1048576 bytes, where the program's table holds its sixteen numbers; no world is changed. -/
namespace Go.Proofs.YtoemkbooomgieaaGreatDoor.cs
open Go.ChangeShapes Go.WideShapes Go.ChangeAt Go.RowKit

def half (x : Nat) : Nat := if x % 2 = 1 then (x / 2) ^^^ 2197175160 else x / 2
def halves : Nat → Nat → Nat
  | 0, x => x
  | k + 1, x => half (halves k x)

theorem xor_div (a b : Nat) : (a ^^^ b) / 2 = (a / 2) ^^^ (b / 2) := by
  apply Nat.eq_of_testBit_eq
  intro i
  rw [Nat.testBit_xor, ← Nat.testBit_succ, ← Nat.testBit_succ, ← Nat.testBit_succ, Nat.testBit_xor]
theorem xor_mod (a b : Nat) : (a ^^^ b) % 2 = (a % 2 + b % 2) % 2 := by
  have h : (a ^^^ b).testBit 0 = (a.testBit 0 ^^ b.testBit 0) := Nat.testBit_xor ..
  have e : ∀ n : Nat, n % 2 = if n.testBit 0 then 1 else 0 := fun n => by
    rcases Nat.mod_two_eq_zero_or_one n with hn | hn <;> simp [Nat.testBit_zero, hn]
  rw [e (a ^^^ b), e a, e b, h]
  cases a.testBit 0 <;> cases b.testBit 0 <;> rfl

theorem half_xor (a b : Nat) : half (a ^^^ b) = half a ^^^ half b := by
  unfold half
  rw [xor_div, xor_mod]
  rcases Nat.mod_two_eq_zero_or_one a with ha | ha <;> rcases Nat.mod_two_eq_zero_or_one b with hb | hb <;> simp [ha, hb]
  · rw [Nat.xor_assoc]
  · rw [Nat.xor_assoc, Nat.xor_assoc]; congr 1; exact Nat.xor_comm _ _
  · rw [Nat.xor_assoc, ← Nat.xor_assoc 2197175160, Nat.xor_comm 2197175160, Nat.xor_assoc (b / 2), Nat.xor_self, Nat.xor_zero]

theorem halves_xor (k a b : Nat) : halves k (a ^^^ b) = halves k a ^^^ halves k b := by
  induction k with
  | zero => rfl
  | succ k ih => simp only [halves, ih, half_xor]

theorem split16 (x : Nat) : (16 * (x / 16)) ^^^ (x % 16) = x := by
  apply Nat.eq_of_testBit_eq
  intro i
  have h1 : x = 2 ^ 4 * (x / 16) + x % 16 := by omega
  have hx : x.testBit i = (2 ^ 4 * (x / 16) + x % 16).testBit i := congrArg (fun y => Nat.testBit y i) h1
  rw [hx, Nat.testBit_two_pow_mul_add _ (Nat.mod_lt _ (by decide)), Nat.testBit_xor, show 16 * (x / 16) = 2 ^ 4 * (x / 16) by omega, Nat.testBit_two_pow_mul]
  by_cases hi : i < 4
  · have h4 : ¬ 4 ≤ i := by omega
    simp [hi, h4]
  · have h16 : (x % 16).testBit i = false := Nat.testBit_lt_two_pow (Nat.lt_of_lt_of_le (Nat.mod_lt _ (by decide)) (show 2 ^ 4 ≤ 2 ^ i from Nat.pow_le_pow_right (by decide) (by omega)))
    simp [hi, h16]
    omega

theorem half_even (y : Nat) : half (2 * y) = y := by
  unfold half
  rw [if_neg (by omega)]
  omega
theorem halves4_16 (h : Nat) : halves 4 (16 * h) = h := by
  simp only [halves]
  rw [show 16 * h = 2 * (2 * (2 * (2 * h))) by omega, half_even, half_even, half_even, half_even]

/-- what four halvings of a half byte bring in -/
def tab (r : Nat) : Nat := halves 4 r
theorem halves4 (x : Nat) : halves 4 x = (x / 16) ^^^ tab (x % 16) := by
  have := halves_xor 4 (16 * (x / 16)) (x % 16)
  rw [split16, halves4_16] at this
  exact this
theorem half_lt {x : Nat} (h : x < 4294967296) : half x < 4294967296 := by
  unfold half
  split
  · exact Nat.xor_lt_two_pow (n := 32) (by omega) (by decide)
  · omega
theorem halves_lt {x : Nat} (h : x < 4294967296) : ∀ k, halves k x < 4294967296
  | 0 => h
  | k + 1 => half_lt (halves_lt h k)
theorem halves_add (j k x : Nat) : halves j (halves k x) = halves (j + k) x := by
  induction j with
  | zero => simp [halves]
  | succ j ih => rw [show j + 1 + k = (j + k) + 1 by omega]; simp only [halves, ih]

def bt (s : ByteArray) (k : Nat) : Nat := if h : k < s.size then s[k].toNat else 0
theorem bt_eq (s : ByteArray) (k : Nat) (h : k < s.size) : s[k].toNat = bt s k := by simp [bt, h]
theorem bt_lt (s : ByteArray) (k : Nat) : bt s k < 256 := by
  unfold bt; split
  · have := s[k].toNat_lt; omega
  · omega
/-- the sum behind k bytes, ahead of its end -/
def st (s : ByteArray) : Nat → Nat
  | 0 => 4294967295
  | k + 1 => halves 8 (st s k ^^^ bt s k)
theorem xor_lt {a b : Nat} (ha : a < 4294967296) (hb : b < 4294967296) : a ^^^ b < 4294967296 := Nat.xor_lt_two_pow (n := 32) ha hb
theorem st_lt (s : ByteArray) : ∀ k, st s k < 4294967296
  | 0 => by simp [st]
  | k + 1 => halves_lt (xor_lt (st_lt s k) (Nat.lt_trans (bt_lt s k) (by decide))) 8
def sum (s : ByteArray) : Nat := st s s.size ^^^ 4294967295

theorem tab_lt {r : Nat} (h : r < 16) : tab r < 4294967296 := halves_lt (by omega) 4

theorem and15 {y : Nat} (hy : y < 4294967296) : bits .and .u32 (y : Int) 15 = ((y % 16 : Nat) : Int) := by
  have := u32_and_nat y 15 hy (by decide)
  rw [show ((15 : Nat) : Int) = 15 from rfl] at this
  rw [this, show (15 : Nat) = 2 ^ 4 - 1 from rfl, Nat.and_two_pow_sub_one_eq_mod]

/-- four halvings by the table: what the walk asks at one of the two steps -/
theorem quarter {y : Nat} {w : World} (hy : y < 4294967296) (htab : ∀ r, r < 16 → w.cell? ⟨0, r, none⟩ = some (.int .u32 (tab r : Int))) :
    ∃ r t z : Nat, r < 16 ∧ w.cell? ⟨0, r, none⟩ = some (.int .u32 (t : Int)) ∧ bits .and .u32 (y : Int) 15 = (r : Int) ∧ bits .xor .u32 ((y : Int) / 16) (t : Int) = (z : Int) ∧ z < 4294967296 ∧ Hid (halves 4 y = z) := by
  refine ⟨y % 16, tab (y % 16), halves 4 y, Nat.mod_lt _ (by decide), htab _ (Nat.mod_lt _ (by decide)), and15 hy, ?_, halves_lt hy 4, rfl⟩
  rw [halves4]
  exact u32_xor_nat (y / 16) (tab (y % 16)) (by omega) (tab_lt (Nat.mod_lt _ (by decide)))

theorem impl_sum (s : ByteArray) (w : World) (hs : s.size ≤ 1048576) (htab : ∀ r, r < 16 → w.cell? ⟨0, r, none⟩ = some (.int .u32 (tab r : Int))) :
    Calls Tryz.prog 50 #[.string s] w fun e w' => e = .returned (.int .u32 (sum s)) ∧ w = w' := by
  go_enter Tryz.func50, Tryz.ntmps50
  go_wp2
  go_loop [3, 7] (fun x c => ∃ k : Nat, k ≤ s.size ∧ c = .int .i64 k ∧ x = .int .u32 (st s k)) (fun _ c => s.size - (intOf c).toNat)
  case atStart => exact ⟨0, Nat.zero_le _, rfl, rfl⟩
  case round =>
    obtain ⟨k, hk, rfl, rfl⟩ := hrel
    by_cases hkz : k < s.size
    · obtain ⟨b, hb⟩ : ∃ b, s[k].toNat = b := ⟨_, rfl⟩
      have hbt : Hid (bt s k = b) := by unfold Hid; rw [← bt_eq s k hkz, hb]
      have hb256 : b < 256 := by have := s[k].toNat_lt; omega
      obtain ⟨x, hx⟩ : ∃ x, st s k = x := ⟨_, rfl⟩
      have hx32 : x < 4294967296 := by rw [← hx]; exact st_lt s k
      rw [hx]
      have HX : Hid (st s k = x) := hx
      clear hx
      have hxor : bits .xor .u32 (x : Int) (b : Int) = ((x ^^^ b : Nat) : Int) := u32_xor_nat x b hx32 (by omega)
      obtain ⟨y, hy⟩ : ∃ y, x ^^^ b = y := ⟨_, rfl⟩
      have hy32 : y < 4294967296 := by rw [← hy]; exact xor_lt hx32 (by omega)
      rw [hy] at hxor
      have HY : Hid (st s (k + 1) = halves 8 y) := by unfold Hid; rw [← hy, st, HX.out, hbt.out]
      clear hy HX hbt
      obtain ⟨r1, t1, z, hr1, hc1, ha1, hx1, hz32, HZ⟩ := quarter hy32 htab
      obtain ⟨r2, t2, v, hr2, hc2, ha2, hx2, hv32, HV⟩ := quarter hz32 htab
      have HE : Hid (st s (k + 1) = v) := by unfold Hid; rw [HY.out, ← HV.out, ← HZ.out, halves_add]
      clear HY HZ HV htab
      go_wp2
      go_round
      case rel => exact ⟨k + 1, by omega, by go_num, by rw [HE.out]⟩
      case measure => simp [intOf]; omega
    · obtain rfl : k = s.size := by omega
      have hxor : bits .xor .u32 (st s s.size : Int) 4294967295 = ((sum s : Nat) : Int) := u32_xor_nat (st s s.size) 4294967295 (st_lt s _) (by decide)
      clear htab
      go_wp2
      go_ret
      exact ⟨rfl, rfl⟩
end Go.Proofs.YtoemkbooomgieaaGreatDoor.cs

/- Records: what is read, on bytes: the records one behind the other, each from where the one ahead ended. -/
namespace Go.Proofs.YtoemkbooomgieaaGreatDoor.rcp
open Go.ChangeShapes Go.WideShapes Go.ChangeAt Go.RowKit Go.Proofs.YtoemkbooomgieaaGreatDoor.fl Go.Proofs.YtoemkbooomgieaaGreatDoor.gbp
set_option linter.unusedVariables false

theorem rn_len (s : ByteArray) : ∀ (k : Nat) (i : Int) (l : List flP.Pr) (e : Int), rn s k i = some (l, e) → l.length = k := by
  intro k
  induction k with
  | zero => intro i l e h; simp [rn] at h; rw [h.1]; rfl
  | succ k ih =>
    intro i l e h
    unfold rn at h
    cases h1 : stp s i with
    | none => rw [h1] at h; simp at h
    | some x =>
      obtain ⟨p, j⟩ := x
      rw [h1] at h
      simp only at h
      cases h2 : rn s k j with
      | none => rw [h2] at h; simp at h
      | some y =>
        obtain ⟨m, z⟩ := y
        rw [h2] at h
        simp only [Option.some.injEq, Prod.mk.injEq] at h
        rw [← h.1, List.length_cons, ih j m z h2]
theorem gotL_len (s : ByteArray) : (gotL s).length ≤ 60 := by
  unfold gotL got
  split
  · rename_i h
    simp only [Bool.and_eq_true, decide_eq_true_eq] at h
    cases h1 : rn s (gi.num s 0 1).toNat 1 with
    | none => simp
    | some x =>
      obtain ⟨l, e⟩ := x
      have := rn_len s _ _ _ _ h1
      simp only
      split
      · simp only [Option.getD_some]; omega
      · simp
  · simp
theorem stop4 {s : ByteArray} {i : Int} (h : gi.okAt s i 4 = true) : gi.stop s i 4 = i + 4 := by
  unfold gi.stop
  rw [if_pos h]
theorem at4 {s : ByteArray} {i : Int} (h : gi.okAt s i 4 = true) : 0 ≤ i ∧ i + 4 ≤ s.size ∧ 0 ≤ gi.num s i 4 ∧ gi.num s i 4 ≤ 4294967295 := by
  have h1 := gl.parts s i h
  unfold gi.okAt at h
  simp only [Bool.and_eq_true, decide_eq_true_eq] at h
  omega
theorem stp_far {s : ByteArray} {i j : Int} {p : flP.Pr} (h : stp s i = some (p, j)) : i + 1 ≤ j := by
  unfold stp at h
  split at h
  · rename_i hc
    simp only [Bool.and_eq_true, decide_eq_true_eq] at hc
    obtain ⟨_, hh, _⟩ := hc
    have hb : i + 2 ≤ gs.behind s (i + 1) := by
      unfold gs.behind
      rw [if_pos hh]
      unfold gs.here at hh
      simp only [Bool.and_eq_true, decide_eq_true_eq] at hh
      have h1 := stop_at (s := s) (i := i + 1) hh.1.1
      have h2 := at_in (s := s) (i := i + 1) hh.1.1
      omega
    split at h
    · have h3 := (Prod.mk.inj (Option.some.inj h)).2
      omega
    · split at h
      · rename_i hl
        have h3 := (Prod.mk.inj (Option.some.inj h)).2
        have h4 : gs.behind s (i + 1) + 4 ≤ gl.behind s (gs.behind s (i + 1)) := by
          generalize gs.behind s (i + 1) = q at hl ⊢
          unfold gl.behind
          rw [if_pos hl]
          unfold gl.here at hl
          simp only [Bool.and_eq_true, decide_eq_true_eq] at hl
          have h1 := stop4 (s := s) (i := q) hl.1.1
          have h2 := at4 (s := s) (i := q) hl.1.1
          omega
        omega
      · cases h
  · cases h
theorem rn_far (s : ByteArray) : ∀ (k : Nat) (i : Int) (l : List flP.Pr) (e : Int), rn s k i = some (l, e) → i + k ≤ e := by
  intro k
  induction k with
  | zero => intro i l e h; simp [rn] at h; omega
  | succ k ih =>
    intro i l e h
    unfold rn at h
    cases h1 : stp s i with
    | none => rw [h1] at h; simp at h
    | some x =>
      obtain ⟨p, j⟩ := x
      rw [h1] at h
      simp only at h
      cases h2 : rn s k j with
      | none => rw [h2] at h; simp at h
      | some y =>
        obtain ⟨m, z⟩ := y
        rw [h2] at h
        simp only [Option.some.injEq, Prod.mk.injEq] at h
        have h3 := stp_far h1
        have h4 := ih j m z h2
        omega
theorem gotL_in (s : ByteArray) : (gotL s).length ≤ s.size := by
  unfold gotL got
  split
  · cases h1 : rn s (gi.num s 0 1).toNat 1 with
    | none => simp
    | some x =>
      obtain ⟨l, e⟩ := x
      have h2 := rn_len s _ _ _ _ h1
      have h3 := rn_far s _ _ _ _ h1
      simp only
      split
      · rename_i h4
        simp only [Bool.and_eq_true, decide_eq_true_eq] at h4
        simp only [Option.getD_some]
        omega
      · simp
  · simp
theorem gotL_ok (s : ByteArray) : ∀ e ∈ gotL s, bo.okP e := by
  unfold gotL got
  split
  · cases h1 : rn s (gi.num s 0 1).toNat 1 with
    | none => intro e he; simp at he
    | some x =>
      obtain ⟨l, z⟩ := x
      simp only
      split
      · rename_i h4
        simp only [Bool.and_eq_true] at h4
        intro e he
        simp only [Option.getD_some] at he
        obtain ⟨i, hi⟩ := List.getElem?_of_mem he
        exact ((bo.okb_iff l).1 h4.2).2 i e hi
      · intro e he; simp at he
  · intro e he; simp at he
/-- whether a record stands at a place -/
noncomputable def isR (s : ByteArray) (i : Int) : Bool := gi.okAt s i 4 && (gl.here s (i + 4) && (decide (gi.num s i 4 = (cs.sum (gl.text s (i + 4)) : Int)) && gotB (gl.text s (i + 4))))
/-- its batch, and the place behind it -/
noncomputable def bat (s : ByteArray) (i : Int) : List flP.Pr := gotL (gl.text s (i + 4))
def nxt (s : ByteArray) (i : Int) : Int := gl.behind s (i + 4)
theorem isR_in {s : ByteArray} {i : Int} (h : isR s i = true) : 0 ≤ i ∧ i + 8 ≤ nxt s i ∧ nxt s i ≤ s.size := by
  unfold isR at h
  simp only [Bool.and_eq_true] at h
  obtain ⟨h1, h2, _⟩ := h
  have h3 := at4 h1
  have h4 := long_in h2
  unfold nxt
  refine ⟨h3.1, ?_, h4.2⟩
  unfold gl.behind
  rw [if_pos h2]
  unfold gl.here at h2
  simp only [Bool.and_eq_true, decide_eq_true_eq] at h2
  have h5 := stop4 (s := s) (i := i + 4) h2.1.1
  have h6 := at4 (s := s) (i := i + 4) h2.1.1
  omega
theorem bat_far {s : ByteArray} {i : Int} (h : isR s i = true) : i + 8 + (bat s i).length ≤ nxt s i := by
  unfold isR at h
  simp only [Bool.and_eq_true] at h
  obtain ⟨h1, h2, _⟩ := h
  have h0 := gotL_in (gl.text s (i + 4))
  have hb : (gl.text s (i + 4)).size + (i + 8) ≤ gl.behind s (i + 4) := by
    unfold gl.behind gl.text
    rw [if_pos h2, if_pos h2]
    unfold gl.here at h2
    simp only [Bool.and_eq_true, decide_eq_true_eq] at h2
    have h5 := stop4 (s := s) (i := i + 4) h2.1.1
    have h6 := at4 (s := s) (i := i + 4) h2.1.1
    rw [ByteArray.size_extract]
    omega
  unfold bat nxt
  omega
/-- at most so many records from a place on, and the place behind them -/
noncomputable def rcs (s : ByteArray) : Nat → Int → List (List flP.Pr) × Int
  | 0, i => ([], i)
  | k + 1, i => if isR s i = true then (bat s i :: (rcs s k (nxt s i)).1, (rcs s k (nxt s i)).2) else ([], i)
noncomputable def recs (s : ByteArray) : List (List flP.Pr) × Int := if s.size ≤ 200000 then rcs s (s.size + 1) 0 else ([], 0)
/-- behind some records -/
structure Left (s : ByteArray) (R : List (List flP.Pr)) (i : Int) : Prop where
  eq : rcs s (s.size + 1) 0 = (R ++ (rcs s (s.size + 1 - R.length) i).1, (rcs s (s.size + 1 - R.length) i).2)
  far : (8 * R.length : Nat) ≤ i
  hi : i ≤ s.size
  few : ∀ l ∈ R, l.length ≤ 60
  tot : (R.flatten.length : Int) ≤ i
  oks : ∀ l ∈ R, ∀ e ∈ l, bo.okP e
theorem left_0 (s : ByteArray) : Left s [] 0 := ⟨by simp, by simp, by omega, fun l h => (by cases h), by simp, fun l h => by cases h⟩
theorem left_yes {s : ByteArray} {R : List (List flP.Pr)} {i : Int} (h : Left s R i) (hr : isR s i = true) : Left s (R ++ [bat s i]) (nxt s i) := by
  have hin := isR_in hr
  have h1 := h.far
  have h2 := h.hi
  refine ⟨?_, by rw [List.length_append, List.length_singleton]; omega, hin.2.2, fun l hl => ?_, ?_, fun l hl => ?_⟩
  · rw [h.eq, show s.size + 1 - R.length = (s.size - R.length) + 1 by omega, show s.size + 1 - (R ++ [bat s i]).length = s.size - R.length by rw [List.length_append, List.length_singleton]; omega]
    simp only [rcs, if_pos hr, List.append_assoc, List.singleton_append]
  · rcases List.mem_append.1 hl with hl | hl
    · exact h.few l hl
    · rw [List.mem_singleton.1 hl]
      exact gotL_len _
  · have h3 := bat_far hr
    have h4 := h.tot
    simp only [List.flatten_append, List.length_append, List.flatten_cons, List.flatten_nil, List.append_nil]
    omega
  · rcases List.mem_append.1 hl with hl | hl
    · exact h.oks l hl
    · rw [List.mem_singleton.1 hl]
      exact gotL_ok _
theorem left_end {s : ByteArray} {R : List (List flP.Pr)} {i : Int} (hs : s.size ≤ 200000) (h : Left s R i) (hr : isR s i = false) : recs s = (R, i) := by
  have h1 := h.far
  have h2 := h.hi
  unfold recs
  rw [if_pos hs, h.eq, show s.size + 1 - R.length = (s.size - R.length) + 1 by omega]
  simp [rcs, hr]
theorem isR_end {s : ByteArray} {i : Int} (h : (s.size : Int) ≤ i) : isR s i = false := by
  cases hr : isR s i with
  | false => rfl
  | true => have := isR_in hr; omega
theorem recs_big {s : ByteArray} (h : 200000 < s.size) : recs s = ([], 0) := by
  unfold recs
  rw [if_neg (by omega)]
theorem left_len {s : ByteArray} {R : List (List flP.Pr)} {i : Int} (hs : s.size ≤ 200000) (h : Left s R i) : R.length ≤ 25000 := by
  have h1 := h.far
  have h2 := h.hi
  omega
theorem left_ex (s : ByteArray) (hs : s.size ≤ 200000) : ∃ i, Left s (recs s).1 i ∧ (recs s).2 = i := by
  suffices h : ∀ (d : Nat) (R : List (List flP.Pr)) (i : Int), Left s R i → s.size - i.toNat ≤ d → ∃ j, Left s (recs s).1 j ∧ (recs s).2 = j from h (s.size + 1) [] 0 (left_0 s) (by omega)
  intro d
  induction d with
  | zero =>
    intro R i h hd
    have h1 := h.far
    have h2 := left_end hs h (isR_end (by omega))
    rw [h2]
    exact ⟨i, h, rfl⟩
  | succ d ih =>
    intro R i h hd
    cases hr : isR s i with
    | false =>
      rw [left_end hs h hr]
      exact ⟨i, h, rfl⟩
    | true =>
      have h1 := isR_in hr
      exact ih _ _ (left_yes h hr) (by omega)
end Go.Proofs.YtoemkbooomgieaaGreatDoor.rcp
