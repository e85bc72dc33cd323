/- What a right batch is; BatchOk, of the specification and of the program; new memory alone. -/
import Derived.Test.YtjnfljipomjcjaaGreatDoorBatchSize
import Derived.Test.YtjnfljipomjcjaaGreatDoorQuietIn
import Derived.WalkSpells
import Derived.Below
import Derived.Lib.Strings
import Derived.Deep.RegionWith
import Derived.BigRegion
import Derived.Laws.EntriesVeiled
set_option linter.unusedVariables false
namespace Go.Proofs.YtjnfljipomjcjaaGreatDoor.bo
open Go.ChangeShapes Go.WideShapes Go.ChangeAt Go.RowKit Go.Proofs.YtjnfljipomjcjaaGreatDoor.fl

def okP (e : flP.Pr) : Prop := 1 ≤ e.k.size ∧ e.k.size ≤ 100 ∧ e.v.size ≤ 4000 ∧ (e.g = true → e.v = ⟨#[]⟩)
/-- a right batch -/
def OkB (l : List flP.Pr) : Prop := l.length ≤ 60 ∧ ∀ (i : Nat) e, l[i]? = some e → okP e
def Good (l : List flP.Pr) (k : Nat) : Prop := ∀ (i : Nat) e, i < k → l[i]? = some e → okP e
theorem good_next {l : List flP.Pr} {k : Nat} {e : flP.Pr} (h : Good l k) (he : l[k]? = some e) (h1 : okP e) : Good l (k + 1) := fun i f hi hf => by
  by_cases ei : i = k
  · subst ei; rw [he] at hf; cases hf; exact h1
  · exact h i f (by omega) hf
theorem bad_p {l : List flP.Pr} {k : Nat} {e : flP.Pr} (he : l[k]? = some e) (h1 : ¬ okP e) : ¬ OkB l := fun h => h1 (h.2 k e he)
theorem emp_eq {v : ByteArray} (h : v ≠ ⟨#[]⟩) : (v.toList == ([] : List UInt8)) = false ∧ v.size ≠ 0 := by
  obtain ⟨⟨l⟩⟩ := v
  cases l with
  | nil => exact absurd rfl h
  | cons a r => exact ⟨by simp [ByteArray.toList_eq], by simp [ByteArray.size]⟩

theorem within (x a b : Int) (w : World) : Calls Tryz.prog 46 #[.int .i64 x, .int .i64 a, .int .i64 b] w fun e w' => e = .returned (.bool (decide (a ≤ x ∧ x ≤ b))) ∧ w = w' := by
  by_cases h1 : a ≤ x
  · by_cases h2 : x ≤ b
    · have e : decide (a ≤ x ∧ x ≤ b) = true := by simp [h1, h2]
      rw [e]
      go_enter Tryz.func46, Tryz.ntmps46
      go_wp2
      go_ret
      simp
    · have e : decide (a ≤ x ∧ x ≤ b) = false := by simp [h1, h2]
      rw [e]
      go_enter Tryz.func46, Tryz.ntmps46
      go_wp2
      go_ret
      simp
  · have e : decide (a ≤ x ∧ x ≤ b) = false := by simp [h1]
    rw [e]
    go_enter Tryz.func46, Tryz.ntmps46
    go_wp2
    go_ret
    exact ⟨rfl, rfl⟩

set_option maxRecDepth 100000 in
set_option maxHeartbeats 4000000 in
theorem spec_ok (l : List flP.Pr) (a : Option Addr) (cap : Nat) (w : World) (hl : l.length ≤ 1048576) (hS : Row flP.c 3 w w.heap.size a l) :
    Calls Tryz.prog 17 #[.slice a l.length cap] w fun r w' => (∃ b : Bool, r = .returned (.bool b) ∧ (b = true ↔ OkB l)) ∧ Below w.heap.size w w' := by
  rcases hS with rfl | ⟨b, off, rfl, hlt, hc⟩
  · go_enter Tryz.func17, Tryz.ntmps17
    go_wp2
    refine wp_loop_rounds 1 ?_
    rw [rounds_succ]
    go_wp2
    go_ret
    exact ⟨⟨true, rfl, by simp; exact ⟨by simp, fun i e h => by simp at h⟩⟩, Below.refl _ _⟩
  · have HC : Hid (∀ (i : Nat) (e : flP.Pr), l[i]? = some e → ∀ (j : Nat) (v : Value), (flP.c e)[j]? = some v → w.cell? ⟨b, off + i * 3 + j, none⟩ = some v) := hc
    clear hc
    go_enter Tryz.func17, Tryz.ntmps17
    go_wp2
    go_loopw [3, 4] (fun v _ wr => ∃ k : Nat, k ≤ l.length ∧ v = .int .i64 k ∧ Hid (Good l k) ∧ Below w.heap.size w wr) (fun v _ _ => l.length - (intOf v).toNat)
    case atStart => exact ⟨0, Nat.zero_le _, rfl, fun i e h => by omega, Below.refl _ _⟩
    case round =>
      obtain ⟨k, hk, rfl, hgood, hbel⟩ := hrel
      have hbsz := hbel.size
      by_cases hkl : k < l.length
      · have HG : Hid (l[k]? = some l[k]) := List.getElem?_eq_getElem hkl
        obtain ⟨⟨pk, pv, pg⟩, he⟩ : ∃ e, l[k] = e := ⟨_, rfl⟩
        rw [he] at HG
        have c0 : wr.cell? ⟨b, off + k * 3, none⟩ = some (.string pk) := (hbel.cell (p := ⟨b, off + k * 3, none⟩) hlt).trans (HC.out k _ HG.out 0 _ rfl)
        have c1 : wr.cell? ⟨b, off + k * 3 + 1, none⟩ = some (.string pv) := (hbel.cell (p := ⟨b, off + k * 3 + 1, none⟩) hlt).trans (HC.out k _ HG.out 1 _ rfl)
        have c2 : wr.cell? ⟨b, off + k * 3 + 2, none⟩ = some (.bool pg) := (hbel.cell (p := ⟨b, off + k * 3 + 2, none⟩) hlt).trans (HC.out k _ HG.out 2 _ rfl)
        have hbX : Below w.heap.size w (wr.alloc (.cells #[.string pk, .string pv, .bool pg] 61)) := hbel.alloc hbsz _
        have hx1 := bnew wr #[.string pk, .string pv, .bool pg] 61
        obtain ⟨X1, hX1⟩ : ∃ X1, wr.alloc (.cells #[.string pk, .string pv, .bool pg] 61) = X1 := ⟨_, rfl⟩
        rw [hX1] at hbX hx1
        have hxl := (Array.getElem?_eq_some_iff.1 hx1).1
        have x0 : X1.cell? ⟨wr.heap.size, 0, none⟩ = some (.string pk) := bcell hx1 rfl
        have x1 : X1.cell? ⟨wr.heap.size, 1, none⟩ = some (.string pv) := bcell hx1 rfl
        have x2 : X1.cell? ⟨wr.heap.size, 2, none⟩ = some (.bool pg) := bcell hx1 rfl
        have kin := within (pk.size : Int) 1 100 X1
        clear he hx1
        go_wp2_with (go_at_call 46; fail)
        clear hX1 c0 c1 c2
        by_cases hs1 : 1 ≤ pk.size ∧ pk.size ≤ 100
        case neg =>
          have hdk : decide ((1 : Int) ≤ (pk.size : Int) ∧ (pk.size : Int) ≤ 100) = false := by simp; omega
          simp only [hdk] at kin
          have hbad : ¬ OkB l := bad_p HG.out (fun h => hs1 ⟨h.1, h.2.1⟩)
          clear hdk
          go_wp2_with (go_at_call 46; refine kin.mono ?_; rintro e w0 ⟨rfl, hw0⟩; rw [← hw0]; clear hw0 w0 kin)
          go_ret
          exact ⟨⟨false, rfl, by simp; exact hbad⟩, hbX⟩
        case pos =>
          have hdk : decide ((1 : Int) ≤ (pk.size : Int) ∧ (pk.size : Int) ≤ 100) = true := by simp; omega
          simp only [hdk] at kin
          clear hdk
          by_cases hs2 : 4000 < pv.size
          case pos =>
            have hd2 : decide ((4000 : Int) < (pv.size : Int)) = true := by simp; omega
            have hbad : ¬ OkB l := bad_p HG.out (fun h => by have := h.2.2.1; simp only at this; omega)
            go_wp2_with (go_at_call 46; refine kin.mono ?_; rintro e w0 ⟨rfl, hw0⟩; rw [← hw0]; clear hw0 w0 kin)
            go_ret
            exact ⟨⟨false, rfl, by simp; exact hbad⟩, hbX⟩
          case neg =>
            have hd2 : decide ((4000 : Int) < (pv.size : Int)) = false := by simp; omega
            by_cases hs3 : pg = true ∧ pv ≠ ⟨#[]⟩
            case pos =>
              obtain ⟨rfl, hv⟩ := hs3
              obtain ⟨hv1, hv2⟩ := emp_eq hv
              have hbad : ¬ OkB l := bad_p HG.out (fun h => hv (h.2.2.2 rfl))
              go_wp2_with (go_at_call 46; refine kin.mono ?_; rintro e w0 ⟨rfl, hw0⟩; rw [← hw0]; clear hw0 w0 kin)
              go_ret
              exact ⟨⟨false, rfl, by simp; exact hbad⟩, hbX⟩
            case neg =>
              have hokp : okP ⟨pk, pv, pg⟩ := ⟨hs1.1, hs1.2, by show pv.size ≤ 4000; omega, fun h => Classical.byContradiction fun h2 => hs3 ⟨h, h2⟩⟩
              have hs3' : pg = false ∨ (pg = true ∧ pv = ⟨#[]⟩) := by
                cases pg with
                | false => exact .inl rfl
                | true => exact .inr ⟨rfl, Classical.byContradiction fun h2 => hs3 ⟨rfl, h2⟩⟩
              have HOK : Hid (okP ⟨pk, pv, pg⟩) := hokp
              clear hs3 hokp
              have hnext : Hid (Good l (k + 1)) := good_next hgood.out HG.out HOK.out
              rcases hs3' with rfl | ⟨rfl, rfl⟩
              all_goals
                go_wp2_with (go_at_call 46; refine kin.mono ?_; rintro e w0 ⟨rfl, hw0⟩; rw [← hw0]; clear hw0 w0 kin)
                go_roundw
                case rel => exact ⟨k + 1, by omega, by go_num, hnext, hbX⟩
                case measure => simp [intOf]; omega
      · obtain rfl : k = l.length := by omega
        go_wp2
        go_ret
        refine ⟨⟨decide ((l.length : Int) ≤ 60), rfl, ?_⟩, hbel⟩
        simp only [decide_eq_true_eq]
        exact ⟨fun h => ⟨by omega, fun i e he => hgood.out i e (List.getElem?_eq_some_iff.1 he).1 he⟩, fun h => by have := h.1; omega⟩
/-- one bool, by what it tells -/
def Ans (r : Ending) (P : Prop) : Prop := ∃ b : Bool, r = .returned (.bool b) ∧ (b = true ↔ P)

set_option maxRecDepth 100000 in
theorem pair_ok (e : flP.Pr) (w : World) (hk : e.k.size ≤ 1048576) (hv : e.v.size ≤ 1048576) : Calls Tryz.prog 70 #[.agg #[.string e.k, .string e.v, .bool e.g]] w fun r w' => Ans r (okP e) ∧ Below w.heap.size w w' := by
  obtain ⟨pk, pv, pg⟩ := e
  have hb : ∀ pv pg, Below w.heap.size w (w.alloc (.cells #[.string pk, .string pv, .bool pg] 61)) := fun _ _ => (Below.refl _ _).alloc (Nat.le_refl _) _
  by_cases h3 : pg = true ∧ pv ≠ ⟨#[]⟩
  · obtain ⟨rfl, hne⟩ := h3
    obtain ⟨hv1, hv2⟩ := emp_eq hne
    have hbad : Hid (¬ okP ⟨pk, pv, true⟩) := fun h => hne (h.2.2.2 rfl)
    go_enter Tryz.func70, Tryz.ntmps70
    go_wp2
    go_ret
    exact ⟨⟨false, rfl, by simp; exact hbad.out⟩, hb _ _⟩
  have h3' : pg = false ∨ (pg = true ∧ pv = ⟨#[]⟩) := by
    cases pg with
    | false => exact .inl rfl
    | true => exact .inr ⟨rfl, Classical.byContradiction fun h2 => h3 ⟨rfl, h2⟩⟩
  have H3 : Hid (pg = true → pv = ⟨#[]⟩) := fun h => Classical.byContradiction fun h2 => h3 ⟨h, h2⟩
  clear h3
  by_cases h1 : 1 ≤ pk.size
  case neg =>
    have hd : decide ((1 : Int) ≤ (pk.size : Int)) = false := by simp; omega
    have hbad : Hid (¬ okP ⟨pk, pv, pg⟩) := fun h => h1 h.1
    rcases h3' with rfl | ⟨rfl, rfl⟩
    all_goals
      go_enter Tryz.func70, Tryz.ntmps70
      go_wp2
      go_ret
      exact ⟨⟨false, rfl, by simp; exact hbad.out⟩, hb _ _⟩
  case pos =>
    have hd : decide ((1 : Int) ≤ (pk.size : Int)) = true := by simp; omega
    by_cases h2 : pk.size ≤ 100
    case neg =>
      have hd2 : decide ((pk.size : Int) ≤ 100) = false := by simp; omega
      have hbad : Hid (¬ okP ⟨pk, pv, pg⟩) := fun h => h2 h.2.1
      rcases h3' with rfl | ⟨rfl, rfl⟩
      all_goals
        go_enter Tryz.func70, Tryz.ntmps70
        go_wp2
        go_ret
        exact ⟨⟨false, rfl, by simp; exact hbad.out⟩, hb _ _⟩
    case pos =>
      have hd2 : decide ((pk.size : Int) ≤ 100) = true := by simp; omega
      have hok : Hid (decide ((pv.size : Int) ≤ 4000) = true ↔ okP ⟨pk, pv, pg⟩) := by
        unfold Hid
        simp only [decide_eq_true_eq]
        exact ⟨fun h => ⟨h1, h2, by show pv.size ≤ 4000; omega, H3.out⟩, fun h => by have := h.2.2.1; simp only at this; omega⟩
      rcases h3' with rfl | ⟨rfl, rfl⟩
      all_goals
        go_enter Tryz.func70, Tryz.ntmps70
        go_wp2
        go_ret
        first | exact ⟨⟨_, rfl, hok.out⟩, hb _ _⟩ | exact ⟨⟨true, rfl, by simpa using hok.out⟩, hb _ _⟩

def OkM (m : Nat) (l : List flP.Pr) : Prop := l.length ≤ m ∧ ∀ (i : Nat) e, l[i]? = some e → okP e
theorem bad_m {m : Nat} {l : List flP.Pr} {k : Nat} {e : flP.Pr} (he : l[k]? = some e) (h1 : ¬ okP e) : ¬ OkM m l := fun h => h1 (h.2 k e he)
set_option maxRecDepth 100000 in
set_option maxHeartbeats 1000000 in
theorem impl_pairs (l : List flP.Pr) (a : Option Addr) (cap m : Nat) (hm : m ≤ 1048576) (w : World) (hl : l.length ≤ 1048576) (hx : ∀ e ∈ l, e.k.size ≤ 1048576 ∧ e.v.size ≤ 1048576) (hS : Row flP.c 3 w w.heap.size a l) :
    Calls Tryz.prog 45 #[.slice a l.length cap, .int .i64 m] w fun r w' => (∃ b : Bool, r = .returned (.bool b) ∧ (b = true ↔ OkM m l)) ∧ Below w.heap.size w w' := by
  by_cases hbig : m < l.length
  · have hd : m < l.length := by omega
    have hbad : Hid (¬ OkM m l) := fun h => by have := h.1; omega
    clear hS
    go_enter Tryz.func45, Tryz.ntmps45
    go_wp2
    go_ret
    exact ⟨⟨false, rfl, by simp; exact hbad.out⟩, Below.refl _ _⟩
  have hd : ¬ m < l.length := by omega
  have HS : Hid (Row flP.c 3 w w.heap.size a l) := hS
  have HX : Hid (∀ e ∈ l, e.k.size ≤ 1048576 ∧ e.v.size ≤ 1048576) := hx
  have HLL : Hid (l.length ≤ m) := by unfold Hid; omega
  clear hS hx hbig
  go_enter Tryz.func45, Tryz.ntmps45
  go_wp2
  go_loopw [6, 13] (fun _ x wr => ∃ k : Nat, k ≤ l.length ∧ x = .int .i64 k ∧ Hid (∀ (i : Nat) e, i < k → l[i]? = some e → okP e) ∧ Below w.heap.size w wr) (fun _ x _ => l.length - (intOf x).toNat)
  case atStart => exact ⟨0, Nat.zero_le _, rfl, fun i e h => by omega, Below.refl _ _⟩
  case round =>
    obtain ⟨k, hk, rfl, hgood, hbel⟩ := hrel
    have hbs := hbel.size
    by_cases hkl : k < l.length
    · rcases HS.out with h0 | ⟨b, off, rfl, hlt, hc⟩
      · rw [h0] at hkl; simp at hkl
      have HG : Hid (l[k]? = some l[k]) := List.getElem?_eq_getElem hkl
      have hxs := HX.out l[k] (List.getElem_mem hkl)
      obtain ⟨⟨pk, pv, pg⟩, he⟩ : ∃ e, l[k] = e := ⟨_, rfl⟩
      rw [he] at HG hxs
      have c0 : wr.cell? ⟨b, off + k * 3, none⟩ = some (.string pk) := (hbel.cell (p := ⟨b, off + k * 3, none⟩) hlt).trans (hc k _ HG.out 0 _ rfl)
      have c1 : wr.cell? ⟨b, off + k * 3 + 1, none⟩ = some (.string pv) := (hbel.cell (p := ⟨b, off + k * 3 + 1, none⟩) hlt).trans (hc k _ HG.out 1 _ rfl)
      have c2 : wr.cell? ⟨b, off + k * 3 + 2, none⟩ = some (.bool pg) := (hbel.cell (p := ⟨b, off + k * 3 + 2, none⟩) hlt).trans (hc k _ HG.out 2 _ rfl)
      have hone := pair_ok ⟨pk, pv, pg⟩ (wr.alloc (.cells #[.string pk, .string pv, .bool pg] 61)) hxs.1 hxs.2
      have hal : Below w.heap.size w (wr.alloc (.cells #[.string pk, .string pv, .bool pg] 61)) := hbel.alloc hbs _
      have i2 : (k : Int) < (l.length : Int) := by omega
      clear hc he hxs
      go_wp2_with (go_at_call 70; fail)
      refine hone.mono ?_
      rintro e w1 ⟨⟨bb, rfl, hbb⟩, hb1⟩
      have hb2 : Below w.heap.size w w1 := hal.trans (hb1.mono hal.size)
      have HBB : Hid (bb = true ↔ okP ⟨pk, pv, pg⟩) := hbb
      clear hone c0 c1 c2 hbb
      cases bb with
      | false =>
        have hbad : Hid (¬ OkM m l) := bad_m HG.out (fun h => by have := HBB.out.2 h; cases this)
        go_wp2
        go_ret
        exact ⟨⟨false, rfl, by simp; exact hbad.out⟩, hb2⟩
      | true =>
        have hn2 : Hid (∀ (i : Nat) e, i < k + 1 → l[i]? = some e → okP e) := fun i e hi h => by
          by_cases ei : i = k
          · subst ei; rw [HG.out] at h; cases h; exact HBB.out.1 (by trivial)
          · exact hgood.out i e (by omega) h
        go_wp2
        go_roundw
        case rel => exact ⟨k + 1, by omega, by go_num, hn2, hb2⟩
        case measure => simp [intOf]; omega
    · obtain rfl : k = l.length := by omega
      go_wp2
      go_ret
      exact ⟨⟨true, rfl, by simp; exact ⟨HLL.out, fun i e he => hgood.out i e (List.getElem?_eq_some_iff.1 he).1 he⟩⟩, hbel⟩

theorem impl_ok (l : List flP.Pr) (a : Option Addr) (cap : Nat) (w : World) (hl : l.length ≤ 1048576) (hx : ∀ e ∈ l, e.k.size ≤ 1048576 ∧ e.v.size ≤ 1048576) (hS : Row flP.c 3 w w.heap.size a l) :
    Calls Tryz.prog 16 #[.slice a l.length cap] w fun r w' => (∃ b : Bool, r = .returned (.bool b) ∧ (b = true ↔ OkB l)) ∧ Below w.heap.size w w' := by
  have hone := impl_pairs l a cap 60 (by omega) w hl hx hS
  go_enter Tryz.func16, Tryz.ntmps16
  go_wp2_with (go_at_call 45; refine hone.mono ?_; rintro e w1 ⟨⟨bb, rfl, hbb⟩, hb1⟩)
  go_ret
  exact ⟨⟨bb, rfl, hbb⟩, hb1⟩
noncomputable def okb (l : List flP.Pr) : Bool := @decide (OkB l) (Classical.propDecidable _)
theorem okb_iff (l : List flP.Pr) : okb l = true ↔ OkB l := by unfold okb; exact @decide_eq_true_iff _ (Classical.propDecidable _)
theorem okb_eq {l : List flP.Pr} {b : Bool} (h : b = true ↔ OkB l) : b = okb l := by
  cases b with
  | true => exact ((okb_iff l).2 (h.1 rfl)).symm
  | false =>
    cases h2 : okb l with
    | false => rfl
    | true => have := h.2 ((okb_iff l).1 h2); cases this
theorem spec_okb (l : List flP.Pr) (a : Option Addr) (cap : Nat) (w : World) (F : bs.Fit l) (hS : Row flP.c 3 w w.heap.size a l) :
    Calls Tryz.prog 17 #[.slice a l.length cap] w fun r w' => r = .returned (.bool (okb l)) ∧ Below w.heap.size w w' :=
  (spec_ok l a cap w F.ll hS).mono fun r w' ⟨⟨b, h1, h2⟩, h3⟩ => ⟨by rw [h1, okb_eq h2], h3⟩
theorem impl_okb (l : List flP.Pr) (a : Option Addr) (cap : Nat) (w : World) (F : bs.Fit l) (hS : Row flP.c 3 w w.heap.size a l) :
    Calls Tryz.prog 16 #[.slice a l.length cap] w fun r w' => r = .returned (.bool (okb l)) ∧ Below w.heap.size w w' :=
  (impl_ok l a cap w F.ll F.lo hS).mono fun r w' ⟨⟨b, h1, h2⟩, h3⟩ => ⟨by rw [h1, okb_eq h2], h3⟩
end Go.Proofs.YtjnfljipomjcjaaGreatDoor.bo
