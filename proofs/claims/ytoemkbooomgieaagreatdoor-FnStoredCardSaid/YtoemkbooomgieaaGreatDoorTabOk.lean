/- TableOk, of the specification and of the program: whether a table is right; new memory alone. -/
import Derived.Test.YtoemkbooomgieaaGreatDoorPairFind
namespace Go.Proofs.YtoemkbooomgieaaGreatDoor.tko
open Go.ChangeShapes Go.WideShapes Go.ChangeAt Go.RowKit Go.Proofs.YtoemkbooomgieaaGreatDoor.fl Go.Proofs.YtoemkbooomgieaaGreatDoor.rn Go.Proofs.YtoemkbooomgieaaGreatDoor.rc Go.Proofs.YtoemkbooomgieaaGreatDoor.ro Go.Proofs.YtoemkbooomgieaaGreatDoor.tk Go.Proofs.YtoemkbooomgieaaGreatDoor.pf
set_option linter.unusedVariables false

theorem map_at {rs : List Rn} {k : Nat} {r : Rn} (h : rs[k]? = some r) : (rs.map (·.l))[k]? = some r.l := by rw [List.getElem?_map, h]; rfl
/-- one bool, by what it tells -/
def Ans (r : Ending) (P : Prop) : Prop := ∃ b : Bool, r = .returned (.bool b) ∧ (b = true ↔ P)

set_option maxRecDepth 100000 in
theorem pair_ok (e : flP.Pr) (w : World) (hk : e.k.size ≤ 1048576) (hv : e.v.size ≤ 1048576) : Calls Tryz.prog 94 #[.agg #[.string e.k, .string e.v, .bool e.g]] w fun r w' => Ans r (okP e) ∧ Below w.heap.size w w' := by
  obtain ⟨pk, pv, pg⟩ := e
  have hb : ∀ pv pg, Below w.heap.size w (w.alloc (.cells #[.string pk, .string pv, .bool pg] 61)) := fun _ _ => (Below.refl _ _).alloc (Nat.le_refl _) _
  by_cases h3 : pg = true ∧ pv ≠ ⟨#[]⟩
  · obtain ⟨rfl, hne⟩ := h3
    obtain ⟨hv1, hv2⟩ := emp_eq hne
    have hbad : Hid (¬ okP ⟨pk, pv, true⟩) := fun h => hne (h.2.2.2 rfl)
    go_enter Tryz.func94, Tryz.ntmps94
    go_wp2
    go_ret
    exact ⟨⟨false, rfl, by simp; exact hbad.out⟩, hb _ _⟩
  have h3' : pg = false ∨ (pg = true ∧ pv = ⟨#[]⟩) := by
    cases pg with
    | false => exact .inl rfl
    | true => exact .inr ⟨rfl, Classical.byContradiction fun h2 => h3 ⟨rfl, h2⟩⟩
  have H3 : Hid (pg = true → pv = ⟨#[]⟩) := fun h => Classical.byContradiction fun h2 => h3 ⟨h, h2⟩
  clear h3
  by_cases h1 : 1 ≤ pk.size
  case neg =>
    have hd : decide ((1 : Int) ≤ (pk.size : Int)) = false := by simp; omega
    have hbad : Hid (¬ okP ⟨pk, pv, pg⟩) := fun h => h1 h.1
    rcases h3' with rfl | ⟨rfl, rfl⟩
    all_goals
      go_enter Tryz.func94, Tryz.ntmps94
      go_wp2
      go_ret
      exact ⟨⟨false, rfl, by simp; exact hbad.out⟩, hb _ _⟩
  case pos =>
    have hd : decide ((1 : Int) ≤ (pk.size : Int)) = true := by simp; omega
    by_cases h2 : pk.size ≤ 100
    case neg =>
      have hd2 : decide ((pk.size : Int) ≤ 100) = false := by simp; omega
      have hbad : Hid (¬ okP ⟨pk, pv, pg⟩) := fun h => h2 h.2.1
      rcases h3' with rfl | ⟨rfl, rfl⟩
      all_goals
        go_enter Tryz.func94, Tryz.ntmps94
        go_wp2
        go_ret
        exact ⟨⟨false, rfl, by simp; exact hbad.out⟩, hb _ _⟩
    case pos =>
      have hd2 : decide ((pk.size : Int) ≤ 100) = true := by simp; omega
      have hok : Hid (decide ((pv.size : Int) ≤ 4000) = true ↔ okP ⟨pk, pv, pg⟩) := by
        unfold Hid
        simp only [decide_eq_true_eq]
        exact ⟨fun h => ⟨h1, h2, by show pv.size ≤ 4000; omega, H3.out⟩, fun h => by have := h.2.2.1; simp only at this; omega⟩
      rcases h3' with rfl | ⟨rfl, rfl⟩
      all_goals
        go_enter Tryz.func94, Tryz.ntmps94
        go_wp2
        go_ret
        first | exact ⟨⟨_, rfl, hok.out⟩, hb _ _⟩ | exact ⟨⟨true, rfl, by simpa using hok.out⟩, hb _ _⟩

def OkM (m : Nat) (l : List flP.Pr) : Prop := l.length ≤ m ∧ ∀ (i : Nat) e, l[i]? = some e → okP e
theorem bad_m {m : Nat} {l : List flP.Pr} {k : Nat} {e : flP.Pr} (he : l[k]? = some e) (h1 : ¬ okP e) : ¬ OkM m l := fun h => h1 (h.2 k e he)
set_option maxRecDepth 100000 in
set_option maxHeartbeats 1000000 in
theorem impl_pairs (l : List flP.Pr) (a : Option Addr) (cap m : Nat) (hm : m ≤ 1048576) (w : World) (hl : l.length ≤ 1048576) (hx : ∀ e ∈ l, e.k.size ≤ 1048576 ∧ e.v.size ≤ 1048576) (hS : Row flP.c 3 w w.heap.size a l) :
    Calls Tryz.prog 66 #[.slice a l.length cap, .int .i64 m] w fun r w' => (∃ b : Bool, r = .returned (.bool b) ∧ (b = true ↔ OkM m l)) ∧ Below w.heap.size w w' := by
  by_cases hbig : m < l.length
  · have hd : m < l.length := by omega
    have hbad : Hid (¬ OkM m l) := fun h => by have := h.1; omega
    clear hS
    go_enter Tryz.func66, Tryz.ntmps66
    go_wp2
    go_ret
    exact ⟨⟨false, rfl, by simp; exact hbad.out⟩, Below.refl _ _⟩
  have hd : ¬ m < l.length := by omega
  have HS : Hid (Row flP.c 3 w w.heap.size a l) := hS
  have HX : Hid (∀ e ∈ l, e.k.size ≤ 1048576 ∧ e.v.size ≤ 1048576) := hx
  have HLL : Hid (l.length ≤ m) := by unfold Hid; omega
  clear hS hx hbig
  go_enter Tryz.func66, Tryz.ntmps66
  go_wp2
  go_loopw [6, 13] (fun _ x wr => ∃ k : Nat, k ≤ l.length ∧ x = .int .i64 k ∧ Hid (∀ (i : Nat) e, i < k → l[i]? = some e → okP e) ∧ Below w.heap.size w wr) (fun _ x _ => l.length - (intOf x).toNat)
  case atStart => exact ⟨0, Nat.zero_le _, rfl, fun i e h => by omega, Below.refl _ _⟩
  case round =>
    obtain ⟨k, hk, rfl, hgood, hbel⟩ := hrel
    have hbs := hbel.size
    by_cases hkl : k < l.length
    · rcases HS.out with h0 | ⟨b, off, rfl, hlt, hc⟩
      · rw [h0] at hkl; simp at hkl
      have HG : Hid (l[k]? = some l[k]) := List.getElem?_eq_getElem hkl
      have hxs := HX.out l[k] (List.getElem_mem hkl)
      obtain ⟨⟨pk, pv, pg⟩, he⟩ : ∃ e, l[k] = e := ⟨_, rfl⟩
      rw [he] at HG hxs
      have c0 : wr.cell? ⟨b, off + k * 3, none⟩ = some (.string pk) := (hbel.cell (p := ⟨b, off + k * 3, none⟩) hlt).trans (hc k _ HG.out 0 _ rfl)
      have c1 : wr.cell? ⟨b, off + k * 3 + 1, none⟩ = some (.string pv) := (hbel.cell (p := ⟨b, off + k * 3 + 1, none⟩) hlt).trans (hc k _ HG.out 1 _ rfl)
      have c2 : wr.cell? ⟨b, off + k * 3 + 2, none⟩ = some (.bool pg) := (hbel.cell (p := ⟨b, off + k * 3 + 2, none⟩) hlt).trans (hc k _ HG.out 2 _ rfl)
      have hone := pair_ok ⟨pk, pv, pg⟩ (wr.alloc (.cells #[.string pk, .string pv, .bool pg] 61)) hxs.1 hxs.2
      have hal : Below w.heap.size w (wr.alloc (.cells #[.string pk, .string pv, .bool pg] 61)) := hbel.alloc hbs _
      have i2 : (k : Int) < (l.length : Int) := by omega
      clear hc he hxs
      go_wp2_with (go_at_call 94; fail)
      refine hone.mono ?_
      rintro e w1 ⟨⟨bb, rfl, hbb⟩, hb1⟩
      have hb2 : Below w.heap.size w w1 := hal.trans (hb1.mono hal.size)
      have HBB : Hid (bb = true ↔ okP ⟨pk, pv, pg⟩) := hbb
      clear hone c0 c1 c2 hbb
      cases bb with
      | false =>
        have hbad : Hid (¬ OkM m l) := bad_m HG.out (fun h => by have := HBB.out.2 h; cases this)
        go_wp2
        go_ret
        exact ⟨⟨false, rfl, by simp; exact hbad.out⟩, hb2⟩
      | true =>
        have hn2 : Hid (∀ (i : Nat) e, i < k + 1 → l[i]? = some e → okP e) := fun i e hi h => by
          by_cases ei : i = k
          · subst ei; rw [HG.out] at h; cases h; exact HBB.out.1 (by trivial)
          · exact hgood.out i e (by omega) h
        go_wp2
        go_roundw
        case rel => exact ⟨k + 1, by omega, by go_num, hn2, hb2⟩
        case measure => simp [intOf]; omega
    · obtain rfl : k = l.length := by omega
      go_wp2
      go_ret
      exact ⟨⟨true, rfl, by simp; exact ⟨HLL.out, fun i e he => hgood.out i e (List.getElem?_eq_some_iff.1 he).1 he⟩⟩, hbel⟩

set_option maxRecDepth 100000 in
theorem impl_run (l : List flP.Pr) (a : Option Addr) (cap : Nat) (w : World) (hl : l.length ≤ 1048576) (hx : ∀ e ∈ l, e.k.size ≤ 1048576 ∧ e.v.size ≤ 1048576) (hS : Row flP.c 3 w w.heap.size a l) :
    Calls Tryz.prog 45 #[.slice a l.length cap] w fun r w' => (∃ b : Bool, r = .returned (.bool b) ∧ (b = true ↔ OkL l)) ∧ Below w.heap.size w w' := by
  have hone := impl_pairs l a cap 300 (by omega) w hl hx hS
  have hasc := fun (W : World) (h : Below w.heap.size w W) => asc_pair l a cap W hl (hS.inn h)
  clear hS
  go_enter Tryz.func45, Tryz.ntmps45
  go_wp2_with (go_at_call 66; fail)
  refine hone.mono ?_
  rintro e w1 ⟨⟨bb, rfl, hbb⟩, hb1⟩
  have HBB : Hid (bb = true ↔ OkM 300 l) := hbb
  have hasc1 := hasc w1 hb1
  clear hone hbb hasc
  cases bb with
  | false =>
    have hbad : Hid (¬ OkL l) := fun h => by have := HBB.out.2 ⟨h.ll, h.po⟩; cases this
    go_wp2
    go_ret
    exact ⟨⟨false, rfl, by simp; exact hbad.out⟩, hb1⟩
  | true =>
    go_wp2_with (go_at_call 67; fail)
    refine hasc1.mono ?_
    rintro e w2 ⟨⟨b2, rfl, hb2⟩, hbe2⟩
    have HB2 : Hid (b2 = true ↔ UpP l l.length) := hb2
    clear hasc1 hb2
    go_wp2
    go_ret
    exact ⟨⟨b2, rfl, ⟨fun h => ⟨(HBB.out.1 (by trivial)).1, (HBB.out.1 (by trivial)).2, HB2.out.1 h⟩, fun h => HB2.out.2 h.up⟩⟩, hb1.trans (hbe2.mono hb1.size)⟩

set_option maxRecDepth 100000 in
set_option maxHeartbeats 1000000 in
theorem impl_ok (ys : List flP.Pr) (rs : List Rn) (ya ra : Option Addr) (yc rc : Nat) (w : World) (F : tb.Fit ys rs) (hY : Row flP.c 3 w w.heap.size ya ys) (hR : VR w w.heap.size ra rs) :
    Calls Tryz.prog 26 #[.agg #[.slice ya ys.length yc, .slice ra rs.length rc]] w fun r w' => (∃ b : Bool, r = .returned (.bool b) ∧ (b = true ↔ OkT ys (rs.map (·.l)))) ∧ Below w.heap.size w w' := by
  have hb : Below w.heap.size w (w.alloc (.cells #[.slice ya ys.length yc, .slice ra rs.length rc] 30)) := (Below.refl _ _).alloc (Nat.le_refl _) _
  have hA := bnew w #[.slice ya ys.length yc, .slice ra rs.length rc] 30
  obtain ⟨W, hW⟩ : ∃ W, w.alloc (.cells #[.slice ya ys.length yc, .slice ra rs.length rc] 30) = W := ⟨_, rfl⟩
  rw [hW] at hb hA
  have hlt0 := (Array.getElem?_eq_some_iff.1 hA).1
  have HA : Hid (W.heap[w.heap.size]? = some (.cells #[.slice ya ys.length yc, .slice ra rs.length rc] 30 (0, 0))) := hA
  have HY : Hid (Row flP.c 3 W W.heap.size ya ys) := hY.inn hb
  have HVR : Hid (∀ r ∈ rs, Row flP.c 3 W W.heap.size r.a r.l) := (hR.inn hb).2
  have HF : Hid (tb.Fit ys rs) := F
  have hrl := F.rl
  have hyl := F.yl
  have BOX : Hid (∀ wr, Below W.heap.size W wr → wr.cell? ⟨w.heap.size, 0, none⟩ = some (.slice ya ys.length yc) ∧ wr.cell? ⟨w.heap.size, 1, none⟩ = some (.slice ra rs.length rc)) := fun wr h => ⟨bcell (bstay HA.out h hlt0) rfl, bcell (bstay HA.out h hlt0) rfl⟩
  obtain ⟨x0, x1⟩ := BOX.out W (Below.refl _ _)
  have HROW : Hid (Row cR 1 W W.heap.size ra rs) := (hR.inn hb).1
  clear hY hR hA F
  by_cases hbig : 8 < rs.length
  · have hd : decide ((8 : Int) < (rs.length : Int)) = true := by simp; omega
    have hbad : Hid (¬ OkT ys (rs.map (·.l))) := fun h => by have := h.rl; simp at this; omega
    go_enter Tryz.func26, Tryz.ntmps26
    go_wp2
    go_ret
    first | exact ⟨⟨false, rfl, by simp; exact hbad.out⟩, hb⟩ | exact ⟨⟨false, rfl, by simp; exact hbad.out⟩, by rw [hW]; exact hb⟩
  have hd : decide ((8 : Int) < (rs.length : Int)) = false := by simp; omega
  have HLL : Hid (rs.length ≤ 8) := by unfold Hid; omega
  clear hbig
  go_enter Tryz.func26, Tryz.ntmps26
  go_wp2
  clear hW
  go_loopw [4, 12] (fun _ v wr => ∃ k : Nat, k ≤ rs.length ∧ v = .int .i64 k ∧ Hid (∀ (i : Nat) l, i < k → (rs.map (·.l))[i]? = some l → OkL l) ∧ Below W.heap.size W wr) (fun _ v _ => rs.length - (intOf v).toNat)
  case atStart => exact ⟨0, Nat.zero_le _, rfl, fun i l h => by omega, Below.refl _ _⟩
  case round =>
    obtain ⟨k, hk, rfl, hgood, hbel⟩ := hrel
    have hbs := hbel.size
    clear x0 x1
    obtain ⟨x0, x1⟩ := BOX.out wr hbel
    by_cases hkl : k < rs.length
    · rcases HROW.out with h0 | ⟨b, off, rfl, hlt, hc⟩
      · rw [h0] at hkl; simp at hkl
      have HG : Hid (rs[k]? = some rs[k]) := List.getElem?_eq_getElem hkl
      have hrow := (HVR.out rs[k] (List.getElem_mem hkl)).inn hbel
      have hfr := HF.out.ro rs[k] (List.getElem_mem hkl)
      obtain ⟨⟨qa, qc, ql⟩, he⟩ : ∃ e, rs[k] = e := ⟨_, rfl⟩
      rw [he] at HG hrow hfr
      have c0 : wr.cell? ⟨b, off + k, none⟩ = some (.slice qa ql.length qc) := (hbel.cell (p := ⟨b, off + k, none⟩) hlt).trans (by have := hc k _ HG.out 0 _ rfl; simpa using this)
      have hone := impl_run ql qa qc wr hfr.1 hfr.2 hrow
      have i2 : (k : Int) < (rs.length : Int) := by omega
      clear hc hrow he hfr
      go_wp2_with (go_at_call 45; fail)
      refine hone.mono ?_
      rintro e w1 ⟨⟨bb, rfl, hbb⟩, hb1⟩
      have hb2 : Below W.heap.size W w1 := hbel.trans (hb1.mono hbs)
      have HBB : Hid (bb = true ↔ OkL ql) := hbb
      clear hone c0 x0 x1 hbb
      cases bb with
      | false =>
        have hbad : Hid (¬ OkT ys (rs.map (·.l))) := fun h => by
          have h1 : OkL ql := h.ro k _ (map_at HG.out)
          have := HBB.out.2 h1
          cases this
        go_wp2
        go_ret
        exact ⟨⟨false, rfl, by simp; exact hbad.out⟩, hb.trans (hb2.mono hb.size)⟩
      | true =>
        have hn2 : Hid (∀ (i : Nat) l, i < k + 1 → (rs.map (·.l))[i]? = some l → OkL l) := fun i l hi h => by
          by_cases ei : i = k
          · subst ei; rw [map_at HG.out] at h; cases h; exact HBB.out.1 (by trivial)
          · exact hgood.out i l (by omega) h
        go_wp2
        go_roundw
        case rel => exact ⟨k + 1, by omega, by go_num, hn2, hb2⟩
        case measure => simp [intOf]; omega
    · obtain rfl : k = rs.length := by omega
      have HALL : Hid (∀ (i : Nat) l, (rs.map (·.l))[i]? = some l → OkL l) := fun i l h => hgood.out i l (by have := (List.getElem?_eq_some_iff.1 h).1; simpa using this) h
      have hone := impl_run ys ya yc wr hyl HF.out.yo (HY.out.inn hbel)
      clear hkl hk
      go_wp2_with (go_at_call 45; fail)
      refine hone.mono ?_
      rintro e w1 ⟨⟨bb, rfl, hbb⟩, hb1⟩
      have hb2 : Below W.heap.size W w1 := hbel.trans (hb1.mono hbs)
      have HBB : Hid (bb = true ↔ OkL ys) := hbb
      clear hone x0 x1 hbb
      go_wp2
      go_ret
      exact ⟨⟨bb, rfl, ⟨fun h => ⟨by simpa using HLL.out, HBB.out.1 h, HALL.out⟩, fun h => HBB.out.2 h.yo⟩⟩, hb.trans (hb2.mono hb.size)⟩
open Classical in
noncomputable def okB (ys : List flP.Pr) (ls : List (List flP.Pr)) : Bool := decide (OkT ys ls)
theorem okB_true {ys : List flP.Pr} {ls : List (List flP.Pr)} : okB ys ls = true ↔ OkT ys ls := by unfold okB; simp
theorem okB_of {b : Bool} {ys : List flP.Pr} {ls : List (List flP.Pr)} (h : b = true ↔ OkT ys ls) : b = okB ys ls := by
  cases b with
  | true => exact (okB_true.2 (h.1 rfl)).symm
  | false =>
    cases hb : okB ys ls with
    | false => rfl
    | true => exact h.2 (okB_true.1 hb)
theorem impl_okb (ys : List flP.Pr) (rs : List Rn) (ya ra : Option Addr) (yc rc : Nat) (w : World) (F : tb.Fit ys rs) (hY : Row flP.c 3 w w.heap.size ya ys) (hR : VR w w.heap.size ra rs) :
    Calls Tryz.prog 26 #[.agg #[.slice ya ys.length yc, .slice ra rs.length rc]] w fun r w' => r = .returned (.bool (okB ys (rs.map (·.l)))) ∧ Below w.heap.size w w' := (impl_ok ys rs ya ra yc rc w F hY hR).mono fun r w' ⟨⟨b, h1, h2⟩, h3⟩ => ⟨by rw [h1, okB_of h2], h3⟩
end Go.Proofs.YtoemkbooomgieaaGreatDoor.tko
