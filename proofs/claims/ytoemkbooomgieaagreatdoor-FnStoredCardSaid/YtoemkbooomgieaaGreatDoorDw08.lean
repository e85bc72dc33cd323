/- The specification's l07Set: a run with a pair in its place, in a row of its own. -/
import Derived.Test.YtoemkbooomgieaaGreatDoorTabOk
import Derived.Test.YtoemkbooomgieaaGreatDoorDw01
import Derived.Test.YtoemkbooomgieaaGreatDoorCloneLaid
import Derived.Test.YtoemkbooomgieaaGreatDoorDw07
import Derived.Test.YtoemkbooomgieaaGreatDoorCopyPairs
import Derived.Test.YtoemkbooomgieaaGreatDoorDw02
import Derived.Test.YtoemkbooomgieaaGreatDoorDoneKit
import Derived.Test.YtoemkbooomgieaaGreatDoorFlatOwn
import Derived.Maps.AppendAt
import Derived.Test.YtoemkbooomgieaaGreatDoorDw04
import Derived.Test.YtoemkbooomgieaaGreatDoorFlatOff
import Derived.Test.YtoemkbooomgieaaGreatDoorRunRows
import Derived.Deep.QuietTactic
import Derived.BigQuiet

/- The newest pair of a key in a table, and the specification's TableGet. -/
namespace Go.Proofs.YtoemkbooomgieaaGreatDoor.tg
open Go.ChangeShapes Go.WideShapes Go.ChangeAt Go.RowKit Go.Proofs.YtoemkbooomgieaaGreatDoor.fl Go.Proofs.YtoemkbooomgieaaGreatDoor.rn Go.Proofs.YtoemkbooomgieaaGreatDoor.rc Go.Proofs.YtoemkbooomgieaaGreatDoor.ro Go.Proofs.YtoemkbooomgieaaGreatDoor.tk Go.Proofs.YtoemkbooomgieaaGreatDoor.pf Go.Proofs.YtoemkbooomgieaaGreatDoor.tko
set_option linter.unusedVariables false

def fnd (l : List flP.Pr) (key : ByteArray) : Option flP.Pr := l.find? (fun e => decide (e.k = key))
def p0 : flP.Pr := ⟨⟨#[]⟩, ⟨#[]⟩, false⟩
def nwst (ls : List (List flP.Pr)) (key : ByteArray) : Option flP.Pr := ls.findSome? (fun l => fnd l key)
/-- on the way through l07Newest -/
structure NW (w1 : World) (n6 : Nat) (c : Option flP.Pr) (X : World) : Prop where
  bel : Below n6 w1 X
  bx : X.heap[n6]? = some (.cells #[.string (c.getD p0).k, .string (c.getD p0).v, .bool (c.getD p0).g] 61 (0, 0))
theorem NW.on {w1 X X' : World} {n6 : Nat} {c : Option flP.Pr} (h : NW w1 n6 c X) (hn : n6 ≤ w1.heap.size) (hb : Below X.heap.size X X') : NW w1 n6 c X' :=
  ⟨h.bel.trans (hb.mono (by have := h.bel.size; omega)), bstay h.bx hb (Array.getElem?_eq_some_iff.1 h.bx).1⟩
theorem NW.put {w1 X : World} {n6 : Nat} {c : Option flP.Pr} (h : NW w1 n6 c X) (d : Option flP.Pr) : NW w1 n6 d (((X.setCell ⟨n6, 0, none⟩ (.string (d.getD p0).k)).setCell ⟨n6, 1, none⟩ (.string (d.getD p0).v)).setCell ⟨n6, 2, none⟩ (.bool (d.getD p0).g)) :=
  ⟨((h.bel.setCell (Nat.le_refl _) _).setCell (Nat.le_refl _) _).setCell (Nat.le_refl _) _, bset (bset (bset h.bx 0 _) 1 _) 2 _⟩

end Go.Proofs.YtoemkbooomgieaaGreatDoor.tg

/- TableGet, of the specification and of the program: the newest value of a key; new memory alone. -/
namespace Go.Proofs.YtoemkbooomgieaaGreatDoor.tgi
open Go.ChangeShapes Go.WideShapes Go.ChangeAt Go.RowKit Go.Proofs.YtoemkbooomgieaaGreatDoor.fl Go.Proofs.YtoemkbooomgieaaGreatDoor.rn Go.Proofs.YtoemkbooomgieaaGreatDoor.rc Go.Proofs.YtoemkbooomgieaaGreatDoor.ro Go.Proofs.YtoemkbooomgieaaGreatDoor.tk Go.Proofs.YtoemkbooomgieaaGreatDoor.pf Go.Proofs.YtoemkbooomgieaaGreatDoor.tko Go.Proofs.YtoemkbooomgieaaGreatDoor.tg
set_option linter.unusedVariables false

section
variable {ys : List flP.Pr} {ls : List (List flP.Pr)} {key : ByteArray} {e : flP.Pr}
end

set_option maxRecDepth 100000 in
set_option maxHeartbeats 1000000 in
theorem search_pair (l : List flP.Pr) (a : Option Addr) (c : Nat) (nx nk : ByteArray) (nq : Bool) (w : World) (hl : l.length ≤ 1048576) (hS : Row flP.c 3 w w.heap.size a l) (hM : MonP l ⟨nx, nk, nq⟩) :
    Calls Tryz.prog 125 #[.slice a l.length c, .agg #[.string nx, .string nk, .bool nq], .func (.func 68) #[] #[]] w fun r w' => (∃ (p : Nat) (b : Bool), r = .returned (.tuple #[.int .i64 p, .bool b]) ∧ PosP l ⟨nx, nk, nq⟩ p ∧ (b = true ↔ ∃ a, l[p]? = some a ∧ cmpP a ⟨nx, nk, nq⟩ = 0)) ∧ Below w.heap.size w w' := by
  rcases hS with rfl | ⟨b, off, rfl, hlt, hc⟩
  · have hb : Below w.heap.size w (w.alloc (.cells #[.string nx, .string nk, .bool nq] 61)) := (Below.refl _ _).alloc (Nat.le_refl _) _
    obtain ⟨W, hW⟩ : ∃ W, w.alloc (.cells #[.string nx, .string nk, .bool nq] 61) = W := ⟨_, rfl⟩
    rw [hW] at hb
    clear hM
    go_enter Tryz.func125, Tryz.ntmps125
    go_wp2
    clear hW
    refine wp_loop_rounds 1 ?_
    rw [rounds_succ]
    go_wp2
    refine qi.region_in W (qi.T.refl W) (by kernel_rfl) (by kernel_rfl) ?_
    repeat (go_big_quiet_step (first | (go_at_call 68; fail)))
    refine wpQuiet_nil ?_
    rintro _ ⟨N, rfl⟩
    have hN := N.h
    generalize N.x = wN at hN ⊢
    clear N
    go_wp2
    go_ret2
    exact ⟨⟨0, false, rfl, ⟨Nat.le_refl _, fun i a h => by omega, fun i a _ h => by simp at h⟩, by simp⟩, hb.trans (Below.mono hN hb.size)⟩
  · exact search_off l b off c nx nk nq w hl (rp_row hlt hc) hM

end Go.Proofs.YtoemkbooomgieaaGreatDoor.tgi

/- The program's TableScan. -/
namespace Go.Proofs.YtoemkbooomgieaaGreatDoor.sci
open Go.ChangeShapes Go.WideShapes Go.ChangeAt Go.RowKit Go.Proofs.YtoemkbooomgieaaGreatDoor.fl Go.Proofs.YtoemkbooomgieaaGreatDoor.rn Go.Proofs.YtoemkbooomgieaaGreatDoor.rc Go.Proofs.YtoemkbooomgieaaGreatDoor.ro Go.Proofs.YtoemkbooomgieaaGreatDoor.tk Go.Proofs.YtoemkbooomgieaaGreatDoor.tko
set_option linter.unusedVariables false

/-- the newest of each key -/
noncomputable def nwL (ls : List (List flP.Pr)) : List flP.Pr := @Classical.epsilon _ ⟨[]⟩ (mgp.Is ls)
theorem nwL_eq {ls : List (List flP.Pr)} {out : List flP.Pr} (h : mgp.Is ls out) : nwL ls = out := (@Classical.epsilon_spec _ (mgp.Is ls) ⟨out, h⟩).one h
def keep (fr to : ByteArray) (e : flP.Pr) : Bool := !e.g && !lt e.k fr && (to.size == 0 || lt e.k to)
noncomputable def scan (ys : List flP.Pr) (ls : List (List flP.Pr)) (fr to : ByteArray) : List flP.Pr := if okB ys ls = true then (nwL (ys :: ls)).filter (keep fr to) else []

def St (w3 : World) (fr to : ByteArray) (all : List flP.Pr) (k : Nat) (v : Value) (wr : World) : Prop := Below w3.heap.size w3 wr ∧ wr.ownsRow w3.heap.size 61 3 v ((all.take k).filter (keep fr to)).length (((all.take k).filter (keep fr to)).flatMap flP.c)
theorem own_stay {w w' : World} {B n m : Nat} {T : TypeId} {v : Value} {xs : List Value} (h : w.ownsRow B T m v n xs) (hb : Below w.heap.size w w') : w'.ownsRow B T m v n xs := rnw.own_below h hb
theorem next_no {fr to : ByteArray} {all : List flP.Pr} {k : Nat} {e : flP.Pr} (h : all[k]? = some e) (hk : keep fr to e = false) : (all.take (k + 1)).filter (keep fr to) = (all.take k).filter (keep fr to) := by
  obtain ⟨hl, rfl⟩ := List.getElem?_eq_some_iff.1 h
  rw [List.take_succ_eq_append_getElem hl, List.filter_append]
  simp [hk]
theorem next_yes {fr to : ByteArray} {all : List flP.Pr} {k : Nat} {e : flP.Pr} (h : all[k]? = some e) (hk : keep fr to e = true) : (all.take (k + 1)).filter (keep fr to) = (all.take k).filter (keep fr to) ++ [e] := by
  obtain ⟨hl, rfl⟩ := List.getElem?_eq_some_iff.1 h
  rw [List.take_succ_eq_append_getElem hl, List.filter_append]
  simp [hk]
theorem keep_no {fr to pk pv : ByteArray} (h : Op.bytesLess pk.toList fr.toList = true) : keep fr to ⟨pk, pv, false⟩ = false := by
  have h2 : lt pk fr = true := h
  simp [keep, h2]
theorem keep_all {fr pk pv : ByteArray} (h : Op.bytesLess pk.toList fr.toList = false) : keep fr ⟨#[]⟩ ⟨pk, pv, false⟩ = true := by
  have h2 : lt pk fr = false := h
  have h3 : (⟨#[]⟩ : ByteArray).size = 0 := rfl
  simp only [keep, h2, h3]
  rfl
theorem keep_over {fr to pk pv : ByteArray} (h : to ≠ ⟨#[]⟩) (h2 : Op.bytesLess pk.toList to.toList = false) : keep fr to ⟨pk, pv, false⟩ = false := by
  have h3 := (emp_eq h).2
  have h4 : lt pk to = false := h2
  simp [keep, h3, h4]
theorem keep_in {fr to pk pv : ByteArray} (h : Op.bytesLess pk.toList fr.toList = false) (h2 : Op.bytesLess pk.toList to.toList = true) : keep fr to ⟨pk, pv, false⟩ = true := by
  have h3 : lt pk fr = false := h
  have h4 : lt pk to = true := h2
  simp [keep, h3, h4]

set_option maxRecDepth 100000 in
set_option maxHeartbeats 2000000 in
theorem impl_scan (ys : List flP.Pr) (rs : List Rn) (ya ra : Option Addr) (yc rc : Nat) (fr to : ByteArray) (w : World) (F : tb.Fit ys rs) (q : Addr) (hRQ : apa.NQ ra q rs.length rc) (hyc : ys.length ≤ yc) (hrc : ∀ r ∈ rs, r.l.length ≤ r.c) (hY : Row flP.c 3 w w.heap.size ya ys) (hR : VR w w.heap.size ra rs) :
    Calls Tryz.prog 19 #[.agg #[.slice ya ys.length yc, .slice ra rs.length rc], .string fr, .string to] w fun r w' => ∃ v, r = .returned v ∧ (scan ys (rs.map (·.l)) fr to).length ≤ 6000 ∧ w'.ownsRow w.heap.size 61 3 v (scan ys (rs.map (·.l)) fr to).length ((scan ys (rs.map (·.l)) fr to).flatMap flP.c) ∧ Below w.heap.size w w' := by
  have hb : Below w.heap.size w (w.alloc (.cells #[.slice ya ys.length yc, .slice ra rs.length rc] 30)) := (Below.refl _ _).alloc (Nat.le_refl _) _
  have hA := bnew w #[.slice ya ys.length yc, .slice ra rs.length rc] 30
  obtain ⟨W, hW⟩ : ∃ W, w.alloc (.cells #[.slice ya ys.length yc, .slice ra rs.length rc] 30) = W := ⟨_, rfl⟩
  rw [hW] at hb hA
  have la := (Array.getElem?_eq_some_iff.1 hA).1
  have HA : Hid (W.heap[w.heap.size]? = some (.cells #[.slice ya ys.length yc, .slice ra rs.length rc] 30 (0, 0))) := hA
  have HY : Hid (Row flP.c 3 W W.heap.size ya ys) := hY.inn hb
  have HR : Hid (VR W W.heap.size ra rs) := hR.inn hb
  have HF : Hid (tb.Fit ys rs) := F
  have HCP : Hid (ys.length ≤ yc ∧ ∀ r ∈ rs, r.l.length ≤ r.c) := ⟨hyc, hrc⟩
  have hok := impl_okb ys rs ya ra yc rc W F HY.out HR.out
  have x0 : W.cell? ⟨w.heap.size, 0, none⟩ = some (.slice ya ys.length yc) := bcell hA rfl
  have x1 : W.cell? ⟨w.heap.size, 1, none⟩ = some (.slice ra rs.length rc) := bcell hA rfl
  obtain ⟨sc, hsc⟩ : ∃ sc, scan ys (rs.map (·.l)) fr to = sc := ⟨_, rfl⟩
  have HSC : Hid (scan ys (rs.map (·.l)) fr to = sc) := hsc
  rw [hsc]
  clear hY hR hA F hrc hsc
  go_enter Tryz.func19, Tryz.ntmps19
  go_wp2_with (go_at_call 26; fail)
  clear hW x0 x1
  refine hok.mono ?_
  rintro e w1 ⟨rfl, hb1⟩
  have hbw1 : Below w.heap.size w w1 := hb.trans (hb1.mono hb.size)
  clear hok
  cases hob : okB ys (rs.map (·.l)) with
  | false =>
    obtain rfl : sc = [] := by rw [← HSC.out]; unfold scan; rw [hob]; rfl
    clear hob HSC
    go_wp2
    go_ret
    exact ⟨_, rfl, Nat.zero_le _, World.ownsRow_nil _ _ _ _, hbw1⟩
  | true =>
    have hOK := okB_true.1 hob
    have hsc : Hid (sc = (nwL (ys :: rs.map (·.l))).filter (keep fr to)) := by unfold Hid; rw [← HSC.out]; unfold scan; rw [hob]; rfl
    clear HSC
    have hly := ly.layers ys rs ya ra yc rc w1 q hRQ HF.out (HY.out.inn hb1) (HR.out.inn hb1)
    have x0 : w1.cell? ⟨w.heap.size, 0, none⟩ = some (.slice ya ys.length yc) := bcell (bstay HA.out hb1 la) rfl
    have x1 : w1.cell? ⟨w.heap.size, 1, none⟩ = some (.slice ra rs.length rc) := bcell (bstay HA.out hb1 la) rfl
    have hll : ∀ r ∈ (⟨ya, yc, ys⟩ :: rs : List Rn), r.l.length ≤ 300 ∧ r.l.length ≤ r.c := fun r hr => by
      rcases List.mem_cons.1 hr with rfl | hr
      · exact ⟨hOK.yo.ll, HCP.out.1⟩
      · obtain ⟨i, hi⟩ := List.getElem?_of_mem hr
        exact ⟨(hOK.ro i r.l (by rw [List.getElem?_map, hi]; rfl)).ll, HCP.out.2 r hr⟩
    have hAs : ∀ l ∈ (⟨ya, yc, ys⟩ :: rs : List Rn).map (·.l), mgp.Asc l := fun l hl => by
      rw [List.map_cons] at hl
      rcases List.mem_cons.1 hl with rfl | hl
      · exact mgp.asc_of hOK.yo.up
      · obtain ⟨i, hi⟩ := List.getElem?_of_mem hl
        exact mgp.asc_of (hOK.ro i l hi).up
    have HNW : Hid (∀ (g c : Nat) (W2 : World), VR W2 W2.heap.size (some ⟨g, 0, none⟩) (⟨ya, yc, ys⟩ :: rs) → Calls Tryz.prog 36 #[.slice (some ⟨g, 0, none⟩) (rs.length + 1) c] W2 fun e w' => ∃ v, e = .returned v ∧ mgp.Is (ys :: rs.map (·.l)) (nwL (ys :: rs.map (·.l))) ∧ (nwL (ys :: rs.map (·.l))).length ≤ 6000 ∧ w'.ownsRow W2.heap.size 61 3 v (nwL (ys :: rs.map (·.l))).length ((nwL (ys :: rs.map (·.l))).flatMap flP.c) ∧ Below W2.heap.size W2 w') := fun g c W2 h =>
      (rnw.newest_run (⟨ya, yc, ys⟩ :: rs) (some ⟨g, 0, none⟩) c W2 (by have := hOK.rl; simp at this ⊢; omega) hll hAs h).mono fun e w' ⟨v, out, h1, h2, h5, h3, h4⟩ => by
        have e2 : nwL (ys :: rs.map (·.l)) = out := nwL_eq h2
        rw [e2]
        exact ⟨v, h1, h2, h5, h3, h4⟩
    clear hob hOK hll hAs
    go_wp2_with (go_at_call 37; fail)
    refine hly.mono ?_
    rintro e w2 ⟨g, c, rfl, hvr, hb2⟩
    have hnw := HNW.out g c w2 hvr
    have hbw2 : Below w.heap.size w w2 := hbw1.trans (hb2.mono hbw1.size)
    clear hly hvr x0 x1
    go_wp2_with (go_at_call 36; fail)
    refine hnw.mono ?_
    rintro e w3 ⟨v3, rfl, hIs3, hl3, ho3, hb3⟩
    have HKS : Hid (∀ e ∈ nwL (ys :: rs.map (·.l)), e.k.size ≤ 1048576 ∧ e.v.size ≤ 1048576) := fun e he => by
      obtain ⟨i, l, h1, h2, _⟩ := (hIs3.2 e).1 he
      cases i with
      | zero => simp at h1; subst h1; exact HF.out.yo e h2
      | succ i =>
        rw [List.getElem?_cons_succ, List.getElem?_map, Option.map_eq_some_iff] at h1
        obtain ⟨r, hr, rfl⟩ := h1
        exact (HF.out.ro r (List.mem_of_getElem? hr)).2 e h2
    have hbw3 : Below w.heap.size w w3 := hbw2.trans (hb3.mono hbw2.size)
    obtain ⟨va, vc, hv3, hrow3⟩ := own_row flP.c_len ho3
    subst hv3
    obtain ⟨all, hall⟩ : ∃ all, nwL (ys :: rs.map (·.l)) = all := ⟨_, rfl⟩
    rw [hall] at hsc HKS hrow3 ho3 hl3 ⊢
    clear hnw HNW hall hIs3
    go_wp2
    obtain ⟨i0, hi, hz0, hz1, hz2⟩ := info_parts rnw.infoP
    have HRW : Hid (Row flP.c 3 w3 w3.heap.size va all) := hrow3
    clear hrow3 ho3
    go_loopw [7, 9, 17] (fun v _ x wr => ∃ k : Nat, k ≤ all.length ∧ x = .int .i64 k ∧ Hid (St w3 fr to all k v wr)) (fun _ _ x _ => all.length - (intOf x).toNat)
    case atStart => exact ⟨0, Nat.zero_le _, rfl, ⟨Below.refl _ _, World.ownsRow_nil _ _ _ _⟩⟩
    case round =>
      obtain ⟨k, hk, rfl, hst⟩ := hrel
      by_cases hkl : k < all.length
      · have hbel := hst.out.1
        have hbs := hbel.size
        have HG : Hid (all[k]? = some all[k]) := List.getElem?_eq_getElem hkl
        have hks := HKS.out all[k] (List.getElem_mem hkl)
        obtain ⟨⟨pk, pv, pg⟩, he⟩ : ∃ e, all[k] = e := ⟨_, rfl⟩
        rw [he] at HG hks
        obtain ⟨b, off, rfl, hlt, hc⟩ := HRW.out.resolve_left (by rintro rfl; simp at hkl)
        have c0 : wr.cell? ⟨b, off + k * 3, none⟩ = some (.string pk) := (hbel.cell (p := ⟨b, off + k * 3, none⟩) hlt).trans (hc k _ HG.out 0 _ rfl)
        have c1 : wr.cell? ⟨b, off + k * 3 + 1, none⟩ = some (.string pv) := (hbel.cell (p := ⟨b, off + k * 3 + 1, none⟩) hlt).trans (hc k _ HG.out 1 _ rfl)
        have c2 : wr.cell? ⟨b, off + k * 3 + 2, none⟩ = some (.bool pg) := (hbel.cell (p := ⟨b, off + k * 3 + 2, none⟩) hlt).trans (hc k _ HG.out 2 _ rfl)
        have hbXr : Below wr.heap.size wr (wr.alloc (.cells #[.string pk, .string pv, .bool pg] 61)) := (Below.refl _ _).alloc (Nat.le_refl _) _
        have hA := bnew wr #[.string pk, .string pv, .bool pg] 61
        obtain ⟨X, hX⟩ : ∃ X, wr.alloc (.cells #[.string pk, .string pv, .bool pg] 61) = X := ⟨_, rfl⟩
        rw [hX] at hbXr hA
        have hbX : Below w3.heap.size w3 X := hbel.trans (hbXr.mono hbs)
        have x0 : X.cell? ⟨wr.heap.size, 0, none⟩ = some (.string pk) := bcell hA rfl
        have x1 : X.cell? ⟨wr.heap.size, 1, none⟩ = some (.string pv) := bcell hA rfl
        have x2 : X.cell? ⟨wr.heap.size, 2, none⟩ = some (.bool pg) := bcell hA rfl
        have i2 : (k : Int) < (all.length : Int) := by omega
        have hcp := fun (h : pg = false) => cpp.copy_pair ⟨pk, pv, false⟩ X hks
        have hlen : ((all.take k).filter (keep fr to)).length ≤ 6000 := by have := List.length_filter_le (keep fr to) (all.take k); rw [List.length_take] at this; omega
        clear he hc hA hks
        cases pg with
        | true =>
          clear hcp
          have HN : Hid ((all.take (k + 1)).filter (keep fr to) = (all.take k).filter (keep fr to)) := next_no HG.out (by simp [keep])
          have hst2 : Hid (St w3 fr to all (k + 1) u7 X) := by
            unfold Hid St
            rw [HN.out]
            exact ⟨hbX, own_stay hst.out.2 hbXr⟩
          go_wp2
          go_roundw
          case rel => exact ⟨k + 1, by omega, by go_num, hst2⟩
          case measure => simp [intOf]; omega
        | false =>
          replace hcp := hcp rfl
          subst hX
          cases hge : Op.bytesLess pk.toList fr.toList with
          | true =>
            have hkp : keep fr to ⟨pk, pv, false⟩ = false := keep_no hge
            clear hcp
            have HN : Hid ((all.take (k + 1)).filter (keep fr to) = (all.take k).filter (keep fr to)) := next_no HG.out (hkp)
            have hst2 : Hid (St w3 fr to all (k + 1) u7 (wr.alloc (.cells #[.string pk, .string pv, .bool false] 61))) := by
              unfold Hid St
              rw [HN.out]
              exact ⟨hbX, own_stay hst.out.2 hbXr⟩
            go_wp2
            go_roundw
            case rel => exact ⟨k + 1, by omega, by go_num, hst2⟩
            case measure => simp [intOf]; omega
          | false =>
            by_cases hto : to = ⟨#[]⟩
            · subst hto
              have hkp : keep fr ⟨#[]⟩ ⟨pk, pv, false⟩ = true := keep_all hge
              have HN : Hid ((all.take (k + 1)).filter (keep fr ⟨#[]⟩) = (all.take k).filter (keep fr ⟨#[]⟩) ++ [⟨pk, pv, false⟩]) := next_yes HG.out (hkp)
              go_wp2_with (go_at_call 38; fail)
              refine hcp.mono ?_
              rintro e w5 ⟨rfl, hb5⟩
              have hb5r : Below wr.heap.size wr w5 := hbXr.trans (hb5.mono hbXr.size)
              have hb53 : Below w3.heap.size w3 w5 := hbX.trans (hb5.mono hbX.size)
              have hal5 : Below w5.heap.size w5 (w5.alloc (.cells #[.string pk, .string pv, .bool false] 61)) := (Below.refl _ _).alloc (Nat.le_refl _) _
              obtain ⟨v', Y4, hr, ho, hg, _, _⟩ := run_append_own_at (P := Tryz.prog) (w5.alloc (.cells #[.string pk, .string pv, .bool false] 61)) w3.heap.size 28 28 61 i0 (.agg #[.string ByteArray.empty, .string ByteArray.empty, .bool false]) 3 40 Tryz.underlying28 hi hz0 hz1 hz2 rfl (by decide) u7 _ _ (own_stay (own_stay hst.out.2 hb5r) hal5) ⟨w5.heap.size, 0, none⟩ 1 1 [.string pk, .string pv, .bool false] rfl (fun j u hu => by rw [pap.add0]; exact bcell (bnew w5 _ _) (by simpa using hu)) (by intro u hu; simp at hu; rcases hu with rfl | rfl | rfl <;> rfl) (by unfold maxLen; omega) (by omega) (by have := hb53.size; simp; omega)
              have hst2 : Hid (St w3 fr ⟨#[]⟩ all (k + 1) v' Y4) := by
                unfold Hid St
                rw [HN.out, List.length_append, List.flatMap_append]
                refine ⟨(hb53.alloc hb53.size _).grown hg (by have := hb53.size; simp; omega) (fun b hb => (hst.out.2.lt b hb).1), by simpa [flP.c] using ho⟩
              clear hcp ho hg hal5 hst x0 x1 x2
              go_wp2_with (at_builtin; refine cpr.wpList_append_run rfl _ _ _ _ rfl _ _ _ rfl rfl hr ?_)
              go_roundw
              case rel => exact ⟨k + 1, by omega, by go_num, hst2⟩
              case measure => simp [intOf]; omega
            · have hto2 : (to.toList == ([] : List UInt8)) = false := (emp_eq hto).1
              have hto3 : to.toList ≠ [] := by simpa using hto2
              have hto4 : to.toList.isEmpty = false := by simpa using hto3
              cases hlt2 : Op.bytesLess pk.toList to.toList with
              | false =>
                have hkp : keep fr to ⟨pk, pv, false⟩ = false := keep_over hto hlt2
                clear hcp
                have HN : Hid ((all.take (k + 1)).filter (keep fr to) = (all.take k).filter (keep fr to)) := next_no HG.out (hkp)
                have hst2 : Hid (St w3 fr to all (k + 1) u7 (wr.alloc (.cells #[.string pk, .string pv, .bool false] 61))) := by
                  unfold Hid St
                  rw [HN.out]
                  exact ⟨hbX, own_stay hst.out.2 hbXr⟩
                go_wp2
                go_roundw
                case rel => exact ⟨k + 1, by omega, by go_num, hst2⟩
                case measure => simp [intOf]; omega
              | true =>
                have hkp : keep fr to ⟨pk, pv, false⟩ = true := keep_in hge hlt2
                have HN : Hid ((all.take (k + 1)).filter (keep fr to) = (all.take k).filter (keep fr to) ++ [⟨pk, pv, false⟩]) := next_yes HG.out (hkp)
                go_wp2_with (go_at_call 38; fail)
                refine hcp.mono ?_
                rintro e w5 ⟨rfl, hb5⟩
                have hb5r : Below wr.heap.size wr w5 := hbXr.trans (hb5.mono hbXr.size)
                have hb53 : Below w3.heap.size w3 w5 := hbX.trans (hb5.mono hbX.size)
                have hal5 : Below w5.heap.size w5 (w5.alloc (.cells #[.string pk, .string pv, .bool false] 61)) := (Below.refl _ _).alloc (Nat.le_refl _) _
                obtain ⟨v', Y4, hr, ho, hg, _, _⟩ := run_append_own_at (P := Tryz.prog) (w5.alloc (.cells #[.string pk, .string pv, .bool false] 61)) w3.heap.size 28 28 61 i0 (.agg #[.string ByteArray.empty, .string ByteArray.empty, .bool false]) 3 40 Tryz.underlying28 hi hz0 hz1 hz2 rfl (by decide) u7 _ _ (own_stay (own_stay hst.out.2 hb5r) hal5) ⟨w5.heap.size, 0, none⟩ 1 1 [.string pk, .string pv, .bool false] rfl (fun j u hu => by rw [pap.add0]; exact bcell (bnew w5 _ _) (by simpa using hu)) (by intro u hu; simp at hu; rcases hu with rfl | rfl | rfl <;> rfl) (by unfold maxLen; omega) (by omega) (by have := hb53.size; simp; omega)
                have hst2 : Hid (St w3 fr to all (k + 1) v' Y4) := by
                  unfold Hid St
                  rw [HN.out, List.length_append, List.flatMap_append]
                  refine ⟨(hb53.alloc hb53.size _).grown hg (by have := hb53.size; simp; omega) (fun b hb => (hst.out.2.lt b hb).1), by simpa [flP.c] using ho⟩
                clear hcp ho hg hal5 hst x0 x1 x2
                go_wp2_with (at_builtin; refine cpr.wpList_append_run rfl _ _ _ _ rfl _ _ _ rfl rfl hr ?_)
                go_roundw
                case rel => exact ⟨k + 1, by omega, by go_num, hst2⟩
                case measure => simp [intOf]; omega
      · obtain rfl : k = all.length := by omega
        have HFN : Hid (sc.length ≤ 6000 ∧ wr.ownsRow w.heap.size 61 3 u7 sc.length (sc.flatMap flP.c) ∧ Below w.heap.size w wr) := by
          unfold Hid
          have h2 := hst.out.2
          rw [List.take_length] at h2
          rw [hsc.out]
          exact ⟨Nat.le_trans (List.length_filter_le _ _) hl3, sct.own_low h2 (by have := hbw3.size; omega), hbw3.trans (hst.out.1.mono hbw3.size)⟩
        clear hst
        go_wp2
        go_ret
        exact ⟨_, rfl, HFN.out⟩
end Go.Proofs.YtoemkbooomgieaaGreatDoor.sci

/- append(append(append([]T{}, a...), x), b...) given to a variable, in one region that draws its order: the row that it leaves. -/
namespace Go.Proofs.YtoemkbooomgieaaGreatDoor.tas
open Go.ChangeShapes Go.WideShapes Go.ChangeAt Go.RowKit Go.Proofs.YtoemkbooomgieaaGreatDoor.fl
set_option linter.unusedVariables false

/-- what is drawn: the empty row, the row behind the first append, the new one's place, the rows behind the other two -/
structure G where
  e0 : Nat
  v1 : Value
  h : Nat
  v2 : Value
  v3 : Value
  v4 : Value
/-- the world ahead, the type and its cells, the cells ahead, of the new one and behind, how many ahead and behind -/
structure Pr where
  W0 : World
  T : TypeId
  n : Nat
  xs : List Value
  ms : List Value
  ys : List Value
  k : Nat
  m : Nat
structure D (p : Pr) (g : G) (c0 c1 c2 c3 c4 c5 : Bool) (W : World) : Prop where
  bel : Below p.W0.heap.size p.W0 W
  at0 : c0 = true → c1 = false → W.ownsRow p.W0.heap.size p.T p.n (.slice (some ⟨g.e0, 0, none⟩) 0 0) 0 []
  at1 : c1 = true → c0 = true ∧ (c3 = false → W.ownsRow p.W0.heap.size p.T p.n g.v1 p.k p.xs)
  at2 : c2 = true → c3 = false → W.heap[g.h]? = some (.cells p.ms.toArray p.T (0, 0)) ∧ (c0 = true → c1 = false → g.e0 ≠ g.h) ∧ (c1 = true → g.v1.ownBlock ≠ some g.h)
  at3 : c3 = true → c1 = true ∧ c2 = true ∧ (c4 = false → W.ownsRow p.W0.heap.size p.T p.n g.v2 (p.k + 1) (p.xs ++ p.ms))
  at4 : c4 = true → c3 = true ∧ W.ownsRow p.W0.heap.size p.T p.n g.v3 (p.k + 1 + p.m) (p.xs ++ p.ms ++ p.ys)
  at5 : c5 = true → c4 = true ∧ g.v4 = g.v3
section
variable {p : Pr} {g : G} {c0 c1 c2 c3 c4 c5 : Bool} {W W' : World} {v : Value}
theorem D.size (h : D p g c0 c1 c2 c3 c4 c5 W) : p.W0.heap.size ≤ W.heap.size := h.bel.size
theorem D.old (h : D p g c0 c1 c2 c3 c4 c5 W) {b : Nat} {o : Obj} (hb : p.W0.heap[b]? = some o) : W.heap[b]? = some o := bstay hb h.bel (Array.getElem?_eq_some_iff.1 hb).1
theorem D.below (h : D p g c0 c1 c2 c3 c4 c5 W) : Below p.W0.heap.size p.W0 W := h.bel
theorem no32 (h : D p g c0 c1 false c3 c4 c5 W) : c3 = false := by
  cases c3 with
  | false => rfl
  | true => have := (h.at3 rfl).2.1; cases this
theorem no4 (h : D p g c0 c1 c2 false c4 c5 W) : c4 = false := by
  cases c4 with
  | false => rfl
  | true => have := (h.at4 rfl).1; cases this
theorem no5 (h : D p g c0 c1 c2 c3 false c5 W) : c5 = false := by
  cases c5 with
  | false => rfl
  | true => have := (h.at5 rfl).1; cases this
/-- the new one's place -/
theorem D.s2 (h : D p g c0 c1 false c3 c4 c5 W) : D p { g with h := W.heap.size } c0 c1 true c3 c4 c5 (W.alloc (.cells p.ms.toArray p.T)) := by
  obtain rfl := no32 h
  obtain rfl := no4 h
  obtain rfl := no5 h
  have hs := h.size
  refine ⟨h.below.alloc hs _, fun a b => (h.at0 a b).alloc _, fun a => ⟨(h.at1 a).1, fun b => ((h.at1 a).2 b).alloc _⟩, fun _ _ => ⟨bnew W _ _, fun a b => ?_, fun a e => ?_⟩, fun e => (by cases e), fun e => (by cases e), fun e => (by cases e)⟩
  · have := ((h.at0 a b).lt g.e0 rfl).2
    show g.e0 ≠ W.heap.size
    omega
  · have := (((h.at1 a).2 rfl).lt _ e).2
    have : W.heap.size < W.heap.size := this
    omega
end
/-- the numbers of the six operations that count -/
structure J where
  j0 : Nat
  j1 : Nat
  j2 : Nat
  j3 : Nat
  j4 : Nat
  j5 : Nat
def J.up (x : J) : Prop := x.j0 < x.j1 ∧ x.j1 < x.j2 ∧ x.j2 < x.j3 ∧ x.j3 < x.j4 ∧ x.j4 < x.j5
def C (p : Pr) (x : J) (g : G) (L : Nat → Bool) (W : World) : Prop := D p g (L x.j0) (L x.j1) (L x.j2) (L x.j3) (L x.j4) (L x.j5) W
theorem C.d {p : Pr} {x : J} {g : G} {L : Nat → Bool} {W : World} (h : C p x g L W) : D p g (L x.j0) (L x.j1) (L x.j2) (L x.j3) (L x.j4) (L x.j5) W := h
section
variable {p : Pr} {x : J} {ws : G → List (Nat × Value)} {act : Act} {Q : Exit → Act → World → Prop} {o : Oper}
variable {ST : TypeId} {i0 : TypeInfo} {z : Value} {bytes : Nat}
end
end Go.Proofs.YtoemkbooomgieaaGreatDoor.tas

/- The specification's l07Set: a run with a pair in its place, in a row of its own. -/
namespace Go.Proofs.YtoemkbooomgieaaGreatDoor.pss
open Go.ChangeShapes Go.WideShapes Go.ChangeAt Go.RowKit Go.Proofs.YtoemkbooomgieaaGreatDoor.fl Go.Proofs.YtoemkbooomgieaaGreatDoor.fo Go.Proofs.YtoemkbooomgieaaGreatDoor.rn Go.Proofs.YtoemkbooomgieaaGreatDoor.rc Go.Proofs.YtoemkbooomgieaaGreatDoor.ro Go.Proofs.YtoemkbooomgieaaGreatDoor.ptp
set_option linter.unusedVariables false

end Go.Proofs.YtoemkbooomgieaaGreatDoor.pss
