/- The newest pair of a key in a table, and the specification's TableGet. -/
import Derived.Test.YtfoajjkcocppeaaTabOk
namespace Go.Proofs.Ytfoajjkcocppeaa.tg
open Go.ChangeShapes Go.WideShapes Go.ChangeAt Go.RowKit Go.Proofs.Ytfoajjkcocppeaa.fl Go.Proofs.Ytfoajjkcocppeaa.rn Go.Proofs.Ytfoajjkcocppeaa.rc Go.Proofs.Ytfoajjkcocppeaa.ro Go.Proofs.Ytfoajjkcocppeaa.tk Go.Proofs.Ytfoajjkcocppeaa.pf Go.Proofs.Ytfoajjkcocppeaa.tko
set_option linter.unusedVariables false

def fnd (l : List flP.Pr) (key : ByteArray) : Option flP.Pr := l.find? (fun e => decide (e.k = key))
def p0 : flP.Pr := ⟨⟨#[]⟩, ⟨#[]⟩, false⟩
def nwst (ls : List (List flP.Pr)) (key : ByteArray) : Option flP.Pr := ls.findSome? (fun l => fnd l key)
theorem fnd_at {l : List flP.Pr} {key : ByteArray} {i : Nat} {e : flP.Pr} (hno : ∀ (j : Nat) f, j < i → l[j]? = some f → f.k ≠ key) (hi : l[i]? = some e) (he : e.k = key) : fnd l key = some e := by
  unfold fnd
  rw [List.find?_eq_some_iff_getElem]
  obtain ⟨hlt, h2⟩ := List.getElem?_eq_some_iff.1 hi
  refine ⟨by simpa using he, i, hlt, h2, fun j hj => ?_⟩
  simp
  exact hno j _ hj (List.getElem?_eq_getElem (by omega))
theorem fnd_none {l : List flP.Pr} {key : ByteArray} (hno : ∀ (j : Nat) f, l[j]? = some f → f.k ≠ key) : fnd l key = none := by
  unfold fnd
  rw [List.find?_eq_none]
  intro x hx
  obtain ⟨j, hj⟩ := List.getElem?_of_mem hx
  simpa using hno j x hj

set_option maxRecDepth 100000 in
set_option maxHeartbeats 1000000 in
theorem spec_find (l : List flP.Pr) (a : Option Addr) (cap : Nat) (key : ByteArray) (w : World) (hl : l.length ≤ 1048576) (hS : Row flP.c 3 w w.heap.size a l) :
    Calls Try.prog 60 #[.slice a l.length cap, .string key] w fun r w' => r = .returned (.tuple #[.agg #[.string ((fnd l key).getD p0).k, .string ((fnd l key).getD p0).v, .bool ((fnd l key).getD p0).g], .bool (fnd l key).isSome]) ∧ Below w.heap.size w w' := by
  have hb : Below w.heap.size w (w.alloc (.cells #[.string ⟨#[]⟩, .string ⟨#[]⟩, .bool false] 63)) := (Below.refl _ _).alloc (Nat.le_refl _) _
  have hA := bnew w #[.string ⟨#[]⟩, .string ⟨#[]⟩, .bool false] 63
  obtain ⟨W, hW⟩ : ∃ W, w.alloc (.cells #[.string ⟨#[]⟩, .string ⟨#[]⟩, .bool false] 63) = W := ⟨_, rfl⟩
  rw [hW] at hb hA
  have HS : Hid (Row flP.c 3 W W.heap.size a l) := hS.inn hb
  have z0 : W.cell? ⟨w.heap.size, 0, none⟩ = some (.string ⟨#[]⟩) := bcell hA rfl
  have z1 : W.cell? ⟨w.heap.size, 1, none⟩ = some (.string ⟨#[]⟩) := bcell hA rfl
  have z2 : W.cell? ⟨w.heap.size, 2, none⟩ = some (.bool false) := bcell hA rfl
  have z0f := bfree hA 0
  have z1f := bfree hA 1
  have z2f := bfree hA 2
  obtain ⟨F, hF⟩ : ∃ F, fnd l key = F := ⟨_, rfl⟩
  have HF : Hid (fnd l key = F) := hF
  simp only [hF]
  clear hS hA hF
  go_enter Try.func60, Try.ntmps60
  go_wp2
  clear hW
  go_loopw [6] (fun v wr => ∃ k : Nat, k ≤ l.length ∧ v = .int .i64 k ∧ Hid (∀ (j : Nat) f, j < k → l[j]? = some f → f.k ≠ key) ∧ wr = W) (fun v _ => l.length - (intOf v).toNat)
  case atStart => exact ⟨0, Nat.zero_le _, rfl, fun i a h => by omega, rfl⟩
  case round =>
    obtain ⟨k, hk, rfl, hn, hwr⟩ := hrel
    obtain rfl := hwr.symm
    by_cases hkl : k < l.length
    · rcases HS.out with h0 | ⟨b, off, rfl, hlt, hc⟩
      · rw [h0] at hkl; simp at hkl
      have HG : Hid (l[k]? = some l[k]) := List.getElem?_eq_getElem hkl
      obtain ⟨⟨pk, pv, pg⟩, he⟩ : ∃ e, l[k] = e := ⟨_, rfl⟩
      rw [he] at HG
      have c0 : W.cell? ⟨b, off + k * 3, none⟩ = some (.string pk) := hc k _ HG.out 0 _ rfl
      have c1 : W.cell? ⟨b, off + k * 3 + 1, none⟩ = some (.string pv) := hc k _ HG.out 1 _ rfl
      have c2 : W.cell? ⟨b, off + k * 3 + 2, none⟩ = some (.bool pg) := hc k _ HG.out 2 _ rfl
      have i2 : (k : Int) < (l.length : Int) := by omega
      clear hc he
      by_cases hq : pk = key
      case pos =>
        subst hq
        have HFe : Hid (F = some ⟨pk, pv, pg⟩) := HF.out.symm.trans (fnd_at hn.out HG.out rfl)
        go_wp2
        refine bodyPost_ret (v := .tuple #[.agg #[.string pk, .string pv, .bool pg], .bool true]) (by simp [results, Try.results60, go_sem, z0, z1, z2]) rfl ⟨by rw [HFe.out]; rfl, ?_⟩
        exact ((hb.setCell (Nat.le_refl _) _).setCell (Nat.le_refl _) _).setCell (Nat.le_refl _) _
      case neg =>
        have hq2 : (pk.toList == key.toList) = false := by simp; exact fun e => hq (of_same e)
        have hn2 : Hid (∀ (j : Nat) f, j < k + 1 → l[j]? = some f → f.k ≠ key) := fun j f hj h => by
          by_cases ei : j = k
          · subst ei; rw [HG.out] at h; cases h; exact hq
          · exact hn.out j f (by omega) h
        clear hq
        go_wp2
        go_roundw
        case rel => exact ⟨k + 1, by omega, by go_num, hn2, by first | rfl | trivial⟩
        case measure => simp [intOf]; omega
    · obtain rfl : k = l.length := by omega
      have HFe : Hid (F = none) := HF.out.symm.trans (fnd_none (fun j f h => hn.out j f (List.getElem?_eq_some_iff.1 h).1 h))
      clear hkl hk
      go_wp2
      refine bodyPost_ret (v := .tuple #[.agg #[.string ⟨#[]⟩, .string ⟨#[]⟩, .bool false], .bool false]) (by simp [results, Try.results60, go_sem, z0, z1, z2]; try rfl) rfl ⟨by rw [HFe.out]; rfl, ?_⟩
      exact ((hb.setCell (Nat.le_refl _) _).setCell (Nat.le_refl _) _).setCell (Nat.le_refl _) _
theorem nw_next {ys : List flP.Pr} {ls : List (List flP.Pr)} {k : Nat} {l : List flP.Pr} {key : ByteArray} (h : ls[k]? = some l) : nwst (ys :: ls.take (k + 1)) key = (nwst (ys :: ls.take k) key).or (fnd l key) := by
  unfold nwst
  have e : ys :: ls.take (k + 1) = (ys :: ls.take k) ++ [l] := by rw [List.take_add_one, h]; simp
  rw [e, List.findSome?_append]
  simp
theorem nw_some {ys : List flP.Pr} {ls : List (List flP.Pr)} {k : Nat} {e : flP.Pr} {key : ByteArray} (h : nwst (ys :: ls.take k) key = some e) : nwst (ys :: ls) key = some e := by
  unfold nwst at *
  have e2 : ys :: ls = (ys :: ls.take k) ++ ls.drop k := by rw [List.cons_append, List.take_append_drop]
  rw [e2, List.findSome?_append, h]
  rfl
/-- on the way through l07Newest -/
structure NW (w1 : World) (n6 : Nat) (c : Option flP.Pr) (X : World) : Prop where
  bel : Below n6 w1 X
  bx : X.heap[n6]? = some (.cells #[.string (c.getD p0).k, .string (c.getD p0).v, .bool (c.getD p0).g] 63 (0, 0))
theorem NW.on {w1 X X' : World} {n6 : Nat} {c : Option flP.Pr} (h : NW w1 n6 c X) (hn : n6 ≤ w1.heap.size) (hb : Below X.heap.size X X') : NW w1 n6 c X' :=
  ⟨h.bel.trans (hb.mono (by have := h.bel.size; omega)), bstay h.bx hb (Array.getElem?_eq_some_iff.1 h.bx).1⟩
theorem NW.put {w1 X : World} {n6 : Nat} {c : Option flP.Pr} (h : NW w1 n6 c X) (d : Option flP.Pr) : NW w1 n6 d (((X.setCell ⟨n6, 0, none⟩ (.string (d.getD p0).k)).setCell ⟨n6, 1, none⟩ (.string (d.getD p0).v)).setCell ⟨n6, 2, none⟩ (.bool (d.getD p0).g)) :=
  ⟨((h.bel.setCell (Nat.le_refl _) _).setCell (Nat.le_refl _) _).setCell (Nat.le_refl _) _, bset (bset (bset h.bx 0 _) 1 _) 2 _⟩

set_option maxRecDepth 100000 in
set_option maxHeartbeats 1000000 in
theorem spec_newest (ys : List flP.Pr) (rs : List Rn) (ya ra : Option Addr) (yc rc : Nat) (key : ByteArray) (w : World) (F : tb.Fit ys rs) (hY : Row flP.c 3 w w.heap.size ya ys) (hR : VR w w.heap.size ra rs) :
    Calls Try.prog 55 #[.agg #[.slice ya ys.length yc, .slice ra rs.length rc], .string key] w fun r w' => r = .returned (.tuple #[.agg #[.string ((nwst (ys :: rs.map (·.l)) key).getD p0).k, .string ((nwst (ys :: rs.map (·.l)) key).getD p0).v, .bool ((nwst (ys :: rs.map (·.l)) key).getD p0).g], .bool (nwst (ys :: rs.map (·.l)) key).isSome]) ∧ Below w.heap.size w w' := by
  have hb : Below w.heap.size w ((w.alloc (.cells #[.slice ya ys.length yc, .slice ra rs.length rc] 32)).alloc (.cells #[.string ⟨#[]⟩, .string ⟨#[]⟩, .bool false] 63)) := ((Below.refl _ _).alloc (Nat.le_refl _) _).alloc (by simp) _
  have hA := bold (bnew w #[.slice ya ys.length yc, .slice ra rs.length rc] 32) (.cells #[.string ⟨#[]⟩, .string ⟨#[]⟩, .bool false] 63)
  have hZ := bnew (w.alloc (.cells #[.slice ya ys.length yc, .slice ra rs.length rc] 32)) #[.string ⟨#[]⟩, .string ⟨#[]⟩, .bool false] 63
  rw [World.size_alloc] at hZ
  obtain ⟨W, hW⟩ : ∃ W, (w.alloc (.cells #[.slice ya ys.length yc, .slice ra rs.length rc] 32)).alloc (.cells #[.string ⟨#[]⟩, .string ⟨#[]⟩, .bool false] 63) = W := ⟨_, rfl⟩
  rw [hW] at hb hA hZ
  have HA : Hid (W.heap[w.heap.size]? = some (.cells #[.slice ya ys.length yc, .slice ra rs.length rc] 32 (0, 0))) := hA
  have HZ : Hid (W.heap[w.heap.size + 1]? = some (.cells #[.string ⟨#[]⟩, .string ⟨#[]⟩, .bool false] 63 (0, 0))) := hZ
  have la := (Array.getElem?_eq_some_iff.1 hA).1
  have lz := (Array.getElem?_eq_some_iff.1 hZ).1
  have hfy := spec_find ys ya yc key W F.yl (hY.inn hb)
  have HVR : Hid (VR W W.heap.size ra rs) := hR.inn hb
  have HF : Hid (tb.Fit ys rs) := F
  have hrl := F.rl
  have x0 : W.cell? ⟨w.heap.size, 0, none⟩ = some (.slice ya ys.length yc) := bcell hA rfl
  obtain ⟨NV, hNV⟩ : ∃ NV, nwst (ys :: rs.map (·.l)) key = NV := ⟨_, rfl⟩
  have HNV : Hid (nwst (ys :: rs.map (·.l)) key = NV) := hNV
  simp only [hNV]
  have hc0 : fnd ys key = nwst (ys :: (rs.map (·.l)).take 0) key := by
    unfold nwst
    simp only [List.take_zero, List.findSome?_cons, List.findSome?_nil]
    cases fnd ys key <;> rfl
  rw [hc0] at hfy
  clear hY hR hA hZ F hNV hc0
  go_enter Try.func55, Try.ntmps55
  go_wp2_with (go_at_call 60; fail)
  clear hW x0
  refine hfy.mono ?_
  rintro e w1 ⟨rfl, hb1⟩
  obtain ⟨c0, hc0⟩ : ∃ c0, nwst (ys :: (rs.map (·.l)).take 0) key = c0 := ⟨_, rfl⟩
  have HC0 : Hid (nwst (ys :: (rs.map (·.l)).take 0) key = c0) := hc0
  rw [hc0]
  have hs1 := hb1.size
  have hnw0 : NW w1 w1.heap.size c0 (w1.alloc (.cells #[.string (c0.getD p0).k, .string (c0.getD p0).v, .bool (c0.getD p0).g] 63)) := ⟨(Below.refl _ _).alloc (Nat.le_refl _) _, bnew w1 _ _⟩
  have HA1 : Hid (w1.heap[w.heap.size]? = some (.cells #[.slice ya ys.length yc, .slice ra rs.length rc] 32 (0, 0))) := bstay HA.out hb1 la
  have HZ1 : Hid (w1.heap[w.heap.size + 1]? = some (.cells #[.string ⟨#[]⟩, .string ⟨#[]⟩, .bool false] 63 (0, 0))) := bstay HZ.out hb1 lz
  have HV1 : Hid (VR w1 w1.heap.size ra rs) := HVR.out.inn hb1
  have HN0 : Hid (NW w1 w1.heap.size c0 (w1.alloc (.cells #[.string (c0.getD p0).k, .string (c0.getD p0).v, .bool (c0.getD p0).g] 63))) := hnw0
  have hbw1 : Below w.heap.size w w1 := hb.trans (hb1.mono hb.size)
  obtain ⟨X, hX⟩ : ∃ X, w1.alloc (.cells #[.string (c0.getD p0).k, .string (c0.getD p0).v, .bool (c0.getD p0).g] 63) = X := ⟨_, rfl⟩
  rw [hX] at HN0
  have la1 := (Array.getElem?_eq_some_iff.1 HA1.out).1
  have lz1 := (Array.getElem?_eq_some_iff.1 HZ1.out).1
  clear hfy hc0 hnw0 HVR HA HZ
  go_wp2
  clear hX
  go_loopw [7, 8] (fun o v wr => ∃ (k : Nat) (c : Option flP.Pr), k ≤ rs.length ∧ v = .int .i64 k ∧ o = .bool c.isSome ∧ Hid (nwst (ys :: (rs.map (·.l)).take k) key = c) ∧ Hid (NW w1 w1.heap.size c wr)) (fun _ v _ => rs.length - (intOf v).toNat)
  case atStart => exact ⟨0, c0, Nat.zero_le _, rfl, rfl, HC0, HN0⟩
  case round =>
    obtain ⟨k, c, hk, rfl, rfl, hc, hnw⟩ := hrel
    clear HN0
    have x1 : wr.cell? ⟨w.heap.size, 1, none⟩ = some (.slice ra rs.length rc) := bcell (bstay HA1.out hnw.out.bel la1) rfl
    have p00 : wr.cell? ⟨w1.heap.size, 0, none⟩ = some (.string (c.getD p0).k) := bcell hnw.out.bx rfl
    have p01 : wr.cell? ⟨w1.heap.size, 1, none⟩ = some (.string (c.getD p0).v) := bcell hnw.out.bx rfl
    have p02 : wr.cell? ⟨w1.heap.size, 2, none⟩ = some (.bool (c.getD p0).g) := bcell hnw.out.bx rfl
    have hend : (nwst (ys :: rs.map (·.l)) key = c) → ∀ wr, NW w1 w1.heap.size c wr → wr.cell? ⟨w.heap.size + 1, 0, none⟩ = some (.string ⟨#[]⟩) ∧ wr.cell? ⟨w.heap.size + 1, 1, none⟩ = some (.string ⟨#[]⟩) ∧ wr.cell? ⟨w.heap.size + 1, 2, none⟩ = some (.bool false) ∧ wr.frozen? ⟨w.heap.size + 1, 0, none⟩ = false ∧ wr.frozen? ⟨w.heap.size + 1, 1, none⟩ = false ∧ wr.frozen? ⟨w.heap.size + 1, 2, none⟩ = false := fun _ wr h => by
      have hz := bstay HZ1.out h.bel lz1
      exact ⟨bcell hz rfl, bcell hz rfl, bcell hz rfl, bfree hz 0, bfree hz 1, bfree hz 2⟩
    have HEND : Hid ((nwst (ys :: rs.map (·.l)) key = c) → ∀ wr, NW w1 w1.heap.size c wr → wr.cell? ⟨w.heap.size + 1, 0, none⟩ = some (.string ⟨#[]⟩) ∧ wr.cell? ⟨w.heap.size + 1, 1, none⟩ = some (.string ⟨#[]⟩) ∧ wr.cell? ⟨w.heap.size + 1, 2, none⟩ = some (.bool false) ∧ wr.frozen? ⟨w.heap.size + 1, 0, none⟩ = false ∧ wr.frozen? ⟨w.heap.size + 1, 1, none⟩ = false ∧ wr.frozen? ⟨w.heap.size + 1, 2, none⟩ = false) := hend
    clear hend
    by_cases hkl : k < rs.length
    · cases hcc : c with
      | none =>
        subst hcc
        have hvr := HV1.out
        rcases hvr.1 with h0 | ⟨b, off, rfl, hlt, hcl⟩
        · rw [h0] at hkl; simp at hkl
        have HG : Hid (rs[k]? = some rs[k]) := List.getElem?_eq_getElem hkl
        have hrow := hvr.2 rs[k] (List.getElem_mem hkl)
        have hfr := (HF.out.ro rs[k] (List.getElem_mem hkl)).1
        obtain ⟨⟨qa, qc, ql⟩, he⟩ : ∃ e, rs[k] = e := ⟨_, rfl⟩
        rw [he] at HG hrow hfr
        have hbel : Below w1.heap.size w1 wr := hnw.out.bel
        have q0 : wr.cell? ⟨b, off + k, none⟩ = some (.slice qa ql.length qc) := (hbel.cell (p := ⟨b, off + k, none⟩) hlt).trans (by have := hcl k _ HG.out 0 _ rfl; simpa using this)
        have hone := spec_find ql qa qc key wr hfr (hrow.inn hbel)
        have HNX : Hid (nwst (ys :: (rs.map (·.l)).take (k + 1)) key = fnd ql key) := by
          unfold Hid
          rw [nw_next (map_at HG.out), hc.out]
          rfl
        have i2 : (k : Int) < (rs.length : Int) := by omega
        clear hvr hcl he hrow hfr HEND
        go_wp2_with (go_at_call 60; fail)
        refine hone.mono ?_
        rintro e w2 ⟨rfl, hb2⟩
        have hnw2 := hnw.out.on (Nat.le_refl _) hb2
        obtain ⟨d, hd⟩ : ∃ d, fnd ql key = d := ⟨_, rfl⟩
        rw [hd] at HNX ⊢
        have HP : Hid (NW w1 w1.heap.size d (((w2.setCell ⟨w1.heap.size, 0, none⟩ (.string (d.getD p0).k)).setCell ⟨w1.heap.size, 1, none⟩ (.string (d.getD p0).v)).setCell ⟨w1.heap.size, 2, none⟩ (.bool (d.getD p0).g))) := hnw2.put d
        have r0 : ∃ v, w2.cell? ⟨w1.heap.size, 0, none⟩ = some v := ⟨_, bcell hnw2.bx rfl⟩
        have r1 : ∃ v, w2.cell? ⟨w1.heap.size, 1, none⟩ = some v := ⟨_, bcell hnw2.bx rfl⟩
        have r2 : ∃ v, w2.cell? ⟨w1.heap.size, 2, none⟩ = some v := ⟨_, bcell hnw2.bx rfl⟩
        obtain ⟨v0, r0⟩ := r0
        obtain ⟨v1, r1⟩ := r1
        obtain ⟨v2, r2⟩ := r2
        have f0 := bfree hnw2.bx 0
        have f1 := bfree hnw2.bx 1
        have f2 := bfree hnw2.bx 2
        clear hone hd hnw2 x1 p00 p01 p02 q0 hbel
        go_wp2
        go_roundw
        case rel => exact ⟨k + 1, d, by omega, by go_num, rfl, HNX, HP⟩
        case measure => simp [intOf]; omega
      | some e =>
        subst hcc
        have hfin : nwst (ys :: rs.map (·.l)) key = some e := nw_some hc.out
        have HFIN : Hid (NV = some e) := HNV.out.symm.trans hfin
        obtain ⟨z0, z1, z2, g0, g1, g2⟩ := HEND.out hfin wr hnw.out
        have i2 : (k : Int) < (rs.length : Int) := by omega
        have hbel : Below w1.heap.size w1 wr := hnw.out.bel
        have p00 : wr.cell? ⟨w1.heap.size, 0, none⟩ = some (.string e.k) := p00
        have p01 : wr.cell? ⟨w1.heap.size, 1, none⟩ = some (.string e.v) := p01
        have p02 : wr.cell? ⟨w1.heap.size, 2, none⟩ = some (.bool e.g) := p02
        clear hfin HEND
        go_wp2
        refine bodyPost_ret (v := .tuple #[.agg #[.string e.k, .string e.v, .bool e.g], .bool true]) (by simp [results, Try.results55, go_sem, z0, z1, z2]) rfl ⟨by rw [HFIN.out]; rfl, ?_⟩
        exact (((hbw1.trans (hbel.mono hbw1.size)).setCell (Nat.le_succ _) _).setCell (Nat.le_succ _) _).setCell (Nat.le_succ _) _
    · obtain rfl : k = rs.length := by omega
      have hfin : nwst (ys :: rs.map (·.l)) key = c := by have := hc.out; rw [List.take_of_length_le (by simp)] at this; exact this
      have HFIN : Hid (NV = c) := HNV.out.symm.trans hfin
      obtain ⟨z0, z1, z2, g0, g1, g2⟩ := HEND.out hfin wr hnw.out
      have hbel : Below w1.heap.size w1 wr := hnw.out.bel
      obtain ⟨⟨ek, ev, eg⟩, he⟩ : ∃ e, c.getD p0 = e := ⟨_, rfl⟩
      rw [he] at p00 p01 p02
      have HE : Hid (c.getD p0 = ⟨ek, ev, eg⟩) := he
      have p00 : wr.cell? ⟨w1.heap.size, 0, none⟩ = some (.string ek) := p00
      have p01 : wr.cell? ⟨w1.heap.size, 1, none⟩ = some (.string ev) := p01
      have p02 : wr.cell? ⟨w1.heap.size, 2, none⟩ = some (.bool eg) := p02
      clear hfin HEND hkl hk he
      go_wp2
      refine bodyPost_ret (v := .tuple #[.agg #[.string ek, .string ev, .bool eg], .bool c.isSome]) (by simp [results, Try.results55, go_sem, z0, z1, z2]) rfl ⟨by rw [HFIN.out, HE.out], ?_⟩
      exact (((hbw1.trans (hbel.mono hbw1.size)).setCell (Nat.le_succ _) _).setCell (Nat.le_succ _) _).setCell (Nat.le_succ _) _
end Go.Proofs.Ytfoajjkcocppeaa.tg
