/- TableGet, of the specification and of the program: the newest value of a key; new memory alone. -/
import Derived.Test.YtokaoafbgebelaaTabOk
import Derived.Shelf.LaysM
import Derived.Shelf.Strconv.Clone
import Derived.Test.YtokaoafbgebelaaRows
import Derived.WalkKit
import Derived.Test.YtokaoafbgebelaaTd02

/- The newest pair of a key in a table, and the specification's TableGet. -/
namespace Go.Proofs.Ytokaoafbgebelaa.tg
open Go.ChangeShapes Go.WideShapes Go.ChangeAt Go.RowKit Go.Proofs.Ytokaoafbgebelaa.fl Go.Proofs.Ytokaoafbgebelaa.rn Go.Proofs.Ytokaoafbgebelaa.rc Go.Proofs.Ytokaoafbgebelaa.ro Go.Proofs.Ytokaoafbgebelaa.tk Go.Proofs.Ytokaoafbgebelaa.pf Go.Proofs.Ytokaoafbgebelaa.tko
set_option linter.unusedVariables false

def fnd (l : List flP.Pr) (key : ByteArray) : Option flP.Pr := l.find? (fun e => decide (e.k = key))
def p0 : flP.Pr := ⟨⟨#[]⟩, ⟨#[]⟩, false⟩
def nwst (ls : List (List flP.Pr)) (key : ByteArray) : Option flP.Pr := ls.findSome? (fun l => fnd l key)
theorem fnd_at {l : List flP.Pr} {key : ByteArray} {i : Nat} {e : flP.Pr} (hno : ∀ (j : Nat) f, j < i → l[j]? = some f → f.k ≠ key) (hi : l[i]? = some e) (he : e.k = key) : fnd l key = some e := by
  unfold fnd
  rw [List.find?_eq_some_iff_getElem]
  obtain ⟨hlt, h2⟩ := List.getElem?_eq_some_iff.1 hi
  refine ⟨by simpa using he, i, hlt, h2, fun j hj => ?_⟩
  simp
  exact hno j _ hj (List.getElem?_eq_getElem (by omega))
theorem fnd_none {l : List flP.Pr} {key : ByteArray} (hno : ∀ (j : Nat) f, l[j]? = some f → f.k ≠ key) : fnd l key = none := by
  unfold fnd
  rw [List.find?_eq_none]
  intro x hx
  obtain ⟨j, hj⟩ := List.getElem?_of_mem hx
  simpa using hno j x hj

set_option maxRecDepth 100000 in
set_option maxHeartbeats 1000000 in
theorem spec_find (l : List flP.Pr) (a : Option Addr) (cap : Nat) (key : ByteArray) (w : World) (hl : l.length ≤ 1048576) (hS : Row flP.c 3 w w.heap.size a l) :
    Calls Try.prog 52 #[.slice a l.length cap, .string key] w fun r w' => r = .returned (.tuple #[.agg #[.string ((fnd l key).getD p0).k, .string ((fnd l key).getD p0).v, .bool ((fnd l key).getD p0).g], .bool (fnd l key).isSome]) ∧ Below w.heap.size w w' := by
  have hb : Below w.heap.size w (w.alloc (.cells #[.string ⟨#[]⟩, .string ⟨#[]⟩, .bool false] 40)) := (Below.refl _ _).alloc (Nat.le_refl _) _
  have hA := bnew w #[.string ⟨#[]⟩, .string ⟨#[]⟩, .bool false] 40
  obtain ⟨W, hW⟩ : ∃ W, w.alloc (.cells #[.string ⟨#[]⟩, .string ⟨#[]⟩, .bool false] 40) = W := ⟨_, rfl⟩
  rw [hW] at hb hA
  have HS : Hid (Row flP.c 3 W W.heap.size a l) := hS.inn hb
  have z0 : W.cell? ⟨w.heap.size, 0, none⟩ = some (.string ⟨#[]⟩) := bcell hA rfl
  have z1 : W.cell? ⟨w.heap.size, 1, none⟩ = some (.string ⟨#[]⟩) := bcell hA rfl
  have z2 : W.cell? ⟨w.heap.size, 2, none⟩ = some (.bool false) := bcell hA rfl
  have z0f := bfree hA 0
  have z1f := bfree hA 1
  have z2f := bfree hA 2
  obtain ⟨F, hF⟩ : ∃ F, fnd l key = F := ⟨_, rfl⟩
  have HF : Hid (fnd l key = F) := hF
  simp only [hF]
  clear hS hA hF
  go_enter Try.func52, Try.ntmps52
  go_wp2
  clear hW
  go_loopw [6] (fun v wr => ∃ k : Nat, k ≤ l.length ∧ v = .int .i64 k ∧ Hid (∀ (j : Nat) f, j < k → l[j]? = some f → f.k ≠ key) ∧ wr = W) (fun v _ => l.length - (intOf v).toNat)
  case atStart => exact ⟨0, Nat.zero_le _, rfl, fun i a h => by omega, rfl⟩
  case round =>
    obtain ⟨k, hk, rfl, hn, hwr⟩ := hrel
    obtain rfl := hwr.symm
    by_cases hkl : k < l.length
    · rcases HS.out with h0 | ⟨b, off, rfl, hlt, hc⟩
      · rw [h0] at hkl; simp at hkl
      have HG : Hid (l[k]? = some l[k]) := List.getElem?_eq_getElem hkl
      obtain ⟨⟨pk, pv, pg⟩, he⟩ : ∃ e, l[k] = e := ⟨_, rfl⟩
      rw [he] at HG
      have c0 : W.cell? ⟨b, off + k * 3, none⟩ = some (.string pk) := hc k _ HG.out 0 _ rfl
      have c1 : W.cell? ⟨b, off + k * 3 + 1, none⟩ = some (.string pv) := hc k _ HG.out 1 _ rfl
      have c2 : W.cell? ⟨b, off + k * 3 + 2, none⟩ = some (.bool pg) := hc k _ HG.out 2 _ rfl
      have i2 : (k : Int) < (l.length : Int) := by omega
      clear hc he
      by_cases hq : pk = key
      case pos =>
        subst hq
        have HFe : Hid (F = some ⟨pk, pv, pg⟩) := HF.out.symm.trans (fnd_at hn.out HG.out rfl)
        go_wp2
        refine bodyPost_ret (v := .tuple #[.agg #[.string pk, .string pv, .bool pg], .bool true]) (by simp [results, Try.results52, go_sem, z0, z1, z2]) rfl ⟨by rw [HFe.out]; rfl, ?_⟩
        exact ((hb.setCell (Nat.le_refl _) _).setCell (Nat.le_refl _) _).setCell (Nat.le_refl _) _
      case neg =>
        have hq2 : (pk.toList == key.toList) = false := by simp; exact fun e => hq (of_same e)
        have hn2 : Hid (∀ (j : Nat) f, j < k + 1 → l[j]? = some f → f.k ≠ key) := fun j f hj h => by
          by_cases ei : j = k
          · subst ei; rw [HG.out] at h; cases h; exact hq
          · exact hn.out j f (by omega) h
        clear hq
        go_wp2
        go_roundw
        case rel => exact ⟨k + 1, by omega, by go_num, hn2, by first | rfl | trivial⟩
        case measure => simp [intOf]; omega
    · obtain rfl : k = l.length := by omega
      have HFe : Hid (F = none) := HF.out.symm.trans (fnd_none (fun j f h => hn.out j f (List.getElem?_eq_some_iff.1 h).1 h))
      clear hkl hk
      go_wp2
      refine bodyPost_ret (v := .tuple #[.agg #[.string ⟨#[]⟩, .string ⟨#[]⟩, .bool false], .bool false]) (by simp [results, Try.results52, go_sem, z0, z1, z2]; try rfl) rfl ⟨by rw [HFe.out]; rfl, ?_⟩
      exact ((hb.setCell (Nat.le_refl _) _).setCell (Nat.le_refl _) _).setCell (Nat.le_refl _) _
/-- on the way through l07Newest -/
structure NW (w1 : World) (n6 : Nat) (c : Option flP.Pr) (X : World) : Prop where
  bel : Below n6 w1 X
  bx : X.heap[n6]? = some (.cells #[.string (c.getD p0).k, .string (c.getD p0).v, .bool (c.getD p0).g] 40 (0, 0))
theorem NW.on {w1 X X' : World} {n6 : Nat} {c : Option flP.Pr} (h : NW w1 n6 c X) (hn : n6 ≤ w1.heap.size) (hb : Below X.heap.size X X') : NW w1 n6 c X' :=
  ⟨h.bel.trans (hb.mono (by have := h.bel.size; omega)), bstay h.bx hb (Array.getElem?_eq_some_iff.1 h.bx).1⟩
theorem NW.put {w1 X : World} {n6 : Nat} {c : Option flP.Pr} (h : NW w1 n6 c X) (d : Option flP.Pr) : NW w1 n6 d (((X.setCell ⟨n6, 0, none⟩ (.string (d.getD p0).k)).setCell ⟨n6, 1, none⟩ (.string (d.getD p0).v)).setCell ⟨n6, 2, none⟩ (.bool (d.getD p0).g)) :=
  ⟨((h.bel.setCell (Nat.le_refl _) _).setCell (Nat.le_refl _) _).setCell (Nat.le_refl _) _, bset (bset (bset h.bx 0 _) 1 _) 2 _⟩

end Go.Proofs.Ytokaoafbgebelaa.tg

/- strings.Clone hands back the same bytes and lays new memory alone: the library's contract for internal/stringslite.Clone, laid at this program. -/
namespace Go.Proofs.Ytokaoafbgebelaa.cl
open Go.Shelf Go.RowKit
def ren : Go.Shelf.Ren := ⟨fun | 316 => 65 | n => n, fun | 9 => 9 | 3 => 3 | 4 => 4 | 37 => 22 | 0 => 0 | 127 => 110 | 5 => 5 | n => n, fun | n => n⟩
theorem laid : Go.Proofs.LaysM.n316 Try.prog ren := {
  mixed := by kernel_rfl
  f316 := Try.func65.trans (congrArg some (by kernel_rfl))
  t0 := Try.underlying0
  a0 := Try.isAgg0
  z0 := Try.sizeOf0
  v0 := Try.zeroValue0
  t3 := Try.underlying3
  a3 := Try.isAgg3
  z3 := Try.sizeOf3
  v3 := Try.zeroValue3
  t4 := Try.underlying4
  a4 := Try.isAgg4
  z4 := Try.sizeOf4
  v4 := Try.zeroValue4
  t9 := Try.underlying9
  a9 := Try.isAgg9
  z9 := Try.sizeOf9
  v9 := Try.zeroValue9
  t37 := Try.underlying22
  a37 := Try.isAgg22
  z37 := Try.sizeOf22
  v37 := Try.zeroValue22
  t127 := Try.underlying110
  a127 := Try.isAgg110
  z127 := Try.sizeOf110
  v127 := Try.zeroValue110
  t5 := Try.underlying5
  a5 := Try.isAgg5
  z5 := Try.sizeOf5
  v5 := Try.zeroValue5
  i0 := by kernel_rfl
  i3 := by kernel_rfl
  i4 := by kernel_rfl
  i5 := by kernel_rfl
  i9 := by kernel_rfl
  i37 := by kernel_rfl
  i127 := by kernel_rfl }
theorem lite (s : ByteArray) (w : World) (hlim : s.size ≤ 281474976710656) :
    Calls Try.prog 65 #[.string s] w fun e w' => e = .returned (.string s) ∧ Below w.heap.size w w' := Any.stringslite_Clone laid s w hlim

theorem clone (s : ByteArray) (w : World) (hlim : s.size ≤ 281474976710656) :
    Calls Try.prog 42 #[.string s] w fun e w' => e = .returned (.string s) ∧ Below w.heap.size w w' := by
  go_enter Try.func42, Try.ntmps42
  go_wp2_with (go_at_call 65; refine (lite s w hlim).mono ?_; rintro e w1 ⟨rfl, hb1⟩)
  go_ret
  exact ⟨rfl, hb1⟩
end Go.Proofs.Ytokaoafbgebelaa.cl

/- TableGet, of the specification and of the program: the newest value of a key; new memory alone. -/
namespace Go.Proofs.Ytokaoafbgebelaa.tgi
open Go.ChangeShapes Go.WideShapes Go.ChangeAt Go.RowKit Go.Proofs.Ytokaoafbgebelaa.fl Go.Proofs.Ytokaoafbgebelaa.rn Go.Proofs.Ytokaoafbgebelaa.rc Go.Proofs.Ytokaoafbgebelaa.ro Go.Proofs.Ytokaoafbgebelaa.tk Go.Proofs.Ytokaoafbgebelaa.pf Go.Proofs.Ytokaoafbgebelaa.tko Go.Proofs.Ytokaoafbgebelaa.tg
set_option linter.unusedVariables false

noncomputable def getT (ys : List flP.Pr) (ls : List (List flP.Pr)) (key : ByteArray) : ByteArray × Bool :=
  if okB ys ls = true then (match nwst (ys :: ls) key with | some e => if e.g = true then (⟨#[]⟩, false) else (e.v, true) | none => (⟨#[]⟩, false)) else (⟨#[]⟩, false)
noncomputable def getV (ys : List flP.Pr) (ls : List (List flP.Pr)) (key : ByteArray) : ByteArray := (getT ys ls key).1
noncomputable def getO (ys : List flP.Pr) (ls : List (List flP.Pr)) (key : ByteArray) : Bool := (getT ys ls key).2
section
variable {ys : List flP.Pr} {ls : List (List flP.Pr)} {key : ByteArray} {e : flP.Pr}
theorem get_bad (h : okB ys ls = false) : getV ys ls key = ⟨#[]⟩ ∧ getO ys ls key = false := by unfold getV getO getT; rw [h]; exact ⟨rfl, rfl⟩
theorem get_none (h : nwst (ys :: ls) key = none) : getV ys ls key = ⟨#[]⟩ ∧ getO ys ls key = false := by
  unfold getV getO getT
  rw [h]
  split <;> exact ⟨rfl, rfl⟩
theorem get_gone (h : nwst (ys :: ls) key = some e) (hg : e.g = true) : getV ys ls key = ⟨#[]⟩ ∧ getO ys ls key = false := by
  unfold getV getO getT
  rw [h]
  simp only [hg, if_true]
  split <;> exact ⟨rfl, rfl⟩
theorem get_there (ho : okB ys ls = true) (h : nwst (ys :: ls) key = some e) (hg : e.g = false) : getV ys ls key = e.v ∧ getO ys ls key = true := by
  unfold getV getO getT
  rw [h, if_pos ho]
  simp [hg]
end

set_option maxRecDepth 100000 in
set_option maxHeartbeats 1000000 in
theorem search_pair (l : List flP.Pr) (a : Option Addr) (c : Nat) (nx nk : ByteArray) (nq : Bool) (w : World) (hl : l.length ≤ 1048576) (hS : Row flP.c 3 w w.heap.size a l) (hM : MonP l ⟨nx, nk, nq⟩) :
    Calls Try.prog 40 #[.slice a l.length c, .agg #[.string nx, .string nk, .bool nq], .func (.func 41) #[] #[]] w fun r w' => (∃ (p : Nat) (b : Bool), r = .returned (.tuple #[.int .i64 p, .bool b]) ∧ PosP l ⟨nx, nk, nq⟩ p ∧ (b = true ↔ ∃ a, l[p]? = some a ∧ cmpP a ⟨nx, nk, nq⟩ = 0)) ∧ Below w.heap.size w w' := by
  rcases hS with rfl | ⟨b, off, rfl, hlt, hc⟩
  · have hb : Below w.heap.size w (w.alloc (.cells #[.string nx, .string nk, .bool nq] 40)) := (Below.refl _ _).alloc (Nat.le_refl _) _
    obtain ⟨W, hW⟩ : ∃ W, w.alloc (.cells #[.string nx, .string nk, .bool nq] 40) = W := ⟨_, rfl⟩
    rw [hW] at hb
    clear hM
    go_enter Try.func40, Try.ntmps40
    go_wp2
    clear hW
    refine wp_loop_rounds 1 ?_
    rw [rounds_succ]
    go_wp2
    refine qi.region_in W (qi.T.refl W) (by kernel_rfl) (by kernel_rfl) ?_
    repeat (go_big_quiet_step (first | (go_at_call 41; fail)))
    refine wpQuiet_nil ?_
    rintro _ ⟨N, rfl⟩
    have hN := N.h
    generalize N.x = wN at hN ⊢
    clear N
    go_wp2
    go_ret2
    exact ⟨⟨0, false, rfl, ⟨Nat.le_refl _, fun i a h => by omega, fun i a _ h => by simp at h⟩, by simp⟩, hb.trans (Below.mono hN hb.size)⟩
  · exact search_off l b off c nx nk nq w hl (rp_row hlt hc) hM

set_option maxRecDepth 100000 in
set_option maxHeartbeats 2000000 in
theorem impl_get (ys : List flP.Pr) (rs : List Rn) (ya ra : Option Addr) (yc rc : Nat) (key : ByteArray) (w : World) (F : tb.Fit ys rs) (q : Addr) (hRQ : apa.NQ ra q rs.length rc) (hkey : key.size ≤ 1048576) (hY : Row flP.c 3 w w.heap.size ya ys) (hR : VR w w.heap.size ra rs) :
    Calls Try.prog 17 #[.agg #[.slice ya ys.length yc, .slice ra rs.length rc], .string key] w fun r w' => r = .returned (.tuple #[.string (getV ys (rs.map (·.l)) key), .bool (getO ys (rs.map (·.l)) key)]) ∧ Below w.heap.size w w' := by
  have hb : Below w.heap.size w (w.alloc (.cells #[.slice ya ys.length yc, .slice ra rs.length rc] 27)) := (Below.refl _ _).alloc (Nat.le_refl _) _
  have hA := bnew w #[.slice ya ys.length yc, .slice ra rs.length rc] 27
  obtain ⟨W, hW⟩ : ∃ W, w.alloc (.cells #[.slice ya ys.length yc, .slice ra rs.length rc] 27) = W := ⟨_, rfl⟩
  rw [hW] at hb hA
  have la := (Array.getElem?_eq_some_iff.1 hA).1
  have HA : Hid (W.heap[w.heap.size]? = some (.cells #[.slice ya ys.length yc, .slice ra rs.length rc] 27 (0, 0))) := hA
  have HY : Hid (Row flP.c 3 W W.heap.size ya ys) := hY.inn hb
  have HR : Hid (VR W W.heap.size ra rs) := hR.inn hb
  have HF : Hid (tb.Fit ys rs) := F
  have hok := impl_okb ys rs ya ra yc rc W F HY.out HR.out
  have x0 : W.cell? ⟨w.heap.size, 0, none⟩ = some (.slice ya ys.length yc) := bcell hA rfl
  have x1 : W.cell? ⟨w.heap.size, 1, none⟩ = some (.slice ra rs.length rc) := bcell hA rfl
  obtain ⟨GV, hGV⟩ : ∃ GV, getV ys (rs.map (·.l)) key = GV := ⟨_, rfl⟩
  obtain ⟨GO, hGO⟩ : ∃ GO, getO ys (rs.map (·.l)) key = GO := ⟨_, rfl⟩
  have HGV : Hid (getV ys (rs.map (·.l)) key = GV) := hGV
  have HGO : Hid (getO ys (rs.map (·.l)) key = GO) := hGO
  simp only [hGV, hGO]
  clear hY hR hA F hGV hGO
  go_enter Try.func17, Try.ntmps17
  go_wp2_with (go_at_call 12; fail)
  clear hW x0 x1
  refine hok.mono ?_
  rintro e w1 ⟨rfl, hb1⟩
  have hbw1 : Below w.heap.size w w1 := hb.trans (hb1.mono hb.size)
  clear hok
  cases hob : okB ys (rs.map (·.l)) with
  | false =>
    obtain ⟨g1, g2⟩ := get_bad (key := key) hob
    obtain rfl : GV = ⟨#[]⟩ := HGV.out.symm.trans g1
    obtain rfl : GO = false := HGO.out.symm.trans g2
    clear g1 g2 HGV HGO hob
    go_wp2
    go_ret2
    exact ⟨rfl, hbw1⟩
  | true =>
    have hly := ly.layers ys rs ya ra yc rc w1 q hRQ HF.out (HY.out.inn hb1) (HR.out.inn hb1)
    have x0 : w1.cell? ⟨w.heap.size, 0, none⟩ = some (.slice ya ys.length yc) := bcell (bstay HA.out hb1 la) rfl
    have x1 : w1.cell? ⟨w.heap.size, 1, none⟩ = some (.slice ra rs.length rc) := bcell (bstay HA.out hb1 la) rfl
    have HOB : Hid (okB ys (rs.map (·.l)) = true) := hob
    have HOT : Hid (OkT ys (rs.map (·.l))) := okB_true.1 hob
    obtain ⟨L, hL⟩ : ∃ L, (⟨ya, yc, ys⟩ :: rs : List Rn) = L := ⟨_, rfl⟩
    have hLl : L.length = rs.length + 1 := by rw [← hL]; rfl
    have HLM : Hid (L.map (·.l) = ys :: rs.map (·.l)) := by unfold Hid; rw [← hL]; rfl
    have HLF : Hid (∀ r ∈ L, r.l.length ≤ 1048576 ∧ OkL r.l ∧ ∀ e ∈ r.l, e.k.size ≤ 1048576 ∧ e.v.size ≤ 1048576) := fun r hr => by
      rw [← hL] at hr
      rcases List.mem_cons.1 hr with rfl | hr
      · exact ⟨HF.out.yl, HOT.out.yo, HF.out.yo⟩
      · obtain ⟨i, hi⟩ := List.getElem?_of_mem hr
        exact ⟨(HF.out.ro r hr).1, HOT.out.ro i _ (map_at hi), (HF.out.ro r hr).2⟩
    rw [hL, ← hLl] at hly
    have hll : L.length ≤ 1048577 := by have := HF.out.rl; omega
    clear hob hL
    go_wp2_with (go_at_call 37; fail)
    refine hly.mono ?_
    rintro e w2 ⟨g, c, rfl, hvr, hb2⟩
    have hbw2 : Below w.heap.size w w2 := hbw1.trans (hb2.mono hbw1.size)
    have HVR : Hid (VR w2 w2.heap.size (some ⟨g, 0, none⟩) L) := hvr
    clear hly hvr x0 x1 hLl
    go_wp2
    go_loopw [7, 8, 9, 16] (fun _ _ _ v wr => ∃ k : Nat, k ≤ L.length ∧ v = .int .i64 k ∧ Hid (∀ (i : Nat) r, i < k → L[i]? = some r → fnd r.l key = none) ∧ Below w2.heap.size w2 wr) (fun _ _ _ v _ => L.length - (intOf v).toNat)
    case atStart => exact ⟨0, Nat.zero_le _, rfl, fun i r h => by omega, Below.refl _ _⟩
    case round =>
      obtain ⟨k, hk, rfl, hno, hbel⟩ := hrel
      have hbs := hbel.size
      by_cases hkl : k < L.length
      · rcases HVR.out.1 with h0 | ⟨b, off, hq, hlt, hc⟩
        · rw [h0] at hkl; simp at hkl
        cases hq
        have HG : Hid (L[k]? = some L[k]) := List.getElem?_eq_getElem hkl
        have hrow := (HVR.out.2 L[k] (List.getElem_mem hkl)).inn hbel
        have hlf := HLF.out L[k] (List.getElem_mem hkl)
        obtain ⟨⟨qa, qc, ql⟩, he⟩ : ∃ e, L[k] = e := ⟨_, rfl⟩
        rw [he] at HG hrow hlf
        obtain ⟨hl1, hl2, hl3⟩ := hlf
        have c0 : wr.cell? ⟨g, k, none⟩ = some (.slice qa ql.length qc) := (hbel.cell (p := ⟨g, k, none⟩) hlt).trans (by have := hc k _ HG.out 0 _ rfl; simpa using this)
        have hsr := search_pair ql qa qc key ⟨#[]⟩ false wr hl1 hrow (up_mon hl2.up _)
        have HL2 : Hid (OkL ql) := hl2
        have HL3 : Hid (∀ e ∈ ql, e.k.size ≤ 1048576 ∧ e.v.size ≤ 1048576) := hl3
        have HROW : Hid (Row flP.c 3 wr wr.heap.size qa ql) := hrow
        have i2 : (k : Int) < (L.length : Int) := by omega
        clear hc he hrow hl1 hl2 hl3
        go_wp2_with (go_at_call 40; fail)
        refine hsr.mono ?_
        rintro e w3 ⟨⟨p, bt, rfl, hp, hbt⟩, hb3⟩
        have hb23 : Below w2.heap.size w2 w3 := hbel.trans (hb3.mono hbs)
        have HFD : Hid ((∃ a, ql[p]? = some a ∧ cmpP a ⟨key, ⟨#[]⟩, false⟩ = 0) ↔ ∃ (i : Nat) (a : flP.Pr), ql[i]? = some a ∧ a.k = key) := found HL2.out.up hp
        have HBT : Hid (bt = true ↔ ∃ a, ql[p]? = some a ∧ cmpP a ⟨key, ⟨#[]⟩, false⟩ = 0) := hbt
        clear hsr c0 hp hbt
        cases bt with
        | true =>
          obtain ⟨a, ha, hz⟩ := HBT.out.1 rfl
          obtain ⟨ak, av, ag⟩ := a
          have hak : ak = key := cmp_zero.1 hz
          have hfnd : fnd ql key = some ⟨ak, av, ag⟩ := fnd_at (fun j f hj hf hfk => by
            have := (one_at HL2.out.up hf ha (hfk.trans hak.symm)).1
            omega) ha hak
          have hnw : nwst (ys :: rs.map (·.l)) key = some ⟨ak, av, ag⟩ := by
            rw [← HLM.out]
            unfold nwst
            rw [List.findSome?_eq_some_iff]
            refine ⟨(L.map (·.l)).take k, ql, (L.map (·.l)).drop (k + 1), ?_, hfnd, fun x hx => ?_⟩
            · have hlk : (L.map (·.l))[k]? = some ql := map_at HG.out
              obtain ⟨h1, h2⟩ := List.getElem?_eq_some_iff.1 hlk
              rw [← h2]
              exact (List.take_append_drop k _).symm.trans (by rw [List.drop_eq_getElem_cons h1])
            · obtain ⟨i, hi⟩ := List.getElem?_of_mem hx
              have hil := (List.getElem?_eq_some_iff.1 hi).1
              rw [List.length_take] at hil
              rw [List.getElem?_take_of_lt (by omega)] at hi
              obtain ⟨r, hr, hrl⟩ := at_map hi
              rw [← hrl]
              exact hno.out i r (by omega) hr
          have hpok := HL2.out.po p _ ha
          have hans : GV = av ∧ GO = !ag := by
            cases ag with
            | true =>
              obtain ⟨g1, g2⟩ := get_gone hnw rfl
              have hve : av = ⟨#[]⟩ := hpok.2.2.2 rfl
              exact ⟨(HGV.out.symm.trans g1).trans hve.symm, HGO.out.symm.trans g2⟩
            | false =>
              obtain ⟨g1, g2⟩ := get_there HOB.out hnw rfl
              exact ⟨HGV.out.symm.trans g1, HGO.out.symm.trans g2⟩
          obtain ⟨rfl, rfl⟩ := hans
          have hsz := (HL3.out _ (List.mem_of_getElem? ha)).2
          have hsz' : GV.size ≤ 1048576 := hsz
          have hpl : p < ql.length := (List.getElem?_eq_some_iff.1 ha).1
          have hpi : (p : Int) < (ql.length : Int) := by omega
          rcases (HROW.out.inn hb3) with h0 | ⟨b, off, rfl, hlt3, hc3⟩
          · rw [h0] at hpl; simp at hpl
          have c1 : w3.cell? ⟨b, off + p * 3 + 1, none⟩ = some (.string GV) := hc3 p _ ha 1 _ rfl
          have c2 : w3.cell? ⟨b, off + p * 3 + 2, none⟩ = some (.bool ag) := hc3 p _ ha 2 _ rfl
          have HC2 : Hid (∀ X, Below w3.heap.size w3 X → X.cell? ⟨b, off + p * 3 + 2, none⟩ = some (.bool ag)) := fun X h => (h.cell (p := ⟨b, off + p * 3 + 2, none⟩) hlt3).trans c2
          have hcl := fun W => cl.clone GV W (by omega)
          clear hc3 ha hz hak hfnd hnw hpok hsz HGV HGO HFD HBT
          go_wp2
          go_region_with (go_at_call 42; refine (hcl _).mono ?_; rintro e w4 ⟨rfl, hb4⟩; have hb4' : Below w3.heap.size w3 w4 := (Below.refl _ _).drew.trans hb4; have c3 := HC2.out w4 hb4')
          all_goals go_wp2
          all_goals go_ret2
          all_goals exact ⟨rfl, hbw2.trans ((hb23.trans (hb4'.mono hb23.size)).mono hbw2.size)⟩
        | false =>
          have hn2 : Hid (∀ (i : Nat) r, i < k + 1 → L[i]? = some r → fnd r.l key = none) := fun i r hi hr => by
            by_cases ei : i = k
            · subst ei
              rw [HG.out] at hr
              cases hr
              exact fnd_none (fun j f hf hfk => by
                have := HBT.out.2 (HFD.out.2 ⟨j, f, hf, hfk⟩)
                cases this)
            · exact hno.out i r (by omega) hr
          clear HFD HBT
          go_wp2
          go_roundw
          case rel => exact ⟨k + 1, by omega, by go_num, hn2, hb23⟩
          case measure => simp [intOf]; omega
      · obtain rfl : k = L.length := by omega
        have hnw : nwst (ys :: rs.map (·.l)) key = none := by
          rw [← HLM.out]
          unfold nwst
          rw [List.findSome?_eq_none_iff]
          intro x hx
          obtain ⟨i, hi⟩ := List.getElem?_of_mem hx
          obtain ⟨r, hr, hrl⟩ := at_map hi
          rw [← hrl]
          exact hno.out i r (List.getElem?_eq_some_iff.1 hr).1 hr
        obtain ⟨g1, g2⟩ := get_none hnw
        obtain rfl : GV = ⟨#[]⟩ := HGV.out.symm.trans g1
        obtain rfl : GO = false := HGO.out.symm.trans g2
        clear g1 g2 HGV HGO hnw hkl hk
        go_wp2
        go_ret2
        exact ⟨rfl, hbw2.trans (hbel.mono hbw2.size)⟩
end Go.Proofs.Ytokaoafbgebelaa.tgi
