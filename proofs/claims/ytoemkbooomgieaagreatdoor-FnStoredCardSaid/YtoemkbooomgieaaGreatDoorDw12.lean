/- Two pairs held beside each other as a whole: what == and != of the struct answer. -/
import Derived.Test.YtoemkbooomgieaaGreatDoorDw09
import Derived.Test.YtoemkbooomgieaaGreatDoorDw11
import Derived.Test.YtoemkbooomgieaaGreatDoorDw01
import Derived.Test.YtoemkbooomgieaaGreatDoorDw03
import Derived.Test.YtoemkbooomgieaaGreatDoorDw10
import Derived.Deep.RegionWith
import Derived.Test.YtoemkbooomgieaaGreatDoorStoLib
import Derived.Test.YtoemkbooomgieaaGreatDoorFlPair
import Derived.Laws.StructEq
import Derived.Lib.Strings

/- The program's TableMerge: what it stands on. -/
namespace Go.Proofs.YtoemkbooomgieaaGreatDoor.mgi
open Go.ChangeShapes Go.WideShapes Go.ChangeAt Go.RowKit Go.Proofs.YtoemkbooomgieaaGreatDoor.fl Go.Proofs.YtoemkbooomgieaaGreatDoor.fo Go.Proofs.YtoemkbooomgieaaGreatDoor.rn Go.Proofs.YtoemkbooomgieaaGreatDoor.tk Go.Proofs.YtoemkbooomgieaaGreatDoor.tko Go.Proofs.YtoemkbooomgieaaGreatDoor.tan Go.Proofs.YtoemkbooomgieaaGreatDoor.mga Go.Proofs.YtoemkbooomgieaaGreatDoor.mgd Go.Proofs.YtoemkbooomgieaaGreatDoor.sci
set_option linter.unusedVariables false

theorem as_rv {w : World} {B : Nat} {v : Value} {l : List flP.Pr} (h : w.ownsRow B 61 3 v l.length (l.flatMap flP.c)) : ∃ qa qc, v = .slice qa l.length qc ∧ l.length ≤ qc ∧ RV w B ⟨qa, qc, l⟩ := by
  have h' := h
  obtain ⟨h0, ⟨rfl, h1⟩ | ⟨g, cap, cur, rfl, hB, hg, h4⟩⟩ := h
  · obtain rfl : l = [] := List.eq_nil_of_length_eq_zero h1
    exact ⟨none, 0, rfl, Nat.le_refl _, .inl rfl⟩
  · exact ⟨_, cap, rfl, by have := h4.1; omega, .inr ⟨g, rfl, hB, owns_ownO flP.c_len h'⟩⟩
set_option maxRecDepth 100000 in
theorem index_nil (w : World) :
    Calls Tryz.prog 90 #[.slice none 0 0, .func (.func 64) #[] #[]] w fun e w' => e = .returned (.int .i64 (-1)) ∧ w' = w := by
  go_enter Tryz.func90, Tryz.ntmps90
  go_wp2
  go_loopw [8] (fun x wr => x = .int .i64 0 ∧ wr = w) (fun _ _ => 0)
  case atStart => exact ⟨rfl, rfl⟩
  case round =>
    obtain ⟨rfl, hw⟩ := hrel
    obtain rfl := hw.symm
    go_wp2
    go_ret
    exact ⟨rfl, rfl⟩
set_option maxRecDepth 100000 in
theorem delete_nil (w : World) :
    Calls Tryz.prog 63 #[.slice none 0 0, .func (.func 64) #[] #[]] w fun e w' => e = .returned (.slice none 0 0) ∧ w' = w := by
  have hix := index_nil w
  go_enter Tryz.func63, Tryz.ntmps63
  go_wp2_with (go_at_call 90; fail)
  refine hix.mono ?_
  rintro e w0 ⟨rfl, hw0⟩
  obtain rfl := hw0.symm
  go_wp2
  go_ret
  exact ⟨rfl, rfl⟩
theorem delete_any (bs : List flP.Pr) (v : Value) (B : Nat) (w : World) (hl : bs.length ≤ 1048576) (ho : w.ownsRow B 61 3 v bs.length (bs.flatMap flP.c)) :
    Calls Tryz.prog 63 #[v, .func (.func 64) #[] #[]] w fun e w' => ∃ qa qc, e = .returned (.slice qa (bs.filter fun b => !b.g).length qc) ∧ ((bs.filter fun b => !b.g).length ≤ qc ∧ RV w' B ⟨qa, qc, bs.filter fun b => !b.g⟩) ∧ Below B w w' := by
  have h' := ho
  obtain ⟨h0, ⟨rfl, h1⟩ | ⟨g, cap, cur, rfl, hB, hg, h4, h5⟩⟩ := ho
  · obtain rfl : bs = [] := List.eq_nil_of_length_eq_zero h1
    refine (delete_nil w).mono ?_
    rintro e w' ⟨rfl, rfl⟩
    exact ⟨none, 0, rfl, ⟨Nat.le_refl _, .inl rfl⟩, Below.refl _ _⟩
  · refine (dg.delete_func bs g cap w hl h4 (owns_ownO flP.c_len h')).mono ?_
    rintro e w' ⟨rfl, ho', hgr⟩
    exact ⟨_, cap, rfl, ⟨by have := List.length_filter_le (fun b : flP.Pr => !b.g) bs; omega, .inr ⟨g, rfl, hB, ho'⟩⟩, ⟨hgr.os, hgr.tape, hgr.output, hgr.size, fun k hk => hgr.block k (Nat.lt_of_lt_of_le hk (Nat.le_trans hB (Nat.le_of_lt (Array.getElem?_eq_some_iff.1 hg).1))) (fun e => by have := Option.some.inj e; omega)⟩⟩

theorem at_new {ks : List Rn} {x r : Rn} {i j : Nat} (hi : i + 2 ≤ ks.length) (h : (ks.take i ++ x :: ks.drop (i + 2))[j]? = some r) : (j < i ∧ ks[j]? = some r) ∨ (j = i ∧ r = x) ∨ (i < j ∧ ks[j + 1]? = some r) := by
  have hl : (ks.take i).length = i := by rw [List.length_take]; omega
  rcases Nat.lt_trichotomy j i with hj | hj | hj
  · rw [List.getElem?_append_left (by omega), List.getElem?_take, if_pos hj] at h
    exact .inl ⟨hj, h⟩
  · subst hj
    rw [List.getElem?_append_right (by omega), hl, Nat.sub_self] at h
    simp at h
    exact .inr (.inl ⟨rfl, h.symm⟩)
  · rw [List.getElem?_append_right (by omega), hl, show j - i = (j - i - 1) + 1 by omega, List.getElem?_cons_succ, List.getElem?_drop] at h
    refine .inr (.inr ⟨hj, ?_⟩)
    rw [← h]
    congr 1
    omega
/-- what stands when the two runs are one -/
structure NM (w : World) (BX : Array Value) (B n4 g h n : Nat) (ys : List flP.Pr) (ks : List Rn) (X : World) : Prop where
  bel : Below w.heap.size w X
  box : X.heap[w.heap.size]? = some (.cells BX 30 (0, 0))
  res : X.heap[w.heap.size + 1]? = some (.cells #[.slice none 0 0, .slice none 0 0] 30 (0, 0))
  out : X.heap[n4]? = some (.cells #[.slice (some ⟨g, 0, none⟩) ys.length ys.length, .slice (some ⟨h, 0, none⟩) (n - 1) n] 30 (0, 0))
  ta : TA X B (some ⟨g, 0, none⟩) (some ⟨h, 0, none⟩) ys ks
theorem NM.on {w X X' : World} {BX : Array Value} {B n4 g h n : Nat} {ys : List flP.Pr} {ks : List Rn} (hx : NM w BX B n4 g h n ys ks X) (hb : Below X.heap.size X X') : NM w BX B n4 g h n ys ks X' :=
  ⟨hx.bel.trans (hb.mono hx.bel.size), bstay hx.box hb (Array.getElem?_eq_some_iff.1 hx.box).1, bstay hx.res hb (Array.getElem?_eq_some_iff.1 hx.res).1, bstay hx.out hb (Array.getElem?_eq_some_iff.1 hx.out).1, hx.ta.on hb⟩
theorem nm_of {w W4 w6 w7 : World} {BX : Array Value} {B n4 g h n i qc : Nat} {qa : Option Addr} {ks : List Rn} {ys m : List flP.Pr} (h0 : Below w.heap.size w W4) (hA : W4.heap[w.heap.size]? = some (.cells BX 30 (0, 0))) (hR : W4.heap[w.heap.size + 1]? = some (.cells #[.slice none 0 0, .slice none 0 0] 30 (0, 0))) (hN : W4.heap[n4]? = some (.cells #[.slice (some ⟨g, 0, none⟩) ys.length ys.length, .slice (some ⟨h, 0, none⟩) n n] 30 (0, 0))) (hO : Own flP.c 3 61 W4 g ys ys.length) (hor : OR W4 B h n ks) (hne : ∀ (i : Nat) (r : Rn), ks[i]? = some r → r.a ≠ some ⟨g, 0, none⟩) (hB : w.heap.size + 2 ≤ B) (hg : B ≤ g) (hh : B ≤ h) (hn4 : w.heap.size + 2 ≤ n4) (hn : n = ks.length) (hi : i + 2 ≤ n)
    (h6 : Below W4.heap.size W4 w6) (hrv : RV w6 W4.heap.size ⟨qa, qc, m⟩) (hown : w7.ownsRow B 28 1 (.slice (some ⟨h, 0, none⟩) (n - 1) n) (n - 1) ((ks.take i ++ (⟨qa, qc, m⟩ : Rn) :: ks.drop (i + 2)).flatMap cR)) (hgr : (w6.alloc (.cells #[.slice qa m.length qc] 28)).grownBy w7 (some h)) : NM w BX B n4 g h n ys (ks.take i ++ (⟨qa, qc, m⟩ : Rn) :: ks.drop (i + 2)) (w7.setCell ⟨n4, 1, none⟩ (.slice (some ⟨h, 0, none⟩) (n - 1) n)) := by
  subst hn
  have hs6 := h6.size
  have hng : n4 ≠ g := fun e => own_ne (by decide) hO hN e.symm
  obtain ⟨cu, hcu, _⟩ := hor.blk
  have hhg : h ≠ g := fun e => own_ne (by decide) hO hcu e.symm
  have hhn : h ≠ n4 := fun e => by subst e; rw [hN] at hcu; simp at hcu
  have up7 : ∀ k, k < w6.heap.size → k ≠ h → w7.heap[k]? = w6.heap[k]? := fun k hk hkh => (hgr.block k (by simp; omega) (fun e => hkh (Option.some.inj e))).trans (Below.heap_alloc w6 _ k hk)
  have blk7 : ∀ k, k < W4.heap.size → k ≠ h → w7.heap[k]? = W4.heap[k]? := fun k hk hkh => (up7 k (by omega) hkh).trans (h6.block k hk)
  have hl := hor.lt
  have lN := (Array.getElem?_eq_some_iff.1 hN).1
  have n7 : w7.heap[n4]? = _ := (blk7 n4 lN (Ne.symm hhn)).trans hN
  have lA := (Array.getElem?_eq_some_iff.1 hA).1
  have lR := (Array.getElem?_eq_some_iff.1 hR).1
  have hs7 := hgr.size
  rw [World.size_alloc] at hs7
  have hb7 : Below w.heap.size w w7 := ⟨hgr.os.trans (h6.os.trans h0.os), hgr.tape.trans (h6.tape.trans h0.tape), hgr.output.trans (h6.output.trans h0.output), by have := h0.size; omega, fun k hk => (blk7 k (by have := h0.size; omega) (by omega)).trans (h0.block k hk)⟩
  have hownX : (w7.setCell ⟨n4, 1, none⟩ (.slice (some ⟨h, 0, none⟩) (ks.length - 1) ks.length)).ownsRow B 28 1 (.slice (some ⟨h, 0, none⟩) (ks.length - 1) ks.length) (ks.length - 1) ((ks.take i ++ (⟨qa, qc, m⟩ : Rn) :: ks.drop (i + 2)).flatMap cR) :=
    hown.kept (row := some n4) ⟨rfl, rfl, rfl, by simp, fun k hk hne => Below.heap_setCell _ _ _ _ (fun e => hne (by rw [e]))⟩ (.inr fun e => hhn (Option.some.inj e))
  obtain ⟨cur, hcur⟩ := sct.typed hownX rfl
  have onX : ∀ k, k < w6.heap.size → k ≠ h → k ≠ n4 → (w7.setCell ⟨n4, 1, none⟩ (.slice (some ⟨h, 0, none⟩) (ks.length - 1) ks.length)).heap[k]? = w6.heap[k]? := fun k hk h1 h2 => (Below.heap_setCell _ _ _ _ h2).trans (up7 k hk h1)
  have run : ∀ (j : Nat) (r : Rn), ks[j]? = some r → ∃ h', r.a = some ⟨h', 0, none⟩ ∧ B ≤ h' ∧ h' < W4.heap.size ∧ OwnO flP.c 3 61 (w7.setCell ⟨n4, 1, none⟩ (.slice (some ⟨h, 0, none⟩) (ks.length - 1) ks.length)) h' 0 r.l r.l.length := fun j r hr => by
    obtain ⟨h', e, _, hB', ho'⟩ := hor.own j r hr
    refine ⟨h', e, hB', ho'.lt, (of_own ho').kept ?_⟩
    exact (onX h' (by have := ho'.lt; omega) (own_ne (by decide) ho' hcu) (own_ne (by decide) ho' hN)).trans (h6.block h' ho'.lt)
  refine ⟨hb7.setCell (show w.heap.size ≤ n4 by omega) _, boff ((blk7 _ lA (by omega)).trans hA) _ _ _ (by omega), boff ((blk7 _ lR (by omega)).trans hR) _ _ _ (by omega), bset n7 1 _, ?_⟩
  refine mga.of_runs (.inr ⟨g, 0, rfl, hg, (of_own hO).kept ?_⟩) hh hcur (fls.row_of cR_len (by simp; omega) hownX) (fun j r hr => ?_) (fun j1 j2 r s hj hr hs n1 n2 => ?_) (fun j r hr n1 k hk => ?_)
  · exact (onX g (by have := hO.lt; omega) (Ne.symm hhg) (Ne.symm hng)).trans (h6.block g hO.lt)
  · rcases at_new hi hr with ⟨_, hr⟩ | ⟨_, rfl⟩ | ⟨_, hr⟩
    · obtain ⟨h', e, hB', _, ho'⟩ := run _ _ hr
      exact .inr ⟨h', e, hB', ho'⟩
    · rcases hrv with h1 | ⟨gq, e, hq, ho⟩
      · exact .inl h1
      · exact .inr ⟨gq, e, by omega, ho.kept (onX gq ho.lt (by omega) (by omega))⟩
    · obtain ⟨h', e, hB', _, ho'⟩ := run _ _ hr
      exact .inr ⟨h', e, hB', ho'⟩
  · have new : ∀ (j : Nat) (r : Rn), ks[j]? = some r → m ≠ [] → r.a ≠ qa := fun j r hr hm e => by
      obtain ⟨h', e', _, hlt, _⟩ := run _ _ hr
      obtain ⟨gq, eq, hq, _⟩ := hrv.resolve_left hm
      simp only at eq
      rw [e', eq] at e
      have := congrArg Addr.block (Option.some.inj e)
      simp only at this
      omega
    rcases at_new hi hr with ⟨a1, hr⟩ | ⟨a1, rfl⟩ | ⟨a1, hr⟩ <;> rcases at_new hi hs with ⟨a2, hs⟩ | ⟨a2, rfl⟩ | ⟨a2, hs⟩
    · exact hor.nd _ _ _ _ hj hr hs
    · exact new _ _ hr n2
    · exact hor.nd _ _ _ _ (by omega) hr hs
    · omega
    · omega
    · exact (new _ _ hs n1).symm
    · omega
    · omega
    · exact hor.nd _ _ _ _ (by omega) hr hs
  · obtain ⟨_, g1, o1', a1, rfl⟩ := hk
    cases a1
    rcases at_new hi hr with ⟨_, hr⟩ | ⟨_, rfl⟩ | ⟨_, hr⟩
    · exact hne _ _ hr
    · obtain ⟨gq, eq, hq, _⟩ := hrv.resolve_left n1
      simp only at eq
      intro e
      rw [eq] at e
      have := congrArg Addr.block (Option.some.inj e)
      simp only at this
      have := hO.lt
      omega
    · exact hne _ _ hr
end Go.Proofs.YtoemkbooomgieaaGreatDoor.mgi

/- The program's TableMerge. -/
namespace Go.Proofs.YtoemkbooomgieaaGreatDoor.mgi
open Go.ChangeShapes Go.WideShapes Go.ChangeAt Go.RowKit Go.Proofs.YtoemkbooomgieaaGreatDoor.fl Go.Proofs.YtoemkbooomgieaaGreatDoor.fo Go.Proofs.YtoemkbooomgieaaGreatDoor.rn Go.Proofs.YtoemkbooomgieaaGreatDoor.tk Go.Proofs.YtoemkbooomgieaaGreatDoor.tko Go.Proofs.YtoemkbooomgieaaGreatDoor.tan Go.Proofs.YtoemkbooomgieaaGreatDoor.mga Go.Proofs.YtoemkbooomgieaaGreatDoor.mgd Go.Proofs.YtoemkbooomgieaaGreatDoor.sci
set_option linter.unusedVariables false

set_option maxRecDepth 100000 in
set_option maxHeartbeats 4000000 in
theorem impl_merge (ys : List flP.Pr) (rs : List Rn) (ya ra : Option Addr) (yc rc : Nat) (x : Int) (w : World) (F : tb.Fit ys rs) (hx1 : -9223372036854775808 ≤ x) (hx2 : x ≤ 9223372036854775807) (hY : Row flP.c 3 w w.heap.size ya ys) (hR : VR w w.heap.size ra rs) :
    Calls Tryz.prog 43 #[.agg #[.slice ya ys.length yc, .slice ra rs.length rc], .int .i64 x] w fun e w' => ∃ sa sc ta tc ks, e = .returned (.tuple #[.agg #[.slice sa ys.length sc, .slice ta (ansR ys (rs.map (·.l)) x).length tc], .bool (can ys (rs.map (·.l)) x)]) ∧ ((ys.length ≤ sc ∧ ta.isSome = true ∧ ∀ r ∈ ks, r.l.length ≤ r.c) ∧ ks.map (·.l) = ansR ys (rs.map (·.l)) x) ∧ TA w' w.heap.size sa ta ys ks ∧ Below w.heap.size w w' := by
  have hb : Below w.heap.size w ((w.alloc (.cells #[.slice ya ys.length yc, .slice ra rs.length rc] 30)).alloc (.cells #[.slice none 0 0, .slice none 0 0] 30)) := ((Below.refl _ _).alloc (Nat.le_refl _) _).alloc (by simp) _
  have hA := bold (bnew w #[.slice ya ys.length yc, .slice ra rs.length rc] 30) (.cells #[.slice none 0 0, .slice none 0 0] 30)
  have hRs := bnew (w.alloc (.cells #[.slice ya ys.length yc, .slice ra rs.length rc] 30)) #[.slice none 0 0, .slice none 0 0] 30
  rw [World.size_alloc] at hRs
  obtain ⟨W, hW⟩ : ∃ W, ((w.alloc (.cells #[.slice ya ys.length yc, .slice ra rs.length rc] 30)).alloc (.cells #[.slice none 0 0, .slice none 0 0] 30)) = W := ⟨_, rfl⟩
  have hsW : W.heap.size = w.heap.size + 2 := by rw [← hW]; simp
  rw [hW] at hb hA hRs
  have hok := impl_okb ys rs ya ra yc rc W F (hY.inn hb) (hR.inn hb)
  have HF : Hid (tb.Fit ys rs) := F
  have hrl := F.rl
  have hyl := F.yl
  have HY : Hid (Row flP.c 3 w w.heap.size ya ys) := hY
  have HR : Hid (VR w w.heap.size ra rs) := hR
  have HA : Hid (W.heap[w.heap.size]? = some (.cells #[.slice ya ys.length yc, .slice ra rs.length rc] 30 (0, 0))) := hA
  have HRS : Hid (W.heap[w.heap.size + 1]? = some (.cells #[.slice none 0 0, .slice none 0 0] 30 (0, 0))) := hRs
  have p0 : W.cell? ⟨w.heap.size, 0, none⟩ = some (.slice ya ys.length yc) := bcell hA rfl
  have p1 : W.cell? ⟨w.heap.size, 1, none⟩ = some (.slice ra rs.length rc) := bcell hA rfl
  clear hY hR hA hRs F
  go_enter Tryz.func43, Tryz.ntmps43
  go_wp2_with (go_at_call 26; fail)
  clear hW p0 p1
  refine hok.mono ?_
  rintro e w2 ⟨rfl, hb2⟩
  have b2 := bstay HA.out hb2 (by omega)
  have r2 := bstay HRS.out hb2 (by omega)
  have hBw2 : Below w.heap.size w w2 := hb.trans (hb2.mono hb.size)
  have hcp := cpt.copy_table ys rs ya ra yc rc w2 HF.out (HY.out.inn hBw2) (HR.out.inn hBw2)
  have x0 : w2.cell? ⟨w.heap.size, 0, none⟩ = some (.slice ya ys.length yc) := bcell b2 rfl
  have x1 : w2.cell? ⟨w.heap.size, 1, none⟩ = some (.slice ra rs.length rc) := bcell b2 rfl
  have HA2 : Hid (w2.heap[w.heap.size]? = some (.cells #[.slice ya ys.length yc, .slice ra rs.length rc] 30 (0, 0))) := b2
  have HR2 : Hid (w2.heap[w.heap.size + 1]? = some (.cells #[.slice none 0 0, .slice none 0 0] 30 (0, 0))) := r2
  have hs2 : w.heap.size + 2 ≤ w2.heap.size := by have := hb2.size; omega
  clear hok b2 r2 HA HRS hb2
  -- the refusals
  have NO : ∀ (w3 : World) (g h : Nat) (ks : List Rn), can ys (rs.map (·.l)) x = false → ks.map (·.l) = rs.map (·.l) → w2.heap.size + 2 ≤ g → w2.heap.size + 2 ≤ h → Own flP.c 3 61 w3 g ys ys.length → OR w3 (w2.heap.size + 2) h rs.length ks → (∀ (i : Nat) (r : Rn), ks[i]? = some r → r.a ≠ some ⟨g, 0, none⟩) → TA ((w3.setCell ⟨w.heap.size + 1, 0, none⟩ (.slice (some ⟨g, 0, none⟩) ys.length ys.length)).setCell ⟨w.heap.size + 1, 1, none⟩ (.slice (some ⟨h, 0, none⟩) rs.length rs.length)) w.heap.size (some ⟨g, 0, none⟩) (some ⟨h, 0, none⟩) ys ks := fun w3 g h ks _ hm hg hh ho hor hne => (ta_set (B := w2.heap.size + 2) (by have := congrArg List.length hm; simpa using this.symm) (by omega) ho hor hg hh hne _ _).wide (by omega)
  have HNO : Hid (∀ (w3 : World) (g h : Nat) (ks : List Rn), can ys (rs.map (·.l)) x = false → ks.map (·.l) = rs.map (·.l) → w2.heap.size + 2 ≤ g → w2.heap.size + 2 ≤ h → Own flP.c 3 61 w3 g ys ys.length → OR w3 (w2.heap.size + 2) h rs.length ks → (∀ (i : Nat) (r : Rn), ks[i]? = some r → r.a ≠ some ⟨g, 0, none⟩) → TA ((w3.setCell ⟨w.heap.size + 1, 0, none⟩ (.slice (some ⟨g, 0, none⟩) ys.length ys.length)).setCell ⟨w.heap.size + 1, 1, none⟩ (.slice (some ⟨h, 0, none⟩) rs.length rs.length)) w.heap.size (some ⟨g, 0, none⟩) (some ⟨h, 0, none⟩) ys ks) := NO
  clear NO
  have w1 : IntKind.i64.wrap ((rs.length : Int) - 1) = (rs.length : Int) - 1 := by rw [IntKind.wrap_i64]; omega
  by_cases hgo : okB ys (rs.map (·.l)) = true ∧ 0 ≤ x ∧ x < (rs.length : Int) - 1
  · obtain ⟨hob, hx0, hxl⟩ := hgo
    obtain ⟨i, rfl⟩ : ∃ i : Nat, x = (i : Int) := ⟨x.toNat, by omega⟩
    have hi : i + 2 ≤ rs.length := by omega
    have HOK : Hid (OkT ys (rs.map (·.l))) := okB_true.1 hob
    have HOB : Hid (okB ys (rs.map (·.l)) = true) := hob
    rw [hob]
    have h8 : rs.length ≤ 8 := by have := HOK.out.rl; simpa using this
    have c1 : ¬ ((i : Int) < 0) := by omega
    have c2 : ¬ ((rs.length : Int) - 1 ≤ (i : Int)) := by omega
    clear hob hx0 hx1 hx2
    go_wp2_with (go_at_call 39; fail)
    clear x0 x1
    refine hcp.mono ?_
    rintro e w3 ⟨g, h, ks, rfl, m3, hg3, hh3, ho3, hor3, hne3, hb3⟩
    have l3 : rs.length = ks.length := by have := congrArg List.length m3; simpa using this.symm
    have hal : Below w3.heap.size w3 (w3.alloc (.cells #[.slice (some ⟨g, 0, none⟩) ys.length ys.length, .slice (some ⟨h, 0, none⟩) rs.length rs.length] 30)) := (Below.refl _ _).alloc (Nat.le_refl _) _
    have hN := bnew w3 #[.slice (some ⟨g, 0, none⟩) ys.length ys.length, .slice (some ⟨h, 0, none⟩) rs.length rs.length] 30
    have of4 := ho3.below hal ho3.lt
    have or4 := hor3.on hal
    have hgl := ho3.lt
    have hs3 := hb3.size
    obtain ⟨W4, hW4⟩ : ∃ W4, w3.alloc (.cells #[.slice (some ⟨g, 0, none⟩) ys.length ys.length, .slice (some ⟨h, 0, none⟩) rs.length rs.length] 30) = W4 := ⟨_, rfl⟩
    have hsW4 : W4.heap.size = w3.heap.size + 1 := by rw [← hW4]; simp
    rw [hW4] at hal hN of4 or4
    have hB24 : Below w2.heap.size w2 W4 := hb3.trans (hal.mono hs3)
    have hBw4 : Below w.heap.size w W4 := hBw2.trans (hB24.mono hBw2.size)
    have hv4 : VR W4 W4.heap.size (some ⟨h, 0, none⟩) ks := OR.vr (by rw [← l3]; exact or4)
    have hi2 : i + 2 ≤ ks.length := by omega
    obtain ⟨k1, hk1⟩ : ∃ k1, ks[i]'(by omega) = k1 := ⟨_, rfl⟩
    obtain ⟨k2, hk2⟩ : ∃ k2, ks[i + 1]'(by omega) = k2 := ⟨_, rfl⟩
    have hv2 := two_runs hi2 hv4
    rw [hk1, hk2] at hv2
    have g1 : ks[i]? = some k1 := by rw [← hk1]; exact List.getElem?_eq_getElem _
    have g2 : ks[i + 1]? = some k2 := by rw [← hk2]; exact List.getElem?_eq_getElem _
    have ok1 : OkL k1.l := HOK.out.ro i _ (by rw [← m3]; exact map_at g1)
    have ok2 : OkL k2.l := HOK.out.ro (i + 1) _ (by rw [← m3]; exact map_at g2)
    have hnw := rnw.newest_run [k1, k2] (some ⟨h, i, none⟩) (rs.length - i) W4 (by simp) (fun r hr => by
      simp at hr
      rcases hr with rfl | rfl
      · obtain ⟨_, _, hc, _⟩ := or4.own i _ g1
        exact ⟨ok1.ll, by omega⟩
      · obtain ⟨_, _, hc, _⟩ := or4.own (i + 1) _ g2
        exact ⟨ok2.ll, by omega⟩) (fun l hl => by
      simp at hl
      rcases hl with rfl | rfl
      · exact mgp.asc_of ok1.up
      · exact mgp.asc_of ok2.up) hv2
    have HA4 : Hid (W4.heap[w.heap.size]? = some (.cells #[.slice ya ys.length yc, .slice ra rs.length rc] 30 (0, 0))) := bstay HA2.out hB24 (by omega)
    have HR4 : Hid (W4.heap[w.heap.size + 1]? = some (.cells #[.slice none 0 0, .slice none 0 0] 30 (0, 0))) := bstay HR2.out hB24 (by omega)
    have HN4 : Hid (W4.heap[w3.heap.size]? = some (.cells #[.slice (some ⟨g, 0, none⟩) ys.length ys.length, .slice (some ⟨h, 0, none⟩) rs.length rs.length] 30 (0, 0))) := hN
    have HOF4 : Hid (Own flP.c 3 61 W4 g ys ys.length) := of4
    have HOR4 : Hid (OR W4 (w2.heap.size + 2) h rs.length ks) := or4
    have HCK : Hid (∀ r ∈ ks, r.l.length ≤ r.c) := fun k hk => by obtain ⟨j, hj⟩ := List.getElem?_of_mem hk; obtain ⟨_, _, hc, _⟩ := HOR4.out.own j k hj; omega
    have HNE : Hid (∀ (i : Nat) (r : Rn), ks[i]? = some r → r.a ≠ some ⟨g, 0, none⟩) := hne3
    have HM : Hid (ks.map (·.l) = rs.map (·.l)) := m3
    have HL : Hid (rs.length = ks.length) := l3
    have HG1 : Hid (ks[i]? = some k1) := g1
    have HG2 : Hid (ks[i + 1]? = some k2) := g2
    have HO1 : Hid (OkL k1.l) := ok1
    have HO2 : Hid (OkL k2.l) := ok2
    have t1 : W4.cell? ⟨w3.heap.size, 1, none⟩ = some (.slice (some ⟨h, 0, none⟩) rs.length rs.length) := bcell hN rfl
    have e2 : IntKind.i64.wrap ((i : Int) + 2) = (i : Int) + 2 := by rw [IntKind.wrap_i64]; omega
    have e3 : (0 : Int) ≤ (i : Int) + 2 := by omega
    have e4 : (i : Int) + 2 ≤ (rs.length : Int) := by omega
    have e5 : ¬ rs.length = i := by omega
    have e6 : (i : Int) ≤ (i : Int) + 2 := by omega
    clear hcp ho3 hor3 hne3 hN of4 or4 m3 l3 hal HA2 HR2 hv4 hv2 hk1 hk2 g1 g2 ok1 ok2 hi2
    go_wp2_with (go_at_call 36; fail)
    refine hnw.mono ?_
    rintro e w5 ⟨v5, out, rfl, his, hlen, hown5, hb5⟩
    have e7 := nwL_eq his
    have hm5 : ∀ last : Bool, merged k1.l k2.l last = if last then out.filter (fun e => !e.g) else out := fun last => by
      cases last with
      | false => rw [merged_no]; exact e7
      | true => rw [merged_yes]; exact congrArg _ e7
    have HM5 : Hid (∀ last : Bool, merged k1.l k2.l last = if last then out.filter (fun e => !e.g) else out) := hm5
    have hB5 : Below W4.heap.size W4 w5 := hb5
    have q1 : w5.cell? ⟨w3.heap.size, 1, none⟩ = some (.slice (some ⟨h, 0, none⟩) rs.length rs.length) := bcell (bstay HN4.out hb5 (by omega)) rfl
    have HB5 : Hid (Below W4.heap.size W4 w5) := hb5
    have hdel := delete_any out v5 W4.heap.size w5 (by omega) hown5
    have HRV : Hid (∃ qa qc, v5 = .slice qa out.length qc ∧ out.length ≤ qc ∧ RV w5 W4.heap.size ⟨qa, qc, out⟩) := as_rv hown5
    have REP : ∀ (w6 : World) (qa : Option Addr) (qc : Nat) (m : List flP.Pr), Below W4.heap.size W4 w6 → Calls Tryz.prog 65 #[.slice (some ⟨h, 0, none⟩) rs.length rs.length, .int .i64 i, .int .i64 ((i : Int) + 2), .slice (some ⟨w6.heap.size, 0, none⟩) 1 1] (w6.alloc (.cells #[.slice qa m.length qc] 28)) fun r w' => r = .returned (.slice (some ⟨h, 0, none⟩) (rs.length - 1) rs.length) ∧ w'.ownsRow (w2.heap.size + 2) 28 1 (.slice (some ⟨h, 0, none⟩) (rs.length - 1) rs.length) (rs.length - 1) ((ks.take i ++ (⟨qa, qc, m⟩ : Rn) :: ks.drop (i + 2)).flatMap cR) ∧ (w6.alloc (.cells #[.slice qa m.length qc] 28)).grownBy w' (some h) := fun w6 qa qc m h6 => by
      have hal : Below W4.heap.size W4 (w6.alloc (.cells #[.slice qa m.length qc] 28)) := h6.alloc h6.size _
      have hox : OR (w6.alloc (.cells #[.slice qa m.length qc] 28)) (w2.heap.size + 2) h ks.length ks := by rw [← HL.out]; exact HOR4.out.on hal
      have := rpl.replace_run ks h i (w2.heap.size + 2) qa qc m w6.heap.size (w6.alloc (.cells #[.slice qa m.length qc] 28)) (by rw [← HL.out]; exact hi) (by rw [← HL.out]; exact hrl) (by have := HOR4.out.lt; have := h6.size; omega) (or_owns hox hh3 (by rw [← HL.out]; unfold maxLen; omega)) (bnew w6 _ _)
      rw [← HL.out] at this
      exact this
    have HREP : Hid (∀ (w6 : World) (qa : Option Addr) (qc : Nat) (m : List flP.Pr), Below W4.heap.size W4 w6 → Calls Tryz.prog 65 #[.slice (some ⟨h, 0, none⟩) rs.length rs.length, .int .i64 i, .int .i64 ((i : Int) + 2), .slice (some ⟨w6.heap.size, 0, none⟩) 1 1] (w6.alloc (.cells #[.slice qa m.length qc] 28)) fun r w' => r = .returned (.slice (some ⟨h, 0, none⟩) (rs.length - 1) rs.length) ∧ w'.ownsRow (w2.heap.size + 2) 28 1 (.slice (some ⟨h, 0, none⟩) (rs.length - 1) rs.length) (rs.length - 1) ((ks.take i ++ (⟨qa, qc, m⟩ : Rn) :: ks.drop (i + 2)).flatMap cR) ∧ (w6.alloc (.cells #[.slice qa m.length qc] 28)).grownBy w' (some h)) := REP
    have HU : Hid (∀ (w6 : World) (o : Obj), Below W4.heap.size W4 w6 → (w6.alloc o).cell? ⟨w3.heap.size, 1, none⟩ = some (.slice (some ⟨h, 0, none⟩) rs.length rs.length)) := fun w6 o h6 => bcell (bold (bstay HN4.out h6 (by omega)) o) rfl
    clear hnw his e7 hm5 t1 hb5 hB5 hown5 REP
    obtain hl2 | hl2 : i + 2 = rs.length ∨ i + 2 ≠ rs.length := by omega
    case' inl =>
      have HDE : Hid (decide (i + 2 = rs.length) = true) := by unfold Hid; simpa using hl2
      have d1 : ((i : Int) + 2 == (rs.length : Int)) = true := by simp; omega
      clear hl2
      go_wp2_with (go_at_call 63; fail)
      refine hdel.mono ?_
      rintro e w6 ⟨qa, qc, rfl, ⟨hqc, hrv6⟩, hb6⟩
      obtain ⟨m, hm⟩ : ∃ m, out.filter (fun b => !b.g) = m := ⟨_, rfl⟩
      rw [hm] at hqc hrv6 ⊢
      have HQC : Hid (m.length ≤ qc) := hqc
      clear hqc
      have HMM : Hid (merged k1.l k2.l (decide (i + 2 = rs.length)) = m) := by unfold Hid; rw [HDE.out, HM5.out]; exact hm
      have HRV6 : Hid (RV w6 W4.heap.size ⟨qa, qc, m⟩) := hrv6
      have HB6 : Hid (Below W4.heap.size W4 w6) := HB5.out.trans hb6
      clear hdel hrv6 hb6 hm q1 HRV HM5 HB5 HDE
    case' inr =>
      have HDE : Hid (decide (i + 2 = rs.length) = false) := by unfold Hid; simpa using hl2
      have d1 : ((i : Int) + 2 == (rs.length : Int)) = false := by simp; omega
      clear hl2
      obtain ⟨qa, qc, rfl, hqc, hrv6⟩ := HRV.out
      obtain ⟨m, hm⟩ : ∃ m, m = out := ⟨_, rfl⟩
      subst hm
      have HQC : Hid (m.length ≤ qc) := hqc
      clear hqc
      have HMM : Hid (merged k1.l k2.l (decide (i + 2 = rs.length)) = m) := by unfold Hid; rw [HDE.out, HM5.out]; rfl
      obtain ⟨w6, hw6⟩ : ∃ w6, w6 = w5 := ⟨_, rfl⟩
      subst hw6
      have HRV6 : Hid (RV w6 W4.heap.size ⟨qa, qc, m⟩) := hrv6
      have HB6 : Hid (Below W4.heap.size W4 w6) := HB5.out
      clear hdel hrv6 HRV HM5 HB5 HDE
    all_goals
      have hrep := HREP.out w6 qa qc m HB6.out
      have u1 := HU.out w6 (.cells #[.slice qa m.length qc] 28) HB6.out
      have u2 : w6.cell? ⟨w3.heap.size, 1, none⟩ = some (.slice (some ⟨h, 0, none⟩) rs.length rs.length) := bcell (bstay HN4.out HB6.out (by omega)) rfl
      go_wp2_with (go_at_call 65; fail)
      clear u1 u2
      refine hrep.mono ?_
      rintro e w7 ⟨rfl, hown7, hgr7⟩
      have hnm := nm_of hBw4 HA4.out HR4.out HN4.out HOF4.out HOR4.out HNE.out (by omega) hg3 hh3 (by omega) HL.out hi HB6.out HRV6.out hown7 hgr7
      have n7 : w7.heap[w3.heap.size]? = some (.cells #[.slice (some ⟨g, 0, none⟩) ys.length ys.length, .slice (some ⟨h, 0, none⟩) rs.length rs.length] 30 (0, 0)) := by
        refine ((hgr7.block _ (by have := HB6.out.size; simp; omega) (fun e => ?_)).trans (Below.heap_alloc w6 _ _ (by have := HB6.out.size; omega))).trans ((HB6.out.block _ (by omega)).trans HN4.out)
        obtain ⟨cu, hcu, _⟩ := HOR4.out.blk
        have e2 := Option.some.inj e
        rw [← e2, HN4.out] at hcu
        simp at hcu
      have y1 : w7.cell? ⟨w3.heap.size, 1, none⟩ = some (.slice (some ⟨h, 0, none⟩) rs.length rs.length) := bcell n7 rfl
      have yf := bfree n7 1
      obtain ⟨X, hX⟩ : ∃ X, w7.setCell ⟨w3.heap.size, 1, none⟩ (.slice (some ⟨h, 0, none⟩) (rs.length - 1) rs.length) = X := ⟨_, rfl⟩
      rw [hX] at hnm
      obtain ⟨ks', hks'⟩ : ∃ ks', ks.take i ++ (⟨qa, qc, m⟩ : Rn) :: ks.drop (i + 2) = ks' := ⟨_, rfl⟩
      rw [hks'] at hnm
      have hkm : ks'.map (·.l) = mrg (rs.map (·.l)) i := by
        have hmi : i + 2 ≤ (rs.map (·.l)).length := by rw [List.length_map]; exact hi
        have hg1 : (rs.map (·.l))[i]? = some k1.l := by rw [← HM.out]; exact map_at HG1.out
        have hg2 : (rs.map (·.l))[i + 1]? = some k2.l := by rw [← HM.out]; exact map_at HG2.out
        rw [mrg_at hmi, (List.getElem?_eq_some_iff.1 hg1).2, (List.getElem?_eq_some_iff.1 hg2).2, ← hks', List.map_append, List.map_cons, List.map_take, List.map_drop, HM.out, List.length_map, HMM.out]
      have HKC : Hid (∀ r ∈ ks', r.l.length ≤ r.c) := fun r hr => by
        rw [← hks'] at hr
        rcases List.mem_append.1 hr with hr | hr
        · exact HCK.out r (List.mem_of_mem_take hr)
        · rcases List.mem_cons.1 hr with rfl | hr
          · exact HQC.out
          · exact HCK.out r (List.mem_of_mem_drop hr)
      have hkl : ks'.length = rs.length - 1 := by rw [← hks', List.length_append, List.length_cons, List.length_take, List.length_drop, ← HL.out]; omega
      have hfit : tb.Fit ys ks' := by
        refine ⟨hyl, by omega, HF.out.yo, fun r hr => ?_⟩
        have hold : ∀ k ∈ ks, k.l.length ≤ 1048576 ∧ ∀ e ∈ k.l, e.k.size ≤ 1048576 ∧ e.v.size ≤ 1048576 := fun k hk => by
          obtain ⟨q, hq, e⟩ := List.mem_map.1 (show k.l ∈ rs.map (·.l) by rw [← HM.out]; exact List.mem_map.2 ⟨k, hk, rfl⟩)
          rw [← e]
          exact HF.out.ro q hq
        have hk1 := List.mem_of_getElem? HG1.out
        have hk2 := List.mem_of_getElem? HG2.out
        have ha1 := mgp.asc_of HO1.out.up
        have ha2 := mgp.asc_of HO2.out.up
        rw [← hks'] at hr
        rcases List.mem_append.1 hr with hr | hr
        · exact hold r (List.mem_of_mem_take hr)
        · rcases List.mem_cons.1 hr with rfl | hr
          · rw [← HMM.out]
            refine ⟨?_, fun e he => ?_⟩
            · have := merged_le ha1 ha2 (decide (i + 2 = rs.length))
              have := HO1.out.ll
              have := HO2.out.ll
              show (merged k1.l k2.l (decide (i + 2 = rs.length))).length ≤ _
              omega
            · rcases merged_mem ha1 ha2 he with h | h
              · exact (hold k1 hk1).2 e h
              · exact (hold k2 hk2).2 e h
          · exact hold r (List.mem_of_mem_drop hr)
      have HNX : Hid (NM w #[.slice ya ys.length yc, .slice ra rs.length rc] (w2.heap.size + 2) w3.heap.size g h rs.length ys ks' X) := hnm
      have hok2 := impl_okb ys ks' (some ⟨g, 0, none⟩) (some ⟨h, 0, none⟩) ys.length rs.length X hfit hnm.ta.rows.1 hnm.ta.rows.2
      rw [hkl, hkm] at hok2
      have t0 : X.cell? ⟨w3.heap.size, 0, none⟩ = some (.slice (some ⟨g, 0, none⟩) ys.length ys.length) := bcell hnm.out rfl
      have t1 : X.cell? ⟨w3.heap.size, 1, none⟩ = some (.slice (some ⟨h, 0, none⟩) (rs.length - 1) rs.length) := bcell hnm.out rfl
      have HKM : Hid (ks'.map (·.l) = mrg (rs.map (·.l)) i) := hkm
      have HKL : Hid (ks'.length = rs.length - 1) := hkl
      clear hnm hown7 hgr7 hrep n7 hkm hkl hfit hks' HRV6 HB6 HMM
      go_wp2_with (go_at_call 26; fail)
      clear hX t0 t1 y1 yf
      refine hok2.mono ?_
      rintro e w8 ⟨rfl, hb8⟩
      have HX8 : Hid (NM w #[.slice ya ys.length yc, .slice ra rs.length rc] (w2.heap.size + 2) w3.heap.size g h rs.length ys ks' w8) := HNX.out.on hb8
      clear hok2 hb8 HNX
      have hin : inB (rs.map (·.l)) (i : Int) = true := by unfold inB; simp; omega
      cases hob2 : okB ys (mrg (rs.map (·.l)) i) with
      | true =>
        have HC : Hid (can ys (rs.map (·.l)) (i : Int) = true) := by unfold Hid can; rw [HOB.out, hin, Int.toNat_natCast, hob2]; rfl
        have HQ : Hid (ansR ys (rs.map (·.l)) (i : Int) = mrg (rs.map (·.l)) i) := by unfold Hid; rw [ans_yes HC.out, Int.toNat_natCast]
        have y0 : w8.cell? ⟨w3.heap.size, 0, none⟩ = some (.slice (some ⟨g, 0, none⟩) ys.length ys.length) := bcell HX8.out.out rfl
        have y1 : w8.cell? ⟨w3.heap.size, 1, none⟩ = some (.slice (some ⟨h, 0, none⟩) (rs.length - 1) rs.length) := bcell HX8.out.out rfl
        have r0 : w8.cell? ⟨w.heap.size + 1, 0, none⟩ = some (.slice none 0 0) := bcell HX8.out.res rfl
        have r1 : w8.cell? ⟨w.heap.size + 1, 1, none⟩ = some (.slice none 0 0) := bcell HX8.out.res rfl
        have f0 := bfree HX8.out.res 0
        have f1 := bfree HX8.out.res 1
        clear hob2 hin
        go_wp2
        have htn : Tn w8 ((w8.setCell ⟨w.heap.size + 1, 0, none⟩ (.slice (some ⟨g, 0, none⟩) ys.length ys.length)).setCell ⟨w.heap.size + 1, 1, none⟩ (.slice (some ⟨h, 0, none⟩) (rs.length - 1) rs.length)) (fun k => k = w.heap.size + 1) := Tn.set (Tn.set (Tn.refl w8 (fun k => k = w.heap.size + 1)) (S := fun k => k = w.heap.size + 1) rfl 0 _) rfl 1 _
        exact bodyPost_ret (v := .tuple #[.agg #[.slice (some ⟨g, 0, none⟩) ys.length ys.length, .slice (some ⟨h, 0, none⟩) (rs.length - 1) rs.length], .bool true]) (by simp [results, Tryz.results43, go_sem, r0, r1]) rfl ⟨some ⟨g, 0, none⟩, ys.length, some ⟨h, 0, none⟩, rs.length, ks', by rw [HQ.out, HC.out, ← HKM.out, List.length_map, HKL.out], ⟨⟨Nat.le_refl _, rfl, HKC.out⟩, by rw [HQ.out]; exact HKM.out⟩, (HX8.out.ta.turn htn (fun k hk => by omega)).wide (by omega), (HX8.out.bel.setCell (Nat.le_succ _) _).setCell (Nat.le_succ _) _⟩
      | false =>
        have HC : Hid (can ys (rs.map (·.l)) (i : Int) = false) := by unfold Hid can; rw [HOB.out, hin, Int.toNat_natCast, hob2]; rfl
        have y0 : w8.cell? ⟨w.heap.size, 0, none⟩ = some (.slice ya ys.length yc) := bcell HX8.out.box rfl
        have y1 : w8.cell? ⟨w.heap.size, 1, none⟩ = some (.slice ra rs.length rc) := bcell HX8.out.box rfl
        have hcp := cpt.copy_table ys rs ya ra yc rc w8 HF.out (HY.out.inn HX8.out.bel) (HR.out.inn HX8.out.bel)
        have hs8 : w.heap.size + 1 < w8.heap.size := (Array.getElem?_eq_some_iff.1 HX8.out.res).1
        clear hob2 hin
        go_wp2_with (go_at_call 39; fail)
        clear y0 y1
        refine hcp.mono ?_
        rintro e w9 ⟨g9, h9, k9, rfl, m9, hg9, hh9, ho9, hor9, hne9, hb9⟩
        have l9 : rs.length = k9.length := by have := congrArg List.length m9; simpa using this.symm
        have r9 := bstay HX8.out.res hb9 hs8
        have r0 : w9.cell? ⟨w.heap.size + 1, 0, none⟩ = some (.slice none 0 0) := bcell r9 rfl
        have r1 : w9.cell? ⟨w.heap.size + 1, 1, none⟩ = some (.slice none 0 0) := bcell r9 rfl
        have f0 := bfree r9 0
        have f1 := bfree r9 1
        have HTA : Hid (TA ((w9.setCell ⟨w.heap.size + 1, 0, none⟩ (.slice (some ⟨g9, 0, none⟩) ys.length ys.length)).setCell ⟨w.heap.size + 1, 1, none⟩ (.slice (some ⟨h9, 0, none⟩) rs.length rs.length)) w.heap.size (some ⟨g9, 0, none⟩) (some ⟨h9, 0, none⟩) ys k9) := (ta_set (B := w8.heap.size + 2) l9 (by omega) ho9 hor9 hg9 hh9 hne9 _ _).wide (by omega)
        have HC9 : Hid (∀ r ∈ k9, r.l.length ≤ r.c) := fun k hk => by obtain ⟨j, hj⟩ := List.getElem?_of_mem hk; obtain ⟨_, _, hc, _⟩ := hor9.own j k hj; omega
        have HM9 : Hid (k9.map (·.l) = rs.map (·.l)) := m9
        have HB9 : Hid (Below w.heap.size w w9) := HX8.out.bel.trans (hb9.mono HX8.out.bel.size)
        clear hcp m9 ho9 hor9 hne9 l9 r9 hb9
        go_wp2
        exact bodyPost_ret (v := .tuple #[.agg #[.slice (some ⟨g9, 0, none⟩) ys.length ys.length, .slice (some ⟨h9, 0, none⟩) rs.length rs.length], .bool false]) (by simp [results, Tryz.results43, go_sem, r0, r1]) rfl ⟨some ⟨g9, 0, none⟩, ys.length, some ⟨h9, 0, none⟩, rs.length, k9, by rw [ans_no HC.out, HC.out, List.length_map], ⟨⟨Nat.le_refl _, rfl, HC9.out⟩, by rw [ans_no HC.out]; exact HM9.out⟩, HTA.out, (HB9.out.setCell (Nat.le_succ _) _).setCell (Nat.le_succ _) _⟩
  · have HC : Hid (can ys (rs.map (·.l)) x = false) := by
      unfold Hid can
      cases h1 : okB ys (rs.map (·.l)) with
      | false => rfl
      | true =>
        have : inB (rs.map (·.l)) x = false := by
          unfold inB
          simp only [List.length_map, decide_eq_false_iff_not]
          exact fun h => hgo ⟨h1, h.1, by omega⟩
        rw [this]
        rfl
    obtain ⟨ob, hob⟩ : ∃ ob, okB ys (rs.map (·.l)) = ob := ⟨_, rfl⟩
    have hgo2 : ob = false ∨ (ob = true ∧ x < 0) ∨ (ob = true ∧ ¬ x < 0 ∧ (rs.length : Int) - 1 ≤ x) := by
      rw [hob] at hgo
      cases ob with
      | false => exact .inl rfl
      | true =>
        by_cases h : x < 0
        · exact .inr (.inl ⟨rfl, h⟩)
        · exact .inr (.inr ⟨rfl, h, by
            by_cases h2 : (rs.length : Int) - 1 ≤ x
            · exact h2
            · exact absurd ⟨rfl, by omega, by omega⟩ hgo⟩)
    rw [hob]
    clear hob hgo
    rcases hgo2 with rfl | ⟨rfl, h⟩ | ⟨rfl, h, h2⟩
    all_goals
      go_wp2_with (go_at_call 39; fail)
      clear x0 x1
      refine hcp.mono ?_
      rintro e w3 ⟨g, h, ks, rfl, m3, hg3, hh3, ho3, hor3, hne3, hb3⟩
      have r3 := bstay HR2.out hb3 (by omega)
      have r0 : w3.cell? ⟨w.heap.size + 1, 0, none⟩ = some (.slice none 0 0) := bcell r3 rfl
      have r1 : w3.cell? ⟨w.heap.size + 1, 1, none⟩ = some (.slice none 0 0) := bcell r3 rfl
      have f0 := bfree r3 0
      have f1 := bfree r3 1
      have HTA := HNO.out w3 g h ks HC.out m3 hg3 hh3 ho3 hor3 hne3
      have HTA : Hid (TA ((w3.setCell ⟨w.heap.size + 1, 0, none⟩ (.slice (some ⟨g, 0, none⟩) ys.length ys.length)).setCell ⟨w.heap.size + 1, 1, none⟩ (.slice (some ⟨h, 0, none⟩) rs.length rs.length)) w.heap.size (some ⟨g, 0, none⟩) (some ⟨h, 0, none⟩) ys ks) := HTA
      have HC3 : Hid (∀ r ∈ ks, r.l.length ≤ r.c) := fun k hk => by obtain ⟨j, hj⟩ := List.getElem?_of_mem hk; obtain ⟨_, _, hc, _⟩ := hor3.own j k hj; omega
      have HM : Hid (ks.map (·.l) = rs.map (·.l)) := m3
      have HB3 : Hid (Below w.heap.size w w3) := hBw2.trans (hb3.mono hBw2.size)
      clear hcp m3 ho3 hor3 hne3 r3 hb3
      go_wp2
      exact bodyPost_ret (v := .tuple #[.agg #[.slice (some ⟨g, 0, none⟩) ys.length ys.length, .slice (some ⟨h, 0, none⟩) rs.length rs.length], .bool false]) (by simp [results, Tryz.results43, go_sem, r0, r1]) rfl ⟨some ⟨g, 0, none⟩, ys.length, some ⟨h, 0, none⟩, rs.length, ks, by rw [ans_no HC.out, HC.out, List.length_map], ⟨⟨Nat.le_refl _, rfl, HC3.out⟩, by rw [ans_no HC.out]; exact HM.out⟩, HTA.out, (HB3.out.setCell (Nat.le_succ _) _).setCell (Nat.le_succ _) _⟩
end Go.Proofs.YtoemkbooomgieaaGreatDoor.mgi

/- StoreStep: the program. -/
namespace Go.Proofs.YtoemkbooomgieaaGreatDoor.sst
open Go.ChangeShapes Go.WideShapes Go.ChangeAt Go.RowKit Go.Proofs.YtoemkbooomgieaaGreatDoor.fl Go.Proofs.YtoemkbooomgieaaGreatDoor.fo Go.Proofs.YtoemkbooomgieaaGreatDoor.rn Go.Proofs.YtoemkbooomgieaaGreatDoor.tan Go.Proofs.YtoemkbooomgieaaGreatDoor.sct Go.Proofs.YtoemkbooomgieaaGreatDoor.scp Go.Proofs.YtoemkbooomgieaaGreatDoor.ssy
set_option linter.unusedVariables false

set_option maxRecDepth 100000 in
set_option maxHeartbeats 2000000 in
theorem flush_step (ys : List flP.Pr) (rs : List Rn) (ya ra : Option Addr) (yc rc : Nat) (x : Int) (w : World) (F : tb.Fit ys rs) (hY : Row flP.c 3 w w.heap.size ya ys) (hR : VR w w.heap.size ra rs) :
    Calls Tryz.prog 42 #[.agg #[.slice ya ys.length yc, .slice ra rs.length rc], .int .i64 x] w fun e w' => ∃ sa sc ta tc ks, e = .returned (.tuple #[.agg #[.slice sa (fls.ansY ys (rs.map (·.l))).length sc, .slice ta (fls.ansR ys (rs.map (·.l))).length tc], .bool (fls.can ys (rs.map (·.l)))]) ∧ (((fls.ansY ys (rs.map (·.l))).length ≤ sc ∧ ta.isSome = true ∧ ∀ r ∈ ks, r.l.length ≤ r.c) ∧ ks.map (·.l) = fls.ansR ys (rs.map (·.l))) ∧ TA w' w.heap.size sa ta (fls.ansY ys (rs.map (·.l))) ks ∧ Below w.heap.size w w' := by
  have hb : Below w.heap.size w ((w.alloc (.cells #[.slice ya ys.length yc, .slice ra rs.length rc] 30)).alloc (.cells #[.slice none 0 0, .slice none 0 0] 30)) := ((Below.refl _ _).alloc (Nat.le_refl _) _).alloc (by simp) _
  have hA := bold (bnew w #[.slice ya ys.length yc, .slice ra rs.length rc] 30) (.cells #[.slice none 0 0, .slice none 0 0] 30)
  have hRs := bnew (w.alloc (.cells #[.slice ya ys.length yc, .slice ra rs.length rc] 30)) #[.slice none 0 0, .slice none 0 0] 30
  rw [World.size_alloc] at hRs
  obtain ⟨W, hW⟩ : ∃ W, ((w.alloc (.cells #[.slice ya ys.length yc, .slice ra rs.length rc] 30)).alloc (.cells #[.slice none 0 0, .slice none 0 0] 30)) = W := ⟨_, rfl⟩
  have hsW : w.heap.size + 2 ≤ W.heap.size := by rw [← hW]; simp
  rw [hW] at hb hA hRs
  have hfl := fli.impl_flush ys rs ya ra yc rc W F (hY.inn hb) (hR.inn hb)
  have HRS : Hid (W.heap[w.heap.size + 1]? = some (.cells #[.slice none 0 0, .slice none 0 0] 30 (0, 0))) := hRs
  have p0 : W.cell? ⟨w.heap.size, 0, none⟩ = some (.slice ya ys.length yc) := bcell hA rfl
  have p1 : W.cell? ⟨w.heap.size, 1, none⟩ = some (.slice ra rs.length rc) := bcell hA rfl
  obtain ⟨l5, hl5⟩ : ∃ l5, fls.ansY ys (rs.map (·.l)) = l5 := ⟨_, rfl⟩
  obtain ⟨R5, hR5⟩ : ∃ R5, fls.ansR ys (rs.map (·.l)) = R5 := ⟨_, rfl⟩
  obtain ⟨bb, hbb⟩ : ∃ bb, fls.can ys (rs.map (·.l)) = bb := ⟨_, rfl⟩
  rw [hl5, hR5, hbb] at hfl ⊢
  clear hY hR hA hRs F hl5 hR5 hbb
  go_enter Tryz.func42, Tryz.ntmps42
  go_wp2_with (go_at_call 62; fail)
  clear hW p0 p1
  refine hfl.mono ?_
  rintro e w2 ⟨sa, sc, ta, tc, ks, rfl, hm, hta, hb2⟩
  have r2 := bstay HRS.out hb2 (by omega)
  have r0 : w2.cell? ⟨w.heap.size + 1, 0, none⟩ = some (.slice none 0 0) := bcell r2 rfl
  have r1 : w2.cell? ⟨w.heap.size + 1, 1, none⟩ = some (.slice none 0 0) := bcell r2 rfl
  have f0 := bfree r2 0
  have f1 := bfree r2 1
  have HB : Hid (Below w.heap.size w w2) := hb.trans (hb2.mono hb.size)
  have HTA : Hid (TA w2 W.heap.size sa ta l5 ks) := hta
  have HM : Hid (((l5.length ≤ sc ∧ ta.isSome = true ∧ ∀ r ∈ ks, r.l.length ≤ r.c) ∧ ks.map (·.l) = R5)) := hm
  clear hfl r2 hta hm hb2
  go_wp2
  have htn : Tn w2 ((w2.setCell ⟨w.heap.size + 1, 0, none⟩ (.slice sa l5.length sc)).setCell ⟨w.heap.size + 1, 1, none⟩ (.slice ta R5.length tc)) (fun k => k = w.heap.size + 1) := Tn.set (Tn.set (Tn.refl w2 (fun k => k = w.heap.size + 1)) (S := fun k => k = w.heap.size + 1) rfl 0 _) rfl 1 _
  exact bodyPost_ret (v := .tuple #[.agg #[.slice sa l5.length sc, .slice ta R5.length tc], .bool bb]) (by simp [results, Tryz.results42, go_sem, r0, r1]) rfl ⟨sa, sc, ta, tc, ks, rfl, HM.out, (HTA.out.turn htn (fun k hk => by omega)).wide (by omega), (HB.out.setCell (Nat.le_succ _) _).setCell (Nat.le_succ _) _⟩

set_option maxRecDepth 100000 in
theorem steps_run (w : World) : Calls Tryz.prog 24 #[] w fun e w' => e = .returned (.agg #[.func (.func 42) #[] #[], .func (.func 43) #[] #[]]) ∧ Below w.heap.size w w' := by
  have hb : Below w.heap.size w (w.alloc (.cells #[.func (.func 42) #[] #[], .func (.func 43) #[] #[]] 57)) := (Below.refl _ _).alloc (Nat.le_refl _) _
  go_enter Tryz.func24, Tryz.ntmps24
  go_wp2
  have hA := bnew w #[.func (.func 42) #[] #[], .func (.func 43) #[] #[]] 57
  have c0 : (w.alloc (.cells #[.func (.func 42) #[] #[], .func (.func 43) #[] #[]] 57)).cell? ⟨w.heap.size, 0, none⟩ = some (.func (.func 42) #[] #[]) := bcell hA rfl
  have c1 : (w.alloc (.cells #[.func (.func 42) #[] #[], .func (.func 43) #[] #[]] 57)).cell? ⟨w.heap.size, 1, none⟩ = some (.func (.func 43) #[] #[]) := bcell hA rfl
  exact bodyPost_ret (v := .agg #[.func (.func 42) #[] #[], .func (.func 43) #[] #[]]) (by simp [results, Tryz.results24, go_sem, c0, c1]) rfl ⟨rfl, hb⟩

/-- what stands when the step is done and its table lies in a place of its own -/
structure PS (w Y : World) (A : Array Value) (nb : Nat) (V : Array Value) (sa ta : Option Addr) (l : List flP.Pr) (ks : List Rn) : Prop where
  bel : Below w.heap.size w Y
  box : Y.heap[w.heap.size]? = some (.cells A 32 (0, 0))
  res : Y.heap[w.heap.size + 1]? = some (.cells #[.slice none 0 0, .slice none 0 0, .string ⟨#[]⟩, .int .i64 0] 32 (0, 0))
  tab : Y.heap[nb]? = some (.cells V 30 (0, 0))
  ne : nb ≠ w.heap.size + 1
  ta : TA Y (w.heap.size + 2) sa ta l ks
theorem ps_a {w X w5 : World} {A V : Array Value} {sa ta : Option Addr} {l : List flP.Pr} {ks : List Rn} (hX : Below w.heap.size w X) (hA : X.heap[w.heap.size]? = some (.cells A 32 (0, 0))) (hR : X.heap[w.heap.size + 1]? = some (.cells #[.slice none 0 0, .slice none 0 0, .string ⟨#[]⟩, .int .i64 0] 32 (0, 0))) (hta : TA w5 X.drew.heap.size sa ta l ks) (hb : Below X.drew.heap.size X.drew w5) : PS w (w5.alloc (.cells V 30)) A w5.heap.size V sa ta l ks := by
  have hb' : Below X.heap.size X w5 := (Below.refl _ X).drew.trans hb
  have h1 := (Array.getElem?_eq_some_iff.1 hR).1
  have h2 := hb'.size
  have hs : X.drew.heap.size = X.heap.size := rfl
  exact ⟨(hX.trans (hb'.mono hX.size)).alloc (by have := hX.size; omega) _, bold (bstay hA hb' (Array.getElem?_eq_some_iff.1 hA).1) _, bold (bstay hR hb' h1) _, bnew w5 _ _, by omega, (hta.wide (by omega)).on ((Below.refl _ _).alloc (Nat.le_refl _) _)⟩
theorem ps_b {w X w5 : World} {A : Array Value} {v0 v1 : Value} {sa ta : Option Addr} {l : List flP.Pr} {ks : List Rn} (hX : Below w.heap.size w X) (hA : X.heap[w.heap.size]? = some (.cells A 32 (0, 0))) (hR : X.heap[w.heap.size + 1]? = some (.cells #[.slice none 0 0, .slice none 0 0, .string ⟨#[]⟩, .int .i64 0] 32 (0, 0))) (hta : TA w5 (X.drew.alloc (.cells #[.slice none 0 0, .slice none 0 0] 30)).heap.size sa ta l ks) (hb : Below (X.drew.alloc (.cells #[.slice none 0 0, .slice none 0 0] 30)).heap.size (X.drew.alloc (.cells #[.slice none 0 0, .slice none 0 0] 30)) w5) : PS w ((w5.setCell ⟨X.heap.size, 0, none⟩ v0).setCell ⟨X.heap.size, 1, none⟩ v1) A X.heap.size #[v0, v1] sa ta l ks := by
  have hal : Below X.heap.size X (X.drew.alloc (.cells #[.slice none 0 0, .slice none 0 0] 30)) := ((Below.refl _ X).drew).alloc (Nat.le_refl _) _
  have hs : (X.drew.alloc (.cells #[.slice none 0 0, .slice none 0 0] 30)).heap.size = X.heap.size + 1 := by simp
  have hb' : Below X.heap.size X w5 := hal.trans (hb.mono hal.size)
  have h1 := (Array.getElem?_eq_some_iff.1 hR).1
  have h0 := (Array.getElem?_eq_some_iff.1 hA).1
  have hXs := hX.size
  have ht := bstay (bnew X.drew #[.slice none 0 0, .slice none 0 0] 30) hb (by simp)
  have htn : Tn w5 ((w5.setCell ⟨X.heap.size, 0, none⟩ v0).setCell ⟨X.heap.size, 1, none⟩ v1) (fun k => k = X.heap.size) := Tn.set (Tn.set (Tn.refl w5 (fun k => k = X.heap.size)) (S := fun k => k = X.heap.size) rfl 0 _) rfl 1 _
  exact ⟨((hX.trans (hb'.mono hXs)).setCell hXs _).setCell hXs _, boff (boff (bstay hA hb' h0) _ _ _ (by omega)) _ _ _ (by omega), boff (boff (bstay hR hb' h1) _ _ _ (by omega)) _ _ _ (by omega), bset (bset ht 0 v0) 1 v1, by omega, (hta.turn htn (fun k hk => by omega)).wide (by omega)⟩
/-- what stands while the answer is built -/
structure D5 (Y : World) (r : Nat) (V4 : Array Value) (b : Bool) (W : World) : Prop where
  tn : Tn Y W (fun k => b = true ∧ k = r)
  res : W.heap[r]? = some (.cells (if b then V4 else #[.slice none 0 0, .slice none 0 0, .string ⟨#[]⟩, .int .i64 0]) 32 (0, 0))
theorem D5.on {Y W W' : World} {r : Nat} {V4 : Array Value} {b : Bool} (h : D5 Y r V4 b W) (hb : Below W.heap.size W W') : D5 Y r V4 b W' :=
  ⟨⟨hb.os.trans h.tn.os, hb.tape.trans h.tn.tape, hb.output.trans h.tn.output, Nat.le_trans h.tn.size hb.size, fun k hk hS => (hb.block k (Nat.lt_of_lt_of_le hk h.tn.size)).trans (h.tn.block k hk hS)⟩, bstay h.res hb (Array.getElem?_eq_some_iff.1 h.res).1⟩
theorem D5.old {Y W : World} {r : Nat} {V4 : Array Value} {b : Bool} (h : D5 Y r V4 b W) {k : Nat} {o : Obj} (hk : Y.heap[k]? = some o) (hne : k ≠ r) : W.heap[k]? = some o := (h.tn.block k (Array.getElem?_eq_some_iff.1 hk).1 (fun e => hne e.2)).trans hk
def ws5 (s : Nat) (v0 v1 : Value) (lg : ByteArray) (sf : Int) : List (Nat × Value) := [(29, .agg #[v0, v1]), (30, .pointer (some ⟨s, 2, none⟩)), (31, .string lg), (32, .string lg), (33, .pointer (some ⟨s, 3, none⟩)), (34, .int .i64 sf), (35, .agg #[v0, v1, .string lg, .int .i64 sf])]

set_option maxRecDepth 100000 in
set_option maxHeartbeats 4000000 in
theorem impl_step (ys : List flP.Pr) (rs : List Rn) (ya ra : Option Addr) (yc rc : Nat) (lg : ByteArray) (sf kd x : Int) (w : World) (F : tb.Fit ys rs) (hlg : lg.size ≤ 1048576) (hk1 : -9223372036854775808 ≤ kd) (hk2 : kd ≤ 9223372036854775807) (hx1 : -9223372036854775808 ≤ x) (hx2 : x ≤ 9223372036854775807) (hY : Row flP.c 3 w w.heap.size ya ys) (hR : VR w w.heap.size ra rs) :
    Calls Tryz.prog 10 #[.agg #[.slice ya ys.length yc, .slice ra rs.length rc, .string lg, .int .i64 sf], .int .i64 kd, .int .i64 x] w fun e w' => ∃ sa sc ta tc ks, e = .returned (.agg #[.slice sa (ansY ys (rs.map (·.l)) lg sf kd x).length sc, .slice ta (ansR ys (rs.map (·.l)) lg sf kd x).length tc, .string lg, .int .i64 sf]) ∧ (((ansY ys (rs.map (·.l)) lg sf kd x).length ≤ sc ∧ ta.isSome = true ∧ ∀ r ∈ ks, r.l.length ≤ r.c) ∧ ks.map (·.l) = ansR ys (rs.map (·.l)) lg sf kd x) ∧ TA w' w.heap.size sa ta (ansY ys (rs.map (·.l)) lg sf kd x) ks ∧ Below w.heap.size w w' := by
  have hb : Below w.heap.size w ((w.alloc (.cells #[.slice ya ys.length yc, .slice ra rs.length rc, .string lg, .int .i64 sf] 32)).alloc (.cells #[.slice none 0 0, .slice none 0 0, .string ⟨#[]⟩, .int .i64 0] 32)) := ((Below.refl _ _).alloc (Nat.le_refl _) _).alloc (by simp) _
  have hA := bold (bnew w #[.slice ya ys.length yc, .slice ra rs.length rc, .string lg, .int .i64 sf] 32) (.cells #[.slice none 0 0, .slice none 0 0, .string ⟨#[]⟩, .int .i64 0] 32)
  have hRs := bnew (w.alloc (.cells #[.slice ya ys.length yc, .slice ra rs.length rc, .string lg, .int .i64 sf] 32)) #[.slice none 0 0, .slice none 0 0, .string ⟨#[]⟩, .int .i64 0] 32
  rw [World.size_alloc] at hRs
  obtain ⟨W, hW⟩ : ∃ W, ((w.alloc (.cells #[.slice ya ys.length yc, .slice ra rs.length rc, .string lg, .int .i64 sf] 32)).alloc (.cells #[.slice none 0 0, .slice none 0 0, .string ⟨#[]⟩, .int .i64 0] 32)) = W := ⟨_, rfl⟩
  have hsW : w.heap.size + 2 ≤ W.heap.size := by rw [← hW]; simp
  rw [hW] at hb hA hRs
  have HF : Hid (tb.Fit ys rs) := F
  have HY : Hid (Row flP.c 3 w w.heap.size ya ys) := hY
  have HR : Hid (VR w w.heap.size ra rs) := hR
  have HA : Hid (W.heap[w.heap.size]? = some (.cells #[.slice ya ys.length yc, .slice ra rs.length rc, .string lg, .int .i64 sf] 32 (0, 0))) := hA
  have HRS : Hid (W.heap[w.heap.size + 1]? = some (.cells #[.slice none 0 0, .slice none 0 0, .string ⟨#[]⟩, .int .i64 0] 32 (0, 0))) := hRs
  have p0 : W.cell? ⟨w.heap.size, 0, none⟩ = some (.slice ya ys.length yc) := bcell hA rfl
  have p1 : W.cell? ⟨w.heap.size, 1, none⟩ = some (.slice ra rs.length rc) := bcell hA rfl
  have p2 : W.cell? ⟨w.heap.size, 2, none⟩ = some (.string lg) := bcell hA rfl
  have p3 : W.cell? ⟨w.heap.size, 3, none⟩ = some (.int .i64 sf) := bcell hA rfl
  clear hY hR hA hRs F
  by_cases h0 : kd = 0
  · subst h0
    clear hk1 hk2
    obtain ⟨l5, hl5⟩ : ∃ l5, fls.ansY ys (rs.map (·.l)) = l5 := ⟨_, rfl⟩
    obtain ⟨R5, hR5⟩ : ∃ R5, fls.ansR ys (rs.map (·.l)) = R5 := ⟨_, rfl⟩
    obtain ⟨bb, hbb⟩ : ∃ bb, fls.can ys (rs.map (·.l)) = bb := ⟨_, rfl⟩
    have HAN : Hid (ansY ys (rs.map (·.l)) lg sf 0 x = l5 ∧ ansR ys (rs.map (·.l)) lg sf 0 x = R5) := ⟨hl5, hR5⟩
    have FS0 : Hid (∀ W', Row flP.c 3 W' W'.heap.size ya ys → VR W' W'.heap.size ra rs → Calls Tryz.prog 42 #[.agg #[.slice ya ys.length yc, .slice ra rs.length rc], .int .i64 x] W' fun e w' => ∃ sa sc ta tc ks, e = .returned (.tuple #[.agg #[.slice sa l5.length sc, .slice ta R5.length tc], .bool bb]) ∧ ((l5.length ≤ sc ∧ ta.isSome = true ∧ ∀ r ∈ ks, r.l.length ≤ r.c) ∧ ks.map (·.l) = R5) ∧ TA w' W'.heap.size sa ta l5 ks ∧ Below W'.heap.size W' w') := fun W' h1 h2 => by
      have := flush_step ys rs ya ra yc rc x W' HF.out h1 h2
      rw [hl5, hR5, hbb] at this
      exact this
    generalize hPost : (fun (e : Ending) (w' : World) => ∃ sa sc ta tc ks, e = .returned (.agg #[.slice sa (ansY ys (rs.map (·.l)) lg sf 0 x).length sc, .slice ta (ansR ys (rs.map (·.l)) lg sf 0 x).length tc, .string lg, .int .i64 sf]) ∧ (((ansY ys (rs.map (·.l)) lg sf 0 x).length ≤ sc ∧ ta.isSome = true ∧ ∀ r ∈ ks, r.l.length ≤ r.c) ∧ ks.map (·.l) = ansR ys (rs.map (·.l)) lg sf 0 x) ∧ TA w' w.heap.size sa ta (ansY ys (rs.map (·.l)) lg sf 0 x) ks ∧ Below w.heap.size w w') = Post
    have HPO : Hid (∀ (e : Ending) (w' : World), (∃ sa sc ta tc ks, e = .returned (.agg #[.slice sa l5.length sc, .slice ta R5.length tc, .string lg, .int .i64 sf]) ∧ ((l5.length ≤ sc ∧ ta.isSome = true ∧ ∀ r ∈ ks, r.l.length ≤ r.c) ∧ ks.map (·.l) = R5) ∧ TA w' w.heap.size sa ta l5 ks ∧ Below w.heap.size w w') → Post e w') := fun e w' h => by
      rw [← hPost]
      simp only [HAN.out.1, HAN.out.2]
      exact h
    clear hPost hl5 hR5 hbb
    have hst := steps_run W
    go_enter Tryz.func10, Tryz.ntmps10
    go_wp2_with (go_at_call 24; fail)
    clear hW
    refine hst.mono ?_
    rintro e w1 ⟨rfl, hb1⟩
    clear p0 p1 p2 p3
    have hal : Below w1.heap.size w1 (w1.alloc (.cells #[.func (.func 42) #[] #[], .func (.func 43) #[] #[]] 57)) := (Below.refl _ _).alloc (Nat.le_refl _) _
    have hST := bnew w1 #[.func (.func 42) #[] #[], .func (.func 43) #[] #[]] 57
    have hb1s := hb1.size
    have a1 := bold (bstay HA.out hb1 (by omega)) (.cells #[.func (.func 42) #[] #[], .func (.func 43) #[] #[]] 57)
    have r1 := bold (bstay HRS.out hb1 (by omega)) (.cells #[.func (.func 42) #[] #[], .func (.func 43) #[] #[]] 57)
    have hBX : Below w.heap.size w (w1.alloc (.cells #[.func (.func 42) #[] #[], .func (.func 43) #[] #[]] 57)) := (hb.trans (hb1.mono hb.size)).trans (hal.mono (by have := hb.size; omega))
    have hXs : w1.heap.size < (w1.alloc (.cells #[.func (.func 42) #[] #[], .func (.func 43) #[] #[]] 57)).heap.size := by simp
    obtain ⟨X, hX⟩ : ∃ X, w1.alloc (.cells #[.func (.func 42) #[] #[], .func (.func 43) #[] #[]] 57) = X := ⟨_, rfl⟩
    rw [hX] at hal hST a1 r1 hBX hXs
    have FS : Hid (∀ W', Below X.heap.size X W' → Calls Tryz.prog 42 #[.agg #[.slice ya ys.length yc, .slice ra rs.length rc], .int .i64 x] W' fun e w' => ∃ sa sc ta tc ks, e = .returned (.tuple #[.agg #[.slice sa l5.length sc, .slice ta R5.length tc], .bool bb]) ∧ ((l5.length ≤ sc ∧ ta.isSome = true ∧ ∀ r ∈ ks, r.l.length ≤ r.c) ∧ ks.map (·.l) = R5) ∧ TA w' W'.heap.size sa ta l5 ks ∧ Below W'.heap.size W' w') := fun W' h => FS0.out W' ((HY.out.inn hBX).inn h) ((HR.out.inn hBX).inn h)
    have s0 : X.cell? ⟨w1.heap.size, 0, none⟩ = some (.func (.func 42) #[] #[]) := bcell hST rfl
    have p0 : X.cell? ⟨w.heap.size, 0, none⟩ = some (.slice ya ys.length yc) := bcell a1 rfl
    have p1 : X.cell? ⟨w.heap.size, 1, none⟩ = some (.slice ra rs.length rc) := bcell a1 rfl
    have HA1 : Hid (X.heap[w.heap.size]? = some (.cells #[.slice ya ys.length yc, .slice ra rs.length rc, .string lg, .int .i64 sf] 32 (0, 0))) := a1
    have HR1 : Hid (X.heap[w.heap.size + 1]? = some (.cells #[.slice none 0 0, .slice none 0 0, .string ⟨#[]⟩, .int .i64 0] 32 (0, 0))) := r1
    have l0 : w.heap.size < X.heap.size := (Array.getElem?_eq_some_iff.1 a1).1
    have l1 : w.heap.size + 1 < X.heap.size := (Array.getElem?_eq_some_iff.1 r1).1
    clear hst hST a1 r1 hal hb1 HA HRS
    go_wp2
    clear hX
    go_region_with (go_at_call 42; first | (refine (FS.out (X.drew.alloc (.cells #[.slice none 0 0, .slice none 0 0] 30)) ?_).mono ?_; (exact ((Below.refl _ _).drew).alloc (Nat.le_refl _) _); rintro e w5 ⟨sa, sc, ta, tc, k5, rfl, hm5, hta5, hb5⟩; have t5 := bstay (bnew X.drew #[.slice none 0 0, .slice none 0 0] 30) hb5 (by simp); have t0 : w5.cell? ⟨X.heap.size, 0, none⟩ = some (.slice none 0 0) := bcell t5 rfl; have t1 : w5.cell? ⟨X.heap.size, 1, none⟩ = some (.slice none 0 0) := bcell t5 rfl; have tf0 : w5.frozen? ⟨X.heap.size, 0, none⟩ = false := bfree t5 0; have tf1 : w5.frozen? ⟨X.heap.size, 1, none⟩ = false := bfree t5 1) | (refine (FS.out X.drew ?_).mono ?_; (exact (Below.refl _ _).drew); rintro e w5 ⟨sa, sc, ta, tc, k5, rfl, hm5, hta5, hb5⟩))
    all_goals
      first
        | (have hps := ps_b (v0 := .slice sa l5.length sc) (v1 := .slice ta R5.length tc) hBX HA1.out HR1.out hta5 hb5
           obtain ⟨Y, hYe⟩ : ∃ Y, (w5.setCell ⟨X.heap.size, 0, none⟩ (.slice sa l5.length sc)).setCell ⟨X.heap.size, 1, none⟩ (.slice ta R5.length tc) = Y := ⟨_, rfl⟩
           obtain ⟨nb, hnb⟩ : ∃ nb, X.heap.size = nb := ⟨_, rfl⟩
           rw [hYe, hnb] at hps
           rw [hYe]
           rw [hnb])
        | (have hps := ps_a (V := #[.slice sa l5.length sc, .slice ta R5.length tc]) hBX HA1.out HR1.out hta5 hb5
           obtain ⟨Y, hYe⟩ : ∃ Y, w5.alloc (.cells #[.slice sa l5.length sc, .slice ta R5.length tc] 30) = Y := ⟨_, rfl⟩
           obtain ⟨nb, hnb⟩ : ∃ nb, w5.heap.size = nb := ⟨_, rfl⟩
           rw [hYe, hnb] at hps
           rw [hYe]
           rw [hnb])
      have HPS : Hid (PS w Y #[.slice ya ys.length yc, .slice ra rs.length rc, .string lg, .int .i64 sf] nb #[.slice sa l5.length sc, .slice ta R5.length tc] sa ta l5 k5) := hps
      have HM5 : Hid (((l5.length ≤ sc ∧ ta.isSome = true ∧ ∀ r ∈ k5, r.l.length ≤ r.c) ∧ k5.map (·.l) = R5)) := hm5 
      clear hps hm5 hta5 hb5 hYe hnb
      go_wp2
      have hcl := fun W' => cl.clone lg W' (by omega)
      have h5 : D5 Y (w.heap.size + 1) #[.slice sa l5.length sc, .slice ta R5.length tc, .string lg, .int .i64 sf] false Y.drew := ⟨Tn.of _ (Below.refl _ _).drew, HPS.out.res⟩
      refine dk.region_sets (ws5 w.heap.size (.slice sa l5.length sc) (.slice ta R5.length tc) lg sf) [29, 30, 31, 32, 33, 34, 35] (dk.Cl (D5 Y (w.heap.size + 1) #[.slice sa l5.length sc, .slice ta R5.length tc, .string lg, .int .i64 sf]) 7) (by kernel_rfl) (by kernel_rfl) rfl (by kernel_rfl) h5 ?each ?fin
      case each =>
        refine ⟨dk.q (by decide) (.agg #[.slice sa l5.length sc, .slice ta R5.length tc]) (by rintro _ ⟨⟩; exact dk.sets_on _ (by first | (simp; done) | (simp [Act.put]; done) | decide) _ rfl) (fun b W h => by have hh := h.old HPS.out.tab HPS.out.ne; have c0 : W.cell? ⟨nb, 0, none⟩ = some (.slice sa l5.length sc) := bcell hh rfl; have c1 : W.cell? ⟨nb, 1, none⟩ = some (.slice ta R5.length tc) := bcell hh rfl; simp [execOp, go_sem, Act.eval, dk.sets_get, ws5, List.lookup, c0, c1]), ?_⟩
        refine ⟨dk.q (by decide) (.pointer (some ⟨w.heap.size, 2, none⟩)) (by rintro _ ⟨⟩; exact dk.sets_on _ (by first | (simp; done) | (simp [Act.put]; done) | decide) _ rfl) (fun b W h => by simp [execOp, go_sem, Act.eval, dk.sets_get, ws5, List.lookup]), ?_⟩
        refine ⟨dk.q (by decide) (.string lg) (by rintro _ ⟨⟩; exact dk.sets_on _ (by first | (simp; done) | (simp [Act.put]; done) | decide) _ rfl) (fun b W h => by have hh := h.old HPS.out.box (by omega); have c0 : W.cell? ⟨w.heap.size, 2, none⟩ = some (.string lg) := bcell hh rfl; simp [execOp, go_sem, Act.eval, dk.sets_get, ws5, List.lookup, c0]), ?_⟩
        refine ⟨dk.call (by decide) 25 #[.string lg] (.string lg) (by rintro _ ⟨⟩; exact dk.sets_on _ (by first | (simp; done) | (simp [Act.put]; done) | decide) _ rfl) (fun b W h => by simp [go_sem, Act.eval, dk.sets_get, ws5, List.lookup]) (fun b W h => (hcl W).mono fun e w' ⟨h1, h2⟩ => ⟨h1, h.on h2⟩), ?_⟩
        refine ⟨dk.q (by decide) (.pointer (some ⟨w.heap.size, 3, none⟩)) (by rintro _ ⟨⟩; exact dk.sets_on _ (by first | (simp; done) | (simp [Act.put]; done) | decide) _ rfl) (fun b W h => by simp [execOp, go_sem, Act.eval, dk.sets_get, ws5, List.lookup]), ?_⟩
        refine ⟨dk.q (by decide) (.int .i64 sf) (by rintro _ ⟨⟩; exact dk.sets_on _ (by first | (simp; done) | (simp [Act.put]; done) | decide) _ rfl) (fun b W h => by have hh := h.old HPS.out.box (by omega); have c0 : W.cell? ⟨w.heap.size, 3, none⟩ = some (.int .i64 sf) := bcell hh rfl; simp [execOp, go_sem, Act.eval, dk.sets_get, ws5, List.lookup, c0]), ?_⟩
        refine ⟨dk.q (by decide) (.agg #[.slice sa l5.length sc, .slice ta R5.length tc, .string lg, .int .i64 sf]) (by rintro _ ⟨⟩; exact dk.sets_on _ (by first | (simp; done) | (simp [Act.put]; done) | decide) _ rfl) (fun b W h => by simp [execOp, go_sem, Act.eval, dk.sets_get, ws5, List.lookup]), ?_⟩
        refine ⟨dk.last rfl (fun W h => ?_), trivial⟩
        have hr := h.res
        rw [if_neg (by simp)] at hr
        have c0 : W.cell? ⟨w.heap.size + 1, 0, none⟩ = some (.slice none 0 0) := bcell hr rfl
        have c1 : W.cell? ⟨w.heap.size + 1, 1, none⟩ = some (.slice none 0 0) := bcell hr rfl
        have c2 : W.cell? ⟨w.heap.size + 1, 2, none⟩ = some (.string ⟨#[]⟩) := bcell hr rfl
        have c3 : W.cell? ⟨w.heap.size + 1, 3, none⟩ = some (.int .i64 0) := bcell hr rfl
        have f0 := bfree hr 0
        have f1 := bfree hr 1
        have f2 := bfree hr 2
        have f3 := bfree hr 3
        refine ⟨(((W.setCell ⟨w.heap.size + 1, 0, none⟩ (.slice sa l5.length sc)).setCell ⟨w.heap.size + 1, 1, none⟩ (.slice ta R5.length tc)).setCell ⟨w.heap.size + 1, 2, none⟩ (.string lg)).setCell ⟨w.heap.size + 1, 3, none⟩ (.int .i64 sf), by simp [execOp, go_sem, Act.eval, dk.sets_get, ws5, List.lookup, c0, c1, c2, c3, f0, f1, f2, f3], ?_, bset (bset (bset (bset hr 0 _) 1 _) 2 _) 3 _⟩
        exact Tn.set (Tn.set (Tn.set (Tn.set (h.tn.wide (fun k hk => ⟨rfl, hk.2⟩)) ⟨rfl, rfl⟩ 0 _) ⟨rfl, rfl⟩ 1 _) ⟨rfl, rfl⟩ 2 _) ⟨rfl, rfl⟩ 3 _
      case fin =>
        intro L W8 hL hC
        have hC' : D5 Y (w.heap.size + 1) #[.slice sa l5.length sc, .slice ta R5.length tc, .string lg, .int .i64 sf] true W8 := by
          have h7 := hL 7 (by decide)
          unfold dk.Cl at hC
          rw [h7] at hC
          exact hC
        have hr := hC'.res
        rw [if_pos rfl] at hr
        have c0 : W8.cell? ⟨w.heap.size + 1, 0, none⟩ = some (.slice sa l5.length sc) := bcell hr rfl
        have c1 : W8.cell? ⟨w.heap.size + 1, 1, none⟩ = some (.slice ta R5.length tc) := bcell hr rfl
        have c2 : W8.cell? ⟨w.heap.size + 1, 2, none⟩ = some (.string lg) := bcell hr rfl
        have c3 : W8.cell? ⟨w.heap.size + 1, 3, none⟩ = some (.int .i64 sf) := bcell hr rfl
        have HFA : Hid (TA W8 w.heap.size sa ta l5 k5 ∧ Below w.heap.size w W8) := ⟨(HPS.out.ta.turn hC'.tn (fun k hk => by have := hk.2; omega)).wide (by omega), HPS.out.bel.trans (hC'.tn.below HPS.out.bel.size (fun k hk => by have := hk.2; omega))⟩
        clear hC hC' hL hr
        simp only [dk.sets, ws5]
        go_wp2
        exact bodyPost_ret (v := .agg #[.slice sa l5.length sc, .slice ta R5.length tc, .string lg, .int .i64 sf]) (by simp [results, Tryz.results10, go_sem, c0, c1, c2, c3]) rfl (HPO.out _ _ ⟨sa, sc, ta, tc, k5, rfl, HM5.out, HFA.out.1, HFA.out.2⟩)
  · by_cases h1 : kd = 1
    · subst h1
      clear hk1 hk2
      obtain ⟨R5, hR5⟩ : ∃ R5, mga.ansR ys (rs.map (·.l)) x = R5 := ⟨_, rfl⟩
      obtain ⟨bb, hbb⟩ : ∃ bb, mga.can ys (rs.map (·.l)) x = bb := ⟨_, rfl⟩
      have HAN : Hid (ansY ys (rs.map (·.l)) lg sf 1 x = ys ∧ ansR ys (rs.map (·.l)) lg sf 1 x = R5) := ⟨rfl, hR5⟩
      have FS0 : Hid (∀ W', Row flP.c 3 W' W'.heap.size ya ys → VR W' W'.heap.size ra rs → Calls Tryz.prog 43 #[.agg #[.slice ya ys.length yc, .slice ra rs.length rc], .int .i64 x] W' fun e w' => ∃ sa sc ta tc ks, e = .returned (.tuple #[.agg #[.slice sa ys.length sc, .slice ta R5.length tc], .bool bb]) ∧ ((ys.length ≤ sc ∧ ta.isSome = true ∧ ∀ r ∈ ks, r.l.length ≤ r.c) ∧ ks.map (·.l) = R5) ∧ TA w' W'.heap.size sa ta ys ks ∧ Below W'.heap.size W' w') := fun W' h1 h2 => by
        have := mgi.impl_merge ys rs ya ra yc rc x W' HF.out hx1 hx2 h1 h2
        rw [hR5, hbb] at this
        exact this
      generalize hPost : (fun (e : Ending) (w' : World) => ∃ sa sc ta tc ks, e = .returned (.agg #[.slice sa (ansY ys (rs.map (·.l)) lg sf 1 x).length sc, .slice ta (ansR ys (rs.map (·.l)) lg sf 1 x).length tc, .string lg, .int .i64 sf]) ∧ (((ansY ys (rs.map (·.l)) lg sf 1 x).length ≤ sc ∧ ta.isSome = true ∧ ∀ r ∈ ks, r.l.length ≤ r.c) ∧ ks.map (·.l) = ansR ys (rs.map (·.l)) lg sf 1 x) ∧ TA w' w.heap.size sa ta (ansY ys (rs.map (·.l)) lg sf 1 x) ks ∧ Below w.heap.size w w') = Post
      have HPO : Hid (∀ (e : Ending) (w' : World), (∃ sa sc ta tc ks, e = .returned (.agg #[.slice sa ys.length sc, .slice ta R5.length tc, .string lg, .int .i64 sf]) ∧ ((ys.length ≤ sc ∧ ta.isSome = true ∧ ∀ r ∈ ks, r.l.length ≤ r.c) ∧ ks.map (·.l) = R5) ∧ TA w' w.heap.size sa ta ys ks ∧ Below w.heap.size w w') → Post e w') := fun e w' h => by
        rw [← hPost]
        simp only [HAN.out.1, HAN.out.2]
        exact h
      clear hPost hR5 hbb
      have hst := steps_run W
      go_enter Tryz.func10, Tryz.ntmps10
      go_wp2_with (go_at_call 24; fail)
      clear hW
      refine hst.mono ?_
      rintro e w1 ⟨rfl, hb1⟩
      clear p0 p1 p2 p3
      have hal : Below w1.heap.size w1 (w1.alloc (.cells #[.func (.func 42) #[] #[], .func (.func 43) #[] #[]] 57)) := (Below.refl _ _).alloc (Nat.le_refl _) _
      have hST := bnew w1 #[.func (.func 42) #[] #[], .func (.func 43) #[] #[]] 57
      have hb1s := hb1.size
      have a1 := bold (bstay HA.out hb1 (by omega)) (.cells #[.func (.func 42) #[] #[], .func (.func 43) #[] #[]] 57)
      have r1 := bold (bstay HRS.out hb1 (by omega)) (.cells #[.func (.func 42) #[] #[], .func (.func 43) #[] #[]] 57)
      have hBX : Below w.heap.size w (w1.alloc (.cells #[.func (.func 42) #[] #[], .func (.func 43) #[] #[]] 57)) := (hb.trans (hb1.mono hb.size)).trans (hal.mono (by have := hb.size; omega))
      have hXs : w1.heap.size < (w1.alloc (.cells #[.func (.func 42) #[] #[], .func (.func 43) #[] #[]] 57)).heap.size := by simp
      obtain ⟨X, hX⟩ : ∃ X, w1.alloc (.cells #[.func (.func 42) #[] #[], .func (.func 43) #[] #[]] 57) = X := ⟨_, rfl⟩
      rw [hX] at hal hST a1 r1 hBX hXs
      have FS : Hid (∀ W', Below X.heap.size X W' → Calls Tryz.prog 43 #[.agg #[.slice ya ys.length yc, .slice ra rs.length rc], .int .i64 x] W' fun e w' => ∃ sa sc ta tc ks, e = .returned (.tuple #[.agg #[.slice sa ys.length sc, .slice ta R5.length tc], .bool bb]) ∧ ((ys.length ≤ sc ∧ ta.isSome = true ∧ ∀ r ∈ ks, r.l.length ≤ r.c) ∧ ks.map (·.l) = R5) ∧ TA w' W'.heap.size sa ta ys ks ∧ Below W'.heap.size W' w') := fun W' h => FS0.out W' ((HY.out.inn hBX).inn h) ((HR.out.inn hBX).inn h)
      have s0 : X.cell? ⟨w1.heap.size, 1, none⟩ = some (.func (.func 43) #[] #[]) := bcell hST rfl
      have p0 : X.cell? ⟨w.heap.size, 0, none⟩ = some (.slice ya ys.length yc) := bcell a1 rfl
      have p1 : X.cell? ⟨w.heap.size, 1, none⟩ = some (.slice ra rs.length rc) := bcell a1 rfl
      have HA1 : Hid (X.heap[w.heap.size]? = some (.cells #[.slice ya ys.length yc, .slice ra rs.length rc, .string lg, .int .i64 sf] 32 (0, 0))) := a1
      have HR1 : Hid (X.heap[w.heap.size + 1]? = some (.cells #[.slice none 0 0, .slice none 0 0, .string ⟨#[]⟩, .int .i64 0] 32 (0, 0))) := r1
      have l0 : w.heap.size < X.heap.size := (Array.getElem?_eq_some_iff.1 a1).1
      have l1 : w.heap.size + 1 < X.heap.size := (Array.getElem?_eq_some_iff.1 r1).1
      clear hst hST a1 r1 hal hb1 HA HRS
      go_wp2
      clear hX
      go_region_with (go_at_call 43; first | (refine (FS.out (X.drew.alloc (.cells #[.slice none 0 0, .slice none 0 0] 30)) ?_).mono ?_; (exact ((Below.refl _ _).drew).alloc (Nat.le_refl _) _); rintro e w5 ⟨sa, sc, ta, tc, k5, rfl, hm5, hta5, hb5⟩; have t5 := bstay (bnew X.drew #[.slice none 0 0, .slice none 0 0] 30) hb5 (by simp); have t0 : w5.cell? ⟨X.heap.size, 0, none⟩ = some (.slice none 0 0) := bcell t5 rfl; have t1 : w5.cell? ⟨X.heap.size, 1, none⟩ = some (.slice none 0 0) := bcell t5 rfl; have tf0 : w5.frozen? ⟨X.heap.size, 0, none⟩ = false := bfree t5 0; have tf1 : w5.frozen? ⟨X.heap.size, 1, none⟩ = false := bfree t5 1) | (refine (FS.out X.drew ?_).mono ?_; (exact (Below.refl _ _).drew); rintro e w5 ⟨sa, sc, ta, tc, k5, rfl, hm5, hta5, hb5⟩))
      all_goals
        first
          | (have hps := ps_b (v0 := .slice sa ys.length sc) (v1 := .slice ta R5.length tc) hBX HA1.out HR1.out hta5 hb5
             obtain ⟨Y, hYe⟩ : ∃ Y, (w5.setCell ⟨X.heap.size, 0, none⟩ (.slice sa ys.length sc)).setCell ⟨X.heap.size, 1, none⟩ (.slice ta R5.length tc) = Y := ⟨_, rfl⟩
             obtain ⟨nb, hnb⟩ : ∃ nb, X.heap.size = nb := ⟨_, rfl⟩
             rw [hYe, hnb] at hps
             rw [hYe]
             rw [hnb])
          | (have hps := ps_a (V := #[.slice sa ys.length sc, .slice ta R5.length tc]) hBX HA1.out HR1.out hta5 hb5
             obtain ⟨Y, hYe⟩ : ∃ Y, w5.alloc (.cells #[.slice sa ys.length sc, .slice ta R5.length tc] 30) = Y := ⟨_, rfl⟩
             obtain ⟨nb, hnb⟩ : ∃ nb, w5.heap.size = nb := ⟨_, rfl⟩
             rw [hYe, hnb] at hps
             rw [hYe]
             rw [hnb])
        have HPS : Hid (PS w Y #[.slice ya ys.length yc, .slice ra rs.length rc, .string lg, .int .i64 sf] nb #[.slice sa ys.length sc, .slice ta R5.length tc] sa ta ys k5) := hps
        have HM5 : Hid (((ys.length ≤ sc ∧ ta.isSome = true ∧ ∀ r ∈ k5, r.l.length ≤ r.c) ∧ k5.map (·.l) = R5)) := hm5 
        clear hps hm5 hta5 hb5 hYe hnb
        go_wp2
        have hcl := fun W' => cl.clone lg W' (by omega)
        have h5 : D5 Y (w.heap.size + 1) #[.slice sa ys.length sc, .slice ta R5.length tc, .string lg, .int .i64 sf] false Y.drew := ⟨Tn.of _ (Below.refl _ _).drew, HPS.out.res⟩
        refine dk.region_sets (ws5 w.heap.size (.slice sa ys.length sc) (.slice ta R5.length tc) lg sf) [29, 30, 31, 32, 33, 34, 35] (dk.Cl (D5 Y (w.heap.size + 1) #[.slice sa ys.length sc, .slice ta R5.length tc, .string lg, .int .i64 sf]) 7) (by kernel_rfl) (by kernel_rfl) rfl (by kernel_rfl) h5 ?each ?fin
        case each =>
          refine ⟨dk.q (by decide) (.agg #[.slice sa ys.length sc, .slice ta R5.length tc]) (by rintro _ ⟨⟩; exact dk.sets_on _ (by first | (simp; done) | (simp [Act.put]; done) | decide) _ rfl) (fun b W h => by have hh := h.old HPS.out.tab HPS.out.ne; have c0 : W.cell? ⟨nb, 0, none⟩ = some (.slice sa ys.length sc) := bcell hh rfl; have c1 : W.cell? ⟨nb, 1, none⟩ = some (.slice ta R5.length tc) := bcell hh rfl; simp [execOp, go_sem, Act.eval, dk.sets_get, ws5, List.lookup, c0, c1]), ?_⟩
          refine ⟨dk.q (by decide) (.pointer (some ⟨w.heap.size, 2, none⟩)) (by rintro _ ⟨⟩; exact dk.sets_on _ (by first | (simp; done) | (simp [Act.put]; done) | decide) _ rfl) (fun b W h => by simp [execOp, go_sem, Act.eval, dk.sets_get, ws5, List.lookup]), ?_⟩
          refine ⟨dk.q (by decide) (.string lg) (by rintro _ ⟨⟩; exact dk.sets_on _ (by first | (simp; done) | (simp [Act.put]; done) | decide) _ rfl) (fun b W h => by have hh := h.old HPS.out.box (by omega); have c0 : W.cell? ⟨w.heap.size, 2, none⟩ = some (.string lg) := bcell hh rfl; simp [execOp, go_sem, Act.eval, dk.sets_get, ws5, List.lookup, c0]), ?_⟩
          refine ⟨dk.call (by decide) 25 #[.string lg] (.string lg) (by rintro _ ⟨⟩; exact dk.sets_on _ (by first | (simp; done) | (simp [Act.put]; done) | decide) _ rfl) (fun b W h => by simp [go_sem, Act.eval, dk.sets_get, ws5, List.lookup]) (fun b W h => (hcl W).mono fun e w' ⟨h1, h2⟩ => ⟨h1, h.on h2⟩), ?_⟩
          refine ⟨dk.q (by decide) (.pointer (some ⟨w.heap.size, 3, none⟩)) (by rintro _ ⟨⟩; exact dk.sets_on _ (by first | (simp; done) | (simp [Act.put]; done) | decide) _ rfl) (fun b W h => by simp [execOp, go_sem, Act.eval, dk.sets_get, ws5, List.lookup]), ?_⟩
          refine ⟨dk.q (by decide) (.int .i64 sf) (by rintro _ ⟨⟩; exact dk.sets_on _ (by first | (simp; done) | (simp [Act.put]; done) | decide) _ rfl) (fun b W h => by have hh := h.old HPS.out.box (by omega); have c0 : W.cell? ⟨w.heap.size, 3, none⟩ = some (.int .i64 sf) := bcell hh rfl; simp [execOp, go_sem, Act.eval, dk.sets_get, ws5, List.lookup, c0]), ?_⟩
          refine ⟨dk.q (by decide) (.agg #[.slice sa ys.length sc, .slice ta R5.length tc, .string lg, .int .i64 sf]) (by rintro _ ⟨⟩; exact dk.sets_on _ (by first | (simp; done) | (simp [Act.put]; done) | decide) _ rfl) (fun b W h => by simp [execOp, go_sem, Act.eval, dk.sets_get, ws5, List.lookup]), ?_⟩
          refine ⟨dk.last rfl (fun W h => ?_), trivial⟩
          have hr := h.res
          rw [if_neg (by simp)] at hr
          have c0 : W.cell? ⟨w.heap.size + 1, 0, none⟩ = some (.slice none 0 0) := bcell hr rfl
          have c1 : W.cell? ⟨w.heap.size + 1, 1, none⟩ = some (.slice none 0 0) := bcell hr rfl
          have c2 : W.cell? ⟨w.heap.size + 1, 2, none⟩ = some (.string ⟨#[]⟩) := bcell hr rfl
          have c3 : W.cell? ⟨w.heap.size + 1, 3, none⟩ = some (.int .i64 0) := bcell hr rfl
          have f0 := bfree hr 0
          have f1 := bfree hr 1
          have f2 := bfree hr 2
          have f3 := bfree hr 3
          refine ⟨(((W.setCell ⟨w.heap.size + 1, 0, none⟩ (.slice sa ys.length sc)).setCell ⟨w.heap.size + 1, 1, none⟩ (.slice ta R5.length tc)).setCell ⟨w.heap.size + 1, 2, none⟩ (.string lg)).setCell ⟨w.heap.size + 1, 3, none⟩ (.int .i64 sf), by simp [execOp, go_sem, Act.eval, dk.sets_get, ws5, List.lookup, c0, c1, c2, c3, f0, f1, f2, f3], ?_, bset (bset (bset (bset hr 0 _) 1 _) 2 _) 3 _⟩
          exact Tn.set (Tn.set (Tn.set (Tn.set (h.tn.wide (fun k hk => ⟨rfl, hk.2⟩)) ⟨rfl, rfl⟩ 0 _) ⟨rfl, rfl⟩ 1 _) ⟨rfl, rfl⟩ 2 _) ⟨rfl, rfl⟩ 3 _
        case fin =>
          intro L W8 hL hC
          have hC' : D5 Y (w.heap.size + 1) #[.slice sa ys.length sc, .slice ta R5.length tc, .string lg, .int .i64 sf] true W8 := by
            have h7 := hL 7 (by decide)
            unfold dk.Cl at hC
            rw [h7] at hC
            exact hC
          have hr := hC'.res
          rw [if_pos rfl] at hr
          have c0 : W8.cell? ⟨w.heap.size + 1, 0, none⟩ = some (.slice sa ys.length sc) := bcell hr rfl
          have c1 : W8.cell? ⟨w.heap.size + 1, 1, none⟩ = some (.slice ta R5.length tc) := bcell hr rfl
          have c2 : W8.cell? ⟨w.heap.size + 1, 2, none⟩ = some (.string lg) := bcell hr rfl
          have c3 : W8.cell? ⟨w.heap.size + 1, 3, none⟩ = some (.int .i64 sf) := bcell hr rfl
          have HFA : Hid (TA W8 w.heap.size sa ta ys k5 ∧ Below w.heap.size w W8) := ⟨(HPS.out.ta.turn hC'.tn (fun k hk => by have := hk.2; omega)).wide (by omega), HPS.out.bel.trans (hC'.tn.below HPS.out.bel.size (fun k hk => by have := hk.2; omega))⟩
          clear hC hC' hL hr
          simp only [dk.sets, ws5]
          go_wp2
          exact bodyPost_ret (v := .agg #[.slice sa ys.length sc, .slice ta R5.length tc, .string lg, .int .i64 sf]) (by simp [results, Tryz.results10, go_sem, c0, c1, c2, c3]) rfl (HPO.out _ _ ⟨sa, sc, ta, tc, k5, rfl, HM5.out, HFA.out.1, HFA.out.2⟩)
    · have hst := steps_run W
      have hAN := ans_2 (ys := ys) (R := rs.map (·.l)) (lg := lg) (sf := sf) (x := x) h0 h1
      have HAN : Hid (ansY ys (rs.map (·.l)) lg sf kd x = ys ∧ ansR ys (rs.map (·.l)) lg sf kd x = rs.map (·.l)) := hAN
      have hkd : kd < 0 ∨ (¬ kd < 0 ∧ 2 ≤ kd) := by omega
      clear hAN h0 h1
      rcases hkd with hk | ⟨hk, hk'⟩
      all_goals
        go_enter Tryz.func10, Tryz.ntmps10
        go_wp2_with (go_at_call 24; fail)
        clear hW
        refine hst.mono ?_
        rintro e w1 ⟨rfl, hb1⟩
        clear p0 p1 p2 p3
        have hal : Below w1.heap.size w1 (w1.alloc (.cells #[.func (.func 42) #[] #[], .func (.func 43) #[] #[]] 57)) := (Below.refl _ _).alloc (Nat.le_refl _) _
        have hb1s := hb1.size
        have a1 := bold (bstay HA.out hb1 (by omega)) (.cells #[.func (.func 42) #[] #[], .func (.func 43) #[] #[]] 57)
        have r1 := bold (bstay HRS.out hb1 (by omega)) (.cells #[.func (.func 42) #[] #[], .func (.func 43) #[] #[]] 57)
        have hBX : Below w.heap.size w (w1.alloc (.cells #[.func (.func 42) #[] #[], .func (.func 43) #[] #[]] 57)) := (hb.trans (hb1.mono hb.size)).trans (hal.mono (by have := hb.size; omega))
        obtain ⟨X, hX⟩ : ∃ X, w1.alloc (.cells #[.func (.func 42) #[] #[], .func (.func 43) #[] #[]] 57) = X := ⟨_, rfl⟩
        rw [hX] at hal a1 r1 hBX
        have hcp := copy_store ys rs ya ra yc rc lg sf X HF.out hlg (HY.out.inn hBX) (HR.out.inn hBX)
        have p0 : X.cell? ⟨w.heap.size, 0, none⟩ = some (.slice ya ys.length yc) := bcell a1 rfl
        have p1 : X.cell? ⟨w.heap.size, 1, none⟩ = some (.slice ra rs.length rc) := bcell a1 rfl
        have p2 : X.cell? ⟨w.heap.size, 2, none⟩ = some (.string lg) := bcell a1 rfl
        have p3 : X.cell? ⟨w.heap.size, 3, none⟩ = some (.int .i64 sf) := bcell a1 rfl
        have HR1 : Hid (X.heap[w.heap.size + 1]? = some (.cells #[.slice none 0 0, .slice none 0 0, .string ⟨#[]⟩, .int .i64 0] 32 (0, 0))) := r1
        have l1 : w.heap.size + 1 < X.heap.size := (Array.getElem?_eq_some_iff.1 r1).1
        clear hst a1 r1 hal hb1 HA HRS
        go_wp2_with (go_at_call 20; fail)
        clear hX p0 p1 p2 p3
        refine hcp.mono ?_
        rintro e w2 ⟨g, h, ks, rfl, hct, hb2⟩
        have r2 := bstay HR1.out hb2 l1
        have r0 : w2.cell? ⟨w.heap.size + 1, 0, none⟩ = some (.slice none 0 0) := bcell r2 rfl
        have r1 : w2.cell? ⟨w.heap.size + 1, 1, none⟩ = some (.slice none 0 0) := bcell r2 rfl
        have r2' : w2.cell? ⟨w.heap.size + 1, 2, none⟩ = some (.string ⟨#[]⟩) := bcell r2 rfl
        have r3 : w2.cell? ⟨w.heap.size + 1, 3, none⟩ = some (.int .i64 0) := bcell r2 rfl
        have q0 := bfree r2 0
        have q1 := bfree r2 1
        have q2 := bfree r2 2
        have q3 := bfree r2 3
        have HCT : Hid (CT w2 (X.heap.size + 2) ys rs g h ks) := hct
        have HB2 : Hid (Below w.heap.size w w2) := hBX.trans (hb2.mono hBX.size)
        clear hcp hct hb2 r2 HR1
        go_wp2
        have lt1 : w.heap.size + 1 < X.heap.size + 2 := by omega
        have hfin := (((HCT.out.set lt1 0 (.slice (some ⟨g, 0, none⟩) ys.length ys.length)).set lt1 1 (.slice (some ⟨h, 0, none⟩) rs.length rs.length)).set lt1 2 (.string lg)).set lt1 3 (.int .i64 sf)
        refine bodyPost_ret (v := .agg #[.slice (some ⟨g, 0, none⟩) ys.length ys.length, .slice (some ⟨h, 0, none⟩) rs.length rs.length, .string lg, .int .i64 sf]) (by simp [results, Tryz.results10, go_sem, r0, r1, r2', r3]) rfl ?_
        rw [HAN.out.1, HAN.out.2]
        exact ⟨some ⟨g, 0, none⟩, ys.length, some ⟨h, 0, none⟩, rs.length, ks, by rw [List.length_map], ⟨⟨Nat.le_refl _, rfl, fun k hk => by obtain ⟨j, hj⟩ := List.getElem?_of_mem hk; obtain ⟨_, _, hc, _⟩ := HCT.out.orr.own j k hj; omega⟩, HCT.out.map⟩, (CT.ta hfin).wide (by omega), (((HB2.out.setCell (Nat.le_succ _) _).setCell (Nat.le_succ _) _).setCell (Nat.le_succ _) _).setCell (Nat.le_succ _) _⟩
end Go.Proofs.YtoemkbooomgieaaGreatDoor.sst

/- The program's StoreAll is TableScan of the store's table. -/
namespace Go.Proofs.YtoemkbooomgieaaGreatDoor.sal
open Go.ChangeShapes Go.WideShapes Go.ChangeAt Go.RowKit Go.Proofs.YtoemkbooomgieaaGreatDoor.fl Go.Proofs.YtoemkbooomgieaaGreatDoor.rn Go.Proofs.YtoemkbooomgieaaGreatDoor.sci
set_option linter.unusedVariables false

set_option maxRecDepth 100000 in
theorem impl_all (ys : List flP.Pr) (rs : List Rn) (ya ra : Option Addr) (q : Addr) (yc rc : Nat) (hRQ : apa.NQ ra q rs.length rc) (lg : ByteArray) (sf : Int) (w : World) (F : tb.Fit ys rs) (hyc : ys.length ≤ yc) (hrc : ∀ r ∈ rs, r.l.length ≤ r.c) (hY : Row flP.c 3 w w.heap.size ya ys) (hR : VR w w.heap.size ra rs) :
    Calls Tryz.prog 6 #[.agg #[.slice ya ys.length yc, .slice ra rs.length rc, .string lg, .int .i64 sf]] w fun r w' => ∃ v, r = .returned v ∧ (scan ys (rs.map (·.l)) ⟨#[]⟩ ⟨#[]⟩).length ≤ 6000 ∧ w'.ownsRow w.heap.size 61 3 v (scan ys (rs.map (·.l)) ⟨#[]⟩ ⟨#[]⟩).length ((scan ys (rs.map (·.l)) ⟨#[]⟩ ⟨#[]⟩).flatMap flP.c) ∧ Below w.heap.size w w' := by
  have hb : Below w.heap.size w (w.alloc (.cells #[.slice ya ys.length yc, .slice ra rs.length rc, .string lg, .int .i64 sf] 32)) := (Below.refl _ _).alloc (Nat.le_refl _) _
  have hA := bnew w #[.slice ya ys.length yc, .slice ra rs.length rc, .string lg, .int .i64 sf] 32
  obtain ⟨W, hW⟩ : ∃ W, w.alloc (.cells #[.slice ya ys.length yc, .slice ra rs.length rc, .string lg, .int .i64 sf] 32) = W := ⟨_, rfl⟩
  rw [hW] at hb hA
  have hg := sci.impl_scan ys rs ya ra yc rc ⟨#[]⟩ ⟨#[]⟩ W F q hRQ hyc hrc (hY.inn hb) (hR.inn hb)
  obtain ⟨sc, hsc⟩ : ∃ sc, scan ys (rs.map (·.l)) ⟨#[]⟩ ⟨#[]⟩ = sc := ⟨_, rfl⟩
  rw [hsc] at hg ⊢
  have x0 : W.cell? ⟨w.heap.size, 0, none⟩ = some (.slice ya ys.length yc) := bcell hA rfl
  have x1 : W.cell? ⟨w.heap.size, 1, none⟩ = some (.slice ra rs.length rc) := bcell hA rfl
  clear hY hR hA hsc
  go_enter Tryz.func6, Tryz.ntmps6
  go_wp2_with (go_at_call 19; fail)
  refine hg.mono ?_
  rintro e w1 ⟨v, rfl, hll, ho, hb1⟩
  have HO : Hid (w1.ownsRow W.heap.size 61 3 v sc.length (sc.flatMap flP.c)) := ho
  clear hW x0 x1 hg ho
  go_wp2
  go_ret
  exact ⟨_, rfl, hll, sct.own_low HO.out hb.size, hb.trans (hb1.mono hb.size)⟩
end Go.Proofs.YtoemkbooomgieaaGreatDoor.sal

/- Two pairs held beside each other as a whole: what == and != of the struct answer. -/
namespace Go.Proofs.YtoemkbooomgieaaGreatDoor.peq
open Go.ChangeShapes Go.WideShapes Go.ChangeAt Go.RowKit Go.Proofs.YtoemkbooomgieaaGreatDoor.fl
set_option linter.unusedVariables false

theorem fields : ∃ f0 f1 f2 : Field, Tryz.prog.fieldsOf 61 = #[f0, f1, f2] ∧ (f0.name ≠ "_" ∧ f0.type = 9 ∧ f0.offset = 0) ∧ (f1.name ≠ "_" ∧ f1.type = 9 ∧ f1.offset = 1) ∧ (f2.name ≠ "_" ∧ f2.type = 4 ∧ f2.offset = 2) := by
  refine ⟨_, _, _, (by kernel_rfl : Tryz.prog.fieldsOf 61 = #[(Tryz.prog.fieldsOf 61).getD 0 default, (Tryz.prog.fieldsOf 61).getD 1 default, (Tryz.prog.fieldsOf 61).getD 2 default]), ⟨by decide +kernel, by kernel_rfl, by kernel_rfl⟩, ⟨by decide +kernel, by kernel_rfl, by kernel_rfl⟩, ⟨by decide +kernel, by kernel_rfl, by kernel_rfl⟩⟩
theorem und : Tryz.prog.underlying 61 = some (.struct (Tryz.prog.fieldsOf 61)) := by kernel_rfl
theorem held : Tryz.prog.stoodInHeld 61 = false := by kernel_rfl
theorem guard : Tryz.prog.eqGuardType Tryz.prog.depth 61 = false := by kernel_rfl
theorem tl {x y : ByteArray} : x.toList = y.toList ↔ x = y := by
  constructor
  · intro h
    rw [Lib.toList_data, Lib.toList_data] at h
    exact ByteArray.ext (Array.toList_inj.1 h)
  · rintro rfl; rfl
/-- whether two pairs are one -/
def same (p q : flP.Pr) : Bool := decide (p.k = q.k) && (decide (p.v = q.v) && (p.g == q.g))
theorem same_iff {p q : flP.Pr} : same p q = true ↔ p = q := by
  obtain ⟨pk, pv, pg⟩ := p
  obtain ⟨qk, qv, qg⟩ := q
  simp [same]
theorem same_no {p q : flP.Pr} : same p q = false ↔ p ≠ q := by
  rw [← Bool.not_eq_true, same_iff]
theorem eq_in (p q : flP.Pr) (w : World) : (Op.equalIn 10000 61 (.agg #[.string p.k, .string p.v, .bool p.g]) (.agg #[.string q.k, .string q.v, .bool q.g])).run Tryz.prog w = .ok (same p q) w := by
  obtain ⟨f0, f1, f2, hf, ⟨a0, b0, c0⟩, ⟨a1, b1, c1⟩, ⟨a2, b2, c2⟩⟩ := fields
  rw [show (10000 : Nat) = 9999 + 1 from rfl, run_equalIn_agg w 9999 _ _ _ und held, hf]
  obtain ⟨pk, pv, pg⟩ := p
  obtain ⟨qk, qv, qg⟩ := q
  simp [Op.eqFields, a0, a1, a2, b0, b1, b2, c0, c1, c2, go_sem, part, Tryz.underlying9, Tryz.underlying4]
  simp only [tl]
  unfold same
  by_cases h1 : pk = qk
  · by_cases h2 : pv = qv
    · cases pg <;> cases qg <;> simp [h1, h2]
    · simp [h1, h2]
  · simp [h1]
theorem neq_run (pk pv qk qv : ByteArray) (pg qg : Bool) (w : World) : (binOp .neq 61 (.agg #[.string pk, .string pv, .bool pg]) (.agg #[.string qk, .string qv, .bool qg])).run Tryz.prog w = .ok (.bool (!same ⟨pk, pv, pg⟩ ⟨qk, qv, qg⟩)) w := by
  rw [run_neq_struct, eq_in ⟨pk, pv, pg⟩ ⟨qk, qv, qg⟩ w]
  rfl
theorem guard_run (x y : Operand) (xs ys : Array Value) (w : World) : (eqGuard .neq 61 x y (.agg xs) (.agg ys)).run Tryz.prog w = .ok () w := run_eqGuard_agg w .neq _ x y xs ys guard
end Go.Proofs.YtoemkbooomgieaaGreatDoor.peq
