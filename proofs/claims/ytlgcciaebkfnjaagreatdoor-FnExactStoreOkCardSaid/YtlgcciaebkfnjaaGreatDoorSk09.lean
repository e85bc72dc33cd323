/- append(append(append([]T{}, a...), x), b...) given to a variable, in one region that draws its order: the row that it leaves. -/
import Derived.Test.YtlgcciaebkfnjaaGreatDoorSk08
import Derived.Test.YtlgcciaebkfnjaaGreatDoorSk06
import Derived.Test.YtlgcciaebkfnjaaGreatDoorSk07
import Derived.Test.YtlgcciaebkfnjaaGreatDoorDoneKit
import Derived.Test.YtlgcciaebkfnjaaGreatDoorSk01
import Derived.Maps.AppendAt

/- The specification's l07Copy: the same table, its pairs and runs in rows of their own. -/
namespace Go.Proofs.YtlgcciaebkfnjaaGreatDoor.sct
open Go.ChangeShapes Go.WideShapes Go.ChangeAt Go.RowKit Go.Proofs.YtlgcciaebkfnjaaGreatDoor.fl Go.Proofs.YtlgcciaebkfnjaaGreatDoor.fo Go.Proofs.YtlgcciaebkfnjaaGreatDoor.rn
set_option linter.unusedVariables false

theorem own_tn {w w' : World} {S : Nat → Prop} {B n s : Nat} {U : TypeId} {v : Value} {xs : List Value} (h : w.ownsRow B U s v n xs) (ht : Tn w w' S) (hS : ∀ g, v.ownBlock = some g → ¬ S g) : w'.ownsRow B U s v n xs := by
  obtain ⟨h0, h1 | ⟨g, cap, cur, rfl, hB, hg, hr⟩⟩ := h
  · exact ⟨h0, .inl h1⟩
  · exact ⟨h0, .inr ⟨g, cap, cur, rfl, hB, (ht.block g (Array.getElem?_eq_some_iff.1 hg).1 (hS g rfl)).trans hg, hr⟩⟩
theorem clash {w : World} {B B' n n' s s' g : Nat} {v v' : Value} {xs xs' : List Value} (h : w.ownsRow B 49 s v n xs) (h' : w.ownsRow B' 24 s' v' n' xs') (e : v.ownBlock = some g) : ¬ v'.ownBlock = some g := fun e' => by
  obtain ⟨c, hc⟩ := typed h e
  obtain ⟨c', hc'⟩ := typed h' e'
  rw [hc] at hc'
  simp at hc'
theorem clash3 {w : World} {B n s g : Nat} {v : Value} {xs : List Value} {cur : Array Value} (h : w.ownsRow B 49 s v n xs) (h' : w.heap[g]? = some (.cells cur 27 (0, 0))) : ¬ v.ownBlock = some g := fun e => by
  obtain ⟨c, hc⟩ := typed h e
  rw [hc] at h'
  simp at h'
theorem old_cell {p : Pm} {W : World} {x i : Nat} {v : Value} (h : ∀ (b : Nat) (o : Obj), p.W0.heap[b]? = some o → b ≠ p.n3 → p.rv.ownBlock ≠ some b → W.heap[b]? = some o) (h1 : x ≠ p.n3) (h2 : p.rv.ownBlock ≠ some x) (hc : p.W0.cell? ⟨x, i, none⟩ = some v) : W.cell? ⟨x, i, none⟩ = some v := by
  have e : W.heap[x]? = p.W0.heap[x]? := by
    cases hh : p.W0.heap[x]? with
    | none => simp [World.cell?, hh] at hc
    | some o => exact h x o hh h1 h2
  rw [World.cell?_of_block (a := ⟨x, i, none⟩) e]
  exact hc
theorem own_set {w : World} {B n s : Nat} {U : TypeId} {v : Value} {xs : List Value} (h : w.ownsRow B U s v n xs) {g j : Nat} {u : Value} (hg : g < B) : (w.setCell ⟨g, j, none⟩ u).ownsRow B U s v n xs := by
  refine h.kept (row := some g) ⟨rfl, rfl, rfl, by simp, fun k hk hne => Below.heap_setCell _ _ _ _ (fun e => hne (by rw [e]))⟩ (.inr fun e => ?_)
  have := (h.lt g (by first | exact e | exact e.symm)).1
  omega
/-- a run in a row of its own -/
def OwnR (W : World) (B : Nat) (r : Rn) : Prop := W.ownsRow B 49 3 (.slice r.a r.l.length r.c) r.l.length (r.l.flatMap flP.c)
/-- what stands when k runs are copied: the box, the answer's place, the copy's place, its pairs, its runs -/
structure St (w : World) (ys : List flP.Pr) (rs : List Rn) (a0 yc b rc n3 g1 c1 : Nat) (k : Nat) (va : Option Addr) (vc : Nat) (ks : List Rn) (W : World) : Prop where
  bel : Below w.heap.size w W
  box : W.heap[w.heap.size]? = some (.cells #[.slice (some ⟨a0, 0, none⟩) ys.length yc, .slice (some ⟨b, 0, none⟩) rs.length rc] 27 (0, 0))
  res : W.heap[w.heap.size + 1]? = some (.cells #[.slice none 0 0, .slice none 0 0] 27 (0, 0))
  lo : w.heap.size + 2 ≤ n3
  out : W.heap[n3]? = some (.cells #[.slice (some ⟨g1, 0, none⟩) ys.length c1, .slice va k vc] 27 (0, 0))
  fresh : W.ownsRow (w.heap.size + 2) 49 3 (.slice (some ⟨g1, 0, none⟩) ys.length c1) ys.length (ys.flatMap flP.c)
  runs : W.ownsRow (w.heap.size + 2) 24 1 (.slice va k vc) k (ks.flatMap cR)
  same : ks.map (·.l) = (rs.take k).map (·.l)
  rows : ∀ r ∈ ks, OwnR W (w.heap.size + 2) r
section
variable {w W W' : World} {ys : List flP.Pr} {rs : List Rn} {a0 yc b rc n3 g1 c1 k : Nat} {va : Option Addr} {vc : Nat} {ks : List Rn}
theorem St.big (h : St w ys rs a0 yc b rc n3 g1 c1 k va vc ks W) : w.heap.size + 2 ≤ W.heap.size := (Array.getElem?_eq_some_iff.1 h.res).1
theorem St.ah (h : St w ys rs a0 yc b rc n3 g1 c1 k va vc ks W) (n : Nat) (xs : List Value) : Ah ⟨W, w.heap.size + 2, n3, .slice (some ⟨g1, 0, none⟩) ys.length c1, .slice va k vc, k, ks.flatMap cR, n, xs⟩ := ⟨(Array.getElem?_eq_some_iff.1 h.out).1, h.out, h.runs, h.big⟩
theorem St.step (h : St w ys rs a0 yc b rc n3 g1 c1 k va vc ks W) {r : Rn} (hr : rs[k]? = some r) {b1 q1 : Nat} {v2 : Value} (ht : Tn W W' (fun x => (Value.slice va k vc).ownBlock = some x ∨ x = n3)) (ho : W'.heap[n3]? = some (.cells #[.slice (some ⟨g1, 0, none⟩) ys.length c1, v2] 27 (0, 0)))
    (o1 : W'.ownsRow W.heap.size 49 3 (.slice (some ⟨b1, 0, none⟩) r.l.length q1) r.l.length (r.l.flatMap flP.c)) (o2 : W'.ownsRow (w.heap.size + 2) 24 1 v2 (k + 1) (ks.flatMap cR ++ [.slice (some ⟨b1, 0, none⟩) r.l.length q1])) : ∃ va' vc' ks', v2 = .slice va' (k + 1) vc' ∧ St w ys rs a0 yc b rc n3 g1 c1 (k + 1) va' vc' ks' W' := by
  obtain ⟨va', vc', rfl⟩ : ∃ va' vc', v2 = .slice va' (k + 1) vc' := by
    obtain ⟨_, ⟨e, h0⟩ | ⟨g, cap, cur, e, _⟩⟩ := o2
    · cases h0
    · exact ⟨_, _, e⟩
  have hbig := h.big
  have hlo := h.lo
  have hrb : ∀ x, (Value.slice va k vc).ownBlock = some x → w.heap.size + 2 ≤ x := fun x e => (h.runs.lt x e).1
  have keep : ∀ x, x < w.heap.size + 2 → ¬ ((Value.slice va k vc).ownBlock = some x ∨ x = n3) := fun x hx e => by
    rcases e with e | e
    · have := hrb x e; omega
    · omega
  have kept : ∀ v n xs, W.ownsRow (w.heap.size + 2) 49 3 v n xs → W'.ownsRow (w.heap.size + 2) 49 3 v n xs := fun v n xs hv => own_tn hv ht (fun g e hS => by
    rcases hS with hS | hS
    · exact clash hv h.runs e hS
    · subst hS; exact clash3 hv h.out e)
  refine ⟨va', vc', ks ++ [⟨some ⟨b1, 0, none⟩, q1, r.l⟩], rfl, ⟨⟨ht.os.trans h.bel.os, ht.tape.trans h.bel.tape, ht.output.trans h.bel.output, Nat.le_trans h.bel.size ht.size, fun x hx => (ht.block x (by omega) (keep x (by omega))).trans (h.bel.block x hx)⟩, (ht.block _ (by omega) (keep _ (by omega))).trans h.box, (ht.block _ (by omega) (keep _ (by omega))).trans h.res, h.lo, ho, kept _ _ _ h.fresh, ?_, ?_, ?_⟩⟩
  · rw [List.flatMap_append]
    exact o2
  · have hlt := (List.getElem?_eq_some_iff.1 hr).1
    have he := (List.getElem?_eq_some_iff.1 hr).2
    rw [List.take_succ_eq_append_getElem hlt, List.map_append, List.map_append, h.same, he]
    rfl
  · intro s hs
    rcases List.mem_append.1 hs with hs | hs
    · exact kept _ _ _ (h.rows s hs)
    · simp at hs
      subst hs
      exact own_low o1 hbig
end

set_option maxRecDepth 100000 in
set_option maxHeartbeats 4000000 in
theorem spec_copy (ys : List flP.Pr) (rs : List Rn) (a0 yc b rc : Nat) (w : World) (F : tb.Fit ys rs) (hY : Row flP.c 3 w w.heap.size (some ⟨a0, 0, none⟩) ys) (hR : Row cR 1 w w.heap.size (some ⟨b, 0, none⟩) rs) (hrs : ∀ r ∈ rs, (∃ h, r.a = some ⟨h, 0, none⟩) ∧ Row flP.c 3 w w.heap.size r.a r.l) :
    Calls Tryz.prog 76 #[.agg #[.slice (some ⟨a0, 0, none⟩) ys.length yc, .slice (some ⟨b, 0, none⟩) rs.length rc]] w fun e w' => ∃ (g1 c1 : Nat) (va : Option Addr) (vc : Nat) (ks : List Rn), e = .returned (.agg #[.slice (some ⟨g1, 0, none⟩) ys.length c1, .slice va rs.length vc]) ∧ w'.ownsRow (w.heap.size + 2) 49 3 (.slice (some ⟨g1, 0, none⟩) ys.length c1) ys.length (ys.flatMap flP.c) ∧ w'.ownsRow (w.heap.size + 2) 24 1 (.slice va rs.length vc) rs.length (ks.flatMap cR) ∧ ks.map (·.l) = rs.map (·.l) ∧ (∀ r ∈ ks, OwnR w' (w.heap.size + 2) r) ∧ Below w.heap.size w w' := by
  obtain ⟨i0, hi, hz0, hz1, hz2⟩ := infoP
  obtain ⟨i1, ki, kz0, kz1, kz2⟩ := ly.infoR
  have hyl := F.yl
  have hrl := F.rl
  have hb : Below w.heap.size w (((w.alloc (.cells #[.slice (some ⟨a0, 0, none⟩) ys.length yc, .slice (some ⟨b, 0, none⟩) rs.length rc] 27)).alloc (.cells #[.slice none 0 0, .slice none 0 0] 27)).alloc (.cells #[] 49)) := (((Below.refl _ _).alloc (Nat.le_refl _) _).alloc (by simp) _).alloc (by simp; omega) _
  have hA := bold (bold (bnew w #[.slice (some ⟨a0, 0, none⟩) ys.length yc, .slice (some ⟨b, 0, none⟩) rs.length rc] 27) (.cells #[.slice none 0 0, .slice none 0 0] 27)) (.cells #[] 49)
  have hRs := bold (bnew (w.alloc (.cells #[.slice (some ⟨a0, 0, none⟩) ys.length yc, .slice (some ⟨b, 0, none⟩) rs.length rc] 27)) #[.slice none 0 0, .slice none 0 0] 27) (.cells #[] 49)
  rw [World.size_alloc] at hRs
  have ho : (((w.alloc (.cells #[.slice (some ⟨a0, 0, none⟩) ys.length yc, .slice (some ⟨b, 0, none⟩) rs.length rc] 27)).alloc (.cells #[.slice none 0 0, .slice none 0 0] 27)).alloc (.cells #[] 49)).ownsRow (w.heap.size + 2) 49 3 (.slice (some ⟨((w.alloc (.cells #[.slice (some ⟨a0, 0, none⟩) ys.length yc, .slice (some ⟨b, 0, none⟩) rs.length rc] 27)).alloc (.cells #[.slice none 0 0, .slice none 0 0] 27)).heap.size, 0, none⟩) 0 0) 0 [] := World.ownsRow_made ((w.alloc (.cells #[.slice (some ⟨a0, 0, none⟩) ys.length yc, .slice (some ⟨b, 0, none⟩) rs.length rc] 27)).alloc (.cells #[.slice none 0 0, .slice none 0 0] 27)) #[] 0 (by simp) (by unfold maxLen; omega) (by simp)
  have hS : (((w.alloc (.cells #[.slice (some ⟨a0, 0, none⟩) ys.length yc, .slice (some ⟨b, 0, none⟩) rs.length rc] 27)).alloc (.cells #[.slice none 0 0, .slice none 0 0] 27)).alloc (.cells #[] 49)).heap.size = w.heap.size + 3 := by simp
  have hS2 : ((w.alloc (.cells #[.slice (some ⟨a0, 0, none⟩) ys.length yc, .slice (some ⟨b, 0, none⟩) rs.length rc] 27)).alloc (.cells #[.slice none 0 0, .slice none 0 0] 27)).heap.size = w.heap.size + 2 := by simp
  rw [hS2] at ho
  obtain ⟨W, hW⟩ : ∃ W, (((w.alloc (.cells #[.slice (some ⟨a0, 0, none⟩) ys.length yc, .slice (some ⟨b, 0, none⟩) rs.length rc] 27)).alloc (.cells #[.slice none 0 0, .slice none 0 0] 27)).alloc (.cells #[] 49)) = W := ⟨_, rfl⟩
  rw [hW] at hb hA hRs ho hS
  have HYW : Hid (Row flP.c 3 W W.heap.size (some ⟨a0, 0, none⟩) ys) := hY.inn hb
  have HR : Hid (Row cR 1 w w.heap.size (some ⟨b, 0, none⟩) rs) := hR
  have HRS : Hid (∀ r ∈ rs, (∃ h, r.a = some ⟨h, 0, none⟩) ∧ Row flP.c 3 w w.heap.size r.a r.l) := hrs
  have HF : Hid (tb.Fit ys rs) := F
  have x0 : W.cell? ⟨w.heap.size, 0, none⟩ = some (.slice (some ⟨a0, 0, none⟩) ys.length yc) := bcell hA rfl
  have HA : Hid (W.heap[w.heap.size]? = some (.cells #[.slice (some ⟨a0, 0, none⟩) ys.length yc, .slice (some ⟨b, 0, none⟩) rs.length rc] 27 (0, 0))) := hA
  have HRES : Hid (W.heap[w.heap.size + 1]? = some (.cells #[.slice none 0 0, .slice none 0 0] 27 (0, 0))) := hRs
  have HO : Hid (W.ownsRow (w.heap.size + 2) 49 3 (.slice (some ⟨w.heap.size + 2, 0, none⟩) 0 0) 0 []) := ho
  clear hY hR hrs hA hRs ho F
  go_enter Tryz.func76, Tryz.ntmps76
  go_wp2_with (at_builtin; refine wpList_append_own _ rfl _ _ 24 rfl (w.heap.size + 2) 49 i0 (.agg #[.string ByteArray.empty, .string ByteArray.empty, .bool false]) 3 40 Tryz.underlying24 hi hz0 hz1 hz2 rfl (by decide) _ 0 [] rfl (by exact HO.out) ⟨a0, 0, none⟩ ys.length yc (ys.flatMap flP.c) rfl (flat_len flP.c_len ys) (by exact newsP HYW.out) (oneP ys) (by unfold maxLen; omega) (by omega) (by omega) ?_)
  intro v1 w1 hown1 hgrow1 hnil1
  obtain ⟨g1, c1, rfl⟩ : ∃ g1 c1, v1 = .slice (some ⟨g1, 0, none⟩) ys.length c1 := by
    obtain ⟨_, ⟨rfl, h0⟩ | ⟨g, cap, cur, e, _⟩⟩ := hown1
    · exfalso
      first | exact hnil1 rfl | (have := hnil1.1 rfl; cases this.1)
    · exact ⟨_, _, by simpa using e⟩
  have hgr1 : W.grownBy w1 (some (w.heap.size + 2)) := hgrow1
  have hs1 := hgr1.size
  have hb1 : Below w.heap.size w w1 := hb.grown hgr1 (by omega) (fun b hb => by cases hb; omega)
  have hX : St w ys rs a0 yc b rc w1.heap.size g1 c1 0 none 0 [] (w1.alloc (.cells #[.slice (some ⟨g1, 0, none⟩) ys.length c1, .slice none 0 0] 27)) := by
    refine ⟨hb1.alloc hb1.size _, bold ((hgr1.block _ (by omega) (by simp)).trans HA.out) _, bold ((hgr1.block _ (by omega) (by simp)).trans HRES.out) _, by omega, bnew w1 _ _, ?_, ⟨by simp, .inl ⟨rfl, rfl⟩⟩, rfl, fun r hr => by simp at hr⟩
    refine World.ownsRow.alloc ?_ _
    simpa using hown1
  have hsw := hX.big
  have HX : Hid (St w ys rs a0 yc b rc w1.heap.size g1 c1 0 none 0 [] (w1.alloc (.cells #[.slice (some ⟨g1, 0, none⟩) ys.length c1, .slice none 0 0] 27))) := hX
  clear hX hown1 hgrow1 hnil1 hgr1 HA HRES HO HYW x0 hW
  go_wp2
  obtain ⟨X, hXe⟩ : ∃ X, w1.alloc (.cells #[.slice (some ⟨g1, 0, none⟩) ys.length c1, .slice none 0 0] 27) = X := ⟨_, rfl⟩
  rw [hXe] at HX hsw ⊢
  obtain ⟨n3, hn3⟩ : ∃ n3, w1.heap.size = n3 := ⟨_, rfl⟩
  rw [hn3] at HX ⊢
  clear hXe hn3 hb1 hs1
  go_loopw [4] (fun x wr => ∃ (k : Nat) (va : Option Addr) (vc : Nat) (ks : List Rn), k ≤ rs.length ∧ x = .int .i64 k ∧ Hid (St w ys rs a0 yc b rc n3 g1 c1 k va vc ks wr)) (fun x _ => rs.length - (intOf x).toNat)
  case atStart => exact ⟨0, none, 0, [], Nat.zero_le _, rfl, HX⟩
  case round =>
    obtain ⟨k, va, vc, ks, hk, rfl, hinv⟩ := hrel
    clear HX hsw
    by_cases hkl : k < rs.length
    · have y1 : wr.cell? ⟨w.heap.size, 1, none⟩ = some (.slice (some ⟨b, 0, none⟩) rs.length rc) := bcell hinv.out.box rfl
      have hRw := HR.out.inn hinv.out.bel
      have hlen : ks.length = k := by
        have h1 := congrArg List.length hinv.out.same
        simp at h1
        omega
      have HG : Hid (rs[k]? = some rs[k]) := List.getElem?_eq_getElem hkl
      obtain ⟨⟨rh, hra⟩, hrow⟩ := HRS.out rs[k] (List.getElem_mem hkl)
      have hfr := HF.out.ro rs[k] (List.getElem_mem hkl)
      obtain ⟨⟨qa, qc, ql⟩, he⟩ : ∃ e, rs[k] = e := ⟨_, rfl⟩
      rw [he] at HG hrow hfr hra
      simp only at hra hrow hfr
      subst hra
      have HQ : Hid (Row flP.c 3 wr wr.heap.size (some ⟨rh, 0, none⟩) ql) := hrow.inn hinv.out.bel
      have hql := hfr.1
      obtain ⟨hbl, hbc⟩ : b < w.heap.size ∧ wr.cell? ⟨b, k, none⟩ = some (.slice (some ⟨rh, 0, none⟩) ql.length qc) := by
        have hRw := HR.out
        rcases hRw with h0 | ⟨b', off', hh, hlt, hc⟩
        · rw [h0] at hkl; simp at hkl
        · cases hh
          refine ⟨hlt, ?_⟩
          have := hc k _ HG.out 0 _ rfl
          rw [World.cell?_of_block (hinv.out.bel.block b hlt)]
          simpa using this
      have hAh := hinv.out.ah ql.length (ql.flatMap flP.c)
      have hlo := hinv.out.lo
      have hrb : ∀ x, (Value.slice va k vc).ownBlock = some x → w.heap.size + 2 ≤ x := fun x e => (hinv.out.runs.lt x e).1
      have n1 : w.heap.size ≠ n3 := by omega
      have n2 : (Value.slice va k vc).ownBlock ≠ some w.heap.size := fun e => by have := hrb _ e; omega
      have n3' : b ≠ n3 := by omega
      have n4 : (Value.slice va k vc).ownBlock ≠ some b := fun e => by have := hrb _ e; omega
      have i2 : (k : Int) < (rs.length : Int) := by omega
      have HAh : Hid (Ah ⟨wr, w.heap.size + 2, n3, .slice (some ⟨g1, 0, none⟩) ys.length c1, .slice va k vc, k, ks.flatMap cR, ql.length, ql.flatMap flP.c⟩) := hAh
      clear hAh he hrow hfr
      go_wp2
      refine dk.region_gsets (ws ⟨wr, w.heap.size + 2, n3, .slice (some ⟨g1, 0, none⟩) ys.length c1, .slice va k vc, k, ks.flatMap cR, ql.length, ql.flatMap flP.c⟩ w.heap.size b rs.length rc rh qc) [17, 18, 19, 20, 21, 22, 23, 24, 25, 26, 27, 28] (C ⟨wr, w.heap.size + 2, n3, .slice (some ⟨g1, 0, none⟩) ys.length c1, .slice va k vc, k, ks.flatMap cR, ql.length, ql.flatMap flP.c⟩) ⟨0, 0, 0, 0, .slice none 0 0⟩ (by kernel_rfl) (by kernel_rfl) (fun _ => rfl) (by kernel_rfl) (start _ _ HAh.out) ?each ?fin
      case each =>
        refine ⟨quiet (by decide) (by simp) (.pointer (some ⟨n3, 1, none⟩)) (by rintro s _ ⟨⟩; exact dk.sets_on _ (by simp) _ rfl) (fun s W h => by simp [execOp, go_sem, Act.eval, dk.sets_get, ws, List.lookup]), ?_⟩
        refine ⟨st1 (by simp) (by rintro s _ ⟨⟩; exact dk.sets_on _ (by simp) _ rfl) (fun s W h => by have c : W.cell? ⟨n3, 1, none⟩ = some (.slice va k vc) := bcell h rfl; simp [execOp, go_sem, Act.eval, dk.sets_get, ws, List.lookup, c]), ?_⟩
        refine ⟨st2 HAh.out (by simp) rfl rfl, ?_⟩
        refine ⟨quiet (by decide) (by simp) (.pointer (some ⟨w.heap.size, 1, none⟩)) (by rintro s _ ⟨⟩; exact dk.sets_on _ (by simp) _ rfl) (fun s W h => by simp [execOp, go_sem, Act.eval, dk.sets_get, ws, List.lookup]), ?_⟩
        refine ⟨quiet (by decide) (by simp) (.slice (some ⟨b, 0, none⟩) rs.length rc) (by rintro s _ ⟨⟩; exact dk.sets_on _ (by simp) _ rfl) (fun s W h => by have c : W.cell? ⟨w.heap.size, 1, none⟩ = some (.slice (some ⟨b, 0, none⟩) rs.length rc) := old_cell h n1 n2 y1; simp [execOp, go_sem, Act.eval, dk.sets_get, ws, List.lookup, c]), ?_⟩
        refine ⟨quiet (by decide) (by simp) (.int .i64 k) (by rintro s _ ⟨⟩; exact dk.sets_on _ (by simp) _ rfl) (fun s W h => by simp [execOp, go_sem, Act.eval, dk.sets_get, ws, List.lookup]), ?_⟩
        refine ⟨quiet (by decide) (by simp) (.pointer (some ⟨b, k, none⟩)) (by rintro s _ ⟨⟩; exact dk.sets_on _ (by simp) _ rfl) (fun s W h => by simp [execOp, go_sem, Act.eval, dk.sets_get, ws, List.lookup, i2]), ?_⟩
        refine ⟨quiet (by decide) (by simp) (.slice (some ⟨rh, 0, none⟩) ql.length qc) (by rintro s _ ⟨⟩; exact dk.sets_on _ (by simp) _ rfl) (fun s W h => by have c : W.cell? ⟨b, k, none⟩ = some (.slice (some ⟨rh, 0, none⟩) ql.length qc) := old_cell h n3' n4 hbc; simp [execOp, go_sem, Act.eval, dk.sets_get, ws, List.lookup, c]), ?_⟩
        refine ⟨st8 HAh.out hi hz0 hz1 hz2 rfl (by simp) rfl rfl (flat_len flP.c_len ql) (fun W hb => newsP (HQ.out.inn hb)) (oneP ql) hql ⟨⟨2, .data⟩, by simp, rfl, rfl⟩, ?_⟩
        refine ⟨st9 HAh.out (by simp) rfl rfl ⟨⟨8, .data⟩, by simp, rfl, rfl⟩, ?_⟩
        refine ⟨st10 HAh.out ki kz0 kz1 kz2 rfl (by simp) rfl rfl (by show k ≤ 1048576; omega) ⟨⟨9, .data⟩, by simp, rfl, rfl⟩ ⟨⟨1, .data⟩, by simp, rfl, rfl⟩, ?_⟩
        refine ⟨quiet (by decide) (by simp) (.pointer (some ⟨n3, 1, none⟩)) (by rintro s _ ⟨⟩; exact dk.sets_on _ (by simp) _ rfl) (fun s W h => by simp [execOp, go_sem, Act.eval, dk.sets_get, ws, List.lookup]), ?_⟩
        exact ⟨st12 HAh.out (by simp) (by simp) rfl (fun s W h hv => by obtain ⟨av, nv, cv, hv⟩ := hv; have c : W.cell? ⟨n3, 1, none⟩ = some (.slice va k vc) := bcell h rfl; have f := bfree h 1; rw [hv]; simp [execOp, go_sem, Act.eval, dk.sets_get, ws, List.lookup, c, f, hv]) ⟨⟨10, .data⟩, by simp, rfl, rfl⟩, trivial⟩
      case fin =>
        intro g L W2 hL hC
        obtain ⟨d1, d2, d3, d4⟩ := done hC hL
        obtain ⟨va', vc', ks', hv2, hst⟩ := hinv.out.step HG.out d1 d2 d3 d4
        have HN : Hid (St w ys rs a0 yc b rc n3 g1 c1 (k + 1) va' vc' ks' W2) := hst
        simp only [dk.sets, ws, hv2]
        clear hC hL d1 d2 d3 d4 hst
        go_wp2
        go_roundw
        all_goals first | exact ⟨k + 1, va', vc', ks', by omega, by go_num, HN⟩ | (simp [intOf]; omega)
    · obtain rfl : k = rs.length := by omega
      have y1 : wr.cell? ⟨w.heap.size, 1, none⟩ = some (.slice (some ⟨b, 0, none⟩) rs.length rc) := bcell hinv.out.box rfl
      have u0 : wr.cell? ⟨n3, 0, none⟩ = some (.slice (some ⟨g1, 0, none⟩) ys.length c1) := bcell hinv.out.out rfl
      have u1 : wr.cell? ⟨n3, 1, none⟩ = some (.slice va rs.length vc) := bcell hinv.out.out rfl
      have r0 : wr.cell? ⟨w.heap.size + 1, 0, none⟩ = some (.slice none 0 0) := bcell hinv.out.res rfl
      have r1 : wr.cell? ⟨w.heap.size + 1, 1, none⟩ = some (.slice none 0 0) := bcell hinv.out.res rfl
      have f0 := bfree hinv.out.res 0
      have f1 := bfree hinv.out.res 1
      clear hkl hk
      go_wp2
      have kept : ∀ (B : Nat) (T : TypeId) (s : Nat) v n xs, w.heap.size + 2 ≤ B → wr.ownsRow B T s v n xs → ((wr.setCell ⟨w.heap.size + 1, 0, none⟩ (.slice (some ⟨g1, 0, none⟩) ys.length c1)).setCell ⟨w.heap.size + 1, 1, none⟩ (.slice va rs.length vc)).ownsRow B T s v n xs := fun B T s v n xs hB h => own_set (own_set h (by omega)) (by omega)
      refine bodyPost_ret (v := .agg #[.slice (some ⟨g1, 0, none⟩) ys.length c1, .slice va rs.length vc]) (by simp [results, Tryz.results76, go_sem, r0, r1]) rfl ⟨g1, c1, va, vc, ks, rfl, kept _ _ _ _ _ _ (Nat.le_refl _) hinv.out.fresh, kept _ _ _ _ _ _ (Nat.le_refl _) hinv.out.runs, by rw [hinv.out.same, List.take_length], fun r hr => kept _ _ _ _ _ _ (Nat.le_refl _) (hinv.out.rows r hr), ?_⟩
      exact (hinv.out.bel.setCell (Nat.le_succ _) _).setCell (Nat.le_succ _) _
end Go.Proofs.YtlgcciaebkfnjaaGreatDoor.sct

/- The program's TableScan. -/
namespace Go.Proofs.YtlgcciaebkfnjaaGreatDoor.sci
open Go.ChangeShapes Go.WideShapes Go.ChangeAt Go.RowKit Go.Proofs.YtlgcciaebkfnjaaGreatDoor.fl Go.Proofs.YtlgcciaebkfnjaaGreatDoor.rn Go.Proofs.YtlgcciaebkfnjaaGreatDoor.rc Go.Proofs.YtlgcciaebkfnjaaGreatDoor.ro Go.Proofs.YtlgcciaebkfnjaaGreatDoor.tk Go.Proofs.YtlgcciaebkfnjaaGreatDoor.tko
set_option linter.unusedVariables false

/-- the newest of each key -/
noncomputable def nwL (ls : List (List flP.Pr)) : List flP.Pr := @Classical.epsilon _ ⟨[]⟩ (mgp.Is ls)
theorem nwL_eq {ls : List (List flP.Pr)} {out : List flP.Pr} (h : mgp.Is ls out) : nwL ls = out := (@Classical.epsilon_spec _ (mgp.Is ls) ⟨out, h⟩).one h
def keep (fr to : ByteArray) (e : flP.Pr) : Bool := !e.g && !lt e.k fr && (to.size == 0 || lt e.k to)
noncomputable def scan (ys : List flP.Pr) (ls : List (List flP.Pr)) (fr to : ByteArray) : List flP.Pr := if okB ys ls = true then (nwL (ys :: ls)).filter (keep fr to) else []

def St (w3 : World) (fr to : ByteArray) (all : List flP.Pr) (k : Nat) (v : Value) (wr : World) : Prop := Below w3.heap.size w3 wr ∧ wr.ownsRow w3.heap.size 49 3 v ((all.take k).filter (keep fr to)).length (((all.take k).filter (keep fr to)).flatMap flP.c)
theorem own_stay {w w' : World} {B n m : Nat} {T : TypeId} {v : Value} {xs : List Value} (h : w.ownsRow B T m v n xs) (hb : Below w.heap.size w w') : w'.ownsRow B T m v n xs := rnw.own_below h hb
theorem next_no {fr to : ByteArray} {all : List flP.Pr} {k : Nat} {e : flP.Pr} (h : all[k]? = some e) (hk : keep fr to e = false) : (all.take (k + 1)).filter (keep fr to) = (all.take k).filter (keep fr to) := by
  obtain ⟨hl, rfl⟩ := List.getElem?_eq_some_iff.1 h
  rw [List.take_succ_eq_append_getElem hl, List.filter_append]
  simp [hk]
theorem next_yes {fr to : ByteArray} {all : List flP.Pr} {k : Nat} {e : flP.Pr} (h : all[k]? = some e) (hk : keep fr to e = true) : (all.take (k + 1)).filter (keep fr to) = (all.take k).filter (keep fr to) ++ [e] := by
  obtain ⟨hl, rfl⟩ := List.getElem?_eq_some_iff.1 h
  rw [List.take_succ_eq_append_getElem hl, List.filter_append]
  simp [hk]
theorem keep_no {fr to pk pv : ByteArray} (h : Op.bytesLess pk.toList fr.toList = true) : keep fr to ⟨pk, pv, false⟩ = false := by
  have h2 : lt pk fr = true := h
  simp [keep, h2]
theorem keep_all {fr pk pv : ByteArray} (h : Op.bytesLess pk.toList fr.toList = false) : keep fr ⟨#[]⟩ ⟨pk, pv, false⟩ = true := by
  have h2 : lt pk fr = false := h
  have h3 : (⟨#[]⟩ : ByteArray).size = 0 := rfl
  simp only [keep, h2, h3]
  rfl
theorem keep_over {fr to pk pv : ByteArray} (h : to ≠ ⟨#[]⟩) (h2 : Op.bytesLess pk.toList to.toList = false) : keep fr to ⟨pk, pv, false⟩ = false := by
  have h3 := (emp_eq h).2
  have h4 : lt pk to = false := h2
  simp [keep, h3, h4]
theorem keep_in {fr to pk pv : ByteArray} (h : Op.bytesLess pk.toList fr.toList = false) (h2 : Op.bytesLess pk.toList to.toList = true) : keep fr to ⟨pk, pv, false⟩ = true := by
  have h3 : lt pk fr = false := h
  have h4 : lt pk to = true := h2
  simp [keep, h3, h4]

set_option maxRecDepth 100000 in
set_option maxHeartbeats 2000000 in
theorem impl_scan (ys : List flP.Pr) (rs : List Rn) (ya : Option Addr) (q : Addr) (yc rc : Nat) (fr to : ByteArray) (w : World) (F : tb.Fit ys rs) (hyc : ys.length ≤ yc) (hrc : ∀ r ∈ rs, r.l.length ≤ r.c) (hY : Row flP.c 3 w w.heap.size ya ys) (hR : VR w w.heap.size (some q) rs) :
    Calls Tryz.prog 62 #[.agg #[.slice ya ys.length yc, .slice (some q) rs.length rc], .string fr, .string to] w fun r w' => ∃ v, r = .returned v ∧ (scan ys (rs.map (·.l)) fr to).length ≤ 6000 ∧ w'.ownsRow w.heap.size 49 3 v (scan ys (rs.map (·.l)) fr to).length ((scan ys (rs.map (·.l)) fr to).flatMap flP.c) ∧ Below w.heap.size w w' := by
  have hb : Below w.heap.size w (w.alloc (.cells #[.slice ya ys.length yc, .slice (some q) rs.length rc] 27)) := (Below.refl _ _).alloc (Nat.le_refl _) _
  have hA := bnew w #[.slice ya ys.length yc, .slice (some q) rs.length rc] 27
  obtain ⟨W, hW⟩ : ∃ W, w.alloc (.cells #[.slice ya ys.length yc, .slice (some q) rs.length rc] 27) = W := ⟨_, rfl⟩
  rw [hW] at hb hA
  have la := (Array.getElem?_eq_some_iff.1 hA).1
  have HA : Hid (W.heap[w.heap.size]? = some (.cells #[.slice ya ys.length yc, .slice (some q) rs.length rc] 27 (0, 0))) := hA
  have HY : Hid (Row flP.c 3 W W.heap.size ya ys) := hY.inn hb
  have HR : Hid (VR W W.heap.size (some q) rs) := hR.inn hb
  have HF : Hid (tb.Fit ys rs) := F
  have HCP : Hid (ys.length ≤ yc ∧ ∀ r ∈ rs, r.l.length ≤ r.c) := ⟨hyc, hrc⟩
  have hok := impl_okb ys rs ya (some q) yc rc W F HY.out HR.out
  have x0 : W.cell? ⟨w.heap.size, 0, none⟩ = some (.slice ya ys.length yc) := bcell hA rfl
  have x1 : W.cell? ⟨w.heap.size, 1, none⟩ = some (.slice (some q) rs.length rc) := bcell hA rfl
  obtain ⟨sc, hsc⟩ : ∃ sc, scan ys (rs.map (·.l)) fr to = sc := ⟨_, rfl⟩
  have HSC : Hid (scan ys (rs.map (·.l)) fr to = sc) := hsc
  rw [hsc]
  clear hY hR hA F hrc hsc
  go_enter Tryz.func62, Tryz.ntmps62
  go_wp2_with (go_at_call 57; fail)
  clear hW x0 x1
  refine hok.mono ?_
  rintro e w1 ⟨rfl, hb1⟩
  have hbw1 : Below w.heap.size w w1 := hb.trans (hb1.mono hb.size)
  clear hok
  cases hob : okB ys (rs.map (·.l)) with
  | false =>
    obtain rfl : sc = [] := by rw [← HSC.out]; unfold scan; rw [hob]; rfl
    clear hob HSC
    go_wp2
    go_ret
    exact ⟨_, rfl, Nat.zero_le _, World.ownsRow_nil _ _ _ _, hbw1⟩
  | true =>
    have hOK := okB_true.1 hob
    have hsc : Hid (sc = (nwL (ys :: rs.map (·.l))).filter (keep fr to)) := by unfold Hid; rw [← HSC.out]; unfold scan; rw [hob]; rfl
    clear HSC
    have hly := ly.layers ys rs ya q yc rc w1 HF.out (HY.out.inn hb1) (HR.out.inn hb1)
    have x0 : w1.cell? ⟨w.heap.size, 0, none⟩ = some (.slice ya ys.length yc) := bcell (bstay HA.out hb1 la) rfl
    have x1 : w1.cell? ⟨w.heap.size, 1, none⟩ = some (.slice (some q) rs.length rc) := bcell (bstay HA.out hb1 la) rfl
    have hll : ∀ r ∈ (⟨ya, yc, ys⟩ :: rs : List Rn), r.l.length ≤ 300 ∧ r.l.length ≤ r.c := fun r hr => by
      rcases List.mem_cons.1 hr with rfl | hr
      · exact ⟨hOK.yo.ll, HCP.out.1⟩
      · obtain ⟨i, hi⟩ := List.getElem?_of_mem hr
        exact ⟨(hOK.ro i r.l (by rw [List.getElem?_map, hi]; rfl)).ll, HCP.out.2 r hr⟩
    have hAs : ∀ l ∈ (⟨ya, yc, ys⟩ :: rs : List Rn).map (·.l), mgp.Asc l := fun l hl => by
      rw [List.map_cons] at hl
      rcases List.mem_cons.1 hl with rfl | hl
      · exact mgp.asc_of hOK.yo.up
      · obtain ⟨i, hi⟩ := List.getElem?_of_mem hl
        exact mgp.asc_of (hOK.ro i l hi).up
    have HNW : Hid (∀ (g c : Nat) (W2 : World), VR W2 W2.heap.size (some ⟨g, 0, none⟩) (⟨ya, yc, ys⟩ :: rs) → Calls Tryz.prog 97 #[.slice (some ⟨g, 0, none⟩) (rs.length + 1) c] W2 fun e w' => ∃ v, e = .returned v ∧ mgp.Is (ys :: rs.map (·.l)) (nwL (ys :: rs.map (·.l))) ∧ (nwL (ys :: rs.map (·.l))).length ≤ 6000 ∧ w'.ownsRow W2.heap.size 49 3 v (nwL (ys :: rs.map (·.l))).length ((nwL (ys :: rs.map (·.l))).flatMap flP.c) ∧ Below W2.heap.size W2 w') := fun g c W2 h =>
      (rnw.newest_run (⟨ya, yc, ys⟩ :: rs) (some ⟨g, 0, none⟩) c W2 (by have := hOK.rl; simp at this ⊢; omega) hll hAs h).mono fun e w' ⟨v, out, h1, h2, h5, h3, h4⟩ => by
        have e2 : nwL (ys :: rs.map (·.l)) = out := nwL_eq h2
        rw [e2]
        exact ⟨v, h1, h2, h5, h3, h4⟩
    clear hob hOK hll hAs
    go_wp2_with (go_at_call 82; fail)
    refine hly.mono ?_
    rintro e w2 ⟨g, c, rfl, hvr, hb2⟩
    have hnw := HNW.out g c w2 hvr
    have hbw2 : Below w.heap.size w w2 := hbw1.trans (hb2.mono hbw1.size)
    clear hly hvr x0 x1
    go_wp2_with (go_at_call 97; fail)
    refine hnw.mono ?_
    rintro e w3 ⟨v3, rfl, hIs3, hl3, ho3, hb3⟩
    have HKS : Hid (∀ e ∈ nwL (ys :: rs.map (·.l)), e.k.size ≤ 1048576 ∧ e.v.size ≤ 1048576) := fun e he => by
      obtain ⟨i, l, h1, h2, _⟩ := (hIs3.2 e).1 he
      cases i with
      | zero => simp at h1; subst h1; exact HF.out.yo e h2
      | succ i =>
        rw [List.getElem?_cons_succ, List.getElem?_map, Option.map_eq_some_iff] at h1
        obtain ⟨r, hr, rfl⟩ := h1
        exact (HF.out.ro r (List.mem_of_getElem? hr)).2 e h2
    have hbw3 : Below w.heap.size w w3 := hbw2.trans (hb3.mono hbw2.size)
    obtain ⟨va, vc, hv3, hrow3⟩ := own_row flP.c_len ho3
    subst hv3
    obtain ⟨all, hall⟩ : ∃ all, nwL (ys :: rs.map (·.l)) = all := ⟨_, rfl⟩
    rw [hall] at hsc HKS hrow3 ho3 hl3 ⊢
    clear hnw HNW hall hIs3
    go_wp2
    obtain ⟨i0, hi, hz0, hz1, hz2⟩ := info_parts rnw.infoP
    have HRW : Hid (Row flP.c 3 w3 w3.heap.size va all) := hrow3
    clear hrow3 ho3
    go_loopw [7, 9, 17] (fun v _ x wr => ∃ k : Nat, k ≤ all.length ∧ x = .int .i64 k ∧ Hid (St w3 fr to all k v wr)) (fun _ _ x _ => all.length - (intOf x).toNat)
    case atStart => exact ⟨0, Nat.zero_le _, rfl, ⟨Below.refl _ _, World.ownsRow_nil _ _ _ _⟩⟩
    case round =>
      obtain ⟨k, hk, rfl, hst⟩ := hrel
      by_cases hkl : k < all.length
      · have hbel := hst.out.1
        have hbs := hbel.size
        have HG : Hid (all[k]? = some all[k]) := List.getElem?_eq_getElem hkl
        have hks := HKS.out all[k] (List.getElem_mem hkl)
        obtain ⟨⟨pk, pv, pg⟩, he⟩ : ∃ e, all[k] = e := ⟨_, rfl⟩
        rw [he] at HG hks
        obtain ⟨b, off, rfl, hlt, hc⟩ := HRW.out.resolve_left (by rintro rfl; simp at hkl)
        have c0 : wr.cell? ⟨b, off + k * 3, none⟩ = some (.string pk) := (hbel.cell (p := ⟨b, off + k * 3, none⟩) hlt).trans (hc k _ HG.out 0 _ rfl)
        have c1 : wr.cell? ⟨b, off + k * 3 + 1, none⟩ = some (.string pv) := (hbel.cell (p := ⟨b, off + k * 3 + 1, none⟩) hlt).trans (hc k _ HG.out 1 _ rfl)
        have c2 : wr.cell? ⟨b, off + k * 3 + 2, none⟩ = some (.bool pg) := (hbel.cell (p := ⟨b, off + k * 3 + 2, none⟩) hlt).trans (hc k _ HG.out 2 _ rfl)
        have hbXr : Below wr.heap.size wr (wr.alloc (.cells #[.string pk, .string pv, .bool pg] 49)) := (Below.refl _ _).alloc (Nat.le_refl _) _
        have hA := bnew wr #[.string pk, .string pv, .bool pg] 49
        obtain ⟨X, hX⟩ : ∃ X, wr.alloc (.cells #[.string pk, .string pv, .bool pg] 49) = X := ⟨_, rfl⟩
        rw [hX] at hbXr hA
        have hbX : Below w3.heap.size w3 X := hbel.trans (hbXr.mono hbs)
        have x0 : X.cell? ⟨wr.heap.size, 0, none⟩ = some (.string pk) := bcell hA rfl
        have x1 : X.cell? ⟨wr.heap.size, 1, none⟩ = some (.string pv) := bcell hA rfl
        have x2 : X.cell? ⟨wr.heap.size, 2, none⟩ = some (.bool pg) := bcell hA rfl
        have i2 : (k : Int) < (all.length : Int) := by omega
        have hcp := fun (h : pg = false) => cpp.copy_pair ⟨pk, pv, false⟩ X hks
        have hlen : ((all.take k).filter (keep fr to)).length ≤ 6000 := by have := List.length_filter_le (keep fr to) (all.take k); rw [List.length_take] at this; omega
        clear he hc hA hks
        cases pg with
        | true =>
          clear hcp
          have HN : Hid ((all.take (k + 1)).filter (keep fr to) = (all.take k).filter (keep fr to)) := next_no HG.out (by simp [keep])
          have hst2 : Hid (St w3 fr to all (k + 1) u7 X) := by
            unfold Hid St
            rw [HN.out]
            exact ⟨hbX, own_stay hst.out.2 hbXr⟩
          go_wp2
          go_roundw
          case rel => exact ⟨k + 1, by omega, by go_num, hst2⟩
          case measure => simp [intOf]; omega
        | false =>
          replace hcp := hcp rfl
          subst hX
          cases hge : Op.bytesLess pk.toList fr.toList with
          | true =>
            have hkp : keep fr to ⟨pk, pv, false⟩ = false := keep_no hge
            clear hcp
            have HN : Hid ((all.take (k + 1)).filter (keep fr to) = (all.take k).filter (keep fr to)) := next_no HG.out (hkp)
            have hst2 : Hid (St w3 fr to all (k + 1) u7 (wr.alloc (.cells #[.string pk, .string pv, .bool false] 49))) := by
              unfold Hid St
              rw [HN.out]
              exact ⟨hbX, own_stay hst.out.2 hbXr⟩
            go_wp2
            go_roundw
            case rel => exact ⟨k + 1, by omega, by go_num, hst2⟩
            case measure => simp [intOf]; omega
          | false =>
            by_cases hto : to = ⟨#[]⟩
            · subst hto
              have hkp : keep fr ⟨#[]⟩ ⟨pk, pv, false⟩ = true := keep_all hge
              have HN : Hid ((all.take (k + 1)).filter (keep fr ⟨#[]⟩) = (all.take k).filter (keep fr ⟨#[]⟩) ++ [⟨pk, pv, false⟩]) := next_yes HG.out (hkp)
              go_wp2_with (go_at_call 98; fail)
              refine hcp.mono ?_
              rintro e w5 ⟨rfl, hb5⟩
              have hb5r : Below wr.heap.size wr w5 := hbXr.trans (hb5.mono hbXr.size)
              have hb53 : Below w3.heap.size w3 w5 := hbX.trans (hb5.mono hbX.size)
              have hal5 : Below w5.heap.size w5 (w5.alloc (.cells #[.string pk, .string pv, .bool false] 49)) := (Below.refl _ _).alloc (Nat.le_refl _) _
              obtain ⟨v', Y4, hr, ho, hg, _, _⟩ := run_append_own_at (P := Tryz.prog) (w5.alloc (.cells #[.string pk, .string pv, .bool false] 49)) w3.heap.size 24 24 49 i0 (.agg #[.string ByteArray.empty, .string ByteArray.empty, .bool false]) 3 40 Tryz.underlying24 hi hz0 hz1 hz2 rfl (by decide) u7 _ _ (own_stay (own_stay hst.out.2 hb5r) hal5) ⟨w5.heap.size, 0, none⟩ 1 1 [.string pk, .string pv, .bool false] rfl (fun j u hu => by rw [pap.add0]; exact bcell (bnew w5 _ _) (by simpa using hu)) (by intro u hu; simp at hu; rcases hu with rfl | rfl | rfl <;> rfl) (by unfold maxLen; omega) (by omega) (by have := hb53.size; simp; omega)
              have hst2 : Hid (St w3 fr ⟨#[]⟩ all (k + 1) v' Y4) := by
                unfold Hid St
                rw [HN.out, List.length_append, List.flatMap_append]
                refine ⟨(hb53.alloc hb53.size _).grown hg (by have := hb53.size; simp; omega) (fun b hb => (hst.out.2.lt b hb).1), by simpa [flP.c] using ho⟩
              clear hcp ho hg hal5 hst x0 x1 x2
              go_wp2_with (at_builtin; refine cpr.wpList_append_run rfl _ _ _ _ rfl _ _ _ rfl rfl hr ?_)
              go_roundw
              case rel => exact ⟨k + 1, by omega, by go_num, hst2⟩
              case measure => simp [intOf]; omega
            · have hto2 : (to.toList == ([] : List UInt8)) = false := (emp_eq hto).1
              have hto3 : to.toList ≠ [] := by simpa using hto2
              have hto4 : to.toList.isEmpty = false := by simpa using hto3
              cases hlt2 : Op.bytesLess pk.toList to.toList with
              | false =>
                have hkp : keep fr to ⟨pk, pv, false⟩ = false := keep_over hto hlt2
                clear hcp
                have HN : Hid ((all.take (k + 1)).filter (keep fr to) = (all.take k).filter (keep fr to)) := next_no HG.out (hkp)
                have hst2 : Hid (St w3 fr to all (k + 1) u7 (wr.alloc (.cells #[.string pk, .string pv, .bool false] 49))) := by
                  unfold Hid St
                  rw [HN.out]
                  exact ⟨hbX, own_stay hst.out.2 hbXr⟩
                go_wp2
                go_roundw
                case rel => exact ⟨k + 1, by omega, by go_num, hst2⟩
                case measure => simp [intOf]; omega
              | true =>
                have hkp : keep fr to ⟨pk, pv, false⟩ = true := keep_in hge hlt2
                have HN : Hid ((all.take (k + 1)).filter (keep fr to) = (all.take k).filter (keep fr to) ++ [⟨pk, pv, false⟩]) := next_yes HG.out (hkp)
                go_wp2_with (go_at_call 98; fail)
                refine hcp.mono ?_
                rintro e w5 ⟨rfl, hb5⟩
                have hb5r : Below wr.heap.size wr w5 := hbXr.trans (hb5.mono hbXr.size)
                have hb53 : Below w3.heap.size w3 w5 := hbX.trans (hb5.mono hbX.size)
                have hal5 : Below w5.heap.size w5 (w5.alloc (.cells #[.string pk, .string pv, .bool false] 49)) := (Below.refl _ _).alloc (Nat.le_refl _) _
                obtain ⟨v', Y4, hr, ho, hg, _, _⟩ := run_append_own_at (P := Tryz.prog) (w5.alloc (.cells #[.string pk, .string pv, .bool false] 49)) w3.heap.size 24 24 49 i0 (.agg #[.string ByteArray.empty, .string ByteArray.empty, .bool false]) 3 40 Tryz.underlying24 hi hz0 hz1 hz2 rfl (by decide) u7 _ _ (own_stay (own_stay hst.out.2 hb5r) hal5) ⟨w5.heap.size, 0, none⟩ 1 1 [.string pk, .string pv, .bool false] rfl (fun j u hu => by rw [pap.add0]; exact bcell (bnew w5 _ _) (by simpa using hu)) (by intro u hu; simp at hu; rcases hu with rfl | rfl | rfl <;> rfl) (by unfold maxLen; omega) (by omega) (by have := hb53.size; simp; omega)
                have hst2 : Hid (St w3 fr to all (k + 1) v' Y4) := by
                  unfold Hid St
                  rw [HN.out, List.length_append, List.flatMap_append]
                  refine ⟨(hb53.alloc hb53.size _).grown hg (by have := hb53.size; simp; omega) (fun b hb => (hst.out.2.lt b hb).1), by simpa [flP.c] using ho⟩
                clear hcp ho hg hal5 hst x0 x1 x2
                go_wp2_with (at_builtin; refine cpr.wpList_append_run rfl _ _ _ _ rfl _ _ _ rfl rfl hr ?_)
                go_roundw
                case rel => exact ⟨k + 1, by omega, by go_num, hst2⟩
                case measure => simp [intOf]; omega
      · obtain rfl : k = all.length := by omega
        have HFN : Hid (sc.length ≤ 6000 ∧ wr.ownsRow w.heap.size 49 3 u7 sc.length (sc.flatMap flP.c) ∧ Below w.heap.size w wr) := by
          unfold Hid
          have h2 := hst.out.2
          rw [List.take_length] at h2
          rw [hsc.out]
          exact ⟨Nat.le_trans (List.length_filter_le _ _) hl3, sct.own_low h2 (by have := hbw3.size; omega), hbw3.trans (hst.out.1.mono hbw3.size)⟩
        clear hst
        go_wp2
        go_ret
        exact ⟨_, rfl, HFN.out⟩
end Go.Proofs.YtlgcciaebkfnjaaGreatDoor.sci

/- append(append(append([]T{}, a...), x), b...) given to a variable, in one region that draws its order: the row that it leaves. -/
namespace Go.Proofs.YtlgcciaebkfnjaaGreatDoor.tas
open Go.ChangeShapes Go.WideShapes Go.ChangeAt Go.RowKit Go.Proofs.YtlgcciaebkfnjaaGreatDoor.fl
set_option linter.unusedVariables false

/-- what is drawn: the empty row, the row behind the first append, the new one's place, the rows behind the other two -/
structure G where
  e0 : Nat
  v1 : Value
  h : Nat
  v2 : Value
  v3 : Value
  v4 : Value
/-- the world ahead, the type and its cells, the cells ahead, of the new one and behind, how many ahead and behind -/
structure Pr where
  W0 : World
  T : TypeId
  n : Nat
  xs : List Value
  ms : List Value
  ys : List Value
  k : Nat
  m : Nat
structure D (p : Pr) (g : G) (c0 c1 c2 c3 c4 c5 : Bool) (W : World) : Prop where
  bel : Below p.W0.heap.size p.W0 W
  at0 : c0 = true → c1 = false → W.ownsRow p.W0.heap.size p.T p.n (.slice (some ⟨g.e0, 0, none⟩) 0 0) 0 []
  at1 : c1 = true → c0 = true ∧ (c3 = false → W.ownsRow p.W0.heap.size p.T p.n g.v1 p.k p.xs)
  at2 : c2 = true → c3 = false → W.heap[g.h]? = some (.cells p.ms.toArray p.T (0, 0)) ∧ (c0 = true → c1 = false → g.e0 ≠ g.h) ∧ (c1 = true → g.v1.ownBlock ≠ some g.h)
  at3 : c3 = true → c1 = true ∧ c2 = true ∧ (c4 = false → W.ownsRow p.W0.heap.size p.T p.n g.v2 (p.k + 1) (p.xs ++ p.ms))
  at4 : c4 = true → c3 = true ∧ W.ownsRow p.W0.heap.size p.T p.n g.v3 (p.k + 1 + p.m) (p.xs ++ p.ms ++ p.ys)
  at5 : c5 = true → c4 = true ∧ g.v4 = g.v3
section
variable {p : Pr} {g : G} {c0 c1 c2 c3 c4 c5 : Bool} {W W' : World} {v : Value}
theorem D.size (h : D p g c0 c1 c2 c3 c4 c5 W) : p.W0.heap.size ≤ W.heap.size := h.bel.size
theorem D.old (h : D p g c0 c1 c2 c3 c4 c5 W) {b : Nat} {o : Obj} (hb : p.W0.heap[b]? = some o) : W.heap[b]? = some o := bstay hb h.bel (Array.getElem?_eq_some_iff.1 hb).1
theorem D.below (h : D p g c0 c1 c2 c3 c4 c5 W) : Below p.W0.heap.size p.W0 W := h.bel
theorem no31 (h : D p g c0 false c2 c3 c4 c5 W) : c3 = false := by
  cases c3 with
  | false => rfl
  | true => have := (h.at3 rfl).1; cases this
theorem no32 (h : D p g c0 c1 false c3 c4 c5 W) : c3 = false := by
  cases c3 with
  | false => rfl
  | true => have := (h.at3 rfl).2.1; cases this
theorem no4 (h : D p g c0 c1 c2 false c4 c5 W) : c4 = false := by
  cases c4 with
  | false => rfl
  | true => have := (h.at4 rfl).1; cases this
theorem no5 (h : D p g c0 c1 c2 c3 false c5 W) : c5 = false := by
  cases c5 with
  | false => rfl
  | true => have := (h.at5 rfl).1; cases this
theorem no1 (h : D p g false c1 c2 c3 c4 c5 W) : c1 = false := by
  cases c1 with
  | false => rfl
  | true => have := (h.at1 rfl).1; cases this
/-- the empty row is made -/
theorem D.s0 (h : D p g false c1 c2 c3 c4 c5 W) : D p { g with e0 := W.heap.size } true c1 c2 c3 c4 c5 (W.alloc (.cells #[] p.T)) := by
  obtain rfl := no1 h
  obtain rfl := no31 h
  obtain rfl := no4 h
  obtain rfl := no5 h
  have hs := h.size
  refine ⟨h.below.alloc hs _, fun _ _ => World.ownsRow_made W #[] 0 hs (by unfold maxLen; omega) (by simp), fun e => (by cases e), fun e _ => ?_, fun e => (by cases e), fun e => (by cases e), fun e => (by cases e)⟩
  obtain ⟨h1, _, h3⟩ := h.at2 e rfl
  have := (Array.getElem?_eq_some_iff.1 h1).1
  exact ⟨bold h1 _, fun _ _ => (by show W.heap.size ≠ g.h; omega), h3⟩
/-- the first append -/
theorem D.s1 (h : D p g c0 false c2 c3 c4 c5 W) (h0 : c0 = true) (hg : W.grownBy W' (some g.e0)) (ho : W'.ownsRow p.W0.heap.size p.T p.n v p.k p.xs) (hat : v.ownBlock = some g.e0 ∨ v.ownBlock = some W.heap.size) : D p { g with v1 := v } c0 true c2 c3 c4 c5 W' := by
  obtain rfl := no31 h
  obtain rfl := no4 h
  obtain rfl := no5 h
  have hs := h.size
  have he := ((h.at0 h0 rfl).lt g.e0 rfl)
  refine ⟨h.below.grown hg hs (fun b hb => by cases hb; exact he.1), fun _ e => (by cases e), fun _ => ⟨h0, fun _ => ho⟩, fun e _ => ?_, fun e => (by cases e), fun e => (by cases e), fun e => (by cases e)⟩
  obtain ⟨h1, h2, _⟩ := h.at2 e rfl
  have hne := h2 h0 rfl
  have hlt := (Array.getElem?_eq_some_iff.1 h1).1
  refine ⟨(hg.block _ hlt (fun e => by have := Option.some.inj e; omega)).trans h1, fun _ e => (by cases e), fun _ e => ?_⟩
  have e' : v.ownBlock = some g.h := e
  rcases hat with ha | ha
  · rw [ha] at e'; have := Option.some.inj e'; omega
  · rw [ha] at e'; simp at e'; omega
/-- the new one's place -/
theorem D.s2 (h : D p g c0 c1 false c3 c4 c5 W) : D p { g with h := W.heap.size } c0 c1 true c3 c4 c5 (W.alloc (.cells p.ms.toArray p.T)) := by
  obtain rfl := no32 h
  obtain rfl := no4 h
  obtain rfl := no5 h
  have hs := h.size
  refine ⟨h.below.alloc hs _, fun a b => (h.at0 a b).alloc _, fun a => ⟨(h.at1 a).1, fun b => ((h.at1 a).2 b).alloc _⟩, fun _ _ => ⟨bnew W _ _, fun a b => ?_, fun a e => ?_⟩, fun e => (by cases e), fun e => (by cases e), fun e => (by cases e)⟩
  · have := ((h.at0 a b).lt g.e0 rfl).2
    show g.e0 ≠ W.heap.size
    omega
  · have := (((h.at1 a).2 rfl).lt _ e).2
    have : W.heap.size < W.heap.size := this
    omega
/-- the second append -/
theorem D.s3 (h : D p g c0 c1 c2 false c4 c5 W) (h1 : c1 = true) (h2 : c2 = true) (hg : W.grownBy W' g.v1.ownBlock) (ho : W'.ownsRow p.W0.heap.size p.T p.n v (p.k + 1) (p.xs ++ p.ms)) : D p { g with v2 := v } c0 c1 c2 true c4 c5 W' := by
  obtain rfl := no4 h
  obtain rfl := no5 h
  have hs := h.size
  have he := ((h.at1 h1).2 rfl).lt
  exact ⟨h.below.grown hg hs (fun b hb => (he b hb).1), fun a b => (by rw [h1] at b; cases b), fun a => ⟨(h.at1 a).1, fun e => (by cases e)⟩, fun _ e => (by cases e), fun _ => ⟨h1, h2, fun _ => ho⟩, fun e => (by cases e), fun e => (by cases e)⟩
/-- the third append -/
theorem D.s4 (h : D p g c0 c1 c2 c3 false c5 W) (h3 : c3 = true) (hg : W.grownBy W' g.v2.ownBlock) (ho : W'.ownsRow p.W0.heap.size p.T p.n v (p.k + 1 + p.m) (p.xs ++ p.ms ++ p.ys)) : D p { g with v3 := v } c0 c1 c2 c3 true c5 W' := by
  obtain rfl := no5 h
  have hs := h.size
  have he := ((h.at3 h3).2.2 rfl).lt
  obtain ⟨l1, l2, _⟩ := h.at3 h3
  exact ⟨h.below.grown hg hs (fun b hb => (he b hb).1), fun a b => (by rw [l1] at b; cases b), fun a => ⟨(h.at1 a).1, fun e => (by rw [h3] at e; cases e)⟩, fun _ e => (by rw [h3] at e; cases e), fun _ => ⟨l1, l2, fun e => (by cases e)⟩, fun _ => ⟨h3, ho⟩, fun e => (by cases e)⟩
/-- it is given to the variable -/
theorem D.s5 (h : D p g c0 c1 c2 c3 c4 false W) (h4 : c4 = true) : D p { g with v4 := g.v3 } c0 c1 c2 c3 c4 true W := ⟨h.bel, h.at0, h.at1, h.at2, h.at3, h.at4, fun _ => ⟨h4, rfl⟩⟩
end
theorem add0 (g j : Nat) : (⟨g, 0, none⟩ : Addr).add j = ⟨g, j, none⟩ := by unfold Addr.add; split <;> simp_all
theorem more_on (L : Nat → Bool) (i : Nat) : dn.more L i i = true := by unfold dn.more; rw [if_pos rfl]
theorem more_off (L : Nat → Bool) {i j : Nat} (h : j ≠ i) : dn.more L i j = L j := by unfold dn.more; rw [if_neg h]
/-- the numbers of the six operations that count -/
structure J where
  j0 : Nat
  j1 : Nat
  j2 : Nat
  j3 : Nat
  j4 : Nat
  j5 : Nat
def J.up (x : J) : Prop := x.j0 < x.j1 ∧ x.j1 < x.j2 ∧ x.j2 < x.j3 ∧ x.j3 < x.j4 ∧ x.j4 < x.j5
def C (p : Pr) (x : J) (g : G) (L : Nat → Bool) (W : World) : Prop := D p g (L x.j0) (L x.j1) (L x.j2) (L x.j3) (L x.j4) (L x.j5) W
theorem C.d {p : Pr} {x : J} {g : G} {L : Nat → Bool} {W : World} (h : C p x g L W) : D p g (L x.j0) (L x.j1) (L x.j2) (L x.j3) (L x.j4) (L x.j5) W := h
section
variable {p : Pr} {x : J} {ws : G → List (Nat × Value)} {act : Act} {Q : Exit → Act → World → Prop} {o : Oper}
theorem quiet {i : Nat} (hi : i ≠ x.j0 ∧ i ≠ x.j1 ∧ i ≠ x.j2 ∧ i ≠ x.j3 ∧ i ≠ x.j4 ∧ i ≠ x.j5) (hsel : ∀ cs b, o.op ≠ .select cs b) (u : Value) (hd : ∀ s d, o.dst = some d → (dk.sets act (ws s)).tmps[d]? = some u)
    (hrun : ∀ s W, (∀ (b : Nat) (o : Obj), p.W0.heap[b]? = some o → W.heap[b]? = some o) → (execOp (dk.sets act (ws s)).eval o).run Tryz.prog W = .ok (.value u) W) : gh.Step Tryz.prog (fun s => dk.sets act (ws s)) (C p x) Q i o := by
  refine gh.step_val hsel fun s L W hdp h0 hC => ⟨s, u, gh.Agree.refl _ _, hd s, ?_⟩
  rw [hrun s W (fun b o hb => hC.d.old hb)]
  refine ⟨rfl, ?_⟩
  obtain ⟨i0, i1, i2, i3, i4, i5⟩ := hi
  unfold C
  rw [more_off L i0.symm, more_off L i1.symm, more_off L i2.symm, more_off L i3.symm, more_off L i4.symm, more_off L i5.symm]
  exact hC
theorem st0 (hx : x.up) {d idx : Nat} (hsel : ∀ cs b, o.op ≠ .select cs b) (hdst : o.dst = some d) (hsz : d < act.tmps.size) (ld : ∀ g, (ws g).lookup d = some (.slice (some ⟨g.e0, 0, none⟩) 0 0)) (hidx : ∀ g, ((ws g)[idx]?.map (·.1)) = some d) (hset : ∀ g (e : Nat), ws { g with e0 := e } = (ws g).set idx (d, .slice (some ⟨e, 0, none⟩) 0 0))
    (hrun : ∀ s W, (execOp (dk.sets act (ws s)).eval o).run Tryz.prog W = .ok (.value (.slice (some ⟨W.heap.size, 0, none⟩) 0 0)) (W.alloc (.cells #[] p.T))) : gh.Step Tryz.prog (fun s => dk.sets act (ws s)) (C p x) Q x.j0 o := by
  refine gh.step_val hsel fun s L W hdp h0 hC => ⟨{ s with e0 := W.heap.size }, .slice (some ⟨W.heap.size, 0, none⟩) 0 0, dk.agree_sets idx d _ hdst (hidx s) (hset s _), (fun d' hd => by rw [hdst] at hd; cases hd; exact dk.sets_on _ hsz _ (ld _)), ?_⟩
  rw [hrun]
  refine ⟨rfl, ?_⟩
  obtain ⟨u0, u1, u2, u3, u4⟩ := hx
  have hd := hC.d
  rw [h0] at hd
  unfold C
  rw [more_on, more_off L (show x.j1 ≠ x.j0 by omega), more_off L (show x.j2 ≠ x.j0 by omega), more_off L (show x.j3 ≠ x.j0 by omega), more_off L (show x.j4 ≠ x.j0 by omega), more_off L (show x.j5 ≠ x.j0 by omega)]
  exact hd.s0
theorem st2 (hx : x.up) {d idx : Nat} (hsel : ∀ cs b, o.op ≠ .select cs b) (hdst : o.dst = some d) (hsz : d < act.tmps.size) (ld : ∀ g, (ws g).lookup d = some (.slice (some ⟨g.h, 0, none⟩) 1 1)) (hidx : ∀ g, ((ws g)[idx]?.map (·.1)) = some d) (hset : ∀ g (e : Nat), ws { g with h := e } = (ws g).set idx (d, .slice (some ⟨e, 0, none⟩) 1 1))
    (hrun : ∀ s W, (execOp (dk.sets act (ws s)).eval o).run Tryz.prog W = .ok (.value (.slice (some ⟨W.heap.size, 0, none⟩) 1 1)) (W.alloc (.cells p.ms.toArray p.T))) : gh.Step Tryz.prog (fun s => dk.sets act (ws s)) (C p x) Q x.j2 o := by
  refine gh.step_val hsel fun s L W hdp h0 hC => ⟨{ s with h := W.heap.size }, .slice (some ⟨W.heap.size, 0, none⟩) 1 1, dk.agree_sets idx d _ hdst (hidx s) (hset s _), (fun d' hd => by rw [hdst] at hd; cases hd; exact dk.sets_on _ hsz _ (ld _)), ?_⟩
  rw [hrun]
  refine ⟨rfl, ?_⟩
  obtain ⟨u0, u1, u2, u3, u4⟩ := hx
  have hd := hC.d
  rw [h0] at hd
  unfold C
  rw [more_on, more_off L (show x.j0 ≠ x.j2 by omega), more_off L (show x.j1 ≠ x.j2 by omega), more_off L (show x.j3 ≠ x.j2 by omega), more_off L (show x.j4 ≠ x.j2 by omega), more_off L (show x.j5 ≠ x.j2 by omega)]
  exact hd.s2
theorem app_run {ST s1 s2 m c : Nat} {a : Addr} {v v' : Value} {f : Act} {W w' : World} (hop : o.op = .call { callee := .builtin .append, args := #[.tmp s1, .tmp s2], argTypes := #[ST, ST] }) (e1 : f.eval (.tmp s1) = v) (e2 : f.eval (.tmp s2) = .slice (some a) m c) (hr : (Builtin.append_ #[ST, ST] o.type #[v, .slice (some a) m c]).run Tryz.prog W = .ok v' w') : (execOp f.eval o).run Tryz.prog W = .ok (.value v') w' := by
  unfold execOp
  simp only [hop, resolve, invoke, builtin, Sem.run_bind, Sem.run_pure, Result.andThen_ok, List.map_toArray, List.map_cons, List.map_nil, e1, e2, hr]
variable {ST : TypeId} {i0 : TypeInfo} {z : Value} {bytes : Nat}
theorem st1 (hx : x.up) (ht : Tryz.prog.underlying ST = some (.slice p.T)) (hi : Tryz.prog.info? p.T = some i0) (hz : i0.zero = some z) (hn : i0.size = p.n) (hb : i0.bytes = bytes) (hzs : z.cells.size = p.n) (hn0 : 0 < p.n)
    {s1 s2 d idx c : Nat} {a : Addr} (hop : o.op = .call { callee := .builtin .append, args := #[.tmp s1, .tmp s2], argTypes := #[ST, ST] }) (hdst : o.dst = some d) (hsz : d < act.tmps.size ∧ s1 < act.tmps.size ∧ s2 < act.tmps.size)
    (ld : ∀ g, (ws g).lookup d = some g.v1) (l1 : ∀ g, (ws g).lookup s1 = some (.slice (some ⟨g.e0, 0, none⟩) 0 0)) (l2 : ∀ g, (ws g).lookup s2 = some (.slice (some a) p.k c)) (hidx : ∀ g, ((ws g)[idx]?.map (·.1)) = some d) (hset : ∀ g (v : Value), ws { g with v1 := v } = (ws g).set idx (d, v))
    (hlen : p.xs.length = p.k * p.n) (hnews : ∀ W, Below p.W0.heap.size p.W0 W → ∀ j u, p.xs[j]? = some u → W.cell? (a.add j) = some u) (h1c : ∀ u ∈ p.xs, u.oneCell' = true) (hk : p.k ≤ 1048576) (hby : (0 + p.k) * bytes ≤ 140737488355328)
    (hdep : ∃ e ∈ o.after, Region.binds .any e = true ∧ e.on = x.j0) : gh.Step Tryz.prog (fun s => dk.sets act (ws s)) (C p x) Q x.j1 o := by
  refine gh.step_val (by rw [hop]; simp) fun s L W hdp h0 hC => ?_
  obtain ⟨xp, mp, yp, zp⟩ := hdep
  have lp := hdp xp mp yp
  rw [zp] at lp
  obtain ⟨u0, u1, u2, u3, u4⟩ := hx
  have hd := hC.d
  rw [h0] at hd
  have hbel : Below p.W0.heap.size p.W0 W := by
    have e3 := no31 hd
    rw [e3] at hd
    have e4 := no4 hd
    rw [e4] at hd
    have e5 := no5 hd
    rw [e5] at hd
    exact hd.below
  have hold := hd.at0 lp rfl
  obtain ⟨v', w', hr, ho, hg, _, hat⟩ := run_append_own_at (P := Tryz.prog) W p.W0.heap.size ST o.type p.T i0 z p.n bytes ht hi hz hn hb hzs hn0 _ 0 [] hold a p.k c p.xs hlen (hnews W hbel) h1c (by unfold maxLen; omega) hby hd.size
  rw [Nat.zero_add, List.nil_append] at ho
  refine ⟨{ s with v1 := v' }, v', dk.agree_sets idx d _ hdst (hidx s) (hset s _), (fun d' hd => by rw [hdst] at hd; cases hd; exact dk.sets_on _ hsz.1 _ (ld _)), ?_⟩
  rw [app_run hop (dk.eval_on _ _ hsz.2.1 (l1 s)) (dk.eval_on _ _ hsz.2.2 (l2 s)) hr]
  refine ⟨rfl, ?_⟩
  unfold C
  rw [more_on, more_off L (show x.j0 ≠ x.j1 by omega), more_off L (show x.j2 ≠ x.j1 by omega), more_off L (show x.j3 ≠ x.j1 by omega), more_off L (show x.j4 ≠ x.j1 by omega), more_off L (show x.j5 ≠ x.j1 by omega)]
  exact hd.s1 lp hg ho hat
theorem st3 (hx : x.up) (ht : Tryz.prog.underlying ST = some (.slice p.T)) (hi : Tryz.prog.info? p.T = some i0) (hz : i0.zero = some z) (hn : i0.size = p.n) (hb : i0.bytes = bytes) (hzs : z.cells.size = p.n) (hn0 : 0 < p.n)
    {s1 s2 d idx : Nat} (hop : o.op = .call { callee := .builtin .append, args := #[.tmp s1, .tmp s2], argTypes := #[ST, ST] }) (hdst : o.dst = some d) (hsz : d < act.tmps.size ∧ s1 < act.tmps.size ∧ s2 < act.tmps.size)
    (ld : ∀ g, (ws g).lookup d = some g.v2) (l1 : ∀ g, (ws g).lookup s1 = some g.v1) (l2 : ∀ g, (ws g).lookup s2 = some (.slice (some ⟨g.h, 0, none⟩) 1 1)) (hidx : ∀ g, ((ws g)[idx]?.map (·.1)) = some d) (hset : ∀ g (v : Value), ws { g with v2 := v } = (ws g).set idx (d, v))
    (hlen : p.ms.length = p.n) (h1c : ∀ u ∈ p.ms, u.oneCell' = true) (hk : p.k ≤ 1048576) (hby : (p.k + 1) * bytes ≤ 140737488355328)
    (hdep : ∃ e ∈ o.after, Region.binds .any e = true ∧ e.on = x.j1) (hdep2 : ∃ e ∈ o.after, Region.binds .any e = true ∧ e.on = x.j2) : gh.Step Tryz.prog (fun s => dk.sets act (ws s)) (C p x) Q x.j3 o := by
  refine gh.step_val (by rw [hop]; simp) fun s L W hdp h0 hC => ?_
  obtain ⟨xp, mp, yp, zp⟩ := hdep
  have lp := hdp xp mp yp
  rw [zp] at lp
  obtain ⟨xq, mq, yq, zq⟩ := hdep2
  have lq := hdp xq mq yq
  rw [zq] at lq
  obtain ⟨u0, u1, u2, u3, u4⟩ := hx
  have hd := hC.d
  rw [h0] at hd
  have hold := (hd.at1 lp).2 rfl
  obtain ⟨hcell, _, _⟩ := hd.at2 lq rfl
  have hnews : ∀ j u, p.ms[j]? = some u → W.cell? ((⟨s.h, 0, none⟩ : Addr).add j) = some u := fun j u hu => by
    rw [add0]
    exact bcell hcell (by simpa using hu)
  obtain ⟨v', w', hr, ho, hg, _, hat⟩ := run_append_own_at (P := Tryz.prog) W p.W0.heap.size ST o.type p.T i0 z p.n bytes ht hi hz hn hb hzs hn0 _ p.k p.xs hold ⟨s.h, 0, none⟩ 1 1 p.ms (by rw [hlen, Nat.one_mul]) hnews h1c (by unfold maxLen; omega) hby hd.size
  refine ⟨{ s with v2 := v' }, v', dk.agree_sets idx d _ hdst (hidx s) (hset s _), (fun d' hd => by rw [hdst] at hd; cases hd; exact dk.sets_on _ hsz.1 _ (ld _)), ?_⟩
  rw [app_run hop (dk.eval_on _ _ hsz.2.1 (l1 s)) (dk.eval_on _ _ hsz.2.2 (l2 s)) hr]
  refine ⟨rfl, ?_⟩
  unfold C
  rw [more_on, more_off L (show x.j0 ≠ x.j3 by omega), more_off L (show x.j1 ≠ x.j3 by omega), more_off L (show x.j2 ≠ x.j3 by omega), more_off L (show x.j4 ≠ x.j3 by omega), more_off L (show x.j5 ≠ x.j3 by omega)]
  exact hd.s3 lp lq hg ho
theorem st4 (hx : x.up) (ht : Tryz.prog.underlying ST = some (.slice p.T)) (hi : Tryz.prog.info? p.T = some i0) (hz : i0.zero = some z) (hn : i0.size = p.n) (hb : i0.bytes = bytes) (hzs : z.cells.size = p.n) (hn0 : 0 < p.n)
    {s1 s2 d idx c : Nat} {a : Addr} (hop : o.op = .call { callee := .builtin .append, args := #[.tmp s1, .tmp s2], argTypes := #[ST, ST] }) (hdst : o.dst = some d) (hsz : d < act.tmps.size ∧ s1 < act.tmps.size ∧ s2 < act.tmps.size)
    (ld : ∀ g, (ws g).lookup d = some g.v3) (l1 : ∀ g, (ws g).lookup s1 = some g.v2) (l2 : ∀ g, (ws g).lookup s2 = some (.slice (some a) p.m c)) (hidx : ∀ g, ((ws g)[idx]?.map (·.1)) = some d) (hset : ∀ g (v : Value), ws { g with v3 := v } = (ws g).set idx (d, v))
    (hlen : p.ys.length = p.m * p.n) (hnews : ∀ W, Below p.W0.heap.size p.W0 W → ∀ j u, p.ys[j]? = some u → W.cell? (a.add j) = some u) (h1c : ∀ u ∈ p.ys, u.oneCell' = true) (hk : p.k ≤ 1048576 ∧ p.m ≤ 1048576) (hby : (p.k + 1 + p.m) * bytes ≤ 140737488355328)
    (hdep : ∃ e ∈ o.after, Region.binds .any e = true ∧ e.on = x.j3) : gh.Step Tryz.prog (fun s => dk.sets act (ws s)) (C p x) Q x.j4 o := by
  refine gh.step_val (by rw [hop]; simp) fun s L W hdp h0 hC => ?_
  obtain ⟨xp, mp, yp, zp⟩ := hdep
  have lp := hdp xp mp yp
  rw [zp] at lp
  obtain ⟨u0, u1, u2, u3, u4⟩ := hx
  have hd := hC.d
  rw [h0] at hd
  have hbel : Below p.W0.heap.size p.W0 W := by
    have e5 := no5 hd
    rw [e5] at hd
    exact hd.below
  have hold := (hd.at3 lp).2.2 rfl
  obtain ⟨v', w', hr, ho, hg, _, hat⟩ := run_append_own_at (P := Tryz.prog) W p.W0.heap.size ST o.type p.T i0 z p.n bytes ht hi hz hn hb hzs hn0 _ (p.k + 1) (p.xs ++ p.ms) hold a p.m c p.ys hlen (hnews W hbel) h1c (by unfold maxLen; omega) hby hd.size
  refine ⟨{ s with v3 := v' }, v', dk.agree_sets idx d _ hdst (hidx s) (hset s _), (fun d' hd => by rw [hdst] at hd; cases hd; exact dk.sets_on _ hsz.1 _ (ld _)), ?_⟩
  rw [app_run hop (dk.eval_on _ _ hsz.2.1 (l1 s)) (dk.eval_on _ _ hsz.2.2 (l2 s)) hr]
  refine ⟨rfl, ?_⟩
  unfold C
  rw [more_on, more_off L (show x.j0 ≠ x.j4 by omega), more_off L (show x.j1 ≠ x.j4 by omega), more_off L (show x.j2 ≠ x.j4 by omega), more_off L (show x.j3 ≠ x.j4 by omega), more_off L (show x.j5 ≠ x.j4 by omega)]
  exact hd.s4 lp hg ho
theorem st5 (hx : x.up) {d s1 idx : Nat} (hop : o.op = .assign (.tmp s1)) (hdst : o.dst = some d) (hsz : d < act.tmps.size ∧ s1 < act.tmps.size) (ld : ∀ g, (ws g).lookup d = some g.v4) (l1 : ∀ g, (ws g).lookup s1 = some g.v3) (hidx : ∀ g, ((ws g)[idx]?.map (·.1)) = some d) (hset : ∀ g (v : Value), ws { g with v4 := v } = (ws g).set idx (d, v))
    (hdep : ∃ e ∈ o.after, Region.binds .any e = true ∧ e.on = x.j4) : gh.Step Tryz.prog (fun s => dk.sets act (ws s)) (C p x) Q x.j5 o := by
  refine gh.step_val (by rw [hop]; simp) fun s L W hdp h0 hC => ?_
  obtain ⟨xp, mp, yp, zp⟩ := hdep
  have lp := hdp xp mp yp
  rw [zp] at lp
  obtain ⟨u0, u1, u2, u3, u4⟩ := hx
  have hd := hC.d
  rw [h0] at hd
  refine ⟨{ s with v4 := s.v3 }, s.v3, dk.agree_sets idx d _ hdst (hidx s) (hset s _), (fun d' hd => by rw [hdst] at hd; cases hd; exact dk.sets_on _ hsz.1 _ (ld _)), ?_⟩
  have hrun : (execOp (dk.sets act (ws s)).eval o).run Tryz.prog W = .ok (.value s.v3) W := by
    unfold execOp
    simp only [hop, dk.eval_on _ _ hsz.2 (l1 s), Sem.run_pure]
  rw [hrun]
  refine ⟨rfl, ?_⟩
  unfold C
  rw [more_on, more_off L (show x.j0 ≠ x.j5 by omega), more_off L (show x.j1 ≠ x.j5 by omega), more_off L (show x.j2 ≠ x.j5 by omega), more_off L (show x.j3 ≠ x.j5 by omega), more_off L (show x.j4 ≠ x.j5 by omega)]
  exact hd.s5 lp
end
/-- when all is done -/
theorem done {p : Pr} {x : J} {g : G} {L : Nat → Bool} {W : World} {N : Nat} (hC : C p x g L W) (hx : x.up) (hN : x.j5 < N) (hL : ∀ i, i < N → L i = true) :
    Below p.W0.heap.size p.W0 W ∧ g.v4 = g.v3 ∧ W.ownsRow p.W0.heap.size p.T p.n g.v3 (p.k + 1 + p.m) (p.xs ++ p.ms ++ p.ys) := by
  have hd := hC.d
  obtain ⟨u0, u1, u2, u3, u4⟩ := hx
  rw [hL x.j4 (by omega), hL x.j5 hN] at hd
  exact ⟨hd.bel, (hd.at5 rfl).2, (hd.at4 rfl).2⟩
/-- nothing is done yet -/
theorem start (p : Pr) (x : J) (g : G) : C p x g (fun _ => false) p.W0.drew :=
  ⟨(Below.refl _ _).drew, fun e => (by cases e), fun e => (by cases e), fun e => (by cases e), fun e => (by cases e), fun e => (by cases e), fun e => (by cases e)⟩
end Go.Proofs.YtlgcciaebkfnjaaGreatDoor.tas
