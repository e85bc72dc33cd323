/- The specification's l07Copy: the same table, its pairs and runs in rows of their own. -/
import Derived.Test.YtfoajjkcocppeaaSpecCopyR
namespace Go.Proofs.Ytfoajjkcocppeaa.sct
open Go.ChangeShapes Go.WideShapes Go.ChangeAt Go.RowKit Go.Proofs.Ytfoajjkcocppeaa.fl Go.Proofs.Ytfoajjkcocppeaa.fo Go.Proofs.Ytfoajjkcocppeaa.rn
set_option linter.unusedVariables false

theorem own_tn {w w' : World} {S : Nat → Prop} {B n s : Nat} {U : TypeId} {v : Value} {xs : List Value} (h : w.ownsRow B U s v n xs) (ht : Tn w w' S) (hS : ∀ g, v.ownBlock = some g → ¬ S g) : w'.ownsRow B U s v n xs := by
  obtain ⟨h0, h1 | ⟨g, cap, cur, rfl, hB, hg, hr⟩⟩ := h
  · exact ⟨h0, .inl h1⟩
  · exact ⟨h0, .inr ⟨g, cap, cur, rfl, hB, (ht.block g (Array.getElem?_eq_some_iff.1 hg).1 (hS g rfl)).trans hg, hr⟩⟩
theorem own_low {w : World} {B B' n : Nat} {U : TypeId} {s : Nat} {v : Value} {xs : List Value} (h : w.ownsRow B U s v n xs) (hb : B' ≤ B) : w.ownsRow B' U s v n xs := by
  obtain ⟨h0, h1 | ⟨g, cap, cur, h1, h2, h3⟩⟩ := h
  · exact ⟨h0, .inl h1⟩
  · exact ⟨h0, .inr ⟨g, cap, cur, h1, by omega, h3⟩⟩
theorem clash {w : World} {B B' n n' s s' g : Nat} {v v' : Value} {xs xs' : List Value} (h : w.ownsRow B 63 s v n xs) (h' : w.ownsRow B' 29 s' v' n' xs') (e : v.ownBlock = some g) : ¬ v'.ownBlock = some g := fun e' => by
  obtain ⟨c, hc⟩ := typed h e
  obtain ⟨c', hc'⟩ := typed h' e'
  rw [hc] at hc'
  simp at hc'
theorem clash3 {w : World} {B n s g : Nat} {v : Value} {xs : List Value} {cur : Array Value} (h : w.ownsRow B 63 s v n xs) (h' : w.heap[g]? = some (.cells cur 32 (0, 0))) : ¬ v.ownBlock = some g := fun e => by
  obtain ⟨c, hc⟩ := typed h e
  rw [hc] at h'
  simp at h'
theorem newsP {w : World} {a B : Nat} {l : List flP.Pr} (h : Row flP.c 3 w B (some ⟨a, 0, none⟩) l) : ∀ (j : Nat) (u : Value), (l.flatMap flP.c)[j]? = some u → w.cell? ((⟨a, 0, none⟩ : Addr).add j) = some u := fun j u hu => by
  obtain ⟨i, e, r, h1, h2, rfl⟩ := flat_get flP.c_len l j u hu
  rcases h with rfl | ⟨g, off, ha, _, hc⟩
  · simp at h1
  · cases ha
    rw [add0]
    have := hc i e h1 r u h2
    rw [Nat.zero_add] at this
    exact this
theorem oneP (l : List flP.Pr) : ∀ u ∈ l.flatMap flP.c, u.oneCell' = true := fun u hu => by
  obtain ⟨e, _, he⟩ := List.mem_flatMap.1 hu
  simp [flP.c] at he
  rcases he with rfl | rfl | rfl <;> rfl
theorem infoP : ∃ i0, Try.prog.info? 63 = some i0 ∧ i0.zero = some (.agg #[.string ByteArray.empty, .string ByteArray.empty, .bool false]) ∧ i0.size = 3 ∧ i0.bytes = 40 := by
  have h := flP.info
  cases hh : Try.prog.info? 63 with
  | none => rw [hh] at h; cases h
  | some i => rw [hh] at h; simp at h; exact ⟨i, rfl, h.1, h.2.1, h.2.2⟩
theorem old_cell {p : Pm} {W : World} {x i : Nat} {v : Value} (h : ∀ (b : Nat) (o : Obj), p.W0.heap[b]? = some o → b ≠ p.n3 → p.rv.ownBlock ≠ some b → W.heap[b]? = some o) (h1 : x ≠ p.n3) (h2 : p.rv.ownBlock ≠ some x) (hc : p.W0.cell? ⟨x, i, none⟩ = some v) : W.cell? ⟨x, i, none⟩ = some v := by
  have e : W.heap[x]? = p.W0.heap[x]? := by
    cases hh : p.W0.heap[x]? with
    | none => simp [World.cell?, hh] at hc
    | some o => exact h x o hh h1 h2
  rw [World.cell?_of_block (a := ⟨x, i, none⟩) e]
  exact hc
theorem own_set {w : World} {B n s : Nat} {U : TypeId} {v : Value} {xs : List Value} (h : w.ownsRow B U s v n xs) {g j : Nat} {u : Value} (hg : g < B) : (w.setCell ⟨g, j, none⟩ u).ownsRow B U s v n xs := by
  refine h.kept (row := some g) ⟨rfl, rfl, rfl, by simp, fun k hk hne => Below.heap_setCell _ _ _ _ (fun e => hne (by rw [e]))⟩ (.inr fun e => ?_)
  have := (h.lt g (by first | exact e | exact e.symm)).1
  omega
/-- a run in a row of its own -/
def OwnR (W : World) (B : Nat) (r : Rn) : Prop := W.ownsRow B 63 3 (.slice r.a r.l.length r.c) r.l.length (r.l.flatMap flP.c)
/-- what stands when k runs are copied: the box, the answer's place, the copy's place, its pairs, its runs -/
structure St (w : World) (ys : List flP.Pr) (rs : List Rn) (a0 yc b rc n3 g1 c1 : Nat) (k : Nat) (va : Option Addr) (vc : Nat) (ks : List Rn) (W : World) : Prop where
  bel : Below w.heap.size w W
  box : W.heap[w.heap.size]? = some (.cells #[.slice (some ⟨a0, 0, none⟩) ys.length yc, .slice (some ⟨b, 0, none⟩) rs.length rc] 32 (0, 0))
  res : W.heap[w.heap.size + 1]? = some (.cells #[.slice none 0 0, .slice none 0 0] 32 (0, 0))
  lo : w.heap.size + 2 ≤ n3
  out : W.heap[n3]? = some (.cells #[.slice (some ⟨g1, 0, none⟩) ys.length c1, .slice va k vc] 32 (0, 0))
  fresh : W.ownsRow (w.heap.size + 2) 63 3 (.slice (some ⟨g1, 0, none⟩) ys.length c1) ys.length (ys.flatMap flP.c)
  runs : W.ownsRow (w.heap.size + 2) 29 1 (.slice va k vc) k (ks.flatMap cR)
  same : ks.map (·.l) = (rs.take k).map (·.l)
  rows : ∀ r ∈ ks, OwnR W (w.heap.size + 2) r
section
variable {w W W' : World} {ys : List flP.Pr} {rs : List Rn} {a0 yc b rc n3 g1 c1 k : Nat} {va : Option Addr} {vc : Nat} {ks : List Rn}
theorem St.big (h : St w ys rs a0 yc b rc n3 g1 c1 k va vc ks W) : w.heap.size + 2 ≤ W.heap.size := (Array.getElem?_eq_some_iff.1 h.res).1
theorem St.ah (h : St w ys rs a0 yc b rc n3 g1 c1 k va vc ks W) (n : Nat) (xs : List Value) : Ah ⟨W, w.heap.size + 2, n3, .slice (some ⟨g1, 0, none⟩) ys.length c1, .slice va k vc, k, ks.flatMap cR, n, xs⟩ := ⟨(Array.getElem?_eq_some_iff.1 h.out).1, h.out, h.runs, h.big⟩
theorem St.step (h : St w ys rs a0 yc b rc n3 g1 c1 k va vc ks W) {r : Rn} (hr : rs[k]? = some r) {b1 q1 : Nat} {v2 : Value} (ht : Tn W W' (fun x => (Value.slice va k vc).ownBlock = some x ∨ x = n3)) (ho : W'.heap[n3]? = some (.cells #[.slice (some ⟨g1, 0, none⟩) ys.length c1, v2] 32 (0, 0)))
    (o1 : W'.ownsRow W.heap.size 63 3 (.slice (some ⟨b1, 0, none⟩) r.l.length q1) r.l.length (r.l.flatMap flP.c)) (o2 : W'.ownsRow (w.heap.size + 2) 29 1 v2 (k + 1) (ks.flatMap cR ++ [.slice (some ⟨b1, 0, none⟩) r.l.length q1])) : ∃ va' vc' ks', v2 = .slice va' (k + 1) vc' ∧ St w ys rs a0 yc b rc n3 g1 c1 (k + 1) va' vc' ks' W' := by
  obtain ⟨va', vc', rfl⟩ : ∃ va' vc', v2 = .slice va' (k + 1) vc' := by
    obtain ⟨_, ⟨e, h0⟩ | ⟨g, cap, cur, e, _⟩⟩ := o2
    · cases h0
    · exact ⟨_, _, e⟩
  have hbig := h.big
  have hlo := h.lo
  have hrb : ∀ x, (Value.slice va k vc).ownBlock = some x → w.heap.size + 2 ≤ x := fun x e => (h.runs.lt x e).1
  have keep : ∀ x, x < w.heap.size + 2 → ¬ ((Value.slice va k vc).ownBlock = some x ∨ x = n3) := fun x hx e => by
    rcases e with e | e
    · have := hrb x e; omega
    · omega
  have kept : ∀ v n xs, W.ownsRow (w.heap.size + 2) 63 3 v n xs → W'.ownsRow (w.heap.size + 2) 63 3 v n xs := fun v n xs hv => own_tn hv ht (fun g e hS => by
    rcases hS with hS | hS
    · exact clash hv h.runs e hS
    · subst hS; exact clash3 hv h.out e)
  refine ⟨va', vc', ks ++ [⟨some ⟨b1, 0, none⟩, q1, r.l⟩], rfl, ⟨⟨ht.os.trans h.bel.os, ht.tape.trans h.bel.tape, ht.output.trans h.bel.output, Nat.le_trans h.bel.size ht.size, fun x hx => (ht.block x (by omega) (keep x (by omega))).trans (h.bel.block x hx)⟩, (ht.block _ (by omega) (keep _ (by omega))).trans h.box, (ht.block _ (by omega) (keep _ (by omega))).trans h.res, h.lo, ho, kept _ _ _ h.fresh, ?_, ?_, ?_⟩⟩
  · rw [List.flatMap_append]
    exact o2
  · have hlt := (List.getElem?_eq_some_iff.1 hr).1
    have he := (List.getElem?_eq_some_iff.1 hr).2
    rw [List.take_succ_eq_append_getElem hlt, List.map_append, List.map_append, h.same, he]
    rfl
  · intro s hs
    rcases List.mem_append.1 hs with hs | hs
    · exact kept _ _ _ (h.rows s hs)
    · simp at hs
      subst hs
      exact own_low o1 hbig
end

set_option maxRecDepth 100000 in
set_option maxHeartbeats 4000000 in
theorem spec_copy (ys : List flP.Pr) (rs : List Rn) (a0 yc b rc : Nat) (w : World) (F : tb.Fit ys rs) (hY : Row flP.c 3 w w.heap.size (some ⟨a0, 0, none⟩) ys) (hR : Row cR 1 w w.heap.size (some ⟨b, 0, none⟩) rs) (hrs : ∀ r ∈ rs, (∃ h, r.a = some ⟨h, 0, none⟩) ∧ Row flP.c 3 w w.heap.size r.a r.l) :
    Calls Try.prog 42 #[.agg #[.slice (some ⟨a0, 0, none⟩) ys.length yc, .slice (some ⟨b, 0, none⟩) rs.length rc]] w fun e w' => ∃ (g1 c1 : Nat) (va : Option Addr) (vc : Nat) (ks : List Rn), e = .returned (.agg #[.slice (some ⟨g1, 0, none⟩) ys.length c1, .slice va rs.length vc]) ∧ w'.ownsRow (w.heap.size + 2) 63 3 (.slice (some ⟨g1, 0, none⟩) ys.length c1) ys.length (ys.flatMap flP.c) ∧ w'.ownsRow (w.heap.size + 2) 29 1 (.slice va rs.length vc) rs.length (ks.flatMap cR) ∧ ks.map (·.l) = rs.map (·.l) ∧ (∀ r ∈ ks, OwnR w' (w.heap.size + 2) r) ∧ Below w.heap.size w w' := by
  obtain ⟨i0, hi, hz0, hz1, hz2⟩ := infoP
  obtain ⟨i1, ki, kz0, kz1, kz2⟩ := ly.infoR
  have hyl := F.yl
  have hrl := F.rl
  have hb : Below w.heap.size w (((w.alloc (.cells #[.slice (some ⟨a0, 0, none⟩) ys.length yc, .slice (some ⟨b, 0, none⟩) rs.length rc] 32)).alloc (.cells #[.slice none 0 0, .slice none 0 0] 32)).alloc (.cells #[] 63)) := (((Below.refl _ _).alloc (Nat.le_refl _) _).alloc (by simp) _).alloc (by simp; omega) _
  have hA := bold (bold (bnew w #[.slice (some ⟨a0, 0, none⟩) ys.length yc, .slice (some ⟨b, 0, none⟩) rs.length rc] 32) (.cells #[.slice none 0 0, .slice none 0 0] 32)) (.cells #[] 63)
  have hRs := bold (bnew (w.alloc (.cells #[.slice (some ⟨a0, 0, none⟩) ys.length yc, .slice (some ⟨b, 0, none⟩) rs.length rc] 32)) #[.slice none 0 0, .slice none 0 0] 32) (.cells #[] 63)
  rw [World.size_alloc] at hRs
  have ho : (((w.alloc (.cells #[.slice (some ⟨a0, 0, none⟩) ys.length yc, .slice (some ⟨b, 0, none⟩) rs.length rc] 32)).alloc (.cells #[.slice none 0 0, .slice none 0 0] 32)).alloc (.cells #[] 63)).ownsRow (w.heap.size + 2) 63 3 (.slice (some ⟨((w.alloc (.cells #[.slice (some ⟨a0, 0, none⟩) ys.length yc, .slice (some ⟨b, 0, none⟩) rs.length rc] 32)).alloc (.cells #[.slice none 0 0, .slice none 0 0] 32)).heap.size, 0, none⟩) 0 0) 0 [] := World.ownsRow_made ((w.alloc (.cells #[.slice (some ⟨a0, 0, none⟩) ys.length yc, .slice (some ⟨b, 0, none⟩) rs.length rc] 32)).alloc (.cells #[.slice none 0 0, .slice none 0 0] 32)) #[] 0 (by simp) (by unfold maxLen; omega) (by simp)
  have hS : (((w.alloc (.cells #[.slice (some ⟨a0, 0, none⟩) ys.length yc, .slice (some ⟨b, 0, none⟩) rs.length rc] 32)).alloc (.cells #[.slice none 0 0, .slice none 0 0] 32)).alloc (.cells #[] 63)).heap.size = w.heap.size + 3 := by simp
  have hS2 : ((w.alloc (.cells #[.slice (some ⟨a0, 0, none⟩) ys.length yc, .slice (some ⟨b, 0, none⟩) rs.length rc] 32)).alloc (.cells #[.slice none 0 0, .slice none 0 0] 32)).heap.size = w.heap.size + 2 := by simp
  rw [hS2] at ho
  obtain ⟨W, hW⟩ : ∃ W, (((w.alloc (.cells #[.slice (some ⟨a0, 0, none⟩) ys.length yc, .slice (some ⟨b, 0, none⟩) rs.length rc] 32)).alloc (.cells #[.slice none 0 0, .slice none 0 0] 32)).alloc (.cells #[] 63)) = W := ⟨_, rfl⟩
  rw [hW] at hb hA hRs ho hS
  have HYW : Hid (Row flP.c 3 W W.heap.size (some ⟨a0, 0, none⟩) ys) := hY.inn hb
  have HR : Hid (Row cR 1 w w.heap.size (some ⟨b, 0, none⟩) rs) := hR
  have HRS : Hid (∀ r ∈ rs, (∃ h, r.a = some ⟨h, 0, none⟩) ∧ Row flP.c 3 w w.heap.size r.a r.l) := hrs
  have HF : Hid (tb.Fit ys rs) := F
  have x0 : W.cell? ⟨w.heap.size, 0, none⟩ = some (.slice (some ⟨a0, 0, none⟩) ys.length yc) := bcell hA rfl
  have HA : Hid (W.heap[w.heap.size]? = some (.cells #[.slice (some ⟨a0, 0, none⟩) ys.length yc, .slice (some ⟨b, 0, none⟩) rs.length rc] 32 (0, 0))) := hA
  have HRES : Hid (W.heap[w.heap.size + 1]? = some (.cells #[.slice none 0 0, .slice none 0 0] 32 (0, 0))) := hRs
  have HO : Hid (W.ownsRow (w.heap.size + 2) 63 3 (.slice (some ⟨w.heap.size + 2, 0, none⟩) 0 0) 0 []) := ho
  clear hY hR hrs hA hRs ho F
  go_enter Try.func42, Try.ntmps42
  go_wp2_with (at_builtin; refine wpList_append_own _ rfl _ _ 29 rfl (w.heap.size + 2) 63 i0 (.agg #[.string ByteArray.empty, .string ByteArray.empty, .bool false]) 3 40 Try.underlying29 hi hz0 hz1 hz2 rfl (by decide) _ 0 [] rfl (by exact HO.out) ⟨a0, 0, none⟩ ys.length yc (ys.flatMap flP.c) rfl (flat_len flP.c_len ys) (by exact newsP HYW.out) (oneP ys) (by unfold maxLen; omega) (by omega) (by omega) ?_)
  intro v1 w1 hown1 hgrow1 hnil1
  obtain ⟨g1, c1, rfl⟩ : ∃ g1 c1, v1 = .slice (some ⟨g1, 0, none⟩) ys.length c1 := by
    obtain ⟨_, ⟨rfl, h0⟩ | ⟨g, cap, cur, e, _⟩⟩ := hown1
    · exfalso
      first | exact hnil1 rfl | (have := hnil1.1 rfl; cases this.1)
    · exact ⟨_, _, by simpa using e⟩
  have hgr1 : W.grownBy w1 (some (w.heap.size + 2)) := hgrow1
  have hs1 := hgr1.size
  have hb1 : Below w.heap.size w w1 := hb.grown hgr1 (by omega) (fun b hb => by cases hb; omega)
  have hX : St w ys rs a0 yc b rc w1.heap.size g1 c1 0 none 0 [] (w1.alloc (.cells #[.slice (some ⟨g1, 0, none⟩) ys.length c1, .slice none 0 0] 32)) := by
    refine ⟨hb1.alloc hb1.size _, bold ((hgr1.block _ (by omega) (by simp)).trans HA.out) _, bold ((hgr1.block _ (by omega) (by simp)).trans HRES.out) _, by omega, bnew w1 _ _, ?_, ⟨by simp, .inl ⟨rfl, rfl⟩⟩, rfl, fun r hr => by simp at hr⟩
    refine World.ownsRow.alloc ?_ _
    simpa using hown1
  have hsw := hX.big
  have HX : Hid (St w ys rs a0 yc b rc w1.heap.size g1 c1 0 none 0 [] (w1.alloc (.cells #[.slice (some ⟨g1, 0, none⟩) ys.length c1, .slice none 0 0] 32))) := hX
  clear hX hown1 hgrow1 hnil1 hgr1 HA HRES HO HYW x0 hW
  go_wp2
  obtain ⟨X, hXe⟩ : ∃ X, w1.alloc (.cells #[.slice (some ⟨g1, 0, none⟩) ys.length c1, .slice none 0 0] 32) = X := ⟨_, rfl⟩
  rw [hXe] at HX hsw ⊢
  obtain ⟨n3, hn3⟩ : ∃ n3, w1.heap.size = n3 := ⟨_, rfl⟩
  rw [hn3] at HX ⊢
  clear hXe hn3 hb1 hs1
  go_loopw [4] (fun x wr => ∃ (k : Nat) (va : Option Addr) (vc : Nat) (ks : List Rn), k ≤ rs.length ∧ x = .int .i64 k ∧ Hid (St w ys rs a0 yc b rc n3 g1 c1 k va vc ks wr)) (fun x _ => rs.length - (intOf x).toNat)
  case atStart => exact ⟨0, none, 0, [], Nat.zero_le _, rfl, HX⟩
  case round =>
    obtain ⟨k, va, vc, ks, hk, rfl, hinv⟩ := hrel
    clear HX hsw
    by_cases hkl : k < rs.length
    · have y1 : wr.cell? ⟨w.heap.size, 1, none⟩ = some (.slice (some ⟨b, 0, none⟩) rs.length rc) := bcell hinv.out.box rfl
      have hRw := HR.out.inn hinv.out.bel
      have hlen : ks.length = k := by
        have h1 := congrArg List.length hinv.out.same
        simp at h1
        omega
      have HG : Hid (rs[k]? = some rs[k]) := List.getElem?_eq_getElem hkl
      obtain ⟨⟨rh, hra⟩, hrow⟩ := HRS.out rs[k] (List.getElem_mem hkl)
      have hfr := HF.out.ro rs[k] (List.getElem_mem hkl)
      obtain ⟨⟨qa, qc, ql⟩, he⟩ : ∃ e, rs[k] = e := ⟨_, rfl⟩
      rw [he] at HG hrow hfr hra
      simp only at hra hrow hfr
      subst hra
      have HQ : Hid (Row flP.c 3 wr wr.heap.size (some ⟨rh, 0, none⟩) ql) := hrow.inn hinv.out.bel
      have hql := hfr.1
      obtain ⟨hbl, hbc⟩ : b < w.heap.size ∧ wr.cell? ⟨b, k, none⟩ = some (.slice (some ⟨rh, 0, none⟩) ql.length qc) := by
        have hRw := HR.out
        rcases hRw with h0 | ⟨b', off', hh, hlt, hc⟩
        · rw [h0] at hkl; simp at hkl
        · cases hh
          refine ⟨hlt, ?_⟩
          have := hc k _ HG.out 0 _ rfl
          rw [World.cell?_of_block (hinv.out.bel.block b hlt)]
          simpa using this
      have hAh := hinv.out.ah ql.length (ql.flatMap flP.c)
      have hlo := hinv.out.lo
      have hrb : ∀ x, (Value.slice va k vc).ownBlock = some x → w.heap.size + 2 ≤ x := fun x e => (hinv.out.runs.lt x e).1
      have n1 : w.heap.size ≠ n3 := by omega
      have n2 : (Value.slice va k vc).ownBlock ≠ some w.heap.size := fun e => by have := hrb _ e; omega
      have n3' : b ≠ n3 := by omega
      have n4 : (Value.slice va k vc).ownBlock ≠ some b := fun e => by have := hrb _ e; omega
      have i2 : (k : Int) < (rs.length : Int) := by omega
      have HAh : Hid (Ah ⟨wr, w.heap.size + 2, n3, .slice (some ⟨g1, 0, none⟩) ys.length c1, .slice va k vc, k, ks.flatMap cR, ql.length, ql.flatMap flP.c⟩) := hAh
      clear hAh he hrow hfr
      go_wp2
      refine dk.region_gsets (ws ⟨wr, w.heap.size + 2, n3, .slice (some ⟨g1, 0, none⟩) ys.length c1, .slice va k vc, k, ks.flatMap cR, ql.length, ql.flatMap flP.c⟩ w.heap.size b rs.length rc rh qc) [17, 18, 19, 20, 21, 22, 23, 24, 25, 26, 27, 28] (C ⟨wr, w.heap.size + 2, n3, .slice (some ⟨g1, 0, none⟩) ys.length c1, .slice va k vc, k, ks.flatMap cR, ql.length, ql.flatMap flP.c⟩) ⟨0, 0, 0, 0, .slice none 0 0⟩ (by kernel_rfl) (by kernel_rfl) (fun _ => rfl) (by kernel_rfl) (start _ _ HAh.out) ?each ?fin
      case each =>
        refine ⟨quiet (by decide) (by simp) (.pointer (some ⟨n3, 1, none⟩)) (by rintro s _ ⟨⟩; exact dk.sets_on _ (by simp) _ rfl) (fun s W h => by simp [execOp, go_sem, Act.eval, dk.sets_get, ws, List.lookup]), ?_⟩
        refine ⟨st1 (by simp) (by rintro s _ ⟨⟩; exact dk.sets_on _ (by simp) _ rfl) (fun s W h => by have c : W.cell? ⟨n3, 1, none⟩ = some (.slice va k vc) := bcell h rfl; simp [execOp, go_sem, Act.eval, dk.sets_get, ws, List.lookup, c]), ?_⟩
        refine ⟨st2 HAh.out (by simp) rfl rfl, ?_⟩
        refine ⟨quiet (by decide) (by simp) (.pointer (some ⟨w.heap.size, 1, none⟩)) (by rintro s _ ⟨⟩; exact dk.sets_on _ (by simp) _ rfl) (fun s W h => by simp [execOp, go_sem, Act.eval, dk.sets_get, ws, List.lookup]), ?_⟩
        refine ⟨quiet (by decide) (by simp) (.slice (some ⟨b, 0, none⟩) rs.length rc) (by rintro s _ ⟨⟩; exact dk.sets_on _ (by simp) _ rfl) (fun s W h => by have c : W.cell? ⟨w.heap.size, 1, none⟩ = some (.slice (some ⟨b, 0, none⟩) rs.length rc) := old_cell h n1 n2 y1; simp [execOp, go_sem, Act.eval, dk.sets_get, ws, List.lookup, c]), ?_⟩
        refine ⟨quiet (by decide) (by simp) (.int .i64 k) (by rintro s _ ⟨⟩; exact dk.sets_on _ (by simp) _ rfl) (fun s W h => by simp [execOp, go_sem, Act.eval, dk.sets_get, ws, List.lookup]), ?_⟩
        refine ⟨quiet (by decide) (by simp) (.pointer (some ⟨b, k, none⟩)) (by rintro s _ ⟨⟩; exact dk.sets_on _ (by simp) _ rfl) (fun s W h => by simp [execOp, go_sem, Act.eval, dk.sets_get, ws, List.lookup, i2]), ?_⟩
        refine ⟨quiet (by decide) (by simp) (.slice (some ⟨rh, 0, none⟩) ql.length qc) (by rintro s _ ⟨⟩; exact dk.sets_on _ (by simp) _ rfl) (fun s W h => by have c : W.cell? ⟨b, k, none⟩ = some (.slice (some ⟨rh, 0, none⟩) ql.length qc) := old_cell h n3' n4 hbc; simp [execOp, go_sem, Act.eval, dk.sets_get, ws, List.lookup, c]), ?_⟩
        refine ⟨st8 HAh.out hi hz0 hz1 hz2 rfl (by simp) rfl rfl (flat_len flP.c_len ql) (fun W hb => newsP (HQ.out.inn hb)) (oneP ql) hql ⟨⟨2, .data⟩, by simp, rfl, rfl⟩, ?_⟩
        refine ⟨st9 HAh.out (by simp) rfl rfl ⟨⟨8, .data⟩, by simp, rfl, rfl⟩, ?_⟩
        refine ⟨st10 HAh.out ki kz0 kz1 kz2 rfl (by simp) rfl rfl (by show k ≤ 1048576; omega) ⟨⟨9, .data⟩, by simp, rfl, rfl⟩ ⟨⟨1, .data⟩, by simp, rfl, rfl⟩, ?_⟩
        refine ⟨quiet (by decide) (by simp) (.pointer (some ⟨n3, 1, none⟩)) (by rintro s _ ⟨⟩; exact dk.sets_on _ (by simp) _ rfl) (fun s W h => by simp [execOp, go_sem, Act.eval, dk.sets_get, ws, List.lookup]), ?_⟩
        exact ⟨st12 HAh.out (by simp) (by simp) rfl (fun s W h hv => by obtain ⟨av, nv, cv, hv⟩ := hv; have c : W.cell? ⟨n3, 1, none⟩ = some (.slice va k vc) := bcell h rfl; have f := bfree h 1; rw [hv]; simp [execOp, go_sem, Act.eval, dk.sets_get, ws, List.lookup, c, f, hv]) ⟨⟨10, .data⟩, by simp, rfl, rfl⟩, trivial⟩
      case fin =>
        intro g L W2 hL hC
        obtain ⟨d1, d2, d3, d4⟩ := done hC hL
        obtain ⟨va', vc', ks', hv2, hst⟩ := hinv.out.step HG.out d1 d2 d3 d4
        have HN : Hid (St w ys rs a0 yc b rc n3 g1 c1 (k + 1) va' vc' ks' W2) := hst
        simp only [dk.sets, ws, hv2]
        clear hC hL d1 d2 d3 d4 hst
        go_wp2
        go_roundw
        all_goals first | exact ⟨k + 1, va', vc', ks', by omega, by go_num, HN⟩ | (simp [intOf]; omega)
    · obtain rfl : k = rs.length := by omega
      have y1 : wr.cell? ⟨w.heap.size, 1, none⟩ = some (.slice (some ⟨b, 0, none⟩) rs.length rc) := bcell hinv.out.box rfl
      have u0 : wr.cell? ⟨n3, 0, none⟩ = some (.slice (some ⟨g1, 0, none⟩) ys.length c1) := bcell hinv.out.out rfl
      have u1 : wr.cell? ⟨n3, 1, none⟩ = some (.slice va rs.length vc) := bcell hinv.out.out rfl
      have r0 : wr.cell? ⟨w.heap.size + 1, 0, none⟩ = some (.slice none 0 0) := bcell hinv.out.res rfl
      have r1 : wr.cell? ⟨w.heap.size + 1, 1, none⟩ = some (.slice none 0 0) := bcell hinv.out.res rfl
      have f0 := bfree hinv.out.res 0
      have f1 := bfree hinv.out.res 1
      clear hkl hk
      go_wp2
      have kept : ∀ (B : Nat) (T : TypeId) (s : Nat) v n xs, w.heap.size + 2 ≤ B → wr.ownsRow B T s v n xs → ((wr.setCell ⟨w.heap.size + 1, 0, none⟩ (.slice (some ⟨g1, 0, none⟩) ys.length c1)).setCell ⟨w.heap.size + 1, 1, none⟩ (.slice va rs.length vc)).ownsRow B T s v n xs := fun B T s v n xs hB h => own_set (own_set h (by omega)) (by omega)
      refine bodyPost_ret (v := .agg #[.slice (some ⟨g1, 0, none⟩) ys.length c1, .slice va rs.length vc]) (by simp [results, Try.results42, go_sem, r0, r1]) rfl ⟨g1, c1, va, vc, ks, rfl, kept _ _ _ _ _ _ (Nat.le_refl _) hinv.out.fresh, kept _ _ _ _ _ _ (Nat.le_refl _) hinv.out.runs, by rw [hinv.out.same, List.take_length], fun r hr => kept _ _ _ _ _ _ (Nat.le_refl _) (hinv.out.rows r hr), ?_⟩
      exact (hinv.out.bel.setCell (Nat.le_succ _) _).setCell (Nat.le_succ _) _
end Go.Proofs.Ytfoajjkcocppeaa.sct
