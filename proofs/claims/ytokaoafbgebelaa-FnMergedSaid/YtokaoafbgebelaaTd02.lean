/- layersOf: the pairs that are being written and the runs, in one list; slices.Concat and slices.Grow at such lists. -/
import Derived.Test.YtokaoafbgebelaaTd01
import Derived.Laws.Append
import Derived.Laws.CopyRow
import Derived.Test.YtokaoafbgebelaaAppendAny
import Derived.Test.YtokaoafbgebelaaTabOk
import Derived.Maps.AppendAt
import Derived.Deep.DeepAppendWide

/- append(s, make(S, n)...) where it must grow: a new row with s's cells, then zero values. -/
namespace Go.Proofs.Ytokaoafbgebelaa.az
open Go.RowKit
set_option linter.unusedVariables false

theorem wrap_nat {n : Nat} (h : (n : Int) ≤ 9223372036854775807) : IntKind.i64.wrap (n : Int) = (n : Int) := by
  have h0 : (0 : Int) ≤ (n : Int) := by omega
  generalize (n : Int) = m at *
  simp [IntKind.wrap, IntKind.signed, IntKind.bits]
  omega
theorem run_append_zeros {P : Program} (w : World) (t u ty e : TypeId) (i : TypeInfo) (z : Value) (ht : P.underlying t = some (.slice e)) (hu : P.underlying u = some (.int .i64)) (hi : P.info? e = some i) (hz : i.zero = some z)
    (b : Addr) (sLen sCap : Nat) (olds : List Value) (hlo : olds.length = sLen * i.size) (holds : ∀ j v, olds[j]? = some v → w.cell? (b.add j) = some v)
    (n : Nat) (hn0 : n * i.size ≠ 0) (hg : sCap < sLen + n) (h63 : ((sLen + n : Nat) : Int) ≤ 9223372036854775807) (hby : ((n : Int) * (i.bytes : Int)) ≤ 281474976710656) (hfit : Builtin.nextslicecap (sLen + n) sCap * i.bytes ≤ 281474976710656) :
    (Builtin.append_ #[t, u] ty #[.slice (some b) sLen sCap, .int .i64 n]).run P w =
      .ok (.slice (some ⟨w.heap.size, 0, none⟩) (sLen + n) (grownCap w (sLen + n) sCap e))
        (w.drew.alloc (.cells (olds.toArray ++ Builtin.zeroCells z.cells n ++ Builtin.zeroCells z.cells (grownCap w (sLen + n) sCap e - (sLen + n))) e)) := by
  have hn : ¬ (sLen + n ≤ sCap) := by omega
  have h63' : ¬ (9223372036854775807 < ((sLen : Int) + (n : Int))) := by omega
  have h48' : ¬ (281474976710656 < Builtin.nextslicecap (sLen + n) sCap * i.bytes) := by omega
  have hby' : ¬ (281474976710656 < ((n : Int) * (i.bytes : Int))) := by omega
  have hw := wrap_nat (n := n) (by omega)
  have hn1 : ¬ ((n : Int) < 0) := by omega
  have hfo := run_firstCells_some (P := P) w.drew i.size sLen b sLen sCap olds hlo (by simpa using holds)
  simp [Builtin.append_, run_underlying ht, run_underlying hu, sizeOf, typeInfo, zeroValue, hi, hz, asInt, asIntOf, hw, hn, hn1, hby', h63', h48', hn0, Question.forced, hfo, newRow, grownCap]
end Go.Proofs.Ytokaoafbgebelaa.az

/- copy at rows of structures, and the ways that copy and append(s, make(S, n)...) go in a walk. -/
namespace Go.Proofs.Ytokaoafbgebelaa.cpr
open Go.RowKit
set_option linter.unusedVariables false

theorem run_copy_rows {P : Program} (w : World) (dT sT ty elem : TypeId) (i : TypeInfo) (g o dLen dCap : Nat) (a : Addr) (sLen sCap : Nat) (cur : Array Value) (t : TypeId) (cs : List Value)
    (hu : P.underlying dT = some (.slice elem)) (hi : P.info? elem = some i)
    (hg : w.heap[g]? = some (.cells cur t (0, 0))) (hn : cs.length = Nat.min sLen dLen * i.size)
    (hsrc : ∀ j v, cs[j]? = some v → w.cell? (a.add j) = some v) (hfit : o + cs.length ≤ cur.size) (h1 : ∀ v ∈ cs, v.oneCell' = true) :
    (Builtin.copy_ #[dT, sT] ty #[.slice (some ⟨g, o, none⟩) dLen dCap, .slice (some a) sLen sCap]).run P w =
      .ok (goInt (Nat.min sLen dLen)) (w.setRow g (cur.toList.take o ++ cs ++ cur.toList.drop (o + cs.length)).toArray) := by
  have hl := run_loadCells_list (P := P) w a cs hsrc
  have hst := run_storeCells_at P g o t cs 0 cur w hg (by simpa using hfit) h1
  simp [Builtin.copy_, run_underlying hu, Builtin.lenOf, Builtin.firstCells, sizeOf, typeInfo, hi, ← hn, hl, hst]
theorem wpList_copy_run {P : Program} {w w' : World} {ops : Array Oper} {rest : List Oper} {o : Oper} {a : Act} {Q : Exit → Act → World → Prop} (hgd : o.guard = none) (d s : Operand) (t t' : TypeId)
    (ho : o.op = .call { callee := .builtin .copy, args := #[d, s], argTypes := #[t, t'] }) (dv sv v : Value) (hd : a.eval d = dv) (hs : a.eval s = sv) (hrun : (Builtin.copy_ #[t, t'] o.type #[dv, sv]).run P w = .ok v w')
    (h : wpList P ops Q rest (a.put o.dst v) w') : wpList P ops Q (o :: rest) a w := by
  refine wpList_plain hgd fun K hK => ?_
  unfold Oper.wp
  simp [execOp, ho, resolve, invoke, builtin, hd, hs, hrun, Result.andThen]
  exact hK _ _ h
theorem wpList_append_run {P : Program} {w w' : World} {ops : Array Oper} {rest : List Oper} {o : Oper} {a : Act} {Q : Exit → Act → World → Prop} (hgd : o.guard = none) (d s : Operand) (t t' : TypeId)
    (ho : o.op = .call { callee := .builtin .append, args := #[d, s], argTypes := #[t, t'] }) (dv sv v : Value) (hd : a.eval d = dv) (hs : a.eval s = sv) (hrun : (Builtin.append_ #[t, t'] o.type #[dv, sv]).run P w = .ok v w')
    (h : wpList P ops Q rest (a.put o.dst v) w') : wpList P ops Q (o :: rest) a w := by
  refine wpList_plain hgd fun K hK => ?_
  unfold Oper.wp
  simp [execOp, ho, resolve, invoke, builtin, hd, hs, hrun, Result.andThen]
  exact hK _ _ h
theorem lastv {P : Program} {fin : Act} {D : Bool → World → Prop} {k : Nat} {o : Oper} (v : Value) (hd : ∀ d, o.dst = some d → fin.tmps[d]? = some v) (hrun : ∀ W, D false W → ∃ W', (execOp fin.eval o).run P W = .ok (.value v) W' ∧ D true W') : dn.Step P fin (dk.Cl D k) k o := by
  intro L W _ h0 hC
  have hC' : D false W := by unfold dk.Cl at hC; rw [h0] at hC; exact hC
  obtain ⟨W', h1, h2⟩ := hrun W hC'
  refine ⟨v, hd, ?_⟩
  rw [h1]
  exact ⟨rfl, by unfold dk.Cl dn.more; rw [if_pos rfl]; exact h2⟩
end Go.Proofs.Ytokaoafbgebelaa.cpr

/- layersOf: the pairs that are being written and the runs, in one list; slices.Concat and slices.Grow at such lists. -/
namespace Go.Proofs.Ytokaoafbgebelaa.ly
open Go.ChangeShapes Go.WideShapes Go.ChangeAt Go.RowKit Go.Proofs.Ytokaoafbgebelaa.fl Go.Proofs.Ytokaoafbgebelaa.rn
set_option linter.unusedVariables false

theorem run_zeros_nil {P : Program} (w : World) (t u ty e : TypeId) (i : TypeInfo) (z : Value) (ht : P.underlying t = some (.slice e)) (hu : P.underlying u = some (.int .i64)) (hi : P.info? e = some i) (hz : i.zero = some z)
    (n : Nat) (hn0 : n * i.size ≠ 0) (h63 : ((n : Nat) : Int) ≤ 9223372036854775807) (hby : ((n : Int) * (i.bytes : Int)) ≤ 281474976710656) (hfit : Builtin.nextslicecap n 0 * i.bytes ≤ 281474976710656) :
    (Builtin.append_ #[t, u] ty #[.slice none 0 0, .int .i64 n]).run P w =
      .ok (.slice (some ⟨w.heap.size, 0, none⟩) n (grownCap w n 0 e))
        (w.drew.alloc (.cells (Builtin.zeroCells z.cells n ++ Builtin.zeroCells z.cells (grownCap w n 0 e - n)) e)) := by
  have hn : ¬ (n = 0) := fun e => hn0 (by rw [e]; simp)
  have h63' : ¬ (9223372036854775807 < (n : Int)) := by omega
  have h48' : ¬ (281474976710656 < Builtin.nextslicecap n 0 * i.bytes) := by omega
  have hby' : ¬ (281474976710656 < ((n : Int) * (i.bytes : Int))) := by omega
  have hw := az.wrap_nat (n := n) (by omega)
  have hn1 : ¬ ((n : Int) < 0) := by omega
  simp [Builtin.append_, run_underlying ht, run_underlying hu, sizeOf, typeInfo, zeroValue, hi, hz, asInt, asIntOf, hw, hn, hn1, hby', h63', h48', hn0, Question.forced, newRow, grownCap, Builtin.firstCells]
theorem infoR : ∃ i0, Try.prog.info? 24 = some i0 ∧ i0.zero = some (.slice none 0 0) ∧ i0.size = 1 ∧ i0.bytes = 24 := by
  have h := rn.info
  cases hh : Try.prog.info? 24 with
  | none => rw [hh] at h; cases h
  | some i => rw [hh] at h; simp at h; exact ⟨i, rfl, h.1, h.2.1, h.2.2⟩
set_option maxRecDepth 100000 in
theorem grow_nil (n : Nat) (w : World) (h1 : 1 ≤ n) (hn : n ≤ 2000000) :
    Calls Try.prog 73 #[.slice none 0 0, .int .i64 n] w fun e w' => ∃ c, e = .returned (.slice (some ⟨w.heap.size, 0, none⟩) 0 c) ∧ w'.ownsRow w.heap.size 24 1 (.slice (some ⟨w.heap.size, 0, none⟩) 0 c) 0 [] ∧ Below w.heap.size w w' := by
  obtain ⟨i0, hi, hz0, hz1, hz2⟩ := infoR
  have hz := fun ty => run_zeros_nil (P := Try.prog) w 25 3 ty 24 i0 _ Try.underlying25 Try.underlying3 hi hz0 n (by rw [hz1]; omega) (by omega) (by rw [hz2]; omega) (by rw [hz2]; exact growslice_fits_wide (by omega) (by omega))
  have hG1 := grownCap_ge w n 0 24
  have hG2 := grownCap_le_maxLen w n 0 24 (by unfold maxLen; omega)
  obtain ⟨G, hG⟩ : ∃ G, grownCap w n 0 24 = G := ⟨_, rfl⟩
  rw [hG] at hz hG1 hG2
  have i1 : decide ((0 : Int) < (n : Int)) = true := by simp; omega
  have hsz : (Builtin.zeroCells #[Value.slice none 0 0] n ++ Builtin.zeroCells #[Value.slice none 0 0] (G - n)).size = G * 1 := by simp [size_zeroCells]; omega
  have hz : ∀ ty, (Builtin.append_ #[25, 3] ty #[.slice none 0 0, .int .i64 n]).run Try.prog w = .ok (.slice (some ⟨w.heap.size, 0, none⟩) n G) (w.drew.alloc (.cells (Builtin.zeroCells #[Value.slice none 0 0] n ++ Builtin.zeroCells #[Value.slice none 0 0] (G - n)) 24)) := hz
  obtain ⟨zc, hzc⟩ : ∃ zc, Builtin.zeroCells #[Value.slice none 0 0] n ++ Builtin.zeroCells #[Value.slice none 0 0] (G - n) = zc := ⟨_, rfl⟩
  rw [hzc] at hz hsz
  clear hzc hG
  go_enter Try.func73, Try.ntmps73
  go_wp2_with (at_builtin; refine cpr.wpList_append_run rfl _ _ 25 3 rfl _ _ _ rfl rfl (hz _) ?_)
  go_ret
  refine ⟨G, rfl, ⟨by simp, .inr ⟨w.heap.size, G, zc, rfl, Nat.le_refl _, bnew w zc 24, Nat.zero_le _, hG2, hsz, by simp⟩⟩, ?_⟩
  exact ((Below.refl _ _).alloc (Nat.le_refl _) _).drew

theorem newsR {w : World} {q : Addr} {rs : List Rn} (h : Row cR 1 w w.heap.size (some q) rs) : ∀ (j : Nat) (u : Value), (rs.flatMap cR)[j]? = some u → w.cell? (q.add j) = some u := fun j u hu => by
  obtain ⟨i, e, r, h1, h2, rfl⟩ := flat_get cR_len rs j u hu
  rcases h with rfl | ⟨b, off, hq, hlt, hc⟩
  · simp at h1
  · cases hq
    have := hc i e h1 r u h2
    rw [show (⟨b, off, none⟩ : Addr).add (i * 1 + r) = ⟨b, off + i * 1 + r, none⟩ by unfold Addr.add; split <;> simp_all [Nat.add_assoc]]
    exact this
theorem oneR (rs : List Rn) : ∀ u ∈ rs.flatMap cR, u.oneCell' = true := fun u hu => by
  obtain ⟨e, _, he⟩ := List.mem_flatMap.1 hu
  simp [cR] at he
  subst he
  rfl
theorem form_pos {W : World} {B n s : Nat} {U : TypeId} {v : Value} {xs : List Value} (h : W.ownsRow B U s v n xs) (hn : 0 < n) : ∃ g cap, v = .slice (some ⟨g, 0, none⟩) n cap := by
  obtain ⟨_, ⟨_, h0⟩ | ⟨g, cap, cur, rfl, _⟩⟩ := h
  · omega
  · exact ⟨g, cap, rfl⟩
theorem newsRN {w : World} {a : Option Addr} {q : Addr} {c : Nat} {rs : List Rn} (hn : apa.NQ a q rs.length c) (h : Row cR 1 w w.heap.size a rs) : ∀ (j : Nat) (u : Value), (rs.flatMap cR)[j]? = some u → w.cell? (q.add j) = some u := fun j u hu => by
  have hl : 0 < rs.length := by
    rcases Nat.eq_zero_or_pos rs.length with h0 | h0
    · rw [List.length_eq_zero_iff.1 h0] at hu; simp at hu
    · exact h0
  have hq := hn.at hl
  subst hq
  exact newsR h j u hu
set_option maxRecDepth 100000 in
set_option maxHeartbeats 1000000 in
theorem concat (ys : List flP.Pr) (rs : List Rn) (ya ra : Option Addr) (q : Addr) (yc rc n5 n8 : Nat) (w : World) (hRQ : apa.NQ ra q rs.length rc) (hrl : rs.length ≤ 1048576) (hR : Row cR 1 w w.heap.size ra rs) (h5 : w.heap[n5]? = some (.cells #[.slice ya ys.length yc] 24 (0, 0))) (h8 : w.heap[n8]? = some (.cells #[.slice (some ⟨n5, 0, none⟩) 1 1, .slice ra rs.length rc] 25 (0, 0))) :
    Calls Try.prog 60 #[.slice (some ⟨n8, 0, none⟩) 2 2] w fun e w' => ∃ g c, e = .returned (.slice (some ⟨g, 0, none⟩) (rs.length + 1) c) ∧ w'.ownsRow w.heap.size 24 1 (.slice (some ⟨g, 0, none⟩) (rs.length + 1) c) (rs.length + 1) ((⟨ya, yc, ys⟩ :: rs : List Rn).flatMap cR) ∧ Below w.heap.size w w' := by
  obtain ⟨i0, hi, hz0, hz1, hz2⟩ := infoR
  have x0 : w.cell? ⟨n8, 0, none⟩ = some (.slice (some ⟨n5, 0, none⟩) 1 1) := bcell h8 rfl
  have x1 : w.cell? ⟨n8, 1, none⟩ = some (.slice ra rs.length rc) := bcell h8 rfl
  have hgr := grow_nil (rs.length + 1) w (by omega) (by omega)
  have e1 : ((rs.length + 1 : Nat) : Int) = 1 + (rs.length : Int) := by omega
  rw [e1] at hgr
  clear e1
  have HR : Hid (Row cR 1 w w.heap.size ra rs) := hR
  have H5 : Hid (w.heap[n5]? = some (.cells #[.slice ya ys.length yc] 24 (0, 0))) := h5
  have H8 : Hid (w.heap[n8]? = some (.cells #[.slice (some ⟨n5, 0, none⟩) 1 1, .slice ra rs.length rc] 25 (0, 0))) := h8
  clear hR h5 h8
  go_enter Try.func60, Try.ntmps60
  go_wp2
  refine wp_loop_rounds 3 ?_
  rw [rounds_succ]
  go_wp2
  rw [rounds_succ]
  go_wp2
  rw [rounds_succ]
  go_wp2_with (go_at_call 73; fail)
  refine hgr.mono ?_
  rintro e w1 ⟨c, rfl, ho1, hb1⟩
  have y0 : w1.cell? ⟨n8, 0, none⟩ = some (.slice (some ⟨n5, 0, none⟩) 1 1) := bcell (bstay H8.out hb1 (Array.getElem?_eq_some_iff.1 H8.out).1) rfl
  have m0 : w1.cell? ⟨n5, 0, none⟩ = some (.slice ya ys.length yc) := bcell (bstay H5.out hb1 (Array.getElem?_eq_some_iff.1 H5.out).1) rfl
  have hn1 : ∀ (j : Nat) (u : Value), [Value.slice ya ys.length yc][j]? = some u → w1.cell? ((⟨n5, 0, none⟩ : Addr).add j) = some u := fun j u hu => by
    match j, hu with
    | 0, hu => cases hu; simpa [Addr.add] using m0
    | j + 1, hu => simp at hu
  have HO1 : Hid (w1.ownsRow w.heap.size 24 1 (.slice (some ⟨w.heap.size, 0, none⟩) 0 c) 0 []) := ho1
  have hs1 := hb1.size
  clear hgr ho1 x0 x1
  go_wp2
  refine wp_loop_rounds 3 ?_
  rw [rounds_succ]
  go_wp2_with (at_builtin; refine wpList_append_own _ rfl _ _ 25 rfl w.heap.size 24 i0 (.slice none 0 0) 1 24 Try.underlying25 hi hz0 hz1 hz2 rfl (by decide) _ 0 [] rfl (by exact HO1.out) ⟨n5, 0, none⟩ 1 1 [Value.slice ya ys.length yc] rfl rfl (by exact hn1) (by intro u hu; simp at hu; subst hu; rfl) (by unfold maxLen; omega) (by omega) (by omega) ?_)
  intro v2 w2 hown2 hgrow2 _
  obtain ⟨g2, c2, rfl⟩ := form_pos hown2 (by omega)
  have hb2 : Below w.heap.size w w2 := hb1.grown hgrow2 hs1 (fun b hb => (HO1.out.lt b hb).1)
  have y1 : w2.cell? ⟨n8, 1, none⟩ = some (.slice ra rs.length rc) := bcell (bstay H8.out hb2 (Array.getElem?_eq_some_iff.1 H8.out).1) rfl
  have HO2 : Hid (w2.ownsRow w.heap.size 24 1 (.slice (some ⟨g2, 0, none⟩) 1 c2) 1 [Value.slice ya ys.length yc]) := hown2
  have HN2 : Hid (Row cR 1 w2 w2.heap.size ra rs) := HR.out.inn hb2
  have hs2 := hb2.size
  clear hown2 hgrow2 y0 m0 hn1 HO1
  go_wp2
  rw [rounds_succ]
  go_wp2_with (at_builtin; refine apa.wpList_append_any _ rfl _ _ 25 rfl w.heap.size 24 i0 (.slice none 0 0) 1 24 Try.underlying25 hi hz0 hz1 hz2 rfl (by decide) _ 1 [Value.slice ya ys.length yc] rfl (by exact HO2.out) ra q rs.length rc hRQ (rs.flatMap cR) rfl (flat_len cR_len rs) (by exact newsRN hRQ HN2.out) (oneR rs) (by unfold maxLen; omega) (by omega) (by omega) ?_)
  intro v3 w3 hown3 hgrow3 _
  obtain ⟨g3, c3, rfl⟩ := form_pos hown3 (by omega)
  have hb3 : Below w.heap.size w w3 := hb2.grown hgrow3 hs2 (fun b hb => (HO2.out.lt b hb).1)
  rw [show 1 + rs.length = rs.length + 1 by omega] at hown3 ⊢
  have HO3 : Hid (w3.ownsRow w.heap.size 24 1 (.slice (some ⟨g3, 0, none⟩) (rs.length + 1) c3) (rs.length + 1) ((⟨ya, yc, ys⟩ :: rs : List Rn).flatMap cR)) := hown3
  clear hown3 hgrow3 y1 HO2 HN2
  go_wp2
  rw [rounds_succ]
  go_wp2
  go_ret
  exact ⟨g3, c3, rfl, HO3.out, hb3⟩

set_option maxRecDepth 100000 in
theorem layers (ys : List flP.Pr) (rs : List Rn) (ya ra : Option Addr) (yc rc : Nat) (w : World) (q : Addr) (hRQ : apa.NQ ra q rs.length rc) (F : tb.Fit ys rs) (hY : Row flP.c 3 w w.heap.size ya ys) (hR : VR w w.heap.size ra rs) :
    Calls Try.prog 37 #[.agg #[.slice ya ys.length yc, .slice ra rs.length rc]] w fun e w' => ∃ g c, e = .returned (.slice (some ⟨g, 0, none⟩) (rs.length + 1) c) ∧ VR w' w'.heap.size (some ⟨g, 0, none⟩) (⟨ya, yc, ys⟩ :: rs) ∧ Below w.heap.size w w' := by
  have hA := bold (bold (bnew w #[.slice ya ys.length yc, .slice ra rs.length rc] 27) (.cells #[.slice ya ys.length yc] 24)) (.cells #[.slice (some ⟨w.heap.size + 1, 0, none⟩) 1 1, .slice ra rs.length rc] 25)
  have h5 := bold (bnew (w.alloc (.cells #[.slice ya ys.length yc, .slice ra rs.length rc] 27)) #[.slice ya ys.length yc] 24) (.cells #[.slice (some ⟨w.heap.size + 1, 0, none⟩) 1 1, .slice ra rs.length rc] 25)
  have h8 := bnew ((w.alloc (.cells #[.slice ya ys.length yc, .slice ra rs.length rc] 27)).alloc (.cells #[.slice ya ys.length yc] 24)) #[.slice (some ⟨w.heap.size + 1, 0, none⟩) 1 1, .slice ra rs.length rc] 25
  have hb : Below w.heap.size w (((w.alloc (.cells #[.slice ya ys.length yc, .slice ra rs.length rc] 27)).alloc (.cells #[.slice ya ys.length yc] 24)).alloc (.cells #[.slice (some ⟨w.heap.size + 1, 0, none⟩) 1 1, .slice ra rs.length rc] 25)) := (((Below.refl _ _).alloc (Nat.le_refl _) _).alloc (by simp) _).alloc (by simp; omega) _
  rw [World.size_alloc] at h5
  rw [World.size_alloc, World.size_alloc] at h8
  have hc := concat ys rs ya ra q yc rc (w.heap.size + 1) (w.heap.size + 1 + 1) _ hRQ F.rl (hR.1.inn hb) h5 h8
  have HY : Hid (Row flP.c 3 w w.heap.size ya ys) := hY
  have HR : Hid (VR w w.heap.size ra rs) := hR
  clear hY hR h5 h8 hA
  go_enter Try.func37, Try.ntmps37
  go_wp2_with (go_at_call 60; fail)
  refine hc.mono ?_
  rintro e w1 ⟨g, c, rfl, ho, hb1⟩
  have hbw : Below w.heap.size w w1 := hb.trans (hb1.mono hb.size)
  have HO : Hid (Row cR 1 w1 w1.heap.size (some ⟨g, 0, none⟩) (⟨ya, yc, ys⟩ :: rs)) := by
    have ho' : w1.ownsRow _ 24 1 (.slice (some ⟨g, 0, none⟩) (rs.length + 1) c) (⟨ya, yc, ys⟩ :: rs : List Rn).length ((⟨ya, yc, ys⟩ :: rs : List Rn).flatMap cR) := ho
    obtain ⟨a, cap, hv, hr⟩ := own_row cR_len ho'
    cases hv
    exact hr
  clear hc ho
  go_wp2
  go_ret
  exact ⟨g, c, rfl, ⟨HO.out, fun r hr => by
    rcases List.mem_cons.1 hr with rfl | hr
    · exact HY.out.inn hbw
    · exact (HR.out.2 r hr).inn hbw⟩, hbw⟩
end Go.Proofs.Ytokaoafbgebelaa.ly
