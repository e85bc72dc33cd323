/- Where a pair goes in a run, the run behind it, and what a put answers. -/
import Derived.Test.YtoemkbooomgieaaGreatDoorDw02
import Derived.Test.YtoemkbooomgieaaGreatDoorDw03
import Derived.Test.YtoemkbooomgieaaGreatDoorAppendAny
import Derived.Test.YtoemkbooomgieaaGreatDoorFlPair
import Derived.Test.YtoemkbooomgieaaGreatDoorTextOrd
import Derived.Test.YtoemkbooomgieaaGreatDoorTabOk

/- The specification's l09Copy, and StoreSync on both sides. -/
namespace Go.Proofs.YtoemkbooomgieaaGreatDoor.ssy
open Go.ChangeShapes Go.WideShapes Go.ChangeAt Go.RowKit Go.Proofs.YtoemkbooomgieaaGreatDoor.fl Go.Proofs.YtoemkbooomgieaaGreatDoor.fo Go.Proofs.YtoemkbooomgieaaGreatDoor.rn Go.Proofs.YtoemkbooomgieaaGreatDoor.tan Go.Proofs.YtoemkbooomgieaaGreatDoor.sct Go.Proofs.YtoemkbooomgieaaGreatDoor.scp
set_option linter.unusedVariables false

def ansY (ys : List flP.Pr) (R : List (List flP.Pr)) (lg : ByteArray) (sf : Int) : List flP.Pr := ys
def ansR (ys : List flP.Pr) (R : List (List flP.Pr)) (lg : ByteArray) (sf : Int) : List (List flP.Pr) := R
theorem CT.ta {W : World} {B : Nat} {ys : List flP.Pr} {rs : List Rn} {g h : Nat} {ks : List Rn} (c : CT W B ys rs g h ks) : TA W B (some ⟨g, 0, none⟩) (some ⟨h, 0, none⟩) ys ks := by
  have hl : ks.length = rs.length := by have := congrArg List.length c.map; simpa using this
  exact of_own_runs (B' := B) c.own (by rw [hl]; exact c.orr) c.gB c.hB (Nat.le_refl _) c.ne
/-- a copy of the specification's: its rows -/
structure SC (W : World) (B : Nat) (ys : List flP.Pr) (rs : List Rn) (g1 c1 : Nat) (va : Option Addr) (vc : Nat) (ks : List Rn) : Prop where
  fresh : W.ownsRow B 61 3 (.slice (some ⟨g1, 0, none⟩) ys.length c1) ys.length (ys.flatMap flP.c)
  runs : W.ownsRow B 28 1 (.slice va rs.length vc) rs.length (ks.flatMap cR)
  map : ks.map (·.l) = rs.map (·.l)
  rows : ∀ r ∈ ks, OwnR W B r
theorem SC.set {W : World} {B : Nat} {ys : List flP.Pr} {rs : List Rn} {g1 c1 : Nat} {va : Option Addr} {vc : Nat} {ks : List Rn} (c : SC W B ys rs g1 c1 va vc ks) {b : Nat} (hb : b < B) (o : Nat) (v : Value) : SC (W.setCell ⟨b, o, none⟩ v) B ys rs g1 c1 va vc ks :=
  ⟨own_set c.fresh hb, own_set c.runs hb, c.map, fun r hr => own_set (c.rows r hr) hb⟩
theorem SC.low {W : World} {B B' : Nat} {ys : List flP.Pr} {rs : List Rn} {g1 c1 : Nat} {va : Option Addr} {vc : Nat} {ks : List Rn} (c : SC W B ys rs g1 c1 va vc ks) (hb : B' ≤ B) : SC W B' ys rs g1 c1 va vc ks :=
  ⟨own_low c.fresh hb, own_low c.runs hb, c.map, fun r hr => own_low (c.rows r hr) hb⟩
theorem SC.on {W W' : World} {B : Nat} {ys : List flP.Pr} {rs : List Rn} {g1 c1 : Nat} {va : Option Addr} {vc : Nat} {ks : List Rn} (c : SC W B ys rs g1 c1 va vc ks) (hb : Below W.heap.size W W') : SC W' B ys rs g1 c1 va vc ks := by
  have hg : W.grownBy W' none := ⟨hb.os, hb.tape, hb.output, hb.size, fun k hk _ => hb.block k hk⟩
  exact ⟨c.fresh.kept hg (by simp [Value.ownBlock]), c.runs.kept hg (by cases (Value.slice va rs.length vc).ownBlock <;> simp), c.map, fun r hr => (c.rows r hr).kept hg (by cases (Value.slice r.a r.l.length r.c).ownBlock <;> simp)⟩
theorem SC.len {W : World} {B : Nat} {ys : List flP.Pr} {rs : List Rn} {g1 c1 : Nat} {va : Option Addr} {vc : Nat} {ks : List Rn} (c : SC W B ys rs g1 c1 va vc ks) : rs.length = ks.length := by have := congrArg List.length c.map; simpa using this.symm
theorem SC.vr {W : World} {B : Nat} {ys : List flP.Pr} {rs : List Rn} {g1 c1 : Nat} {va : Option Addr} {vc : Nat} {ks : List Rn} (c : SC W B ys rs g1 c1 va vc ks) : Row flP.c 3 W W.heap.size (some ⟨g1, 0, none⟩) ys ∧ VR W W.heap.size va ks := fls.rows_of (n := 0) c.len c.fresh c.runs c.rows

set_option maxRecDepth 100000 in
set_option maxHeartbeats 2000000 in
theorem impl_sync (ys : List flP.Pr) (rs : List Rn) (ya ra : Option Addr) (yc rc : Nat) (lg : ByteArray) (sf : Int) (w : World) (F : tb.Fit ys rs) (hlg : lg.size ≤ 1048576) (hY : Row flP.c 3 w w.heap.size ya ys) (hR : VR w w.heap.size ra rs) :
    Calls Tryz.prog 7 #[.agg #[.slice ya ys.length yc, .slice ra rs.length rc, .string lg, .int .i64 sf]] w fun e w' => ∃ sa sc ta tc ks, e = .returned (.agg #[.slice sa (ansY ys (rs.map (·.l)) lg sf).length sc, .slice ta (ansR ys (rs.map (·.l)) lg sf).length tc, .string lg, .int .i64 (lg.size : Int)]) ∧ (((ansY ys (rs.map (·.l)) lg sf).length ≤ sc ∧ ta.isSome = true ∧ ∀ r ∈ ks, r.l.length ≤ r.c) ∧ ks.map (·.l) = ansR ys (rs.map (·.l)) lg sf) ∧ TA w' w.heap.size sa ta (ansY ys (rs.map (·.l)) lg sf) ks ∧ Below w.heap.size w w' := by
  unfold ansY ansR
  simp only [List.length_map]
  have hb : Below w.heap.size w ((w.alloc (.cells #[.slice ya ys.length yc, .slice ra rs.length rc, .string lg, .int .i64 sf] 32)).alloc (.cells #[.slice none 0 0, .slice none 0 0, .string ⟨#[]⟩, .int .i64 0] 32)) := ((Below.refl _ _).alloc (Nat.le_refl _) _).alloc (by simp) _
  have hA := bold (bnew w #[.slice ya ys.length yc, .slice ra rs.length rc, .string lg, .int .i64 sf] 32) (.cells #[.slice none 0 0, .slice none 0 0, .string ⟨#[]⟩, .int .i64 0] 32)
  have hRs := bnew (w.alloc (.cells #[.slice ya ys.length yc, .slice ra rs.length rc, .string lg, .int .i64 sf] 32)) #[.slice none 0 0, .slice none 0 0, .string ⟨#[]⟩, .int .i64 0] 32
  rw [World.size_alloc] at hRs
  obtain ⟨W, hW⟩ : ∃ W, ((w.alloc (.cells #[.slice ya ys.length yc, .slice ra rs.length rc, .string lg, .int .i64 sf] 32)).alloc (.cells #[.slice none 0 0, .slice none 0 0, .string ⟨#[]⟩, .int .i64 0] 32)) = W := ⟨_, rfl⟩
  have hsW : W.heap.size = w.heap.size + 2 := by rw [← hW]; simp
  rw [hW] at hb hA hRs
  have hcp := copy_store ys rs ya ra yc rc lg sf W F hlg (hY.inn hb) (hR.inn hb)
  have HRS : Hid (W.heap[w.heap.size + 1]? = some (.cells #[.slice none 0 0, .slice none 0 0, .string ⟨#[]⟩, .int .i64 0] 32 (0, 0))) := hRs
  have p0 : W.cell? ⟨w.heap.size, 0, none⟩ = some (.slice ya ys.length yc) := bcell hA rfl
  have p1 : W.cell? ⟨w.heap.size, 1, none⟩ = some (.slice ra rs.length rc) := bcell hA rfl
  have p2 : W.cell? ⟨w.heap.size, 2, none⟩ = some (.string lg) := bcell hA rfl
  have p3 : W.cell? ⟨w.heap.size, 3, none⟩ = some (.int .i64 sf) := bcell hA rfl
  clear hY hR hA hRs F
  go_enter Tryz.func7, Tryz.ntmps7
  go_wp2_with (go_at_call 20; fail)
  clear hW p0 p1 p2 p3
  refine hcp.mono ?_
  rintro e w2 ⟨g, h, ks, rfl, hct, hb2⟩
  have hs2 := hb2.size
  have HS : Hid (CT w2 (W.heap.size + 2) ys rs g h ks) := hct
  have HRC : Hid (∀ r ∈ ks, r.l.length ≤ r.c) := fun k hk => by obtain ⟨j, hj⟩ := List.getElem?_of_mem hk; obtain ⟨_, _, hc, _⟩ := hct.orr.own j k hj; omega
  have r2 := bstay HRS.out hb2 (by omega)
  have hal : Below w2.heap.size w2 (w2.alloc (.cells #[.slice (some ⟨g, 0, none⟩) ys.length ys.length, .slice (some ⟨h, 0, none⟩) rs.length rs.length, .string lg, .int .i64 sf] 32)) := (Below.refl _ _).alloc (Nat.le_refl _) _
  have hN := bnew w2 #[.slice (some ⟨g, 0, none⟩) ys.length ys.length, .slice (some ⟨h, 0, none⟩) rs.length rs.length, .string lg, .int .i64 sf] 32
  have r3 := bold r2 (.cells #[.slice (some ⟨g, 0, none⟩) ys.length ys.length, .slice (some ⟨h, 0, none⟩) rs.length rs.length, .string lg, .int .i64 sf] 32)
  have hct3 := hct.on hal
  have hW3s : w2.heap.size < (w2.alloc (.cells #[.slice (some ⟨g, 0, none⟩) ys.length ys.length, .slice (some ⟨h, 0, none⟩) rs.length rs.length, .string lg, .int .i64 sf] 32)).heap.size := by simp
  obtain ⟨W3, hW3⟩ : ∃ W3, w2.alloc (.cells #[.slice (some ⟨g, 0, none⟩) ys.length ys.length, .slice (some ⟨h, 0, none⟩) rs.length rs.length, .string lg, .int .i64 sf] 32) = W3 := ⟨_, rfl⟩
  rw [hW3] at hal hN r3 hct3 hW3s
  have HC3 : Hid (CT W3 (W.heap.size + 2) ys rs g h ks) := hct3
  have x0 : W3.cell? ⟨w2.heap.size, 0, none⟩ = some (.slice (some ⟨g, 0, none⟩) ys.length ys.length) := bcell hN rfl
  have x1 : W3.cell? ⟨w2.heap.size, 1, none⟩ = some (.slice (some ⟨h, 0, none⟩) rs.length rs.length) := bcell hN rfl
  have x2 : W3.cell? ⟨w2.heap.size, 2, none⟩ = some (.string lg) := bcell hN rfl
  have x3 : W3.cell? ⟨w2.heap.size, 3, none⟩ = some (.int .i64 sf) := bcell hN rfl
  have f3 := bfree hN 3
  have r0 : W3.cell? ⟨w.heap.size + 1, 0, none⟩ = some (.slice none 0 0) := bcell r3 rfl
  have r1 : W3.cell? ⟨w.heap.size + 1, 1, none⟩ = some (.slice none 0 0) := bcell r3 rfl
  have r2' : W3.cell? ⟨w.heap.size + 1, 2, none⟩ = some (.string ⟨#[]⟩) := bcell r3 rfl
  have r3' : W3.cell? ⟨w.heap.size + 1, 3, none⟩ = some (.int .i64 0) := bcell r3 rfl
  have q0 := bfree r3 0
  have q1 := bfree r3 1
  have q2 := bfree r3 2
  have q3 := bfree r3 3
  have hne : w.heap.size + 1 ≠ w2.heap.size := by omega
  have hB3 : Below w.heap.size w W3 := (hb.trans (hb2.mono hb.size)).trans (hal.mono (by have := hb.size; omega))
  have HFT : Hid (∀ W', Tn W3 W' (fun k => k = w.heap.size + 1 ∨ k = w2.heap.size) → TA W' w.heap.size (some ⟨g, 0, none⟩) (some ⟨h, 0, none⟩) ys ks) := fun W' ht => by
    have hng : g < w2.heap.size := hct.own.lt
    have hnh : h < w2.heap.size := hct.orr.lt
    have hgB := hct.gB
    have hhB := hct.hB
    refine (CT.ta (B := W.heap.size + 2) ⟨hct3.own.kept (ht.block g (by omega) (by omega)), sto.or_turn hct3.orr (fun k hk => ht.block k ?_ ?_), hct.map, hct.gB, hct.hB, hct.ne⟩).wide (by omega)
    · rcases hk with rfl | ⟨i, r, hr, e⟩
      · omega
      · obtain ⟨h', e', _, _, ho'⟩ := hct.orr.own i r hr
        rw [e] at e'
        have e2 := congrArg Addr.block (Option.some.inj e')
        simp only at e2
        have := ho'.lt
        omega
    · rcases hk with rfl | ⟨i, r, hr, e⟩
      · omega
      · obtain ⟨h', e', _, hB', ho'⟩ := hct.orr.own i r hr
        rw [e] at e'
        have e2 := congrArg Addr.block (Option.some.inj e')
        simp only at e2
        have := ho'.lt
        omega
  clear hcp hct hct3 hb2 r2 r3 hN
  go_wp2
  have htn : Tn W3 (((((W3.setCell ⟨w2.heap.size, 3, none⟩ (.int .i64 (lg.size : Int))).setCell ⟨w.heap.size + 1, 0, none⟩ (.slice (some ⟨g, 0, none⟩) ys.length ys.length)).setCell ⟨w.heap.size + 1, 1, none⟩ (.slice (some ⟨h, 0, none⟩) rs.length rs.length)).setCell ⟨w.heap.size + 1, 2, none⟩ (.string lg)).setCell ⟨w.heap.size + 1, 3, none⟩ (.int .i64 (lg.size : Int))) (fun k => k = w.heap.size + 1 ∨ k = w2.heap.size) :=
    Tn.set (Tn.set (Tn.set (Tn.set (Tn.set (Tn.refl W3 _) (.inr rfl) 3 _) (.inl rfl) 0 _) (.inl rfl) 1 _) (.inl rfl) 2 _) (.inl rfl) 3 _
  exact bodyPost_ret (v := .agg #[.slice (some ⟨g, 0, none⟩) ys.length ys.length, .slice (some ⟨h, 0, none⟩) rs.length rs.length, .string lg, .int .i64 (lg.size : Int)]) (by simp [results, Tryz.results7, go_sem, r0, r1, r2', r3']) rfl ⟨some ⟨g, 0, none⟩, ys.length, some ⟨h, 0, none⟩, rs.length, ks, rfl, ⟨⟨Nat.le_refl _, rfl, HRC.out⟩, HS.out.map⟩, HFT.out _ htn, hB3.trans (htn.below (by have := hB3.size; omega) (by rintro k (hk | hk) <;> omega))⟩
end Go.Proofs.YtoemkbooomgieaaGreatDoor.ssy

/- The specification's l07Copy where the runs' row may be nothing; and where the copied runs lie. -/
namespace Go.Proofs.YtoemkbooomgieaaGreatDoor.sco
open Go.ChangeShapes Go.WideShapes Go.ChangeAt Go.RowKit Go.Proofs.YtoemkbooomgieaaGreatDoor.fl Go.Proofs.YtoemkbooomgieaaGreatDoor.fo Go.Proofs.YtoemkbooomgieaaGreatDoor.rn Go.Proofs.YtoemkbooomgieaaGreatDoor.sct
set_option linter.unusedVariables false

/-- another block than each run's -/
def Ap (sa : Option Addr) (ks : List Rn) : Prop := ∀ r ∈ ks, ∀ x y : Addr, sa = some x → r.a = some y → x.block ≠ y.block
/-- what stands when k runs are copied: the box, the answer's place, the copy's place, its pairs, its runs -/
structure St (w : World) (ys : List flP.Pr) (rs : List Rn) (ya : Option Addr) (yc : Nat) (ra : Option Addr) (rc n3 g1 c1 : Nat) (k : Nat) (va : Option Addr) (vc : Nat) (ks : List Rn) (W : World) : Prop where
  bel : Below w.heap.size w W
  box : W.heap[w.heap.size]? = some (.cells #[.slice ya ys.length yc, .slice ra rs.length rc] 30 (0, 0))
  res : W.heap[w.heap.size + 1]? = some (.cells #[.slice none 0 0, .slice none 0 0] 30 (0, 0))
  lo : w.heap.size + 2 ≤ n3
  out : W.heap[n3]? = some (.cells #[.slice (some ⟨g1, 0, none⟩) ys.length c1, .slice va k vc] 30 (0, 0))
  fresh : W.ownsRow (w.heap.size + 2) 61 3 (.slice (some ⟨g1, 0, none⟩) ys.length c1) ys.length (ys.flatMap flP.c)
  runs : W.ownsRow (w.heap.size + 2) 28 1 (.slice va k vc) k (ks.flatMap cR)
  same : ks.map (·.l) = (rs.take k).map (·.l)
  rows : ∀ r ∈ ks, OwnR W (w.heap.size + 2) r
  adr : Ap (some ⟨g1, 0, none⟩) ks
section
variable {w W W' : World} {ys : List flP.Pr} {rs : List Rn} {ya : Option Addr} {yc : Nat} {ra : Option Addr} {rc n3 g1 c1 k : Nat} {va : Option Addr} {vc : Nat} {ks : List Rn}
theorem St.big (h : St w ys rs ya yc ra rc n3 g1 c1 k va vc ks W) : w.heap.size + 2 ≤ W.heap.size := (Array.getElem?_eq_some_iff.1 h.res).1
theorem St.step (h : St w ys rs ya yc ra rc n3 g1 c1 k va vc ks W) {r : Rn} (hr : rs[k]? = some r) {b1 q1 : Nat} {v2 : Value} (ht : Tn W W' (fun x => (Value.slice va k vc).ownBlock = some x ∨ x = n3)) (ho : W'.heap[n3]? = some (.cells #[.slice (some ⟨g1, 0, none⟩) ys.length c1, v2] 30 (0, 0)))
    (o1 : W'.ownsRow W.heap.size 61 3 (.slice (some ⟨b1, 0, none⟩) r.l.length q1) r.l.length (r.l.flatMap flP.c)) (o2 : W'.ownsRow (w.heap.size + 2) 28 1 v2 (k + 1) (ks.flatMap cR ++ [.slice (some ⟨b1, 0, none⟩) r.l.length q1])) : ∃ va' vc' ks', v2 = .slice va' (k + 1) vc' ∧ St w ys rs ya yc ra rc n3 g1 c1 (k + 1) va' vc' ks' W' := by
  obtain ⟨va', vc', rfl⟩ : ∃ va' vc', v2 = .slice va' (k + 1) vc' := by
    obtain ⟨_, ⟨e, h0⟩ | ⟨g, cap, cur, e, _⟩⟩ := o2
    · cases h0
    · exact ⟨_, _, e⟩
  have hbig := h.big
  have hlo := h.lo
  have hrb : ∀ x, (Value.slice va k vc).ownBlock = some x → w.heap.size + 2 ≤ x := fun x e => (h.runs.lt x e).1
  have keep : ∀ x, x < w.heap.size + 2 → ¬ ((Value.slice va k vc).ownBlock = some x ∨ x = n3) := fun x hx e => by
    rcases e with e | e
    · have := hrb x e; omega
    · omega
  have kept : ∀ v n xs, W.ownsRow (w.heap.size + 2) 61 3 v n xs → W'.ownsRow (w.heap.size + 2) 61 3 v n xs := fun v n xs hv => own_tn hv ht (fun g e hS => by
    rcases hS with hS | hS
    · exact clash hv h.runs e hS
    · subst hS; exact clash3 hv h.out e)
  have hne : g1 ≠ b1 := by have q1 := (o1.lt b1 rfl).1; have q2 := (h.fresh.lt g1 rfl).2; omega
  refine ⟨va', vc', ks ++ [⟨some ⟨b1, 0, none⟩, q1, r.l⟩], rfl, ⟨⟨ht.os.trans h.bel.os, ht.tape.trans h.bel.tape, ht.output.trans h.bel.output, Nat.le_trans h.bel.size ht.size, fun x hx => (ht.block x (by omega) (keep x (by omega))).trans (h.bel.block x hx)⟩, (ht.block _ (by omega) (keep _ (by omega))).trans h.box, (ht.block _ (by omega) (keep _ (by omega))).trans h.res, h.lo, ho, kept _ _ _ h.fresh, ?_, ?_, ?_, ?_⟩⟩
  · rw [List.flatMap_append]
    exact o2
  · have hlt := (List.getElem?_eq_some_iff.1 hr).1
    have he := (List.getElem?_eq_some_iff.1 hr).2
    rw [List.take_succ_eq_append_getElem hlt, List.map_append, List.map_append, h.same, he]
    rfl
  · intro s hs
    rcases List.mem_append.1 hs with hs | hs
    · exact kept _ _ _ (h.rows s hs)
    · simp at hs
      subst hs
      exact own_low o1 hbig
  · intro s hs
    rcases List.mem_append.1 hs with hs | hs
    · exact h.adr s hs
    · simp at hs
      subst hs
      intro x y hx hy
      cases hx
      cases hy
      exact hne
end

/-- an answered table of the specification's: its rows, all of them new -/
structure SR (W : World) (B : Nat) (sa : Option Addr) (sc : Nat) (ta : Option Addr) (tc : Nat) (l : List flP.Pr) (ks : List Rn) : Prop where
  fresh : W.ownsRow B 61 3 (.slice sa l.length sc) l.length (l.flatMap flP.c)
  runs : W.ownsRow B 28 1 (.slice ta ks.length tc) ks.length (ks.flatMap cR)
  rows : ∀ r ∈ ks, OwnR W B r
  ap : Ap sa ks
theorem SR.set {W : World} {B sc tc : Nat} {sa ta : Option Addr} {l : List flP.Pr} {ks : List Rn} (c : SR W B sa sc ta tc l ks) {b : Nat} (hb : b < B) (o : Nat) (v : Value) : SR (W.setCell ⟨b, o, none⟩ v) B sa sc ta tc l ks := ⟨own_set c.fresh hb, own_set c.runs hb, fun r hr => own_set (c.rows r hr) hb, c.ap⟩
theorem SR.low {W : World} {B B' sc tc : Nat} {sa ta : Option Addr} {l : List flP.Pr} {ks : List Rn} (c : SR W B sa sc ta tc l ks) (hb : B' ≤ B) : SR W B' sa sc ta tc l ks := ⟨own_low c.fresh hb, own_low c.runs hb, fun r hr => own_low (c.rows r hr) hb, c.ap⟩
theorem SR.on {W W' : World} {B sc tc : Nat} {sa ta : Option Addr} {l : List flP.Pr} {ks : List Rn} (c : SR W B sa sc ta tc l ks) (hb : Below W.heap.size W W') : SR W' B sa sc ta tc l ks := by
  have hg : W.grownBy W' none := ⟨hb.os, hb.tape, hb.output, hb.size, fun k hk _ => hb.block k hk⟩
  exact ⟨c.fresh.kept hg (by cases (Value.slice sa l.length sc).ownBlock <;> simp), c.runs.kept hg (by cases (Value.slice ta ks.length tc).ownBlock <;> simp), fun r hr => (c.rows r hr).kept hg (by cases (Value.slice r.a r.l.length r.c).ownBlock <;> simp), c.ap⟩
end Go.Proofs.YtoemkbooomgieaaGreatDoor.sco

/- The specification's TableFlush where the runs' row may be nothing. -/
namespace Go.Proofs.YtoemkbooomgieaaGreatDoor.flo
open Go.ChangeShapes Go.WideShapes Go.ChangeAt Go.RowKit Go.Proofs.YtoemkbooomgieaaGreatDoor.fl Go.Proofs.YtoemkbooomgieaaGreatDoor.fo Go.Proofs.YtoemkbooomgieaaGreatDoor.rn Go.Proofs.YtoemkbooomgieaaGreatDoor.tko Go.Proofs.YtoemkbooomgieaaGreatDoor.fls
set_option linter.unusedVariables false

end Go.Proofs.YtoemkbooomgieaaGreatDoor.flo

/- Where a pair goes in a run, and the run behind it. -/
namespace Go.Proofs.YtoemkbooomgieaaGreatDoor.ptp
open Go.ChangeShapes Go.WideShapes Go.ChangeAt Go.RowKit Go.Proofs.YtoemkbooomgieaaGreatDoor.fl Go.Proofs.YtoemkbooomgieaaGreatDoor.rc Go.Proofs.YtoemkbooomgieaaGreatDoor.ro
set_option linter.unusedVariables false

def posP : List flP.Pr → ByteArray → Nat
  | [], _ => 0
  | e :: l, r => if lt e.k r then posP l r + 1 else 0
theorem posP_le : ∀ (l : List flP.Pr) (r : ByteArray), posP l r ≤ l.length
  | [], _ => Nat.le_refl _
  | e :: l, r => by
    unfold posP
    have := posP_le l r
    split
    · simp; omega
    · omega
theorem posP_eq : ∀ (l : List flP.Pr) (r : ByteArray) (p : Nat), p ≤ l.length → (∀ (i : Nat) a, i < p → l[i]? = some a → lt a.k r = true) → (∀ a, l[p]? = some a → lt a.k r = false) → posP l r = p
  | [], r, p, h, _, _ => by simp at h; subst h; rfl
  | e :: l, r, 0, _, _, h3 => by
    unfold posP
    rw [h3 e rfl]
    rfl
  | e :: l, r, p + 1, h1, h2, h3 => by
    unfold posP
    rw [h2 0 e (by omega) rfl, if_pos rfl, posP_eq l r p (by simp at h1; omega) (fun i a hi ha => h2 (i + 1) a (by omega) ha) (fun a ha => h3 a ha)]
def isP (l : List flP.Pr) (p : Nat) (r : ByteArray) : Bool := match l[p]? with | some a => decide (a.k = r) | none => false
def restP (l : List flP.Pr) (r : ByteArray) : List flP.Pr := if isP l (posP l r) r = true then l.drop (posP l r + 1) else l.drop (posP l r)
def setP (l : List flP.Pr) (e : flP.Pr) : List flP.Pr := l.take (posP l e.k) ++ e :: restP l e.k
theorem setP_le (l : List flP.Pr) (e : flP.Pr) : (setP l e).length ≤ l.length + 1 := by
  have := posP_le l e.k
  unfold setP restP
  split <;> simp <;> omega
theorem setP_mem {l : List flP.Pr} {e f : flP.Pr} (h : f ∈ setP l e) : f ∈ l ∨ f = e := by
  unfold setP restP at h
  rcases List.mem_append.1 h with h | h
  · exact .inl (List.mem_of_mem_take h)
  · rcases List.mem_cons.1 h with h | h
    · exact .inr h
    · split at h <;> exact .inl (List.mem_of_mem_drop h)
theorem isP_true {l : List flP.Pr} {p : Nat} {r : ByteArray} : isP l p r = true ↔ ∃ a, l[p]? = some a ∧ cmpT a.k r = 0 := by
  unfold isP
  cases h : l[p]? with
  | none => simp
  | some a => simp [cmp_zero]
theorem setP_there {l : List flP.Pr} {e : flP.Pr} {p : Nat} (h : posP l e.k = p) (hm : isP l p e.k = true) : setP l e = l.set p e := by
  subst h
  have hp : posP l e.k < l.length := by
    obtain ⟨a, ha, _⟩ := isP_true.1 hm
    exact (List.getElem?_eq_some_iff.1 ha).1
  unfold setP restP
  rw [if_pos hm, List.set_eq_take_append_cons_drop, if_pos hp]
theorem setP_new {l : List flP.Pr} {e : flP.Pr} {p : Nat} (h : posP l e.k = p) (hm : isP l p e.k = false) : setP l e = l.take p ++ e :: l.drop p := by
  subst h
  unfold setP restP
  rw [if_neg (by rw [hm]; simp)]
end Go.Proofs.YtoemkbooomgieaaGreatDoor.ptp

/- Where a pair goes in a run, the run behind it, and what a put answers. -/
namespace Go.Proofs.YtoemkbooomgieaaGreatDoor.ptp
open Go.ChangeShapes Go.WideShapes Go.ChangeAt Go.RowKit Go.Proofs.YtoemkbooomgieaaGreatDoor.fl Go.Proofs.YtoemkbooomgieaaGreatDoor.rn Go.Proofs.YtoemkbooomgieaaGreatDoor.rc Go.Proofs.YtoemkbooomgieaaGreatDoor.ro Go.Proofs.YtoemkbooomgieaaGreatDoor.rk Go.Proofs.YtoemkbooomgieaaGreatDoor.tk Go.Proofs.YtoemkbooomgieaaGreatDoor.tko Go.Proofs.YtoemkbooomgieaaGreatDoor.tan
set_option linter.unusedVariables false

theorem posP_of {l : List flP.Pr} {t : flP.Pr} {p : Nat} (h : pf.PosP l t p) : posP l t.k = p :=
  posP_eq l t.k p h.1 (fun i a hi ha => cmp_neg.1 (h.2.1 i a hi ha)) (fun a ha => by
    have := h.2.2 p a (Nat.le_refl _) ha
    cases hh : lt a.k t.k with
    | false => rfl
    | true => have := cmp_neg.2 hh; unfold pf.cmpP at *; omega)
/-- with a pair in Young, where that is right -/
noncomputable def withB (ys : List flP.Pr) (R : List (List flP.Pr)) (e : flP.Pr) : Bool := okB ys R && okB (setP ys e) R
noncomputable def withY (ys : List flP.Pr) (R : List (List flP.Pr)) (e : flP.Pr) : List flP.Pr := if withB ys R e = true then setP ys e else ys
theorem with_le (ys : List flP.Pr) (R : List (List flP.Pr)) (e : flP.Pr) : (withY ys R e).length ≤ ys.length + 1 := by
  unfold withY
  split
  · exact setP_le _ _
  · omega
theorem fit_with {ys : List flP.Pr} {rs : List Rn} {e : flP.Pr} (F : tb.Fit ys rs) (hok : OkT ys (rs.map (·.l))) (h1 : e.k.size ≤ 1048576) (h2 : e.v.size ≤ 1048576) : tb.Fit (setP ys e) rs :=
  ⟨by have := hok.yo.ll; have := setP_le ys e; omega, F.rl, fun f hf => by
    rcases setP_mem hf with h | h
    · exact F.yo f h
    · subst h; exact ⟨h1, h2⟩, F.ro⟩
noncomputable def putY (ys : List flP.Pr) (R : List (List flP.Pr)) (xk xv : ByteArray) := withY ys R ⟨xk, xv, false⟩
noncomputable def putR (ys : List flP.Pr) (R : List (List flP.Pr)) (xk xv : ByteArray) := R
noncomputable def putB (ys : List flP.Pr) (R : List (List flP.Pr)) (xk xv : ByteArray) := withB ys R ⟨xk, xv, false⟩
theorem put_le (ys : List flP.Pr) (R : List (List flP.Pr)) (xk xv : ByteArray) : tot (putR ys R xk xv) ≤ ys.length + tot R ∧ (putY ys R xk xv).length ≤ ys.length + 1 ∧ (putR ys R xk xv).length ≤ R.length + 1 := ⟨by unfold putR; omega, with_le _ _ _, by unfold putR; omega⟩
noncomputable def dropY (ys : List flP.Pr) (R : List (List flP.Pr)) (xk : ByteArray) := withY ys R ⟨xk, ⟨#[]⟩, true⟩
noncomputable def dropR (ys : List flP.Pr) (R : List (List flP.Pr)) (xk : ByteArray) := R
noncomputable def dropB (ys : List flP.Pr) (R : List (List flP.Pr)) (xk : ByteArray) := withB ys R ⟨xk, ⟨#[]⟩, true⟩
theorem drop_le (ys : List flP.Pr) (R : List (List flP.Pr)) (xk : ByteArray) : tot (dropR ys R xk) ≤ ys.length + tot R ∧ (dropY ys R xk).length ≤ ys.length + 1 ∧ (dropR ys R xk).length ≤ R.length + 1 := ⟨by unfold dropR; omega, with_le _ _ _, by unfold dropR; omega⟩
end Go.Proofs.YtoemkbooomgieaaGreatDoor.ptp
