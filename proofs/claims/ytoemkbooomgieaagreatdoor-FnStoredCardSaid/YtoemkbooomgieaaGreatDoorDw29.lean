/- FnStored: at every code: behind a crash the store is what some beginning of the batches makes, each whole, with all that was safe; flushes and merges between change nothing of it; what StoreDo refuses leaves the store as it was; for every input, where the library's variable errors.errorType holds the handle of the type error and the table sumTable what the program's own text lays in it (the card ties both). -/
import Derived.Test.YtoemkbooomgieaaGreatDoorDw28
import Derived.Test.YtoemkbooomgieaaGreatDoorCards
import Derived.Test.YtoemkbooomgieaaGreatDoorTie
import Derived.LaidHandle
import Derived.LaidSub
import Derived.WalkKit
import Derived.ProofKit
import Derived.OpenShut
import Derived.ShutString
import Derived.Below
import Derived.OpenVars
import Derived.Deep.DeepHandedRow
import Derived.Lib.LaidTab
import Derived.Stop.LaidErr

/- A region that draws its order, with operations that have a guard which holds; else as RegionTurn and ChainTurn. -/
namespace Go.Proofs.YtoemkbooomgieaaGreatDoor.chg
open Go.Proofs.YtoemkbooomgieaaGreatDoor.dn Go.Proofs.YtoemkbooomgieaaGreatDoor.gt
open Go.Proofs.YtoemkbooomgieaaGreatDoor.chn (Cn on off up shut at_m next_m)
set_option linter.unusedVariables false

def strip (o : Oper) : Oper := { o with guard := none }
/-- each guard names a slot of the list and what it must hold, and is waited for -/
def guardB (l : List Oper) (gs : List (Nat × Bool)) : Bool := l.all fun o => match o.guard with
  | none => true
  | some (j, b) => (o.after.any fun e => Region.binds .any e && e.on == j) && (match l[j]? with | some p => (match p.dst with | some q => gs.contains (q, b) | none => false) | none => false)
theorem ready_strip (ops : Array Oper) (l : Array Bool) : Region.ready .any (ops.map strip) l = Region.ready .any ops l := by
  unfold Region.ready
  rw [Array.size_map]
  congr 1
  funext i
  rw [Array.getElem?_map]
  cases ops[i]? with
  | none => rfl
  | some o => rfl
theorem strip_at {ops : Array Oper} {i : Nat} {o : Oper} (h : ops[i]? = some o) : (ops.map strip)[i]? = some (strip o) := by rw [Array.getElem?_map, h]; rfl
theorem at_strip {ops : Array Oper} {i : Nat} {p : Oper} (h : (ops.map strip)[i]? = some p) : ∃ o, ops[i]? = some o ∧ p = strip o := by
  rw [Array.getElem?_map] at h
  cases ho : ops[i]? with
  | none => rw [ho] at h; cases h
  | some o => rw [ho] at h; cases h; exact ⟨o, rfl, rfl⟩
section
variable {σ : Type} {P : Program} {ops : Array Oper} {a0 : Act} {fin : σ → Act} {C : σ → (Nat → Bool) → World → Prop} {Q : Exit → Act → World → Prop}
theorem turn_strip {L : Nat → Bool} {f f' : Act} (h : Turn ops L f f') : Turn (ops.map strip) L f f' := ⟨h.defers, h.size, fun j p q hj hp hL => by
  obtain ⟨o, ho, rfl⟩ := at_strip hj
  exact h.same j o q ho hp hL⟩
theorem any_done (hok : okB (ops.map strip) = true) (hgd : ∀ (i : Nat) (o : Oper) (j : Nat) (b : Bool), ops[i]? = some o → o.guard = some (j, b) → (∃ e ∈ o.after, Region.binds .any e = true ∧ e.on = j) ∧ ∃ p q, ops[j]? = some p ∧ p.dst = some q ∧ ∀ s, (fin s).tmps[q]? = some (.bool b))
    (hfin : ∀ (g : σ) (s : Nat), (∀ (i : Nat) (o : Oper), (ops.map strip)[i]? = some o → o.dst ≠ some s) → a0.tmps[s]? = (fin g).tmps[s]?)
    (hstep : ∀ (i : Nat) (o : Oper), ops[i]? = some o → Step P ops fin C Q i o) (hend : ∀ (s : σ) (L : Nat → Bool) (w : World), (∀ i, i < ops.size → L i = true) → C s L w → Q .normal (fin s) w) :
    ∀ (fuel : Nat) (l : Array Bool) (s : σ) (a : Act) (w : World), l.size = ops.size → undone l ≤ fuel → Fr (ops.map strip) a0 (fin s) (fun j => l.getD j false) a → C s (fun j => l.getD j false) w → wpAny P .any ops Q fuel l a w := by
  intro fuel
  have hsz : (ops.map strip).size = ops.size := Array.size_map ..
  have fin_of : ∀ (l : Array Bool) (s : σ) (a : Act) (w : World), l.size = ops.size → Fr (ops.map strip) a0 (fin s) (fun j => l.getD j false) a → C s (fun j => l.getD j false) w → Region.ready .any ops l = [] → Q .normal a w := by
    intro l s a w hs hfr hC hr
    have hall := ready_nil (ops := ops.map strip) (by rw [hsz]; exact hs) hok (by rw [ready_strip]; exact hr)
    have hL : ∀ i, i < (ops.map strip).size → (fun j => l.getD j false) i = true := fun i hi => hall i i (Nat.le_refl _) hi
    rw [hfr.all (hfin s) hL]
    exact hend s _ w (fun i hi => hL i (by rw [hsz]; exact hi)) hC
  induction fuel with
  | zero =>
    intro l s a w hs hu hfr hC
    have hr : Region.ready .any ops l = [] := by
      cases hr : Region.ready .any ops l with
      | nil => rfl
      | cons i r =>
        obtain ⟨hlt, hb, _⟩ := ready_spec hs (show i ∈ Region.ready .any ops l by rw [hr]; simp)
        exfalso
        unfold undone at hu
        have h0 : l.toList.filter (fun b => !b) = [] := List.eq_nil_of_length_eq_zero (by omega)
        have hm : false ∈ l.toList := by
          rw [Array.getD_eq_getD_getElem?, Array.getElem?_eq_getElem hlt] at hb
          simp only [Option.getD_some] at hb
          rw [← hb]
          simp
        have := List.filter_eq_nil_iff.1 h0 false hm
        simp at this
    exact ⟨hr, fin_of l s a w hs hfr hC hr⟩
  | succ fuel ih =>
    intro l s a w hs hu hfr hC
    refine ⟨fun hr => fin_of l s a w hs hfr hC hr, fun i hi => ?_⟩
    obtain ⟨hlt, hb, o, ho, hd⟩ := ready_spec hs hi
    have hf := fine_of hok (strip_at ho)
    have hs' : (l.setIfInBounds i true).size = ops.size := by simpa using hs
    have hu' : undone (l.setIfInBounds i true) ≤ fuel := by
      have h1 := undone_set l.toList i (by
        rw [Array.getD_eq_getD_getElem?, Array.getElem?_eq_getElem hlt] at hb
        simp only [Option.getD_some] at hb
        simp [hlt, hb])
      unfold undone at hu ⊢
      rw [Array.toList_setIfInBounds]
      omega
    have hw : Region.wanted o (yielded ops a.tmps) = true := by
      unfold Region.wanted
      cases hg : o.guard with
      | none => rfl
      | some jb =>
        obtain ⟨j, b⟩ := jb
        obtain ⟨⟨e, he, hbe, hon⟩, p, q, hp, hq, hv⟩ := hgd i o j b ho hg
        have hL : l.getD j false = true := by rw [← hon]; exact hd e he hbe
        have hc := hfr.done j (strip p) q (strip_at hp) hq hL
        rw [hv s] at hc
        have hy : yielded ops a.tmps j = some b := by
          unfold yielded
          rw [hp]
          simp [hq, hc]
        simp [hy]
    unfold wpOp
    rw [ho]
    simp only [hw, if_true]
    left
    have hrd : ∀ x ∈ o.op.operands, a.eval x = (fin s).eval x := Fr.reads (o := strip o) hfr hf (hfin s) hd
    refine hstep i o ho s (fun j => l.getD j false) w a hrd hd hb hC _ (fun s' v w' hag hv hD => ?_)
    have hfr' : Fr (ops.map strip) a0 (fin s') (more (fun j => l.getD j false) i) (a.put o.dst v) := Fr.step (o := strip o) (gt.Fr.turn hfr (turn_strip hag)) (strip_at ho) hf hv
    rw [← more_set l hlt] at hfr' hD
    exact ih _ _ _ _ hs' hu' hfr' hD
theorem guard_get {l : List Oper} {gs : List (Nat × Bool)} (h : guardB l gs = true) {fin : σ → Act} (hv : ∀ s, ∀ x ∈ gs, (fin s).tmps[x.1]? = some (.bool x.2)) (i : Nat) (o : Oper) (j : Nat) (b : Bool) (ho : l[i]? = some o) (hg : o.guard = some (j, b)) :
    (∃ e ∈ o.after, Region.binds .any e = true ∧ e.on = j) ∧ ∃ p q, l[j]? = some p ∧ p.dst = some q ∧ ∀ s, (fin s).tmps[q]? = some (.bool b) := by
  have h1 := List.all_eq_true.1 h o (List.mem_of_getElem? ho)
  rw [hg] at h1
  simp only [Bool.and_eq_true] at h1
  obtain ⟨h2, h3⟩ := h1
  refine ⟨?_, ?_⟩
  · simp only [Array.any_eq_true, Bool.and_eq_true, beq_iff_eq] at h2
    obtain ⟨n, hn, hb, hm⟩ := h2
    exact ⟨_, Array.getElem_mem hn, hb, hm⟩
  · cases hp : l[j]? with
    | none => rw [hp] at h3; cases h3
    | some p =>
      rw [hp] at h3
      simp only at h3
      cases hq : p.dst with
      | none => rw [hq] at h3; cases h3
      | some q =>
        rw [hq] at h3
        exact ⟨p, q, rfl, hq, fun s => hv s (q, b) (by simpa using h3)⟩
theorem region_ghost {id : Nat} {l : List Oper} {w : World} (fin : σ → Act) (C : σ → (Nat → Bool) → World → Prop) (s0 : σ) (hm : P.follows .mixedOrders = true) (hok : okB (l.map strip).toArray = true) (gs : List (Nat × Bool)) (hgs : guardB l gs = true) (hgv : ∀ s, ∀ x ∈ gs, (fin s).tmps[x.1]? = some (.bool x.2))
    (hdef : a0.defers = (fin s0).defers) (hsz : ∀ s, a0.tmps.size = (fin s).tmps.size) (ks : List Nat) (hks : ((List.range a0.tmps.size).filter fun s => !keepB l s) = ks) (hkeep : ∀ g, gh.Kept a0.tmps (fin g).tmps ks)
    (hC : C s0 (fun _ => false) w.drew) (hstep : Each P l.toArray fin C Q 0 l) (hend : ∀ (s : σ) (L : Nat → Bool) (w' : World), (∀ i, i < l.length → L i = true) → C s L w' → Q .normal (fin s) w') :
    (Code.region id l.toArray true).wp P Q a0 w := by
  refine wp_region_any hm ?_
  have hL0 : (fun j => (Array.replicate l.toArray.size false).getD j false) = fun _ => false := by
    funext j
    simp only [Array.getD_eq_getD_getElem?, Array.getElem?_replicate]
    split <;> rfl
  have hst : l.toArray.map strip = (l.map strip).toArray := by simp
  refine any_done (a0 := a0) (fin := fin) (C := C) (by rw [hst]; exact hok) (fun i o j b hi hg => by
    have := guard_get hgs hgv i o j b (by simpa using hi) hg
    simpa using this) (fun g s hs => ?_) (fun i o hi => ?_) (fun s L w' hL hD => hend s L w' (fun i hi => hL i (by simpa using hi)) hD) _ _ s0 _ _ (by simp) ?_ ?_ ?_
  · by_cases hlt : s < a0.tmps.size
    · refine gh.kept_get ks (hkeep g) s ?_
      rw [← hks, List.mem_filter]
      refine ⟨by simpa using hlt, ?_⟩
      rw [Bool.not_eq_true']
      unfold keepB
      rw [List.any_eq_false]
      intro o ho
      obtain ⟨i, hi⟩ := List.getElem?_of_mem ho
      have := hs i (strip o) (strip_at (by simpa using hi))
      simpa [strip] using this
    · rw [Array.getElem?_eq_none (by omega), Array.getElem?_eq_none (by rw [← hsz]; omega)]
  · have := each_get l 0 hstep i o (by simpa using hi)
    rwa [Nat.zero_add] at this
  · unfold undone
    refine Nat.le_trans (List.length_filter_le _ _) (by simp)
  · rw [hL0]
    exact ⟨hdef, hsz s0, fun i o s _ _ h => (by cases h), fun s _ => rfl⟩
  · rw [hL0]
    exact hC
end
section
variable {σ : Type} {P : Program} {act : Act} {ws : σ → List (Nat × Value)} {l : List Oper} {js : List Nat} {S : σ → Nat → World → Prop} {Q : Exit → Act → World → Prop}
/-- the whole region -/
theorem region {id : Nat} {w : World} (gs : List (Nat × Bool)) (hgs : guardB l gs = true) (hgv : ∀ s, ∀ x ∈ gs, (dk.sets act (ws s)).tmps[x.1]? = some (.bool x.2)) (ks : List Nat) (s0 : σ) (hm : P.follows .mixedOrders = true) (hok : okB (l.map strip).toArray = true) (hw : ∀ g, (ws g).map (·.1) = ks) (hks : (ks.all fun t => keepB l t) = true) (hjs : ∀ j ∈ js, j < l.length) (hS : S s0 0 w.drew)
    (hstep : gt.Each P l.toArray (fun g => dk.sets act (ws g)) (Cn l js S) Q 0 l) (hend : ∀ s w', S s js.length w' → Q .normal (dk.sets act (ws s)) w') : (Code.region id l.toArray true).wp P Q act w := by
  refine region_ghost (fun g => dk.sets act (ws g)) (Cn l js S) s0 hm hok gs hgs hgv (dk.sets_defers act _).symm (fun s => (dk.sets_size act (ws s)).symm) _ rfl (fun g => dk.kept_of _ (dk.keeps (ws g) (hw g) hks)) ⟨fun i o _ h => (by cases h), 0, Nat.zero_le _, fun m j _ => by simp, hS⟩ hstep fun s L w' hL hC => ?_
  obtain ⟨_, k, hk, hLk, hS'⟩ := hC
  have : k = js.length := by
    rcases Nat.lt_or_ge k js.length with h | h
    · have h1 := hLk k js[k] (List.getElem?_eq_getElem h)
      rw [hL _ (hjs _ (List.getElem_mem h))] at h1
      simp at h1
    · omega
  subst this
  exact hend s w' hS'
end
end Go.Proofs.YtoemkbooomgieaaGreatDoor.chg

/- FnStored, walked: behind a crash there is what some beginning of the batches makes, with all that was safe, at every code. -/
namespace Go.Proofs.YtoemkbooomgieaaGreatDoor.swk
open Go.ChangeShapes Go.WideShapes Go.ChangeAt Go.RowKit Go.Proofs.YtoemkbooomgieaaGreatDoor.fl Go.Proofs.YtoemkbooomgieaaGreatDoor.fo Go.Proofs.YtoemkbooomgieaaGreatDoor.dw Go.Proofs.YtoemkbooomgieaaGreatDoor.rn Go.Proofs.YtoemkbooomgieaaGreatDoor.rcp Go.Proofs.YtoemkbooomgieaaGreatDoor.rpp Go.Proofs.YtoemkbooomgieaaGreatDoor.rcI Go.Proofs.YtoemkbooomgieaaGreatDoor.sok Go.Proofs.YtoemkbooomgieaaGreatDoor.sdq Go.Proofs.YtoemkbooomgieaaGreatDoor.sdl Go.Proofs.YtoemkbooomgieaaGreatDoor.sdi Go.Proofs.YtoemkbooomgieaaGreatDoor.swl Go.Proofs.YtoemkbooomgieaaGreatDoor.swt
set_option linter.unusedVariables false

structure GP where
  a : Option Addr
  c : Nat
theorem list_at {K : List Rn} {k : Nat} {M : List flP.Pr} (h : (K.map (·.l))[k]? = some M) : ∃ q, K[k]? = some q ∧ q.l = M := by
  rw [List.getElem?_map] at h
  cases hq : K[k]? with
  | none => rw [hq] at h; cases h
  | some q => rw [hq] at h; exact ⟨q, rfl, by simpa using h⟩
theorem sl_at {B : Nat} {X : World} {a : Option Addr} {c : Nat} {K : List Rn} (h : Sl B X (.slice a K.length c) K) {k : Nat} {q : Rn} (hq : K[k]? = some q) : ∃ b, a = some ⟨b, 0, none⟩ ∧ (∀ W, Below X.heap.size X W → W.cell? ⟨b, k, none⟩ = some (.slice q.a q.l.length q.c)) ∧ Row flP.c 3 X X.heap.size q.a q.l := by
  obtain ⟨a', c', e', hrow⟩ := own_row (c := cR) (fun _ => rfl) h.out
  cases e'
  obtain ⟨_, ⟨e, h0⟩ | ⟨g, cap, cur, e, _⟩⟩ := h.out
  · exfalso
    have h1 : K = [] := List.eq_nil_of_length_eq_zero h0
    rw [h1] at hq
    cases hq
  · cases e
    rcases hrow with h1 | ⟨b, off, ha, hlt, hc⟩
    · rw [h1] at hq
      cases hq
    · cases ha
      exact ⟨g, rfl, fun W hW => (hW.cell (p := ⟨g, k, none⟩) hlt).trans (by simpa using hc k q hq 0 _ rfl), row_of (h.inn q (List.mem_of_getElem? hq))⟩
theorem same_m {W : World} {M : List flP.Pr} {a b : Option Addr} {ca cb : Nat} (hl : M.length ≤ maxLen) (hA : Row flP.c 3 W W.heap.size a M) (hB : Row flP.c 3 W W.heap.size b M) : Calls Tryz.prog 11 #[.slice a M.length ca, .slice b M.length cb] W fun e w' => e = .returned (.bool true) ∧ Below W.heap.size W w' := by
  have h9 := smp.same_pairs M M a b ca cb W hl hl hA hB
  rwa [smp.sameL_yes rfl] at h9
set_option maxRecDepth 100000 in
set_option maxHeartbeats 12000000 in
theorem walk (a0 : Option Addr) (len0 cap0 : Nat) (w : World) (hcode : dw.Code w w.heap.size a0 len0) (hT : TB w) :
    Calls Tryz.prog 3 #[.slice a0 len0 cap0] w fun e w' => e = .returned (.bool true) ∧ Below w.heap.size w w' := by
  by_cases hbig : (1048576 : Int) < len0
  · clear hcode
    go_enter Tryz.func3, Tryz.ntmps3
    go_wp2
    go_ret
    exact ⟨rfl, Below.refl _ _⟩
  have hlen : len0 ≤ 1048576 := by omega
  have h1 := dlf.draw_life a0 len0 cap0 w hlen hcode
  clear hcode
  go_enter Tryz.func3, Tryz.ntmps3
  go_wp2_with (first | (go_at_call 4; go_in) | (go_at_call 5; fail))
  refine h1.mono ?_
  rintro e w1 ⟨⟨v0, rs, u0, is, sy, kp, rfl, hlf, hil, hrl, hsy, hkp⟩, hb1⟩
  obtain ⟨va, vc, rfl, hvr⟩ := own_row (c := cR) (fun _ => rfl) hlf.out
  obtain ⟨ua, uc, rfl, hnr⟩ := own_row (c := cI) (fun _ => rfl) (by rw [flat_int]; exact hlf.nums)
  have HD : Hid (Wd w w1 rs is va ua) := ⟨hb1, hT.on hb1, ⟨hvr, fun r hr => row_of (hlf.inn r hr)⟩, hnr, fun r hr => fit_of (hlf.small r hr), hlf.near⟩
  have HIL : Hid (is.length = rs.length) := hil
  clear h1 hlf hvr hnr hT hb1 hil
  obtain ⟨X0, hX0⟩ : ∃ y, w1.alloc (.cells #[.slice none 0 0, .slice none 0 0, .string ⟨#[]⟩, .int .i64 0] 32) = y := ⟨_, rfl⟩
  have hn0 := bnew w1 #[.slice none 0 0, .slice none 0 0, .string ⟨#[]⟩, .int .i64 0] 32
  have hb0 : Below w1.heap.size w1 X0 := by rw [← hX0]; exact (Below.refl _ _).alloc (Nat.le_refl _) _
  rw [hX0] at hn0
  have z0 : X0.cell? ⟨w1.heap.size, 0, none⟩ = some (.slice none 0 0) := bcell hn0 rfl
  have z1 : X0.cell? ⟨w1.heap.size, 1, none⟩ = some (.slice none 0 0) := bcell hn0 rfl
  have z2 : X0.cell? ⟨w1.heap.size, 2, none⟩ = some (.string ⟨#[]⟩) := bcell hn0 rfl
  have z3 : X0.cell? ⟨w1.heap.size, 3, none⟩ = some (.int .i64 0) := bcell hn0 rfl
  have g0 := bfree hn0 0
  have g1 := bfree hn0 1
  have g2 := bfree hn0 2
  have g3 := bfree hn0 3
  have hn1 := bset (bset (bset (bset hn0 0 (.slice none 0 0)) 1 (.slice none 0 0)) 2 (.string ⟨#[]⟩)) 3 (.int .i64 0)
  have hb1 := hb0.trans ((tn4 X0 w1.heap.size (.slice none 0 0) (.slice none 0 0) (.string ⟨#[]⟩) (.int .i64 0)).below (B := w1.heap.size) hb0.size (fun k hk => by omega))
  obtain ⟨X1, hX1⟩ : ∃ y, ((((X0.setCell ⟨w1.heap.size, 0, none⟩ (.slice none 0 0)).setCell ⟨w1.heap.size, 1, none⟩ (.slice none 0 0)).setCell ⟨w1.heap.size, 2, none⟩ (.string ⟨#[]⟩)).setCell ⟨w1.heap.size, 3, none⟩ (.int .i64 0)) = y := ⟨_, rfl⟩
  rw [hX1] at hn1 hb1
  have HN1 : Hid (X1.heap[w1.heap.size]? = some (.cells #[.slice none 0 0, .slice none 0 0, .string ⟨#[]⟩, .int .i64 0] 32 (0, 0))) := hn1
  have HB1 : Hid (Below w1.heap.size w1 X1) := hb1
  have hal := p_all2 (tb_0 X1 0).pt ft_0 ⟨#[]⟩ 0
  rw [all_0] at hal
  simp only [List.length_nil, List.flatMap_nil] at hal
  have y0 : X1.cell? ⟨w1.heap.size, 0, none⟩ = some (.slice none 0 0) := bcell hn1 rfl
  have y1 : X1.cell? ⟨w1.heap.size, 1, none⟩ = some (.slice none 0 0) := bcell hn1 rfl
  have y2 : X1.cell? ⟨w1.heap.size, 2, none⟩ = some (.string ⟨#[]⟩) := bcell hn1 rfl
  have y3 : X1.cell? ⟨w1.heap.size, 3, none⟩ = some (.int .i64 0) := bcell hn1 rfl
  clear hn0 hb0 hn1 hb1
  go_wp2_with (go_at_call 6; fail)
  clear hX0 hX1 z0 z1 z2 z3 g0 g1 g2 g3 y0 y1 y2 y3
  refine hal.mono ?_
  rintro e w2 ⟨a2, c2, rfl, ho2, hb2⟩
  have HS : Hid (Ws w1 [] [] none 0 none 0 ⟨#[]⟩ 0 (.slice (some ⟨w2.heap.size, 0, none⟩) ([(⟨a2, c2, []⟩ : Rn)]).length 1) [⟨a2, c2, []⟩] 0 (w2.alloc (.cells #[.slice a2 0 c2] 28))) := ws_0 HB1.out HN1.out ho2 hb2
  clear hal ho2 hb2 HB1 HN1
  go_wp2
  obtain ⟨X2, hX2⟩ : ∃ y, w2.alloc (.cells #[.slice a2 0 c2] 28) = y := ⟨_, rfl⟩
  rw [hX2] at HS ⊢
  clear hX2
  go_loopw [8, 9, 10] (fun v u x wr => ∃ (k : Nat) (ys : List flP.Pr) (R : List (List flP.Pr)) (ya : Option Addr) (yc : Nat) (ra : Option Addr) (rc : Nat) (lg : ByteArray) (sf : Int) (safe : Nat) (K : List Rn) (av : Option Addr) (cv : Nat), k ≤ rs.length ∧ x = .int .i64 k ∧ u = .int .i64 safe ∧ v = .slice av K.length cv ∧ K.length ≤ k + 1 ∧ Hid (Ws w1 ys R ya yc ra rc lg sf (.slice av K.length cv) K safe  wr)) (fun _ _ x _ => rs.length - (intOf x).toNat)
  case' atStart => exact ⟨0, [], [], none, 0, none, 0, ⟨#[]⟩, 0, 0, [⟨a2, c2, []⟩], some ⟨w2.heap.size, 0, none⟩, 1, Nat.zero_le _, rfl, rfl, rfl, Nat.le_refl _, HS⟩
  case' round =>
    obtain ⟨k, ys, R, ya, yc, ra, rc, lg, sf, safe, K, av, cv, hk, rfl, rfl, rfl, hKl, hrl⟩ := hrel
    clear HS
    have HS : Hid (Ws w1 ys R ya yc ra rc lg sf (.slice av K.length cv) K safe  wr) := hrl
    have HKL : Hid (K.length ≤ k + 1) := hKl
    clear hrl hKl
    obtain ⟨X, hX⟩ : ∃ y, y = wr := ⟨_, rfl⟩
    subst hX
    by_cases hkn : k < rs.length
    case' pos =>
      have i2 : (k : Int) < (rs.length : Int) := by omega
      have hri : rs[k]? = some rs[k] := List.getElem?_eq_getElem hkn
      have hil := HIL.out
      have hzi : is[k]? = some is[k] := List.getElem?_eq_getElem (by omega)
      obtain ⟨r, hr⟩ : ∃ y, rs[k] = y := ⟨_, rfl⟩
      obtain ⟨z, hz0⟩ : ∃ y, is[k] = y := ⟨_, rfl⟩
      rw [hr] at hri
      rw [hz0] at hzi
      have hzn := HD.out.near z (List.mem_of_getElem? hzi)
      have HRI : Hid (rs[k]? = some r) := hri
      have HZI : Hid (is[k]? = some z) := hzi
      have j2 : (k : Int) < (is.length : Int) := by omega
      clear hr hz0 hri hzi hil
      by_cases hys : k = sy
      case' pos =>
        subst hys
        have hok9 := okS_parts HS.out.iv.ok
        have hsyn := p_sync (lg := lg) (sf := sf) HS.out.tab.pt (ok_ft (okS_okB HS.out.iv.ok)) (by have := (recs_whole hok9.2.2.1).2.2; omega)
        have hln := HS.out.iv.len
        rw [List.length_map] at hln
        have hw9 : IntKind.i64.wrap ((K.length : Int) - 1) = ((K.length - 1 : Nat) : Int) := by have := HKL.out; rw [IntKind.wrap_i64]; omega
        clear hok9 hln
        have c0 : X.cell? ⟨w1.heap.size, 0, none⟩ = some (.slice ya ys.length yc) := bcell HS.out.box rfl
        have c1 : X.cell? ⟨w1.heap.size, 1, none⟩ = some (.slice ra R.length rc) := bcell HS.out.box rfl
        have c2 : X.cell? ⟨w1.heap.size, 2, none⟩ = some (.string lg) := bcell HS.out.box rfl
        have c3 : X.cell? ⟨w1.heap.size, 3, none⟩ = some (.int .i64 sf) := bcell HS.out.box rfl
        go_wp2_with (go_at_call 7; fail)
        clear c0 c1 c2 c3
        refine hsyn.mono ?_
        rintro e w3 ⟨sa, sc, ta, tc, rfl, hta, hb3⟩
        have hs3 := HS.out.on hb3
        have hs4 := hs3.put (hta.wide HS.out.lt) hs3.iv.sync
        rw [List.length_map] at hs4
        have hbx := hs3.box
        have c0 : w3.cell? ⟨w1.heap.size, 0, none⟩ = some (.slice ya ys.length yc) := bcell hbx rfl
        have c1 : w3.cell? ⟨w1.heap.size, 1, none⟩ = some (.slice ra R.length rc) := bcell hbx rfl
        have c2 : w3.cell? ⟨w1.heap.size, 2, none⟩ = some (.string lg) := bcell hbx rfl
        have c3 : w3.cell? ⟨w1.heap.size, 3, none⟩ = some (.int .i64 sf) := bcell hbx rfl
        have f0 := bfree hbx 0
        have f1 := bfree hbx 1
        have f2 := bfree hbx 2
        have f3 := bfree hbx 3
        obtain ⟨X9, hX9⟩ : ∃ y, ((((w3.setCell ⟨w1.heap.size, 0, none⟩ (.slice sa ys.length sc)).setCell ⟨w1.heap.size, 1, none⟩ (.slice ta R.length tc)).setCell ⟨w1.heap.size, 2, none⟩ (.string lg)).setCell ⟨w1.heap.size, 3, none⟩ (.int .i64 (lg.size : Int))) = y := ⟨_, rfl⟩
        rw [hX9] at hs4
        have HS9 : Hid _ := hs4
        clear hsyn hta hb3 hs3 hs4 hbx HS
        go_wp2
        clear c0 c1 c2 c3 f0 f1 f2 f3 hX9 hw9
        obtain ⟨safe, hsafe⟩ : ∃ y, K.length - 1 = y := ⟨_, rfl⟩
        obtain ⟨sf, hsf⟩ : ∃ y, (lg.size : Int) = y := ⟨_, rfl⟩
        rw [hsafe, hsf] at HS9
        rw [hsafe]
        have HS : Hid (Ws w1 ys R sa sc ta tc lg sf (.slice av K.length cv) K safe X9) := HS9
        clear HS9 hsafe hsf
        obtain ⟨X, hX⟩ : ∃ y, y = X9 := ⟨_, rfl⟩
        subst hX
        obtain ⟨ya, hya⟩ : ∃ y, y = sa := ⟨_, rfl⟩
        subst hya
        obtain ⟨yc, hyc⟩ : ∃ y, y = sc := ⟨_, rfl⟩
        subst hyc
        obtain ⟨ra, hra⟩ : ∃ y, y = ta := ⟨_, rfl⟩
        subst hra
        obtain ⟨rc, hrc⟩ : ∃ y, y = tc := ⟨_, rfl⟩
        subst hrc
      case' neg =>
        have hne : ¬ ((k : Int) = (sy : Int)) := by omega
        go_wp2
        clear hne
      all_goals
        have hok9 := okS_parts HS.out.iv.ok
        have hlg := (recs_whole hok9.2.2.1).2.2
        have hwf := wf_sf hok9.2.1 hlg
        have HDO : Hid (∀ W : World, Below X.heap.size X W → Calls Tryz.prog 8 #[.agg #[.slice ya ys.length yc, .slice ra R.length rc, .string lg, .int .i64 sf], .slice r.a r.l.length r.c] W fun e w' => ∃ Y Q sa sc ta tc l o, e = .returned (.tuple #[.agg #[.slice sa (Y : List flP.Pr).length sc, .slice ta (Q : List (List flP.Pr)).length tc, .string l, .int .i64 sf], .bool o]) ∧ Ta w' W.heap.size Y Q sa sc ta tc ∧ (∀ n, An lg sf ys R (K.map (·.l)) safe ⟨n, sa, sc, ta, tc, Y, Q, l, o⟩) ∧ Below W.heap.size W w') := fun W hW => p_do HS.out HD.out HRI.out hwf (by omega) hW
        obtain ⟨vb, vo, hva, hcell⟩ := HD.out.list HRI.out
        have HCE : Hid (∀ W : World, Below w1.heap.size w1 W → W.cell? ⟨vb, vo + k, none⟩ = some (.slice r.a r.l.length r.c)) := hcell
        subst hva
        clear hok9 hlg hwf hcell
        refine chf.region (σ := G3) (ws := (fun s : G3 => [(45, .agg #[.slice ya ys.length yc, .slice ra R.length rc, .string lg, .int .i64 sf]), (46, .slice (some ⟨vb, vo, none⟩) rs.length vc), (47, .int .i64 k), (48, .pointer (some ⟨vb, vo + k, none⟩)), (49, .slice r.a r.l.length r.c), (50, .tuple #[.agg #[.slice s.sa s.Y.length s.sc, .slice s.ta s.Q.length s.tc, .string s.l, .int .i64 sf], .bool s.o]), (44, .tuple #[.agg #[.slice s.sa s.Y.length s.sc, .slice s.ta s.Q.length s.tc, .string s.l, .int .i64 sf], .bool s.o]), (51, .agg #[.slice s.sa s.Y.length s.sc, .slice s.ta s.Q.length s.tc, .string s.l, .int .i64 sf]), (52, .bool s.o), (11, .pointer (some ⟨s.n, 0, none⟩)), (12, .bool s.o)])) (js := [5, 10]) (j0 := 9) (S := (fun g k b W => S3 X lg sf ys R (K.map (·.l)) safe g k b W)) [45, 46, 47, 48, 49, 50, 44, 51, 52, 11, 12] ⟨0, none, 0, none, 0, [], [], ⟨#[]⟩, false⟩ (by kernel_rfl) (by kernel_rfl) (fun _ => rfl) (by kernel_rfl) (by decide) (by decide) S3.start ?_ ?_
        · refine ⟨chf.quiet 2 rfl (by decide) (by decide) (.inl rfl) (by simp) (fun s => .agg #[.slice ya ys.length yc, .slice ra R.length rc, .string lg, .int .i64 sf]) (by rintro s _ ⟨⟩; exact dk.sets_on _ (by simp) _ rfl) (fun s k' b W hk' hS => by have hb7 := (HS.out.on hS.bel).box; have c0 : W.cell? ⟨w1.heap.size, 0, none⟩ = some (.slice ya ys.length yc) := bcell hb7 rfl; have c1 : W.cell? ⟨w1.heap.size, 1, none⟩ = some (.slice ra R.length rc) := bcell hb7 rfl; have c2 : W.cell? ⟨w1.heap.size, 2, none⟩ = some (.string lg) := bcell hb7 rfl; have c3 : W.cell? ⟨w1.heap.size, 3, none⟩ = some (.int .i64 sf) := bcell hb7 rfl; simp [execOp, go_sem, Act.eval, dk.sets_get, List.lookup, c0, c1, c2, c3]), ?_⟩
          refine ⟨chf.quiet 2 rfl (by decide) (by decide) (.inl rfl) (by simp) (fun s => .slice (some ⟨vb, vo, none⟩) rs.length vc) (by rintro s _ ⟨⟩; exact dk.sets_on _ (by simp) _ rfl) (fun s k' b W hk' hS => by simp [execOp, go_sem, Act.eval, dk.sets_get, List.lookup]), ?_⟩
          refine ⟨chf.quiet 2 rfl (by decide) (by decide) (.inl rfl) (by simp) (fun s => .int .i64 k) (by rintro s _ ⟨⟩; exact dk.sets_on _ (by simp) _ rfl) (fun s k' b W hk' hS => by simp [execOp, go_sem, Act.eval, dk.sets_get, List.lookup]), ?_⟩
          refine ⟨chf.quiet 2 rfl (by decide) (by decide) (.inl rfl) (by simp) (fun s => .pointer (some ⟨vb, vo + k, none⟩)) (by rintro s _ ⟨⟩; exact dk.sets_on _ (by simp) _ rfl) (fun s k' b W hk' hS => by simp [execOp, go_sem, Act.eval, dk.sets_get, List.lookup, i2]), ?_⟩
          refine ⟨chf.quiet 2 rfl (by decide) (by decide) (.inl rfl) (by simp) (fun s => .slice r.a r.l.length r.c) (by rintro s _ ⟨⟩; exact dk.sets_on _ (by simp) _ rfl) (fun s k' b W hk' hS => by have c0 := HCE.out W (HS.out.bel.trans (hS.bel.mono HS.out.bel.size)); simp [execOp, go_sem, Act.eval, dk.sets_get, List.lookup, c0]), ?_⟩
          refine ⟨chf.call 0 [5, 6, 7, 8, 10, 11] [50, 44, 51, 52, 12] (by kernel_rfl) (by kernel_rfl) rfl (by decide) (by decide) rfl (.inl rfl) (by simp) 8 (fun s => #[.agg #[.slice ya ys.length yc, .slice ra R.length rc, .string lg, .int .i64 sf], .slice r.a r.l.length r.c]) (fun s b W hb hS => by exact ⟨by simp [go_sem, Act.eval, dk.sets_get, List.lookup], (HDO.out W hS.bel).mono fun e w9 hh => by obtain ⟨Y, Q, sa, sc, ta, tc, l, o, rfl, h1, h2, h3⟩ := hh; exact ⟨⟨s.n, sa, sc, ta, tc, Y, Q, l, o⟩, _, rfl, (by simp [chd.But]), (by rintro _ ⟨⟩; exact dk.sets_on _ (by simp) _ rfl), hS.call h3 h1 (h2 _)⟩⟩), ?_⟩
          refine ⟨chf.quiet 2 rfl (by decide) (by decide) (.inl rfl) (by simp) (fun s => .tuple #[.agg #[.slice s.sa s.Y.length s.sc, .slice s.ta s.Q.length s.tc, .string s.l, .int .i64 sf], .bool s.o]) (by rintro s _ ⟨⟩; exact dk.sets_on _ (by simp) _ rfl) (fun s k' b W hk' hS => by simp [execOp, go_sem, Act.eval, dk.sets_get, List.lookup]), ?_⟩
          refine ⟨chf.quiet 2 rfl (by decide) (by decide) (.inl rfl) (by simp) (fun s => .agg #[.slice s.sa s.Y.length s.sc, .slice s.ta s.Q.length s.tc, .string s.l, .int .i64 sf]) (by rintro s _ ⟨⟩; exact dk.sets_on _ (by simp) _ rfl) (fun s k' b W hk' hS => by simp [execOp, go_sem, Act.eval, dk.sets_get, List.lookup]), ?_⟩
          refine ⟨chf.quiet 2 rfl (by decide) (by decide) (.inl rfl) (by simp) (fun s => .bool s.o) (by rintro s _ ⟨⟩; exact dk.sets_on _ (by simp) _ rfl) (fun s k' b W hk' hS => by simp [execOp, go_sem, Act.eval, dk.sets_get, List.lookup]), ?_⟩
          refine ⟨chf.free 1 rfl (by decide) rfl (.inr ⟨10, _, rfl, rfl, ⟨9, .data⟩, by simp, rfl, rfl⟩) [9, 10, 11] [11] (by kernel_rfl) (by kernel_rfl) (by simp) (fun s k' W hk' hS => by exact ⟨{ s with n := W.heap.size }, .pointer (some ⟨W.heap.size, 0, none⟩), W.alloc (.cells #[.slice none 0 0, .slice none 0 0, .string ⟨#[]⟩, .int .i64 0] 32), (by simp [chd.But]), (by rintro _ ⟨⟩; exact dk.sets_on _ (by simp) _ rfl), (by simp [execOp, go_sem]), hS.free hk'⟩), ?_⟩
          refine ⟨swt.sto 1 rfl (by decide) (by decide) rfl (.inr ⟨⟨5, .chain⟩, by simp, rfl, rfl⟩) ⟨⟨9, .data⟩, by simp, rfl, rfl⟩ (by simp) rfl (fun s W hS => by have hx := (hS.box rfl).2 (by decide); have c0 : W.cell? ⟨s.n, 0, none⟩ = some (.slice none 0 0) := bcell hx rfl; have f0 := bfree hx 0; have c1 : W.cell? ⟨s.n, 1, none⟩ = some (.slice none 0 0) := bcell hx rfl; have f1 := bfree hx 1; have c2 : W.cell? ⟨s.n, 2, none⟩ = some (.string ⟨#[]⟩) := bcell hx rfl; have f2 := bfree hx 2; have c3 : W.cell? ⟨s.n, 3, none⟩ = some (.int .i64 0) := bcell hx rfl; have f3 := bfree hx 3; exact ⟨((((W.setCell ⟨s.n, 0, none⟩ (.slice s.sa s.Y.length s.sc)).setCell ⟨s.n, 1, none⟩ (.slice s.ta s.Q.length s.tc)).setCell ⟨s.n, 2, none⟩ (.string s.l)).setCell ⟨s.n, 3, none⟩ (.int .i64 sf)), by simp [execOp, go_sem, Act.eval, dk.sets_get, List.lookup, c0, c1, c2, c3, f0, f1, f2, f3], hS.sto⟩), ?_⟩
          exact ⟨chf.quiet 2 rfl (by decide) (by decide) (.inl rfl) (by simp) (fun s => .bool s.o) (by rintro s _ ⟨⟩; exact dk.sets_on _ (by simp) _ rfl) (fun s k' b W hk' hS => by simp [execOp, go_sem, Act.eval, dk.sets_get, List.lookup]), trivial⟩
        intro s w4 hS
        have HS3 : Hid (S3 X lg sf ys R (K.map (·.l)) safe s 2 true w4) := hS
        clear hS HDO HCE
        obtain ⟨n, sa, sc, ta, tc, Y, Q, l2, o⟩ := s
        simp only [dk.sets, Act.put, List.setIfInBounds_toArray, List.set_cons_succ, List.set_cons_zero]
        obtain ⟨ub, uo, hua, hcu⟩ := HD.out.num HZI.out
        have HCU : Hid (∀ W : World, Below w1.heap.size w1 W → W.cell? ⟨ub, uo + k, none⟩ = some (.int .i64 z)) := hcu
        subst hua
        clear hcu
        cases o
        case' true =>
          have han := HS3.out.ans (by omega)
          have hiv : Iv l2 sf Y Q (K.map (·.l) ++ [all0 Y Q]) safe := han.1.1 rfl
          have hal := p_all2 (show Pt w4 Y Q sa sc ta tc from han.2.pt) (ok_ft (okS_okB hiv.ok)) l2 sf
          have hfin : w4.heap[n]? = some (.cells #[.slice sa Y.length sc, .slice ta Q.length tc, .string l2, .int .i64 sf] 32 (0, 0)) := HS3.out.fin (Nat.le_refl _)
          have n0 : w4.cell? ⟨n, 0, none⟩ = some (.slice sa Y.length sc) := bcell hfin rfl
          have n1 : w4.cell? ⟨n, 1, none⟩ = some (.slice ta Q.length tc) := bcell hfin rfl
          have n2 : w4.cell? ⟨n, 2, none⟩ = some (.string l2) := bcell hfin rfl
          have n3 : w4.cell? ⟨n, 3, none⟩ = some (.int .i64 sf) := bcell hfin rfl
          clear han hiv hfin
          go_wp2_with (go_at_call 6; fail)
          clear n0 n1 n2 n3
          refine hal.mono ?_
          rintro e w5 ⟨a5, c5, rfl, ho5, hb5⟩
          obtain ⟨v', Z, hrun, hx⟩ := HS3.out.app HS.out rfl (by have := HKL.out; omega) hb5 ho5 24
          have hkl2 : (K ++ [(⟨a5, c5, all0 Y Q⟩ : Rn)]).length ≤ k + 1 + 1 := by
            have := HKL.out
            rw [List.length_append]
            simp only [List.length_singleton]
            omega
          have HKL2 : Hid ((K ++ [(⟨a5, c5, all0 Y Q⟩ : Rn)]).length ≤ k + 1 + 1) := hkl2
          clear hkl2
          clear HS HS3 HKL hal ho5 hb5
          obtain ⟨K, hK⟩ : ∃ y, K ++ [(⟨a5, c5, all0 Y Q⟩ : Rn)] = y := ⟨_, rfl⟩
          rw [hK] at hx HKL2
          obtain ⟨av, cv, rfl, hv5⟩ := own_row (c := cR) (fun _ => rfl) hx.sl.out
          have HKL : Hid (K.length ≤ k + 1 + 1) := HKL2
          have HX : Hid (Wx w1 ys R ya yc ra rc lg sf n Y Q sa sc ta tc l2 sf (.slice av K.length cv) K safe  Z) := hx
          clear HKL2 hx hv5 hK
          have hu : Z.cell? ⟨ub, uo + k, none⟩ = some (.int .i64 z) := HCU.out Z HX.out.bel
          by_cases hz : (0 : Int) ≤ z
          case' neg =>
            have n0 : Z.cell? ⟨n, 0, none⟩ = some (.slice sa Y.length sc) := bcell HX.out.nxt rfl
            have n1 : Z.cell? ⟨n, 1, none⟩ = some (.slice ta Q.length tc) := bcell HX.out.nxt rfl
            have n2 : Z.cell? ⟨n, 2, none⟩ = some (.string l2) := bcell HX.out.nxt rfl
            have n3 : Z.cell? ⟨n, 3, none⟩ = some (.int .i64 sf) := bcell HX.out.nxt rfl
            have b0 : Z.cell? ⟨w1.heap.size, 0, none⟩ = some (.slice ya ys.length yc) := bcell HX.out.box rfl
            have b1 : Z.cell? ⟨w1.heap.size, 1, none⟩ = some (.slice ra R.length rc) := bcell HX.out.box rfl
            have b2 : Z.cell? ⟨w1.heap.size, 2, none⟩ = some (.string lg) := bcell HX.out.box rfl
            have b3 : Z.cell? ⟨w1.heap.size, 3, none⟩ = some (.int .i64 sf) := bcell HX.out.box rfl
            have f0 := bfree HX.out.box 0
            have f1 := bfree HX.out.box 1
            have f2 := bfree HX.out.box 2
            have f3 := bfree HX.out.box 3
            have hs9 := HX.out.put
            obtain ⟨X9, hX9⟩ : ∃ y, ((((Z.setCell ⟨w1.heap.size, 0, none⟩ (.slice sa Y.length sc)).setCell ⟨w1.heap.size, 1, none⟩ (.slice ta Q.length tc)).setCell ⟨w1.heap.size, 2, none⟩ (.string l2)).setCell ⟨w1.heap.size, 3, none⟩ (.int .i64 sf)) = y := ⟨_, rfl⟩
            rw [hX9] at hs9
            have HS9 : Hid (Ws w1 Y Q sa sc ta tc l2 sf (.slice av K.length cv) K safe X9) := hs9
            have hok9 := okS_parts HS9.out.iv.ok
            have hok := p_ok (lg := l2) (sf := sf) HS9.out.tab.pt (ok_ft (okS_okB HS9.out.iv.ok)) (by have := (recs_whole hok9.2.2.1).2.2; omega) (wf_sf hok9.2.1 (recs_whole hok9.2.2.1).2.2) (HD.out.tb.on HS9.out.bel)
            rw [HS9.out.iv.ok] at hok
            clear hs9 hok9 HX
            have m0 : X9.cell? ⟨w1.heap.size, 0, none⟩ = some (.slice sa Y.length sc) := bcell HS9.out.box rfl
            have m1 : X9.cell? ⟨w1.heap.size, 1, none⟩ = some (.slice ta Q.length tc) := bcell HS9.out.box rfl
            have m2 : X9.cell? ⟨w1.heap.size, 2, none⟩ = some (.string l2) := bcell HS9.out.box rfl
            have m3 : X9.cell? ⟨w1.heap.size, 3, none⟩ = some (.int .i64 sf) := bcell HS9.out.box rfl
            go_wp2_with (first | (at_builtin; refine cpr.wpList_append_run rfl _ _ _ _ rfl _ _ _ rfl rfl hrun ?_) | (go_at_call 12; fail))
            clear hu hz hrun
            clear hX9 n0 n1 n2 n3 b0 b1 b2 b3 f0 f1 f2 f3 m0 m1 m2 m3
            refine hok.mono ?_
            rintro e w9 ⟨rfl, hb9⟩
            have HE : Hid (Ws w1 Y Q sa sc ta tc l2 sf (.slice av K.length cv) K safe w9) := HS9.out.on hb9
            clear hok hb9 HS9
            go_wp2
            go_roundw
            case rel => exact ⟨k + 1, Y, Q, sa, sc, ta, tc, l2, sf, safe, K, av, cv, by omega, by go_num, rfl, rfl, HKL.out, HE⟩
            case measure => simp [intOf]; omega
          case' pos =>
            have hal := p_all2 HX.out.tab.pt (ok_ft (okS_okB HX.out.iv.ok)) l2 sf
            have hnz := HX.out.lt
            have n0 : Z.cell? ⟨n, 0, none⟩ = some (.slice sa Y.length sc) := bcell HX.out.nxt rfl
            have n1 : Z.cell? ⟨n, 1, none⟩ = some (.slice ta Q.length tc) := bcell HX.out.nxt rfl
            have n2 : Z.cell? ⟨n, 2, none⟩ = some (.string l2) := bcell HX.out.nxt rfl
            have n3 : Z.cell? ⟨n, 3, none⟩ = some (.int .i64 sf) := bcell HX.out.nxt rfl
            go_wp2_with (first | (at_builtin; refine cpr.wpList_append_run rfl _ _ _ _ rfl _ _ _ rfl rfl hrun ?_) | (go_at_call 6; fail))
            clear n0 n1 n2 n3 hu hrun
            refine hal.mono ?_
            rintro e w6 ⟨a6, c6, rfl, ho6, hb6⟩
            have HX6 : Hid (Wx w1 ys R ya yc ra rc lg sf n Y Q sa sc ta tc l2 sf (.slice av K.length cv) K safe  w6) := HX.out.on hb6
            have HO6 : Hid (w6.ownsRow Z.heap.size 61 3 (.slice a6 (all0 Y Q).length c6) (all0 Y Q).length ((all0 Y Q).flatMap flP.c)) := ho6
            clear hal ho6 hb6 HX
            go_wp2
            have hq9 : z.tmod 2 = z % 2 := Int.tmod_eq_emod_of_nonneg hz
            have HSP : Hid (∀ W : World, Below w6.heap.size w6 W → Calls Tryz.prog 10 #[.agg #[.slice sa Y.length sc, .slice ta Q.length tc, .string l2, .int .i64 sf], .int .i64 (z.tmod 2), .int .i64 0] W fun e w' => ∃ sa' sc' ta' tc', e = .returned (.agg #[.slice sa' (sst.ansY Y Q l2 sf (z.tmod 2) 0).length sc', .slice ta' (sst.ansR Y Q l2 sf (z.tmod 2) 0).length tc', .string l2, .int .i64 sf]) ∧ Ta w' W.heap.size (sst.ansY Y Q l2 sf (z.tmod 2) 0) (sst.ansR Y Q l2 sf (z.tmod 2) 0) sa' sc' ta' tc' ∧ Below W.heap.size W w') := fun W hW => by
              have hx := HX6.out.on hW
              have hok9 := okS_parts hx.iv.ok
              exact p_step hx.tab.pt (ok_ft (okS_okB hx.iv.ok)) (by have := (recs_whole hok9.2.2.1).2.2; omega) _ _ (by omega) (by omega)
            have HSO : Hid (Iv l2 sf (sst.ansY Y Q l2 sf (z.tmod 2) 0) (sst.ansR Y Q l2 sf (z.tmod 2) 0) (K.map (·.l)) safe ∧ all0 (sst.ansY Y Q l2 sf (z.tmod 2) 0) (sst.ansR Y Q l2 sf (z.tmod 2) 0) = all0 Y Q) := ⟨HX6.out.iv.step _ _, (step_ok HX6.out.iv.ok).2⟩
            clear hq9
            obtain ⟨zr, hzr⟩ : ∃ y, z.tmod 2 = y := ⟨_, rfl⟩
            rw [hzr] at HSP HSO
            obtain ⟨Y2, hY2⟩ : ∃ y, sst.ansY Y Q l2 sf zr 0 = y := ⟨_, rfl⟩
            obtain ⟨Q2, hQ2⟩ : ∃ y, sst.ansR Y Q l2 sf zr 0 = y := ⟨_, rfl⟩
            rw [hY2, hQ2] at HSP HSO
            clear hY2 hQ2
            refine cht.region (σ := G4) (ws := (fun s : G4 => [(70, .agg #[.slice sa Y.length sc, .slice ta Q.length tc, .string l2, .int .i64 sf]), (71, .slice (some ⟨ub, uo, none⟩) is.length uc), (72, .int .i64 k), (73, .pointer (some ⟨ub, uo + k, none⟩)), (74, .int .i64 z), (75, .int .i64 zr), (76, .agg #[.slice s.sa Y2.length s.sc, .slice s.ta Q2.length s.tc, .string l2, .int .i64 sf])])) (js := [6, 7]) (S := (fun g k W => S4 w6 n Y2 Q2 l2 sf g k W)) [70, 71, 72, 73, 74, 75, 76] ⟨none, 0, none, 0⟩ (by kernel_rfl) (by kernel_rfl) (fun _ => rfl) (by kernel_rfl) (by decide) S4.start ?_ ?_
            · refine ⟨cht.quiet 0 rfl (by decide) (.inr ⟨6, _, rfl, rfl, ⟨0, .data⟩, by simp, rfl, rfl⟩) (by simp) (fun s => .agg #[.slice sa Y.length sc, .slice ta Q.length tc, .string l2, .int .i64 sf]) (by rintro s _ ⟨⟩; exact dk.sets_on _ (by simp) _ rfl) (fun s k' W hk' hS => by obtain ⟨W0, g1, g2, _, _⟩ := hS; obtain rfl := g2 (by omega); have hn := (HX6.out.on g1).nxt; have c0 : W.cell? ⟨n, 0, none⟩ = some (.slice sa Y.length sc) := bcell hn rfl; have c1 : W.cell? ⟨n, 1, none⟩ = some (.slice ta Q.length tc) := bcell hn rfl; have c2 : W.cell? ⟨n, 2, none⟩ = some (.string l2) := bcell hn rfl; have c3 : W.cell? ⟨n, 3, none⟩ = some (.int .i64 sf) := bcell hn rfl; simp [execOp, go_sem, Act.eval, dk.sets_get, List.lookup, c0, c1, c2, c3]), ?_⟩
              refine ⟨cht.quiet 2 rfl (by decide) (.inl rfl) (by simp) (fun s => .slice (some ⟨ub, uo, none⟩) is.length uc) (by rintro s _ ⟨⟩; exact dk.sets_on _ (by simp) _ rfl) (fun s k' W hk' hS => by simp [execOp, go_sem, Act.eval, dk.sets_get, List.lookup]), ?_⟩
              refine ⟨cht.quiet 2 rfl (by decide) (.inl rfl) (by simp) (fun s => .int .i64 k) (by rintro s _ ⟨⟩; exact dk.sets_on _ (by simp) _ rfl) (fun s k' W hk' hS => by simp [execOp, go_sem, Act.eval, dk.sets_get, List.lookup]), ?_⟩
              refine ⟨cht.quiet 2 rfl (by decide) (.inl rfl) (by simp) (fun s => .pointer (some ⟨ub, uo + k, none⟩)) (by rintro s _ ⟨⟩; exact dk.sets_on _ (by simp) _ rfl) (fun s k' W hk' hS => by simp [execOp, go_sem, Act.eval, dk.sets_get, List.lookup, j2]), ?_⟩
              refine ⟨cht.quiet 2 rfl (by decide) (.inl rfl) (by simp) (fun s => .int .i64 z) (by rintro s _ ⟨⟩; exact dk.sets_on _ (by simp) _ rfl) (fun s k' W hk' hS => by have c0 := HCU.out W (s4_bel HX6.out hS); simp [execOp, go_sem, Act.eval, dk.sets_get, List.lookup, c0]), ?_⟩
              refine ⟨cht.quiet 2 rfl (by decide) (.inl rfl) (by simp) (fun s => .int .i64 zr) (by rintro s _ ⟨⟩; exact dk.sets_on _ (by simp) _ rfl) (fun s k' W hk' hS => by simp [execOp, go_sem, Act.eval, dk.sets_get, List.lookup, hzr]), ?_⟩
              refine ⟨chd.call 0 [6, 7] [76] (by kernel_rfl) (by kernel_rfl) rfl (by decide) rfl (.inl rfl) (by simp) 10 (fun s => #[.agg #[.slice sa Y.length sc, .slice ta Q.length tc, .string l2, .int .i64 sf], .int .i64 zr, .int .i64 0]) (fun s W hS => by have hS2 := hS; obtain ⟨W0, g1, g2, _, _⟩ := hS2; obtain rfl := g2 (by omega); exact ⟨by simp [go_sem, Act.eval, dk.sets_get, List.lookup], (HSP.out W g1).mono fun e w9 hh => by obtain ⟨sa, sc, ta, tc, rfl, h1, h2⟩ := hh; exact ⟨⟨sa, sc, ta, tc⟩, _, rfl, (by simp [chd.But]), (by rintro _ ⟨⟩; exact dk.sets_on _ (by simp) _ rfl), S4.call hS h2 h1⟩⟩), ?_⟩
              exact ⟨cht.sto 1 rfl (by decide) rfl (.inr ⟨⟨6, .chain⟩, by simp, rfl, rfl⟩) (by simp) rfl (fun s W hS => by have hS2 := hS; obtain ⟨W0, g1, g2, _, _⟩ := hS2; obtain rfl := g2 (by omega); have hn := (HX6.out.on g1).nxt; have c0 : W.cell? ⟨n, 0, none⟩ = some (.slice sa Y.length sc) := bcell hn rfl; have f0 := bfree hn 0; have c1 : W.cell? ⟨n, 1, none⟩ = some (.slice ta Q.length tc) := bcell hn rfl; have f1 := bfree hn 1; have c2 : W.cell? ⟨n, 2, none⟩ = some (.string l2) := bcell hn rfl; have f2 := bfree hn 2; have c3 : W.cell? ⟨n, 3, none⟩ = some (.int .i64 sf) := bcell hn rfl; have f3 := bfree hn 3; exact ⟨((((W.setCell ⟨n, 0, none⟩ (.slice s.sa Y2.length s.sc)).setCell ⟨n, 1, none⟩ (.slice s.ta Q2.length s.tc)).setCell ⟨n, 2, none⟩ (.string l2)).setCell ⟨n, 3, none⟩ (.int .i64 sf)), by simp [execOp, go_sem, Act.eval, dk.sets_get, List.lookup, c0, c1, c2, c3, f0, f1, f2, f3], S4.sto hS⟩), trivial⟩
            intro s w7 hS
            obtain ⟨W0, g1, _, g3, g4⟩ := hS
            have hx7 := (HX6.out.on g1).step HX6.out.lt (g3 (by decide)) HSO.out.1
            have ho7 := own4 (rnw.own_below HO6.out g1) hnz (.slice s.sa Y2.length s.sc) (.slice s.ta Q2.length s.tc) (.string l2) (.int .i64 sf)
            rw [← g4 (Nat.le_refl _)] at hx7 ho7
            have HO7 : Hid (w7.ownsRow Z.heap.size 61 3 (.slice a6 (all0 Y Q).length c6) (all0 Y Q).length ((all0 Y Q).flatMap flP.c)) := ho7
            clear HX6 HSP g1 g3 g4 HO6 hnz ho7
            obtain ⟨sa, sc, ta, tc⟩ := s
            simp only [dk.sets, Act.put, List.setIfInBounds_toArray, List.set_cons_succ, List.set_cons_zero]
            have HX7 : Hid (Wx w1 ys R ya yc ra rc lg sf n Y2 Q2 sa sc ta tc l2 sf (.slice av K.length cv) K safe  w7) := hx7
            clear hx7
            have hal := p_all HX7.out.tab.pt (ok_ft (okS_okB HX7.out.iv.ok)) l2 sf
            rw [HSO.out.2] at hal
            have HSM : Hid (∀ (W : World) (a8 : Option Addr) (c8 : Nat), Below w7.heap.size w7 W → Row flP.c 3 W W.heap.size a8 (all0 Y Q) → Calls Tryz.prog 11 #[.slice a8 (all0 Y Q).length c8, .slice a6 (all0 Y Q).length c6] W fun e w' => e = .returned (.bool true) ∧ Below W.heap.size W w') := fun W a8 c8 hW h8 => by
              have h9 := smp.same_pairs (all0 Y Q) (all0 Y Q) a8 a6 c8 c6 W (len_of HO7.out) (len_of HO7.out) h8 ((row_of HO7.out).inn hW)
              rwa [smp.sameL_yes rfl] at h9
            clear HSO
            obtain ⟨AL, hAL⟩ : ∃ y, all0 Y Q = y := ⟨_, rfl⟩
            rw [hAL] at hal HSM
            have n0 : w7.cell? ⟨n, 0, none⟩ = some (.slice sa Y2.length sc) := bcell HX7.out.nxt rfl
            have n1 : w7.cell? ⟨n, 1, none⟩ = some (.slice ta Q2.length tc) := bcell HX7.out.nxt rfl
            have n2 : w7.cell? ⟨n, 2, none⟩ = some (.string l2) := bcell HX7.out.nxt rfl
            have n3 : w7.cell? ⟨n, 3, none⟩ = some (.int .i64 sf) := bcell HX7.out.nxt rfl
            go_wp2_with (go_at_call 6; fail)
            clear n0 n1 n2 n3
            refine hal.mono ?_
            rintro e w8 ⟨a8, c8, rfl, _, _, hr8, hb8⟩
            have hsm := HSM.out w8 a8 c8 hb8 hr8
            have HX8 : Hid (Wx w1 ys R ya yc ra rc lg sf n Y2 Q2 sa sc ta tc l2 sf (.slice av K.length cv) K safe  w8) := HX7.out.on hb8
            clear hal hr8 hb8 HX7 HSM HO7
            go_wp2_with (go_at_call 11; fail)
            refine hsm.mono ?_
            rintro e w9 ⟨rfl, hb9⟩
            have HX9 : Hid (Wx w1 ys R ya yc ra rc lg sf n Y2 Q2 sa sc ta tc l2 sf (.slice av K.length cv) K safe  w9) := HX8.out.on hb9
            clear hsm hb9 HX8 hAL
            obtain ⟨Y, hY⟩ : ∃ y, Y2 = y := ⟨_, rfl⟩
            obtain ⟨Q, hQ⟩ : ∃ y, Q2 = y := ⟨_, rfl⟩
            rw [hY, hQ] at HX9
            clear hY hQ
            have n0 : w9.cell? ⟨n, 0, none⟩ = some (.slice sa Y.length sc) := bcell HX9.out.nxt rfl
            have n1 : w9.cell? ⟨n, 1, none⟩ = some (.slice ta Q.length tc) := bcell HX9.out.nxt rfl
            have n2 : w9.cell? ⟨n, 2, none⟩ = some (.string l2) := bcell HX9.out.nxt rfl
            have n3 : w9.cell? ⟨n, 3, none⟩ = some (.int .i64 sf) := bcell HX9.out.nxt rfl
            have b0 : w9.cell? ⟨w1.heap.size, 0, none⟩ = some (.slice ya ys.length yc) := bcell HX9.out.box rfl
            have b1 : w9.cell? ⟨w1.heap.size, 1, none⟩ = some (.slice ra R.length rc) := bcell HX9.out.box rfl
            have b2 : w9.cell? ⟨w1.heap.size, 2, none⟩ = some (.string lg) := bcell HX9.out.box rfl
            have b3 : w9.cell? ⟨w1.heap.size, 3, none⟩ = some (.int .i64 sf) := bcell HX9.out.box rfl
            have f0 := bfree HX9.out.box 0
            have f1 := bfree HX9.out.box 1
            have f2 := bfree HX9.out.box 2
            have f3 := bfree HX9.out.box 3
            have hs9 := HX9.out.put
            obtain ⟨X9, hX9⟩ : ∃ y, ((((w9.setCell ⟨w1.heap.size, 0, none⟩ (.slice sa Y.length sc)).setCell ⟨w1.heap.size, 1, none⟩ (.slice ta Q.length tc)).setCell ⟨w1.heap.size, 2, none⟩ (.string l2)).setCell ⟨w1.heap.size, 3, none⟩ (.int .i64 sf)) = y := ⟨_, rfl⟩
            rw [hX9] at hs9
            have HS9 : Hid (Ws w1 Y Q sa sc ta tc l2 sf (.slice av K.length cv) K safe X9) := hs9
            have hok9 := okS_parts HS9.out.iv.ok
            have hok := p_ok (lg := l2) (sf := sf) HS9.out.tab.pt (ok_ft (okS_okB HS9.out.iv.ok)) (by have := (recs_whole hok9.2.2.1).2.2; omega) (wf_sf hok9.2.1 (recs_whole hok9.2.2.1).2.2) (HD.out.tb.on HS9.out.bel)
            rw [HS9.out.iv.ok] at hok
            clear hs9 hok9 HX9
            have m0 : X9.cell? ⟨w1.heap.size, 0, none⟩ = some (.slice sa Y.length sc) := bcell HS9.out.box rfl
            have m1 : X9.cell? ⟨w1.heap.size, 1, none⟩ = some (.slice ta Q.length tc) := bcell HS9.out.box rfl
            have m2 : X9.cell? ⟨w1.heap.size, 2, none⟩ = some (.string l2) := bcell HS9.out.box rfl
            have m3 : X9.cell? ⟨w1.heap.size, 3, none⟩ = some (.int .i64 sf) := bcell HS9.out.box rfl
            go_wp2_with (go_at_call 12; fail)
            clear hX9 n0 n1 n2 n3 b0 b1 b2 b3 f0 f1 f2 f3 m0 m1 m2 m3
            refine hok.mono ?_
            rintro e w9 ⟨rfl, hb9⟩
            have HE : Hid (Ws w1 Y Q sa sc ta tc l2 sf (.slice av K.length cv) K safe w9) := HS9.out.on hb9
            clear hok hb9 HS9
            go_wp2
            go_roundw
            case rel => exact ⟨k + 1, Y, Q, sa, sc, ta, tc, l2, sf, safe, K, av, cv, by omega, by go_num, rfl, rfl, HKL.out, HE⟩
            case measure => simp [intOf]; omega
        case' false =>
          have hss := HS3.out.samecall HS.out rfl
          have hfin : w4.heap[n]? = some (.cells #[.slice sa Y.length sc, .slice ta Q.length tc, .string l2, .int .i64 sf] 32 (0, 0)) := HS3.out.fin (Nat.le_refl _)
          have hbx := (HS.out.on HS3.out.bel).box
          have n0 : w4.cell? ⟨n, 0, none⟩ = some (.slice sa Y.length sc) := bcell hfin rfl
          have n1 : w4.cell? ⟨n, 1, none⟩ = some (.slice ta Q.length tc) := bcell hfin rfl
          have n2 : w4.cell? ⟨n, 2, none⟩ = some (.string l2) := bcell hfin rfl
          have n3 : w4.cell? ⟨n, 3, none⟩ = some (.int .i64 sf) := bcell hfin rfl
          have b0 : w4.cell? ⟨w1.heap.size, 0, none⟩ = some (.slice ya ys.length yc) := bcell hbx rfl
          have b1 : w4.cell? ⟨w1.heap.size, 1, none⟩ = some (.slice ra R.length rc) := bcell hbx rfl
          have b2 : w4.cell? ⟨w1.heap.size, 2, none⟩ = some (.string lg) := bcell hbx rfl
          have b3 : w4.cell? ⟨w1.heap.size, 3, none⟩ = some (.int .i64 sf) := bcell hbx rfl
          clear hfin hbx
          go_wp2_with (go_at_call 9; fail)
          clear n0 n1 n2 n3 b0 b1 b2 b3
          refine hss.mono ?_
          rintro e Z ⟨rfl, hb5⟩
          have HX : Hid (Wx w1 ys R ya yc ra rc lg sf n Y Q sa sc ta tc l2 sf (.slice av K.length cv) K safe  Z) := (HS3.out.same HS.out rfl).on hb5
          have HKL2 : Hid (K.length ≤ k + 1 + 1) := Nat.le_succ_of_le HKL.out
          clear hss hb5 HS HS3 HKL
          have HKL := HKL2
          clear HKL2
          have hu : Z.cell? ⟨ub, uo + k, none⟩ = some (.int .i64 z) := HCU.out Z HX.out.bel
          by_cases hz : (0 : Int) ≤ z
          case' neg =>
            have n0 : Z.cell? ⟨n, 0, none⟩ = some (.slice sa Y.length sc) := bcell HX.out.nxt rfl
            have n1 : Z.cell? ⟨n, 1, none⟩ = some (.slice ta Q.length tc) := bcell HX.out.nxt rfl
            have n2 : Z.cell? ⟨n, 2, none⟩ = some (.string l2) := bcell HX.out.nxt rfl
            have n3 : Z.cell? ⟨n, 3, none⟩ = some (.int .i64 sf) := bcell HX.out.nxt rfl
            have b0 : Z.cell? ⟨w1.heap.size, 0, none⟩ = some (.slice ya ys.length yc) := bcell HX.out.box rfl
            have b1 : Z.cell? ⟨w1.heap.size, 1, none⟩ = some (.slice ra R.length rc) := bcell HX.out.box rfl
            have b2 : Z.cell? ⟨w1.heap.size, 2, none⟩ = some (.string lg) := bcell HX.out.box rfl
            have b3 : Z.cell? ⟨w1.heap.size, 3, none⟩ = some (.int .i64 sf) := bcell HX.out.box rfl
            have f0 := bfree HX.out.box 0
            have f1 := bfree HX.out.box 1
            have f2 := bfree HX.out.box 2
            have f3 := bfree HX.out.box 3
            have hs9 := HX.out.put
            obtain ⟨X9, hX9⟩ : ∃ y, ((((Z.setCell ⟨w1.heap.size, 0, none⟩ (.slice sa Y.length sc)).setCell ⟨w1.heap.size, 1, none⟩ (.slice ta Q.length tc)).setCell ⟨w1.heap.size, 2, none⟩ (.string l2)).setCell ⟨w1.heap.size, 3, none⟩ (.int .i64 sf)) = y := ⟨_, rfl⟩
            rw [hX9] at hs9
            have HS9 : Hid (Ws w1 Y Q sa sc ta tc l2 sf (.slice av K.length cv) K safe X9) := hs9
            have hok9 := okS_parts HS9.out.iv.ok
            have hok := p_ok (lg := l2) (sf := sf) HS9.out.tab.pt (ok_ft (okS_okB HS9.out.iv.ok)) (by have := (recs_whole hok9.2.2.1).2.2; omega) (wf_sf hok9.2.1 (recs_whole hok9.2.2.1).2.2) (HD.out.tb.on HS9.out.bel)
            rw [HS9.out.iv.ok] at hok
            clear hs9 hok9 HX
            have m0 : X9.cell? ⟨w1.heap.size, 0, none⟩ = some (.slice sa Y.length sc) := bcell HS9.out.box rfl
            have m1 : X9.cell? ⟨w1.heap.size, 1, none⟩ = some (.slice ta Q.length tc) := bcell HS9.out.box rfl
            have m2 : X9.cell? ⟨w1.heap.size, 2, none⟩ = some (.string l2) := bcell HS9.out.box rfl
            have m3 : X9.cell? ⟨w1.heap.size, 3, none⟩ = some (.int .i64 sf) := bcell HS9.out.box rfl
            go_wp2_with (go_at_call 12; fail)
            clear hu hz
            clear hX9 n0 n1 n2 n3 b0 b1 b2 b3 f0 f1 f2 f3 m0 m1 m2 m3
            refine hok.mono ?_
            rintro e w9 ⟨rfl, hb9⟩
            have HE : Hid (Ws w1 Y Q sa sc ta tc l2 sf (.slice av K.length cv) K safe w9) := HS9.out.on hb9
            clear hok hb9 HS9
            go_wp2
            go_roundw
            case rel => exact ⟨k + 1, Y, Q, sa, sc, ta, tc, l2, sf, safe, K, av, cv, by omega, by go_num, rfl, rfl, HKL.out, HE⟩
            case measure => simp [intOf]; omega
          case' pos =>
            have hal := p_all2 HX.out.tab.pt (ok_ft (okS_okB HX.out.iv.ok)) l2 sf
            have hnz := HX.out.lt
            have n0 : Z.cell? ⟨n, 0, none⟩ = some (.slice sa Y.length sc) := bcell HX.out.nxt rfl
            have n1 : Z.cell? ⟨n, 1, none⟩ = some (.slice ta Q.length tc) := bcell HX.out.nxt rfl
            have n2 : Z.cell? ⟨n, 2, none⟩ = some (.string l2) := bcell HX.out.nxt rfl
            have n3 : Z.cell? ⟨n, 3, none⟩ = some (.int .i64 sf) := bcell HX.out.nxt rfl
            go_wp2_with (go_at_call 6; fail)
            clear n0 n1 n2 n3 hu
            refine hal.mono ?_
            rintro e w6 ⟨a6, c6, rfl, ho6, hb6⟩
            have HX6 : Hid (Wx w1 ys R ya yc ra rc lg sf n Y Q sa sc ta tc l2 sf (.slice av K.length cv) K safe  w6) := HX.out.on hb6
            have HO6 : Hid (w6.ownsRow Z.heap.size 61 3 (.slice a6 (all0 Y Q).length c6) (all0 Y Q).length ((all0 Y Q).flatMap flP.c)) := ho6
            clear hal ho6 hb6 HX
            go_wp2
            have hq9 : z.tmod 2 = z % 2 := Int.tmod_eq_emod_of_nonneg hz
            have HSP : Hid (∀ W : World, Below w6.heap.size w6 W → Calls Tryz.prog 10 #[.agg #[.slice sa Y.length sc, .slice ta Q.length tc, .string l2, .int .i64 sf], .int .i64 (z.tmod 2), .int .i64 0] W fun e w' => ∃ sa' sc' ta' tc', e = .returned (.agg #[.slice sa' (sst.ansY Y Q l2 sf (z.tmod 2) 0).length sc', .slice ta' (sst.ansR Y Q l2 sf (z.tmod 2) 0).length tc', .string l2, .int .i64 sf]) ∧ Ta w' W.heap.size (sst.ansY Y Q l2 sf (z.tmod 2) 0) (sst.ansR Y Q l2 sf (z.tmod 2) 0) sa' sc' ta' tc' ∧ Below W.heap.size W w') := fun W hW => by
              have hx := HX6.out.on hW
              have hok9 := okS_parts hx.iv.ok
              exact p_step hx.tab.pt (ok_ft (okS_okB hx.iv.ok)) (by have := (recs_whole hok9.2.2.1).2.2; omega) _ _ (by omega) (by omega)
            have HSO : Hid (Iv l2 sf (sst.ansY Y Q l2 sf (z.tmod 2) 0) (sst.ansR Y Q l2 sf (z.tmod 2) 0) (K.map (·.l)) safe ∧ all0 (sst.ansY Y Q l2 sf (z.tmod 2) 0) (sst.ansR Y Q l2 sf (z.tmod 2) 0) = all0 Y Q) := ⟨HX6.out.iv.step _ _, (step_ok HX6.out.iv.ok).2⟩
            clear hq9
            obtain ⟨zr, hzr⟩ : ∃ y, z.tmod 2 = y := ⟨_, rfl⟩
            rw [hzr] at HSP HSO
            obtain ⟨Y2, hY2⟩ : ∃ y, sst.ansY Y Q l2 sf zr 0 = y := ⟨_, rfl⟩
            obtain ⟨Q2, hQ2⟩ : ∃ y, sst.ansR Y Q l2 sf zr 0 = y := ⟨_, rfl⟩
            rw [hY2, hQ2] at HSP HSO
            clear hY2 hQ2
            refine cht.region (σ := G4) (ws := (fun s : G4 => [(70, .agg #[.slice sa Y.length sc, .slice ta Q.length tc, .string l2, .int .i64 sf]), (71, .slice (some ⟨ub, uo, none⟩) is.length uc), (72, .int .i64 k), (73, .pointer (some ⟨ub, uo + k, none⟩)), (74, .int .i64 z), (75, .int .i64 zr), (76, .agg #[.slice s.sa Y2.length s.sc, .slice s.ta Q2.length s.tc, .string l2, .int .i64 sf])])) (js := [6, 7]) (S := (fun g k W => S4 w6 n Y2 Q2 l2 sf g k W)) [70, 71, 72, 73, 74, 75, 76] ⟨none, 0, none, 0⟩ (by kernel_rfl) (by kernel_rfl) (fun _ => rfl) (by kernel_rfl) (by decide) S4.start ?_ ?_
            · refine ⟨cht.quiet 0 rfl (by decide) (.inr ⟨6, _, rfl, rfl, ⟨0, .data⟩, by simp, rfl, rfl⟩) (by simp) (fun s => .agg #[.slice sa Y.length sc, .slice ta Q.length tc, .string l2, .int .i64 sf]) (by rintro s _ ⟨⟩; exact dk.sets_on _ (by simp) _ rfl) (fun s k' W hk' hS => by obtain ⟨W0, g1, g2, _, _⟩ := hS; obtain rfl := g2 (by omega); have hn := (HX6.out.on g1).nxt; have c0 : W.cell? ⟨n, 0, none⟩ = some (.slice sa Y.length sc) := bcell hn rfl; have c1 : W.cell? ⟨n, 1, none⟩ = some (.slice ta Q.length tc) := bcell hn rfl; have c2 : W.cell? ⟨n, 2, none⟩ = some (.string l2) := bcell hn rfl; have c3 : W.cell? ⟨n, 3, none⟩ = some (.int .i64 sf) := bcell hn rfl; simp [execOp, go_sem, Act.eval, dk.sets_get, List.lookup, c0, c1, c2, c3]), ?_⟩
              refine ⟨cht.quiet 2 rfl (by decide) (.inl rfl) (by simp) (fun s => .slice (some ⟨ub, uo, none⟩) is.length uc) (by rintro s _ ⟨⟩; exact dk.sets_on _ (by simp) _ rfl) (fun s k' W hk' hS => by simp [execOp, go_sem, Act.eval, dk.sets_get, List.lookup]), ?_⟩
              refine ⟨cht.quiet 2 rfl (by decide) (.inl rfl) (by simp) (fun s => .int .i64 k) (by rintro s _ ⟨⟩; exact dk.sets_on _ (by simp) _ rfl) (fun s k' W hk' hS => by simp [execOp, go_sem, Act.eval, dk.sets_get, List.lookup]), ?_⟩
              refine ⟨cht.quiet 2 rfl (by decide) (.inl rfl) (by simp) (fun s => .pointer (some ⟨ub, uo + k, none⟩)) (by rintro s _ ⟨⟩; exact dk.sets_on _ (by simp) _ rfl) (fun s k' W hk' hS => by simp [execOp, go_sem, Act.eval, dk.sets_get, List.lookup, j2]), ?_⟩
              refine ⟨cht.quiet 2 rfl (by decide) (.inl rfl) (by simp) (fun s => .int .i64 z) (by rintro s _ ⟨⟩; exact dk.sets_on _ (by simp) _ rfl) (fun s k' W hk' hS => by have c0 := HCU.out W (s4_bel HX6.out hS); simp [execOp, go_sem, Act.eval, dk.sets_get, List.lookup, c0]), ?_⟩
              refine ⟨cht.quiet 2 rfl (by decide) (.inl rfl) (by simp) (fun s => .int .i64 zr) (by rintro s _ ⟨⟩; exact dk.sets_on _ (by simp) _ rfl) (fun s k' W hk' hS => by simp [execOp, go_sem, Act.eval, dk.sets_get, List.lookup, hzr]), ?_⟩
              refine ⟨chd.call 0 [6, 7] [76] (by kernel_rfl) (by kernel_rfl) rfl (by decide) rfl (.inl rfl) (by simp) 10 (fun s => #[.agg #[.slice sa Y.length sc, .slice ta Q.length tc, .string l2, .int .i64 sf], .int .i64 zr, .int .i64 0]) (fun s W hS => by have hS2 := hS; obtain ⟨W0, g1, g2, _, _⟩ := hS2; obtain rfl := g2 (by omega); exact ⟨by simp [go_sem, Act.eval, dk.sets_get, List.lookup], (HSP.out W g1).mono fun e w9 hh => by obtain ⟨sa, sc, ta, tc, rfl, h1, h2⟩ := hh; exact ⟨⟨sa, sc, ta, tc⟩, _, rfl, (by simp [chd.But]), (by rintro _ ⟨⟩; exact dk.sets_on _ (by simp) _ rfl), S4.call hS h2 h1⟩⟩), ?_⟩
              exact ⟨cht.sto 1 rfl (by decide) rfl (.inr ⟨⟨6, .chain⟩, by simp, rfl, rfl⟩) (by simp) rfl (fun s W hS => by have hS2 := hS; obtain ⟨W0, g1, g2, _, _⟩ := hS2; obtain rfl := g2 (by omega); have hn := (HX6.out.on g1).nxt; have c0 : W.cell? ⟨n, 0, none⟩ = some (.slice sa Y.length sc) := bcell hn rfl; have f0 := bfree hn 0; have c1 : W.cell? ⟨n, 1, none⟩ = some (.slice ta Q.length tc) := bcell hn rfl; have f1 := bfree hn 1; have c2 : W.cell? ⟨n, 2, none⟩ = some (.string l2) := bcell hn rfl; have f2 := bfree hn 2; have c3 : W.cell? ⟨n, 3, none⟩ = some (.int .i64 sf) := bcell hn rfl; have f3 := bfree hn 3; exact ⟨((((W.setCell ⟨n, 0, none⟩ (.slice s.sa Y2.length s.sc)).setCell ⟨n, 1, none⟩ (.slice s.ta Q2.length s.tc)).setCell ⟨n, 2, none⟩ (.string l2)).setCell ⟨n, 3, none⟩ (.int .i64 sf)), by simp [execOp, go_sem, Act.eval, dk.sets_get, List.lookup, c0, c1, c2, c3, f0, f1, f2, f3], S4.sto hS⟩), trivial⟩
            intro s w7 hS
            obtain ⟨W0, g1, _, g3, g4⟩ := hS
            have hx7 := (HX6.out.on g1).step HX6.out.lt (g3 (by decide)) HSO.out.1
            have ho7 := own4 (rnw.own_below HO6.out g1) hnz (.slice s.sa Y2.length s.sc) (.slice s.ta Q2.length s.tc) (.string l2) (.int .i64 sf)
            rw [← g4 (Nat.le_refl _)] at hx7 ho7
            have HO7 : Hid (w7.ownsRow Z.heap.size 61 3 (.slice a6 (all0 Y Q).length c6) (all0 Y Q).length ((all0 Y Q).flatMap flP.c)) := ho7
            clear HX6 HSP g1 g3 g4 HO6 hnz ho7
            obtain ⟨sa, sc, ta, tc⟩ := s
            simp only [dk.sets, Act.put, List.setIfInBounds_toArray, List.set_cons_succ, List.set_cons_zero]
            have HX7 : Hid (Wx w1 ys R ya yc ra rc lg sf n Y2 Q2 sa sc ta tc l2 sf (.slice av K.length cv) K safe  w7) := hx7
            clear hx7
            have hal := p_all HX7.out.tab.pt (ok_ft (okS_okB HX7.out.iv.ok)) l2 sf
            rw [HSO.out.2] at hal
            have HSM : Hid (∀ (W : World) (a8 : Option Addr) (c8 : Nat), Below w7.heap.size w7 W → Row flP.c 3 W W.heap.size a8 (all0 Y Q) → Calls Tryz.prog 11 #[.slice a8 (all0 Y Q).length c8, .slice a6 (all0 Y Q).length c6] W fun e w' => e = .returned (.bool true) ∧ Below W.heap.size W w') := fun W a8 c8 hW h8 => by
              have h9 := smp.same_pairs (all0 Y Q) (all0 Y Q) a8 a6 c8 c6 W (len_of HO7.out) (len_of HO7.out) h8 ((row_of HO7.out).inn hW)
              rwa [smp.sameL_yes rfl] at h9
            clear HSO
            obtain ⟨AL, hAL⟩ : ∃ y, all0 Y Q = y := ⟨_, rfl⟩
            rw [hAL] at hal HSM
            have n0 : w7.cell? ⟨n, 0, none⟩ = some (.slice sa Y2.length sc) := bcell HX7.out.nxt rfl
            have n1 : w7.cell? ⟨n, 1, none⟩ = some (.slice ta Q2.length tc) := bcell HX7.out.nxt rfl
            have n2 : w7.cell? ⟨n, 2, none⟩ = some (.string l2) := bcell HX7.out.nxt rfl
            have n3 : w7.cell? ⟨n, 3, none⟩ = some (.int .i64 sf) := bcell HX7.out.nxt rfl
            go_wp2_with (go_at_call 6; fail)
            clear n0 n1 n2 n3
            refine hal.mono ?_
            rintro e w8 ⟨a8, c8, rfl, _, _, hr8, hb8⟩
            have hsm := HSM.out w8 a8 c8 hb8 hr8
            have HX8 : Hid (Wx w1 ys R ya yc ra rc lg sf n Y2 Q2 sa sc ta tc l2 sf (.slice av K.length cv) K safe  w8) := HX7.out.on hb8
            clear hal hr8 hb8 HX7 HSM HO7
            go_wp2_with (go_at_call 11; fail)
            refine hsm.mono ?_
            rintro e w9 ⟨rfl, hb9⟩
            have HX9 : Hid (Wx w1 ys R ya yc ra rc lg sf n Y2 Q2 sa sc ta tc l2 sf (.slice av K.length cv) K safe  w9) := HX8.out.on hb9
            clear hsm hb9 HX8 hAL
            obtain ⟨Y, hY⟩ : ∃ y, Y2 = y := ⟨_, rfl⟩
            obtain ⟨Q, hQ⟩ : ∃ y, Q2 = y := ⟨_, rfl⟩
            rw [hY, hQ] at HX9
            clear hY hQ
            have n0 : w9.cell? ⟨n, 0, none⟩ = some (.slice sa Y.length sc) := bcell HX9.out.nxt rfl
            have n1 : w9.cell? ⟨n, 1, none⟩ = some (.slice ta Q.length tc) := bcell HX9.out.nxt rfl
            have n2 : w9.cell? ⟨n, 2, none⟩ = some (.string l2) := bcell HX9.out.nxt rfl
            have n3 : w9.cell? ⟨n, 3, none⟩ = some (.int .i64 sf) := bcell HX9.out.nxt rfl
            have b0 : w9.cell? ⟨w1.heap.size, 0, none⟩ = some (.slice ya ys.length yc) := bcell HX9.out.box rfl
            have b1 : w9.cell? ⟨w1.heap.size, 1, none⟩ = some (.slice ra R.length rc) := bcell HX9.out.box rfl
            have b2 : w9.cell? ⟨w1.heap.size, 2, none⟩ = some (.string lg) := bcell HX9.out.box rfl
            have b3 : w9.cell? ⟨w1.heap.size, 3, none⟩ = some (.int .i64 sf) := bcell HX9.out.box rfl
            have f0 := bfree HX9.out.box 0
            have f1 := bfree HX9.out.box 1
            have f2 := bfree HX9.out.box 2
            have f3 := bfree HX9.out.box 3
            have hs9 := HX9.out.put
            obtain ⟨X9, hX9⟩ : ∃ y, ((((w9.setCell ⟨w1.heap.size, 0, none⟩ (.slice sa Y.length sc)).setCell ⟨w1.heap.size, 1, none⟩ (.slice ta Q.length tc)).setCell ⟨w1.heap.size, 2, none⟩ (.string l2)).setCell ⟨w1.heap.size, 3, none⟩ (.int .i64 sf)) = y := ⟨_, rfl⟩
            rw [hX9] at hs9
            have HS9 : Hid (Ws w1 Y Q sa sc ta tc l2 sf (.slice av K.length cv) K safe X9) := hs9
            have hok9 := okS_parts HS9.out.iv.ok
            have hok := p_ok (lg := l2) (sf := sf) HS9.out.tab.pt (ok_ft (okS_okB HS9.out.iv.ok)) (by have := (recs_whole hok9.2.2.1).2.2; omega) (wf_sf hok9.2.1 (recs_whole hok9.2.2.1).2.2) (HD.out.tb.on HS9.out.bel)
            rw [HS9.out.iv.ok] at hok
            clear hs9 hok9 HX9
            have m0 : X9.cell? ⟨w1.heap.size, 0, none⟩ = some (.slice sa Y.length sc) := bcell HS9.out.box rfl
            have m1 : X9.cell? ⟨w1.heap.size, 1, none⟩ = some (.slice ta Q.length tc) := bcell HS9.out.box rfl
            have m2 : X9.cell? ⟨w1.heap.size, 2, none⟩ = some (.string l2) := bcell HS9.out.box rfl
            have m3 : X9.cell? ⟨w1.heap.size, 3, none⟩ = some (.int .i64 sf) := bcell HS9.out.box rfl
            go_wp2_with (go_at_call 12; fail)
            clear hX9 n0 n1 n2 n3 b0 b1 b2 b3 f0 f1 f2 f3 m0 m1 m2 m3
            refine hok.mono ?_
            rintro e w9 ⟨rfl, hb9⟩
            have HE : Hid (Ws w1 Y Q sa sc ta tc l2 sf (.slice av K.length cv) K safe w9) := HS9.out.on hb9
            clear hok hb9 HS9
            go_wp2
            go_roundw
            case rel => exact ⟨k + 1, Y, Q, sa, sc, ta, tc, l2, sf, safe, K, av, cv, by omega, by go_num, rfl, rfl, HKL.out, HE⟩
            case measure => simp [intOf]; omega
    case' neg =>
      obtain rfl : k = rs.length := by omega
      have i2 : ¬ (rs.length : Int) < (rs.length : Int) := by omega
      have hok9 := okS_parts HS.out.iv.ok
      obtain ⟨kk, hk1, hk2, hk3, hk4, hk5, hk6, hk7⟩ := HS.out.iv.crash (kp : Int)
      have hcr := sde.p_crash (ya := ya) (ra := ra) (yl := ys.length) (yc := yc) (rl := R.length) (rc := rc) (lg := lg) (sf := sf) (kp := (kp : Int)) (W := X) (by have := (recs_whole hok9.2.2.1).2.2; omega) (HD.out.tb.on HS.out.bel)
      obtain ⟨CL, hCL⟩ : ∃ y, sco.logL lg sf (kp : Int) = y := ⟨_, rfl⟩
      rw [hk5, hCL] at hcr
      rw [hCL] at hk3 hk4 hk6 hk7
      obtain ⟨M, hM⟩ : ∃ y, rep CL = y := ⟨_, rfl⟩
      rw [hM] at hcr hk4 hk6 hk7
      rw [List.length_map] at hk2
      have hcs := (recs_whole (okS_parts hk6).2.2.1).2.2
      have HM : Hid (okS M [] CL CL.size = true ∧ all0 M [] = M ∧ (recs CL).1.length = kk ∧ (K.map (·.l))[kk]? = some M ∧ safe ≤ kk ∧ kk < K.length ∧ CL.size ≤ 200000) := ⟨hk6, hk7, hk3, hk4, hk1, hk2, hcs⟩
      clear hk1 hk2 hk3 hk4 hk5 hk6 hk7 hcs hok9 hCL hM
      have c0 : X.cell? ⟨w1.heap.size, 0, none⟩ = some (.slice ya ys.length yc) := bcell HS.out.box rfl
      have c1 : X.cell? ⟨w1.heap.size, 1, none⟩ = some (.slice ra R.length rc) := bcell HS.out.box rfl
      have c2 : X.cell? ⟨w1.heap.size, 2, none⟩ = some (.string lg) := bcell HS.out.box rfl
      have c3 : X.cell? ⟨w1.heap.size, 3, none⟩ = some (.int .i64 sf) := bcell HS.out.box rfl
      go_wp2_with (go_at_call 13; fail)
      clear c0 c1 c2 c3
      refine hcr.mono ?_
      rintro e w3 ⟨sa, sc, rfl, hpt, hb3⟩
      have hs3 := HS.out.on hb3
      have HSL : Hid (Sl (w1.heap.size + 1) w3 (.slice av K.length cv) K ∧ Below w1.heap.size w1 w3) := ⟨hs3.sl, hs3.bel⟩
      have HPT : Hid (Pt w3 M [] sa sc none 0) := hpt
      clear hcr hb3 hs3 hpt HS
      obtain ⟨X3, hX3⟩ : ∃ y, w3.alloc (.cells #[.slice none 0 0, .slice none 0 0, .string ⟨#[]⟩, .int .i64 0] 32) = y := ⟨_, rfl⟩
      have hn0 := bnew w3 #[.slice none 0 0, .slice none 0 0, .string ⟨#[]⟩, .int .i64 0] 32
      have hb0 : Below w3.heap.size w3 X3 := by rw [← hX3]; exact (Below.refl _ _).alloc (Nat.le_refl _) _
      rw [hX3] at hn0
      have z0 : X3.cell? ⟨w3.heap.size, 0, none⟩ = some (.slice none 0 0) := bcell hn0 rfl
      have z1 : X3.cell? ⟨w3.heap.size, 1, none⟩ = some (.slice none 0 0) := bcell hn0 rfl
      have z2 : X3.cell? ⟨w3.heap.size, 2, none⟩ = some (.string ⟨#[]⟩) := bcell hn0 rfl
      have z3 : X3.cell? ⟨w3.heap.size, 3, none⟩ = some (.int .i64 0) := bcell hn0 rfl
      have g0 := bfree hn0 0
      have g1 := bfree hn0 1
      have g2 := bfree hn0 2
      have g3 := bfree hn0 3
      have hn4 := bset (bset (bset (bset hn0 0 (.slice sa M.length sc)) 1 (.slice none 0 0)) 2 (.string CL)) 3 (.int .i64 (CL.size : Int))
      have hb4 := hb0.trans ((tn4 X3 w3.heap.size (.slice sa M.length sc) (.slice none 0 0) (.string CL) (.int .i64 (CL.size : Int))).below (B := w3.heap.size) hb0.size (fun k hk => by omega))
      obtain ⟨X4, hX4⟩ : ∃ y, ((((X3.setCell ⟨w3.heap.size, 0, none⟩ (.slice sa M.length sc)).setCell ⟨w3.heap.size, 1, none⟩ (.slice none 0 0)).setCell ⟨w3.heap.size, 2, none⟩ (.string CL)).setCell ⟨w3.heap.size, 3, none⟩ (.int .i64 (CL.size : Int))) = y := ⟨_, rfl⟩
      rw [hX4] at hn4 hb4
      have HC : Hid (X4.heap[w3.heap.size]? = some (.cells #[.slice sa M.length sc, .slice none 0 0, .string CL, .int .i64 (CL.size : Int)] 32 (0, 0))) := hn4
      have HSL4 : Hid (Sl (w1.heap.size + 1) X4 (.slice av K.length cv) K ∧ Below w1.heap.size w1 X4) := ⟨HSL.out.1.on hb4, HSL.out.2.trans (hb4.mono HSL.out.2.size)⟩
      have HP4 : Hid (Pt X4 M [] sa sc none 0) := HPT.out.below hb4
      have hok := p_ok (lg := CL) (sf := (CL.size : Int)) HP4.out (ok_ft (okS_okB HM.out.1)) (by have := HM.out.2.2.2.2.2.2; omega) (wf_sf ⟨by omega, Int.le_refl _⟩ HM.out.2.2.2.2.2.2) (HD.out.tb.on HSL4.out.2)
      rw [HM.out.1] at hok
      simp only [List.length_nil] at hok
      have y0 : X4.cell? ⟨w3.heap.size, 0, none⟩ = some (.slice sa M.length sc) := bcell hn4 rfl
      have y1 : X4.cell? ⟨w3.heap.size, 1, none⟩ = some (.slice none 0 0) := bcell hn4 rfl
      have y2 : X4.cell? ⟨w3.heap.size, 2, none⟩ = some (.string CL) := bcell hn4 rfl
      have y3 : X4.cell? ⟨w3.heap.size, 3, none⟩ = some (.int .i64 (CL.size : Int)) := bcell hn4 rfl
      clear hn0 hb0 hn4 hb4 HSL HPT
      go_wp2_with (go_at_call 12; fail)
      clear hX3 hX4 z0 z1 z2 z3 g0 g1 g2 g3 y0 y1 y2 y3
      refine hok.mono ?_
      rintro e w5 ⟨rfl, hb5⟩
      have HC5 : Hid (w5.heap[w3.heap.size]? = some (.cells #[.slice sa M.length sc, .slice none 0 0, .string CL, .int .i64 (CL.size : Int)] 32 (0, 0))) := bstay HC.out hb5 (Array.getElem?_eq_some_iff.1 HC.out).1
      have HSL5 : Hid (Sl (w1.heap.size + 1) w5 (.slice av K.length cv) K ∧ Below w1.heap.size w1 w5) := ⟨HSL4.out.1.on hb5, HSL4.out.2.trans (hb5.mono HSL4.out.2.size)⟩
      have HP5 : Hid (Pt w5 M [] sa sc none 0) := HP4.out.below hb5
      have hrc := rcI.impl_recs CL w5 (by have := HM.out.2.2.2.2.2.2; omega) (HD.out.tb.on HSL5.out.2)
      clear hok hb5 HC HSL4 HP4
      have c0 : w5.cell? ⟨w3.heap.size, 0, none⟩ = some (.slice sa M.length sc) := bcell HC5.out rfl
      have c1 : w5.cell? ⟨w3.heap.size, 1, none⟩ = some (.slice none 0 0) := bcell HC5.out rfl
      have c2 : w5.cell? ⟨w3.heap.size, 2, none⟩ = some (.string CL) := bcell HC5.out rfl
      have c3 : w5.cell? ⟨w3.heap.size, 3, none⟩ = some (.int .i64 (CL.size : Int)) := bcell HC5.out rfl
      go_wp2_with (go_at_call 14; fail)
      clear c0 c1 c2 c3
      refine hrc.mono ?_
      rintro e w6 ⟨v9, rfl, ds, hds, hro⟩
      obtain ⟨da, dc, rfl, hdr⟩ := own_row (c := cR) (fun _ => rfl) hro.row
      have hb6 := hro.bel
      have hdl : ds.length = kk := by rw [← HM.out.2.2.1, ← hds, List.length_map]
      have HC6 : Hid (w6.heap[w3.heap.size]? = some (.cells #[.slice sa M.length sc, .slice none 0 0, .string CL, .int .i64 (CL.size : Int)] 32 (0, 0))) := bstay HC5.out hb6 (Array.getElem?_eq_some_iff.1 HC5.out).1
      have HSL6 : Hid (Sl (w1.heap.size + 1) w6 (.slice av K.length cv) K ∧ Below w1.heap.size w1 w6) := ⟨HSL5.out.1.on hb6, HSL5.out.2.trans (hb6.mono HSL5.out.2.size)⟩
      have HP6 : Hid (Pt w6 M [] sa sc none 0) := HP5.out.below hb6
      rw [hdl]
      obtain ⟨m, hm⟩ : ∃ y, K[kk]? = y := ⟨_, rfl⟩
      clear hrc hds hro hdr hb6 hdl HC5 HSL5 HP5
      obtain ⟨q, hq, hql⟩ := list_at HM.out.2.2.2.1
      have HMB : Hid (q.l = M) := hql
      obtain ⟨kb, hkb, hkc, hkr⟩ := sl_at HSL6.out.1 hq
      subst hkb
      have HK1 : Hid (∀ W : World, Below w6.heap.size w6 W → W.cell? ⟨kb, kk, none⟩ = some (.slice q.a M.length q.c) ∧ Row flP.c 3 W W.heap.size q.a M) := fun W hW => by rw [← hql]; exact ⟨hkc W hW, hkr.inn hW⟩
      have i4 : (safe : Int) ≤ (kk : Int) := by have := HM.out.2.2.2.2.1; omega
      have i5 : (kk : Int) < (K.length : Int) := by have := HM.out.2.2.2.2.2.1; omega
      have i6 : kk < K.length := HM.out.2.2.2.2.2.1
      have HAL : Hid (∀ W : World, Below w6.heap.size w6 W → Calls Tryz.prog 6 #[.agg #[.slice sa M.length sc, .slice none 0 0, .string CL, .int .i64 (CL.size : Int)]] W fun e w' => ∃ a c, e = .returned (.slice a M.length c) ∧ Row flP.c 3 w' w'.heap.size a M ∧ Below W.heap.size W w') := fun W hW => by
        have h9 := p_all (HP6.out.below hW) (ok_ft (okS_okB HM.out.1)) CL (CL.size : Int)
        rw [HM.out.2.1] at h9
        simp only [List.length_nil] at h9
        refine h9.mono ?_
        rintro e w' ⟨a, c, rfl, _, _, h1, h2⟩
        exact ⟨a, c, rfl, h1, h2⟩
      have hml : M.length ≤ maxLen := by have h9 := (okS_parts HM.out.1).2.2.2.1; rw [HM.out.2.1] at h9; unfold maxLen; omega
      have HML : Hid (M.length ≤ maxLen) := hml
      clear hkc hkr hq hql hm HP6 hml
      go_wp2
      refine chg.region (σ := GP) (ws := (fun s : GP => [(106, .slice da kk dc), (107, .int .i64 kk), (108, .int .i64 safe), (109, .bool true), (110, .bool true), (111, .slice da kk dc), (112, .int .i64 kk), (113, .slice (some ⟨kb, 0, none⟩) K.length cv), (114, .int .i64 K.length), (115, .bool true), (116, .bool true), (117, .bool true), (118, .agg #[.slice sa M.length sc, .slice none 0 0, .string CL, .int .i64 (CL.size : Int)]), (119, .slice s.a M.length s.c), (120, .slice (some ⟨kb, 0, none⟩) K.length cv), (121, .slice da kk dc), (122, .int .i64 kk), (123, .pointer (some ⟨kb, kk, none⟩)), (124, .slice q.a M.length q.c), (125, .bool true), (126, .bool true), (2, .bool true)])) (js := [13, 19]) (S := (fun g k W => Below w6.heap.size w6 W ∧ (1 ≤ k → Row flP.c 3 W W.heap.size g.a M))) [(110, true), (117, true)] (by kernel_rfl) (fun s x hx => by simp only [List.mem_cons, List.not_mem_nil, or_false] at hx; rcases hx with rfl | rfl <;> exact dk.sets_on _ (by simp) _ rfl) [106, 107, 108, 109, 110, 111, 112, 113, 114, 115, 116, 117, 118, 119, 120, 121, 122, 123, 124, 125, 126, 2] ⟨none, 0⟩ (by kernel_rfl) (by kernel_rfl) (fun _ => rfl) (by kernel_rfl) (by decide) ⟨(Below.refl _ _).drew, fun h => (by omega)⟩ ?_ ?_
      · refine ⟨cht.quiet 2 rfl (by decide) (.inl rfl) (by simp) (fun s => .slice da kk dc) (by rintro s _ ⟨⟩; exact dk.sets_on _ (by simp) _ rfl) (fun s k' W hk' hS => by simp [execOp, go_sem, Act.eval, dk.sets_get, List.lookup]), ?_⟩
        refine ⟨cht.quiet 2 rfl (by decide) (.inl rfl) (by simp) (fun s => .int .i64 kk) (by rintro s _ ⟨⟩; exact dk.sets_on _ (by simp) _ rfl) (fun s k' W hk' hS => by simp [go_sem, Act.eval, dk.sets_get, List.lookup]), ?_⟩
        refine ⟨cht.quiet 2 rfl (by decide) (.inl rfl) (by simp) (fun s => .int .i64 safe) (by rintro s _ ⟨⟩; exact dk.sets_on _ (by simp) _ rfl) (fun s k' W hk' hS => by simp [execOp, go_sem, Act.eval, dk.sets_get, List.lookup]), ?_⟩
        refine ⟨cht.quiet 2 rfl (by decide) (.inl rfl) (by simp) (fun s => .bool true) (by rintro s _ ⟨⟩; exact dk.sets_on _ (by simp) _ rfl) (fun s k' W hk' hS => by simp [execOp, go_sem, Act.eval, dk.sets_get, List.lookup, i4]), ?_⟩
        refine ⟨cht.quiet 2 rfl (by decide) (.inl rfl) (by simp) (fun s => .bool true) (by rintro s _ ⟨⟩; exact dk.sets_on _ (by simp) _ rfl) (fun s k' W hk' hS => by simp [execOp, go_sem, Act.eval, dk.sets_get, List.lookup]), ?_⟩
        refine ⟨cht.quiet 2 rfl (by decide) (.inl rfl) (by simp) (fun s => .slice da kk dc) (by rintro s _ ⟨⟩; exact dk.sets_on _ (by simp) _ rfl) (fun s k' W hk' hS => by simp [execOp, go_sem, Act.eval, dk.sets_get, List.lookup]), ?_⟩
        refine ⟨cht.quiet 2 rfl (by decide) (.inl rfl) (by simp) (fun s => .int .i64 kk) (by rintro s _ ⟨⟩; exact dk.sets_on _ (by simp) _ rfl) (fun s k' W hk' hS => by simp [go_sem, Act.eval, dk.sets_get, List.lookup]), ?_⟩
        refine ⟨cht.quiet 2 rfl (by decide) (.inl rfl) (by simp) (fun s => .slice (some ⟨kb, 0, none⟩) K.length cv) (by rintro s _ ⟨⟩; exact dk.sets_on _ (by simp) _ rfl) (fun s k' W hk' hS => by simp [execOp, go_sem, Act.eval, dk.sets_get, List.lookup]), ?_⟩
        refine ⟨cht.quiet 2 rfl (by decide) (.inl rfl) (by simp) (fun s => .int .i64 K.length) (by rintro s _ ⟨⟩; exact dk.sets_on _ (by simp) _ rfl) (fun s k' W hk' hS => by simp [go_sem, Act.eval, dk.sets_get, List.lookup]), ?_⟩
        refine ⟨cht.quiet 2 rfl (by decide) (.inl rfl) (by simp) (fun s => .bool true) (by rintro s _ ⟨⟩; exact dk.sets_on _ (by simp) _ rfl) (fun s k' W hk' hS => by simp [execOp, go_sem, Act.eval, dk.sets_get, List.lookup, i5]), ?_⟩
        refine ⟨cht.quiet 2 rfl (by decide) (.inl rfl) (by simp) (fun s => .bool true) (by rintro s _ ⟨⟩; exact dk.sets_on _ (by simp) _ rfl) (fun s k' W hk' hS => by simp [execOp, go_sem, Act.eval, dk.sets_get, List.lookup]), ?_⟩
        refine ⟨cht.quiet 2 rfl (by decide) (.inl rfl) (by simp) (fun s => .bool true) (by rintro s _ ⟨⟩; exact dk.sets_on _ (by simp) _ rfl) (fun s k' W hk' hS => by simp [execOp, go_sem, Act.eval, dk.sets_get, List.lookup]), ?_⟩
        refine ⟨cht.quiet 2 rfl (by decide) (.inl rfl) (by simp) (fun s => .agg #[.slice sa M.length sc, .slice none 0 0, .string CL, .int .i64 (CL.size : Int)]) (by rintro s _ ⟨⟩; exact dk.sets_on _ (by simp) _ rfl) (fun s k' W hk' hS => by have hc6 := bstay HC6.out hS.1 (Array.getElem?_eq_some_iff.1 HC6.out).1; have c0 : W.cell? ⟨w3.heap.size, 0, none⟩ = some (.slice sa M.length sc) := bcell hc6 rfl; have c1 : W.cell? ⟨w3.heap.size, 1, none⟩ = some (.slice none 0 0) := bcell hc6 rfl; have c2 : W.cell? ⟨w3.heap.size, 2, none⟩ = some (.string CL) := bcell hc6 rfl; have c3 : W.cell? ⟨w3.heap.size, 3, none⟩ = some (.int .i64 (CL.size : Int)) := bcell hc6 rfl; simp [execOp, go_sem, Act.eval, dk.sets_get, List.lookup, c0, c1, c2, c3]), ?_⟩
        refine ⟨chd.call 0 [13, 19, 20, 21] [119] (by kernel_rfl) (by kernel_rfl) rfl (by decide) rfl (.inl rfl) (by simp) 6 (fun s => #[.agg #[.slice sa M.length sc, .slice none 0 0, .string CL, .int .i64 (CL.size : Int)]]) (fun s W hS => by exact ⟨by simp [go_sem, Act.eval, dk.sets_get, List.lookup], (HAL.out W hS.1).mono fun e w9 hh => by obtain ⟨a, c, rfl, h1, h2⟩ := hh; exact ⟨⟨a, c⟩, _, rfl, (by simp [chd.But]), (by rintro _ ⟨⟩; exact dk.sets_on _ (by simp) _ rfl), hS.1.trans (h2.mono hS.1.size), fun _ => h1⟩⟩), ?_⟩
        refine ⟨cht.quiet 2 rfl (by decide) (.inl rfl) (by simp) (fun s => .slice (some ⟨kb, 0, none⟩) K.length cv) (by rintro s _ ⟨⟩; exact dk.sets_on _ (by simp) _ rfl) (fun s k' W hk' hS => by simp [execOp, go_sem, Act.eval, dk.sets_get, List.lookup]), ?_⟩
        refine ⟨cht.quiet 2 rfl (by decide) (.inl rfl) (by simp) (fun s => .slice da kk dc) (by rintro s _ ⟨⟩; exact dk.sets_on _ (by simp) _ rfl) (fun s k' W hk' hS => by simp [execOp, go_sem, Act.eval, dk.sets_get, List.lookup]), ?_⟩
        refine ⟨cht.quiet 2 rfl (by decide) (.inl rfl) (by simp) (fun s => .int .i64 kk) (by rintro s _ ⟨⟩; exact dk.sets_on _ (by simp) _ rfl) (fun s k' W hk' hS => by simp [go_sem, Act.eval, dk.sets_get, List.lookup]), ?_⟩
        refine ⟨cht.quiet 2 rfl (by decide) (.inl rfl) (by simp) (fun s => .pointer (some ⟨kb, kk, none⟩)) (by rintro s _ ⟨⟩; exact dk.sets_on _ (by simp) _ rfl) (fun s k' W hk' hS => by simp [execOp, go_sem, Act.eval, dk.sets_get, List.lookup, i5]), ?_⟩
        refine ⟨cht.quiet 2 rfl (by decide) (.inl rfl) (by simp) (fun s => .slice q.a M.length q.c) (by rintro s _ ⟨⟩; exact dk.sets_on _ (by simp) _ rfl) (fun s k' W hk' hS => by have c0 := (HK1.out W hS.1).1; simp [execOp, go_sem, Act.eval, dk.sets_get, List.lookup, c0]), ?_⟩
        refine ⟨chd.call 1 [19, 20, 21] [125] (by kernel_rfl) (by kernel_rfl) rfl (by decide) rfl (.inr ⟨⟨13, .data⟩, by simp, rfl, rfl⟩) (by simp) 11 (fun s => #[.slice s.a M.length s.c, .slice q.a M.length q.c]) (fun s W hS => by exact ⟨by simp [go_sem, Act.eval, dk.sets_get, List.lookup], (same_m HML.out (hS.2 (by omega)) (HK1.out W hS.1).2).mono fun e w9 hh => by obtain ⟨rfl, h2⟩ := hh; exact ⟨s, _, rfl, (by simp [chd.But]), (by rintro _ ⟨⟩; exact dk.sets_on _ (by simp) _ rfl), hS.1.trans (h2.mono hS.1.size), fun _ => (hS.2 (by omega)).inn h2⟩⟩), ?_⟩
        refine ⟨cht.quiet 2 rfl (by decide) (.inl rfl) (by simp) (fun s => .bool true) (by rintro s _ ⟨⟩; exact dk.sets_on _ (by simp) _ rfl) (fun s k' W hk' hS => by simp [execOp, go_sem, Act.eval, dk.sets_get, List.lookup]), ?_⟩
        exact ⟨cht.quiet 2 rfl (by decide) (.inl rfl) (by simp) (fun s => .bool true) (by rintro s _ ⟨⟩; exact dk.sets_on _ (by simp) _ rfl) (fun s k' W hk' hS => by simp [execOp, go_sem, Act.eval, dk.sets_get, List.lookup]), trivial⟩
      intro s w9 hS
      have HB9 : Hid (Below w.heap.size w w9) := HD.out.bel.trans ((HSL6.out.2.trans (hS.1.mono HSL6.out.2.size)).mono HD.out.bel.size)
      clear hS HSL6 HC6 HK1 HAL HML HM HMB
      obtain ⟨a9, c9⟩ := s
      simp only [dk.sets, Act.put, List.setIfInBounds_toArray, List.set_cons_succ, List.set_cons_zero]
      go_wp2
      go_ret
      exact ⟨rfl, HB9.out⟩
end Go.Proofs.YtoemkbooomgieaaGreatDoor.swk

/- FnStored: at every code: behind a crash the store is what some beginning of the batches makes, each whole, with all that was safe; flushes and merges between change nothing of it; what StoreDo refuses leaves the store as it was; for every input, where the library's variable errors.errorType holds the handle of the type error and the table sumTable what the program's own text lays in it (the card ties both). -/
namespace Go.Proofs.YtoemkbooomgieaaGreatDoor.fnStored
open Go.ChangeShapes Go.WideShapes Go.ChangeAt Go.RowKit
open Go.ChangeMaps (open_string shut_string)
set_option linter.unusedVariables false

theorem own : ownKnob Tryz.prog.godebug = none := by kernel_rfl
theorem laidOut : laidOutB Tryz.prog = true := by kernel_rfl

def IsRow (k : IntKind) (w : World) (a : Option Addr) (len cap : Nat) (zs : List Int) : Prop :=
  (a = none ∧ len = 0 ∧ cap = 0 ∧ zs = []) ∨
  ∃ x, a = some x ∧ len ≤ cap ∧ cap ≤ maxLen ∧ zs.length = cap ∧ (∀ i, i < zs.length → w.cell? (x.add i) = some (.int k (zs.getD i 0))) ∧ ∀ n ∈ zs, (Lit.int k n).wf = true

theorem gE : Tryz.prog.globalNamed "errors.errorType" = some 1 := by kernel_rfl
theorem rtE : (Tryz.prog.cutTypes.find? (·.1 == "internal/reflectlite.rtype")).map (·.2) = some 201 := by kernel_rfl
theorem rowE : ((List.range 245).filter fun t => Tryz.prog.rowNamed t [101, 114, 114, 111, 114]) = [137] := by kernel_rfl
theorem sizeE : Tryz.prog.types.size = 245 := by kernel_rfl
theorem hdE : typeHandle Tryz.prog 137 = .pointer (some ⟨2, 137, none⟩) := by kernel_rfl
theorem cellE {W : World} (h : laidMetH Tryz.prog Rows.fnStoredRow.laid W) : asf.ET W := by
  obtain ⟨name, u, ty, e1, e2, e3, e4, e5⟩ := (laidMetH_iff.1 h).2 ("errors.errorType", Rows.laid_errors_errorType) (List.mem_filter.2 ⟨List.mem_cons_self .., rfl⟩)
  have en : name = [101, 114, 114, 111, 114] := (Option.some.inj e1).symm
  subst en
  obtain rfl := Option.some.inj (rtE.symm.trans e2)
  have hm : ty ∈ (List.range 245).filter fun t => Tryz.prog.rowNamed t [101, 114, 114, 111, 114] := List.mem_filter.2 ⟨List.mem_range.2 (by rw [← sizeE]; exact e3), e4⟩
  rw [rowE] at hm
  obtain rfl := List.mem_singleton.1 hm
  rw [hdE] at e5
  have h6 := World.var?_cell gE e5 0
  unfold asf.ET
  simpa using h6
theorem gTab : Tryz.prog.globalNamed "loop.example/g00227/impl.sumTable" = some 0 := by kernel_rfl
theorem gTabType : (Tryz.prog.globals[0]?).map (·.type) = some 121 := by kernel_rfl
theorem cellsTab : Tryz.prog.cellsOf 121 = 16 := by kernel_rfl
theorem cellsElem : Tryz.prog.cellsOf 91 = 1 := by kernel_rfl
def nums : List Int := [0, 274646895, 549293790, 820201905, 1098587580, 1361435347, 1640403810, 1905808397, 2197175160, 2460548119, 2722870694, 2987750089, 3280807620, 3553878443, 3811616794, 4084100981]
theorem only {W : World} (h : laidMetH Tryz.prog Rows.fnStoredRow.laid W) : laidMetH Tryz.prog [("loop.example/g00227/impl.sumTable", Rows.laid_loop_example_g00227_impl_sumTable)] W := by
  have h2 := h.filter (fun x => x.1 == "loop.example/g00227/impl.sumTable")
  have e : (Rows.fnStoredRow.laid.filter fun x => x.1 == "loop.example/g00227/impl.sumTable") = [("loop.example/g00227/impl.sumTable", Rows.laid_loop_example_g00227_impl_sumTable)] := by kernel_rfl
  rw [e] at h2
  exact h2
theorem table {W : World} (h : laidMetH Tryz.prog Rows.fnStoredRow.laid W) : Lib.TabIs Tryz.prog W "loop.example/g00227/impl.sumTable" .u32 nums :=
  Lib.tabIs_of_head (rest := []) gTab gTabType Tryz.underlying121 Tryz.underlying91 cellsElem cellsTab (only h)
theorem nums_tab : ∀ r, r < 16 → nums.getD r 0 = (cs.tab r : Int) := by decide
theorem cells {W : World} (h : laidMetH Tryz.prog Rows.fnStoredRow.laid W) : rcI.TB W := ⟨cellE h, fun r hr => by
  rw [(table h).cell gTab r (by simpa [nums] using hr), nums_tab r hr]⟩
def put (vs : Array Value) : Obj → Obj
  | .cells _ t frozen => .cells vs t frozen
  | o => o
def laidIn (W : World) : World := { W with heap := (W.heap.modify 0 (put (nums.map (Value.int .u32)).toArray)).modify 1 (put #[.iface 201 (.agg #[.pointer (some ⟨2, 137, none⟩)])]) }
theorem codeOf {w : World} {a : Option Addr} {len cap : Nat} {zs : List Int} (h : IsRow .u8 w a len cap zs) : dw.Code w w.heap.size a len := by
  rcases h with ⟨_, h0, _, _⟩ | ⟨x, rfl, hl, _, hz, hcell, hwf⟩
  · exact .inl h0
  · by_cases hlen : len = 0
    · exact .inl hlen
    obtain ⟨b, off, spot⟩ := x
    have h0 := hcell 0 (by omega)
    have hspot : spot = none := by simpa [Addr.add] using World.cell?_spot h0
    subst hspot
    refine .inr ⟨b, off, rfl, block_lt_of_cell h0, fun i hi => ?_⟩
    have hc := hcell i (by omega)
    have hmem : zs.getD i 0 ∈ zs := by
      have : i < zs.length := by omega
      simp [List.getD, List.getElem?_eq_getElem this]
    have hb := bounds_u8 (hwf _ hmem)
    refine ⟨(zs.getD i 0).toNat, by omega, ?_⟩
    rw [show (((zs.getD i 0).toNat : Nat) : Int) = zs.getD i 0 by omega]
    have e : (⟨b, off, none⟩ : Addr).add i = ⟨b, off + i, none⟩ := by unfold Addr.add; split <;> simp_all
    rw [← e]
    exact hc

theorem walk (a0 : Option Addr) (len0 cap0 : Nat) (z0 : List Int) (w : World) (w0 : IsRow .u8 w a0 len0 cap0 z0) (hE : rcI.TB w) :
    Calls Tryz.prog 3 #[.slice a0 len0 cap0] w fun e w' => e = .returned (.bool true) ∧ Below w.heap.size w w' := by
  exact swk.walk a0 len0 cap0 w (codeOf w0) hE

set_option maxRecDepth 100000 in
theorem contract (H : Type) (enc : TypeId × Value → H) (W : World) (base : Nat) (args : Array Value) (ds gs : List (DataW H)) (before : List MemPlace)
    (hval : ∀ (j : Nat) t v, Tryz.f3.params[j]? = some t → args[j]? = some v → Value.okWide Tryz.prog W .any base t v)
    (hW : DataW.Whole enc Tryz.prog Tryz.f3.params.toList Rows.fnStoredSpec.vars false W args.toList ds gs before) (hL : laidMetH Tryz.prog Rows.fnStoredRow.laid W) (hsh : W.ShapedOpen Tryz.prog) :
    Calls Tryz.prog 3 args W fun e W' => ∃ v, e = .returned v ∧ Rows.fnStoredSpec.post enc Tryz.prog Tryz.f3 false true false false W args v W' := by
  have hW' := hW
  obtain ⟨p, q, hA0, hV, hb, hfz, hnd⟩ := hW
  have hA : DataW.TrodAll enc Tryz.prog W 0 (fun _ => true) true Tryz.f3.params.toList args.toList ds p := hA0
  rw [Tryz.params3] at hA hval
  obtain ⟨v0, vs0, d0, ds0, p0, q0, hargs, rfl, rfl, h0, r0⟩ := trodAll_cons hA
  obtain ⟨rfl, rfl, rfl⟩ := trodAll_nil r0
  obtain rfl : args = #[v0] := by cases args; simp_all
  have hV0 : DataW.TrodVars enc Tryz.prog W (fun _ => true) ["loop.example/g00227/impl.sumTable"] gs q := hV
  obtain ⟨dg, rfl⟩ : ∃ dg, gs = [dg] := by
    obtain ⟨g, t, cs, fuel, d, pg, hgs, _⟩ := trodVars_one hV0
    exact ⟨d, hgs⟩
  obtain ⟨a0, len0, cap0, rfl⟩ := okWide_slice Tryz.underlying22 (hval 0 22 v0 rfl rfl)
  have k0 := h0
  have lt0 : ∀ x ∈ p0, x.block < W.heap.size := by obtain ⟨m, hm⟩ := k0; exact DataW.trod_lt m _ _ _ hm
  obtain ⟨z0, w0⟩ : ∃ zs, IsRow .u8 W a0 len0 cap0 zs := by
    obtain ⟨fuel, hf⟩ := h0
    rcases open_ints Tryz.underlying22 Tryz.underlying5 (by kernel_rfl) hf with ⟨hcs, _⟩ | ⟨x, l, c, zs, hcs, _, hl, hm, hz, _, hcell, hwz⟩
    · simp [Value.cells] at hcs
      obtain ⟨rfl, rfl, rfl⟩ := hcs
      exact ⟨[], .inl ⟨rfl, rfl, rfl, rfl⟩⟩
    · simp [Value.cells] at hcs
      obtain ⟨rfl, rfl, rfl⟩ := hcs
      exact ⟨zs, .inr ⟨_, rfl, hl, hm, by simpa using hz, hcell, hwz⟩⟩
  clear hA0
  refine (walk a0 len0 cap0 z0 W w0 (cells hL)).mono fun e W' ⟨he, hg⟩ => ?_
  subst he
  exact ⟨_, rfl, _, _, _, [], _, q, hW', trodAll_cons_mk (shut_bool Tryz.underlying4 _) trodAll_mk0, trodAll_cons_mk (Below.trod laidOut (by kernel_rfl) (of_decide_eq_true (by kernel_rfl)) k0 hg lt0) trodAll_mk0, hg.trodVars laidOut (by kernel_rfl) hV0, hg.frame _, fun h => by cases h⟩

theorem laid_met (os : Os) : laidMetH Tryz.prog Rows.fnStoredRow.laid ((laidIn (World.holding Tryz.prog os ⟨#[], #[], []⟩)).forCall (fun _ _ => 0) ⟨#[], #[.slice none 0 0], []⟩).memory :=
  laidMetH_of_parts3 (fuel := 8) (laidMet_of_run' 8 (by kernel_rfl) (by kernel_rfl)) (by kernel_rfl) (by kernel_rfl)
theorem reads (os : Os) {H : Type} (enc : TypeId × Value → H) : ∃ gs places, DataW.whole enc Tryz.prog ((laidIn (World.holding Tryz.prog os ⟨#[], #[], []⟩)).forCall (fun _ _ => 0) ⟨#[], #[.slice none 0 0], []⟩).memory Tryz.f3.params.toList Rows.fnStoredSpec.vars false (#[.slice none 0 0] : Array Value).toList 8 = some ([.nil], gs, places) :=
  ⟨[.agg (nums.map fun z => .lit (.int .u32 z))], MemPlace.row ⟨0, 0, none⟩ 16, by kernel_rfl⟩

set_option maxRecDepth 100000 in
theorem lifted (os : Os) (started : os.Started) (H : Type) (enc : TypeId × Value → H) (F : Stop.Interp) :
    ReturnsInHanded {} Tryz.checked os 3 .any ((OpenSpec.ofChange Rows.fnStoredSpec).preRow enc Tryz.prog Tryz.f3 Rows.fnStoredRow.domain false Rows.fnStoredRow.laid) (((OpenSpec.ofChange Rows.fnStoredSpec).at F).post enc Tryz.prog Tryz.f3 false true false false) := by
  obtain ⟨gs, places, hx⟩ := reads os enc
  refine returnsInHanded_of_row (C := Tryz.checked) (s := OpenSpec.ofChange Rows.fnStoredSpec) own started (by kernel_rfl) Tryz.func3
    (witness_row_at (enc := enc) (C := Tryz.checked) false (laidIn (World.holding Tryz.prog os ⟨#[], #[], []⟩)) #[.slice none 0 0] rfl (by kernel_rfl) (by kernel_rfl) (by kernel_rfl)
      (OpenSpec.preRow_of_cond 8 hx (by kernel_rfl) (fun k hk => by cases hk) (by kernel_rfl) (laid_met os))) ?_
  intro W base args ds gs before hval hW _ _ _ hL hsh _
  exact contract H enc W base args ds gs before hval hW hL hsh

theorem said : Rows.FnStoredSaid :=
  OpenClaim.holds_of_cond 3 Tryz.f3 rfl rfl rfl rfl rfl rfl rfl ⟨rfl, rfl, rfl, rfl, rfl⟩ rfl rfl rfl rfl rfl (by kernel_rfl) Tryz.func3 (by kernel_rfl)
    (of_decide_eq_true (by kernel_rfl)) (by unfold Func.isWrapper; first | (rw [if_pos (by decide +kernel)]; kernel_rfl) | (rw [if_neg (by decide +kernel)]; exact ⟨rfl, rfl⟩))
    (fun os started H enc _ F => by rw [OpenClaim.pre_eq_preRow]; exact lifted os started H enc F)

theorem plain (f : FuncId) (fn : Func) (hf : Tryz.pinned.checked.prog.funcNamed "loop.example/g00227/laws.FnStored" = some f) (hfn : Tryz.pinned.checked.prog.funcs[f]? = some fn) :
    true = Tryz.pinned.checked.prog.looks [] ∧ ∀ (j : Nat) t, fn.params[j]? = some t → Tryz.pinned.checked.prog.wantsStandIn t = false := by
  obtain rfl : f = 3 := Option.some.inj ((show Tryz.prog.funcNamed "loop.example/g00227/laws.FnStored" = some 3 by kernel_rfl).symm.trans hf) |>.symm
  obtain rfl : fn = Tryz.f3 := (Option.some.inj (Tryz.func3.symm.trans hfn)).symm
  refine ⟨by kernel_rfl, fun j t ht => ?_⟩
  rw [Tryz.params3] at ht
  obtain rfl : t = 22 := by simpa using Array.mem_of_getElem? ht
  exact (show Tryz.prog.wantsStandIn 22 = false by kernel_rfl)

theorem card : Rows.FnStoredCardSaid :=
  Claim7.holds_tied_plain_at .later [] _ _ _ _ said (fun _ h => by cases h) (by kernel_rfl) (fun _ h => by cases h) fnStored_row_tie rfl ⟨rfl, rfl⟩ (by kernel_rfl) rfl plain (by kernel_rfl)
#print axioms card
end Go.Proofs.YtoemkbooomgieaaGreatDoor.fnStored
