/- copy at rows of structures, and the ways that copy and append(s, make(S, n)...) go in a walk. -/
import Derived.Test.YtlfhfcgcfggjcaaDoorMw03
import Derived.WalkLawsBesides
import Derived.Laws.CopyRow

/- A region that draws its order, whose operations may leave values that hang on what was drawn: the frame behind it is given by a ghost, which an operation may turn at its own temporary. -/
namespace Go.Proofs.YtlfhfcgcfggjcaaDoor.gh
open Go.Proofs.YtlfhfcgcfggjcaaDoor.dn

/-- two frames that differ at most where o writes -/
structure Agree (o : Oper) (f f' : Act) : Prop where
  defers : f'.defers = f.defers
  size : f'.tmps.size = f.tmps.size
  same : ∀ s, o.dst ≠ some s → f'.tmps[s]? = f.tmps[s]?
theorem Agree.refl (o : Oper) (f : Act) : Agree o f f := ⟨rfl, rfl, fun _ _ => rfl⟩

section
variable {σ : Type} {P : Program} {ops : Array Oper} {a0 : Act} {fin : σ → Act} {C : σ → (Nat → Bool) → World → Prop} {Q : Exit → Act → World → Prop}

/-- operation i, once those that it waits for are done -/
def Step (P : Program) (fin : σ → Act) (C : σ → (Nat → Bool) → World → Prop) (Q : Exit → Act → World → Prop) (i : Nat) (o : Oper) : Prop :=
  ∀ (s : σ) (L : Nat → Bool) (w : World) (a : Act), (∀ x ∈ o.op.operands, a.eval x = (fin s).eval x) → (∀ e ∈ o.after, Region.binds .any e = true → L e.on = true) → L i = false → C s L w →
    ∀ K : Act → World → Prop, (∀ (s' : σ) (v : Value) (w' : World), Agree o (fin s) (fin s') → (∀ d, o.dst = some d → (fin s').tmps[d]? = some v) → C s' (more L i) w' → K (a.put o.dst v) w') → o.wp P a w K Q

/-- an operation that leaves one value, out of the frame as it is -/
theorem step_val {i : Nat} {o : Oper} (hsel : ∀ cs b, o.op ≠ .select cs b)
    (h : ∀ (s : σ) (L : Nat → Bool) (w : World), (∀ e ∈ o.after, Region.binds .any e = true → L e.on = true) → L i = false → C s L w →
      ∃ s' v, Agree o (fin s) (fin s') ∧ (∀ d, o.dst = some d → (fin s').tmps[d]? = some v) ∧ left P v (C s' (more L i)) ((execOp (fin s).eval o).run P w)) : Step P fin C Q i o := by
  intro s L w a ha hd h0 hC K hK
  obtain ⟨s', v, hag, hv, hleft⟩ := h s L w hd h0 hC
  unfold Oper.wp
  rw [execOp_congr o hsel ha]
  generalize (execOp (fin s).eval o).run P w = r at *
  cases r with
  | ok n w' =>
    cases n <;> simp only [left] at hleft <;> simp only [Oper.upon]
    case value u =>
      obtain ⟨rfl, hD⟩ := hleft
      exact hK s' _ _ hag hv hD
    case skip =>
      obtain ⟨rfl, hD⟩ := hleft
      exact hK s' _ _ hag hv hD
    case enter f args =>
      exact hleft.mono fun e w'' ⟨he, hD⟩ => by subst he; exact hK s' _ _ hag hv hD
  | halt x w' => simp only [left] at hleft

theorem Fr.turn {s s' : σ} {L : Nat → Bool} {a : Act} (h : Fr ops a0 (fin s) L a) {i : Nat} {o : Oper} (hi : ops[i]? = some o) (hf : Fine ops o i) (h0 : L i = false) (hag : Agree o (fin s) (fin s')) : Fr ops a0 (fin s') L a := by
  refine ⟨h.defers.trans hag.defers.symm, h.size.trans hag.size.symm, fun j p q hj hp hL => ?_, h.rest⟩
  have hne : o.dst ≠ some q := fun e => by
    have := hf.alone q e j p hj hp
    subst this
    rw [h0] at hL
    cases hL
  rw [hag.same q hne]
  exact h.done j p q hj hp hL

theorem any_done (hok : okB ops = true) (hfin : ∀ (g : σ) (s : Nat), (∀ (i : Nat) (o : Oper), ops[i]? = some o → o.dst ≠ some s) → a0.tmps[s]? = (fin g).tmps[s]?)
    (hstep : ∀ (i : Nat) (o : Oper), ops[i]? = some o → Step P fin C Q i o) (hend : ∀ (s : σ) (L : Nat → Bool) (w : World), (∀ i, i < ops.size → L i = true) → C s L w → Q .normal (fin s) w) :
    ∀ (fuel : Nat) (l : Array Bool) (s : σ) (a : Act) (w : World), l.size = ops.size → undone l ≤ fuel → Fr ops a0 (fin s) (fun j => l.getD j false) a → C s (fun j => l.getD j false) w → wpAny P .any ops Q fuel l a w := by
  intro fuel
  have fin_of : ∀ (l : Array Bool) (s : σ) (a : Act) (w : World), l.size = ops.size → Fr ops a0 (fin s) (fun j => l.getD j false) a → C s (fun j => l.getD j false) w → Region.ready .any ops l = [] → Q .normal a w := by
    intro l s a w hs hfr hC hr
    have hall := ready_nil hs hok hr
    have hL : ∀ i, i < ops.size → (fun j => l.getD j false) i = true := fun i hi => hall i i (Nat.le_refl _) hi
    rw [hfr.all (hfin s) hL]
    exact hend s _ w hL hC
  induction fuel with
  | zero =>
    intro l s a w hs hu hfr hC
    have hr : Region.ready .any ops l = [] := by
      cases hr : Region.ready .any ops l with
      | nil => rfl
      | cons i r =>
        obtain ⟨hlt, hb, _⟩ := ready_spec hs (show i ∈ Region.ready .any ops l by rw [hr]; simp)
        exfalso
        unfold undone at hu
        have h0 : l.toList.filter (fun b => !b) = [] := List.eq_nil_of_length_eq_zero (by omega)
        have hm : false ∈ l.toList := by
          rw [Array.getD_eq_getD_getElem?, Array.getElem?_eq_getElem hlt] at hb
          simp only [Option.getD_some] at hb
          rw [← hb]
          simp
        have := List.filter_eq_nil_iff.1 h0 false hm
        simp at this
    exact ⟨hr, fin_of l s a w hs hfr hC hr⟩
  | succ fuel ih =>
    intro l s a w hs hu hfr hC
    refine ⟨fun hr => fin_of l s a w hs hfr hC hr, fun i hi => ?_⟩
    obtain ⟨hlt, hb, o, ho, hd⟩ := ready_spec hs hi
    have hf := fine_of hok ho
    have hs' : (l.setIfInBounds i true).size = ops.size := by simpa using hs
    have hu' : undone (l.setIfInBounds i true) ≤ fuel := by
      have h1 := undone_set l.toList i (by
        rw [Array.getD_eq_getD_getElem?, Array.getElem?_eq_getElem hlt] at hb
        simp only [Option.getD_some] at hb
        simp [hlt, hb])
      unfold undone at hu ⊢
      rw [Array.toList_setIfInBounds]
      omega
    have hw : Region.wanted o (yielded ops a.tmps) = true := by simp [Region.wanted, hf.guard]
    unfold wpOp
    rw [ho]
    simp only [hw, if_true]
    left
    refine hstep i o ho s (fun j => l.getD j false) w a (hfr.reads hf (hfin s) hd) hd hb hC _ (fun s' v w' hag hv hD => ?_)
    have hfr' := (Fr.turn hfr ho hf hb hag).step ho hf hv
    rw [← more_set l hlt] at hfr' hD
    exact ih _ _ _ _ hs' hu' hfr' hD

/-- each operation of a list that is written out, by its number -/
def Each (P : Program) (fin : σ → Act) (C : σ → (Nat → Bool) → World → Prop) (Q : Exit → Act → World → Prop) : Nat → List Oper → Prop
  | _, [] => True
  | n, o :: r => Step P fin C Q n o ∧ Each P fin C Q (n + 1) r

theorem each_get : ∀ (l : List Oper) (n : Nat), Each P fin C Q n l → ∀ (i : Nat) (o : Oper), l[i]? = some o → Step P fin C Q (n + i) o
  | [], _, _, i, o, h => by simp at h
  | x :: r, n, h, 0, o, ho => by simp at ho; subst ho; exact h.1
  | x :: r, n, h, i + 1, o, ho => by
    have := each_get r (n + 1) h.2 i o (by simpa using ho)
    rwa [show n + (i + 1) = n + 1 + i by omega]

/-- the slots of a list are alike in both -/
def Kept (a b : Array Value) : List Nat → Prop
  | [] => True
  | s :: r => a[s]? = b[s]? ∧ Kept a b r
theorem kept_get {a b : Array Value} : ∀ (l : List Nat), Kept a b l → ∀ s ∈ l, a[s]? = b[s]?
  | [], _, s, h => by cases h
  | x :: r, hk, s, h => by
    rcases List.mem_cons.1 h with rfl | h
    · exact hk.1
    · exact kept_get r hk.2 s h

theorem region_ghost {id : Nat} {l : List Oper} {w : World} (fin : σ → Act) (C : σ → (Nat → Bool) → World → Prop) (s0 : σ) (hm : P.follows .mixedOrders = true) (hok : okB l.toArray = true)
    (hdef : a0.defers = (fin s0).defers) (hsz : ∀ s, a0.tmps.size = (fin s).tmps.size) (ks : List Nat) (hks : ((List.range a0.tmps.size).filter fun s => !keepB l s) = ks) (hkeep : ∀ g, Kept a0.tmps (fin g).tmps ks)
    (hC : C s0 (fun _ => false) w.drew) (hstep : Each P fin C Q 0 l) (hend : ∀ (s : σ) (L : Nat → Bool) (w' : World), (∀ i, i < l.length → L i = true) → C s L w' → Q .normal (fin s) w') :
    (Code.region id l.toArray true).wp P Q a0 w := by
  refine wp_region_any hm ?_
  have hL0 : (fun j => (Array.replicate l.toArray.size false).getD j false) = fun _ => false := by
    funext j
    simp only [Array.getD_eq_getD_getElem?, Array.getElem?_replicate]
    split <;> rfl
  refine any_done (a0 := a0) (fin := fin) (C := C) hok (fun g s hs => ?_) (fun i o hi => ?_) (fun s L w' hL hD => hend s L w' (fun i hi => hL i (by simpa using hi)) hD) _ _ s0 _ _ (by simp) ?_ ?_ ?_
  · by_cases hlt : s < a0.tmps.size
    · refine kept_get ks (hkeep g) s ?_
      rw [← hks, List.mem_filter]
      refine ⟨by simpa using hlt, ?_⟩
      rw [Bool.not_eq_true']
      unfold keepB
      rw [List.any_eq_false]
      intro o ho
      obtain ⟨i, hi⟩ := List.getElem?_of_mem ho
      have := hs i o (by simpa using hi)
      simpa using this
    · rw [Array.getElem?_eq_none (by omega), Array.getElem?_eq_none (by rw [← hsz]; omega)]
  · have := each_get l 0 hstep i o (by simpa using hi)
    rwa [Nat.zero_add] at this
  · unfold undone
    refine Nat.le_trans (List.length_filter_le _ _) (by simp)
  · rw [hL0]
    exact ⟨hdef, hsz s0, fun i o s _ _ h => (by cases h), fun s _ => rfl⟩
  · rw [hL0]
    exact hC
end
end Go.Proofs.YtlfhfcgcfggjcaaDoor.gh

/- A region that draws its order and whose last operation is a store: the steps of RegionDone's law, each by what the operation gives. -/
namespace Go.Proofs.YtlfhfcgcfggjcaaDoor.dk
open Go.RowKit Go.Proofs.YtlfhfcgcfggjcaaDoor.dn
set_option linter.unusedVariables false

section
variable {P : Program} {fin : Act} {D : Bool → World → Prop} {k i : Nat} {o : Oper}
/-- the class that hangs on operation k alone -/
def Cl (D : Bool → World → Prop) (k : Nat) (L : Nat → Bool) (w : World) : Prop := D (L k) w
theorem Cl.more (hi : i ≠ k) {L : Nat → Bool} {w : World} (h : Cl D k L w) : Cl D k (more L i) w := by
  unfold Cl Go.Proofs.YtlfhfcgcfggjcaaDoor.dn.more
  rw [if_neg (Ne.symm hi)]
  exact h
theorem q (hi : i ≠ k) (v : Value) (hd : ∀ d, o.dst = some d → fin.tmps[d]? = some v) (hrun : ∀ b W, D b W → (execOp fin.eval o).run P W = .ok (.value v) W) : Step P fin (Cl D k) i o := by
  intro L W _ _ hC
  refine ⟨v, hd, ?_⟩
  rw [hrun _ _ hC]
  exact ⟨rfl, Cl.more hi hC⟩
theorem call (hi : i ≠ k) (f : FuncId) (args : Array Value) (v : Value) (hd : ∀ d, o.dst = some d → fin.tmps[d]? = some v) (hrun : ∀ b W, D b W → (execOp fin.eval o).run P W = .ok (.enter f args) W)
    (hcall : ∀ b W, D b W → Calls P f args W fun e w' => e = .returned v ∧ D b w') : Step P fin (Cl D k) i o := by
  intro L W _ _ hC
  refine ⟨v, hd, ?_⟩
  rw [hrun _ _ hC]
  exact (hcall _ _ hC).mono fun e w' ⟨h1, h2⟩ => ⟨h1, Cl.more hi h2⟩
theorem last (hdst : o.dst = none) (hrun : ∀ W, D false W → ∃ W', (execOp fin.eval o).run P W = .ok .skip W' ∧ D true W') : Step P fin (Cl D k) k o := by
  intro L W _ h0 hC
  have hC' : D false W := by unfold Cl at hC; rw [h0] at hC; exact hC
  obtain ⟨W', h1, h2⟩ := hrun W hC'
  refine ⟨undef, (fun d hd => by rw [hdst] at hd; cases hd), ?_⟩
  rw [h1]
  exact ⟨rfl, by unfold Cl Go.Proofs.YtlfhfcgcfggjcaaDoor.dn.more; rw [if_pos rfl]; exact h2⟩
end

/-- a frame with some of its temporaries written; of two writes the first in the list stays -/
def sets (a : Act) : List (Nat × Value) → Act
  | [] => a
  | (t, v) :: r => (sets a r).put (some t) v
theorem sets_defers (a : Act) : ∀ ws, (sets a ws).defers = a.defers
  | [] => rfl
  | (t, v) :: r => by simp [sets, Act.put, sets_defers a r]
theorem sets_size (a : Act) : ∀ ws, (sets a ws).tmps.size = a.tmps.size
  | [] => rfl
  | (t, v) :: r => by simp [sets, Act.put, sets_size a r]
theorem sets_off (a : Act) (s : Nat) : ∀ ws : List (Nat × Value), s ∉ ws.map (·.1) → (sets a ws).tmps[s]? = a.tmps[s]?
  | [], _ => rfl
  | (t, v) :: r, h => by
    simp at h
    have h1 := sets_off a s r (by simpa using h.2)
    simp only [sets, Act.put]
    rw [← h1]
    simp [show t ≠ s from fun e => h.1 e.symm]
theorem sets_on (a : Act) {s : Nat} {v : Value} (hs : s < a.tmps.size) : ∀ ws : List (Nat × Value), ws.lookup s = some v → (sets a ws).tmps[s]? = some v
  | [], h => by simp at h
  | (t, u) :: r, h => by
    simp only [sets, Act.put]
    by_cases e : s = t
    · subst e
      simp [List.lookup] at h
      subst h
      simp [sets_size, hs]
    · have h1 := sets_on a hs r (by simpa [List.lookup, show (s == t) = false by simpa using e] using h)
      rw [← h1]
      simp [show t ≠ s from fun h => e h.symm]
theorem sets_get (a : Act) (s : Nat) (ws : List (Nat × Value)) : (sets a ws).tmps[s]? = match ws.lookup s with | some v => (if s < a.tmps.size then some v else none) | none => a.tmps[s]? := by
  cases h : ws.lookup s with
  | some v =>
    simp only
    split
    · rename_i hs; exact sets_on a hs ws h
    · rename_i hs; exact Array.getElem?_eq_none (by rw [sets_size]; omega)
  | none =>
    simp only
    refine sets_off a s ws fun hm => ?_
    obtain ⟨x, hx, rfl⟩ := List.mem_map.1 hm
    have := List.lookup_eq_none_iff.1 h x hx
    simp at this
theorem eval_on (a : Act) {s : Nat} {v : Value} (ws : List (Nat × Value)) (hs : s < a.tmps.size) (h : ws.lookup s = some v) : (sets a ws).eval (.tmp s) = v := by
  simp [Act.eval, sets_on a hs ws h]
/-- of a region's temporaries those are kept that no operation writes -/
theorem keeps {a0 : Act} {l : List Oper} {ks : List Nat} (ws : List (Nat × Value)) (hw : ws.map (·.1) = ks) (hks : (ks.all fun t => keepB l t) = true) :
    ∀ s ∈ (List.range a0.tmps.size).filter (fun s => !keepB l s), a0.tmps[s]? = (sets a0 ws).tmps[s]? := fun s hs => by
  rw [List.mem_filter] at hs
  refine (sets_off a0 s ws fun hm => ?_).symm
  rw [hw] at hm
  have := List.all_eq_true.1 hks s hm
  rw [this] at hs
  simp at hs
theorem region_sets {P : Program} {Q : Exit → Act → World → Prop} {id : Nat} {l : List Oper} {w : World} {a0 : Act} (ws : List (Nat × Value)) (ks : List Nat) (C : (Nat → Bool) → World → Prop) (hm : P.follows .mixedOrders = true) (hok : okB l.toArray = true)
    (hw : ws.map (·.1) = ks) (hks : (ks.all fun t => keepB l t) = true) (hC : C (fun _ => false) w.drew) (hstep : Each P (sets a0 ws) C 0 l)
    (hend : ∀ (L : Nat → Bool) (w' : World), (∀ i, i < l.length → L i = true) → C L w' → Q .normal (sets a0 ws) w') : (Code.region id l.toArray true).wp P Q a0 w :=
  region_done (sets a0 ws) C hm hok (sets_defers a0 ws).symm (sets_size a0 ws).symm _ rfl (keeps ws hw hks) hC hstep hend

theorem lookup_set {s t : Nat} (hne : s ≠ t) (v : Value) : ∀ (l : List (Nat × Value)) (i : Nat), (l[i]?.map (·.1)) = some t → (l.set i (t, v)).lookup s = l.lookup s
  | [], i, h => by simp at h
  | (x, y) :: r, 0, h => by
    simp at h
    subst h
    simp [List.lookup, show (s == x) = false by simpa using hne]
  | (x, y) :: r, i + 1, h => by
    have := lookup_set hne v r i (by simpa using h)
    simp only [List.set_cons_succ, List.lookup]
    split <;> first | rfl | exact this
/-- two such frames that differ in the write of o's own temporary alone -/
theorem agree_sets {o : Oper} {a : Act} {ws ws' : List (Nat × Value)} (i t : Nat) (v : Value) (hd : o.dst = some t) (hi : (ws[i]?.map (·.1)) = some t) (h : ws' = ws.set i (t, v)) : gh.Agree o (sets a ws) (sets a ws') := by
  subst h
  refine ⟨by rw [sets_defers, sets_defers], by rw [sets_size, sets_size], fun s hs => ?_⟩
  rw [sets_get, sets_get, lookup_set (fun e => hs (by rw [hd, e])) v ws i hi]
theorem kept_of {a b : Array Value} : ∀ (l : List Nat), (∀ s ∈ l, a[s]? = b[s]?) → gh.Kept a b l
  | [], _ => trivial
  | x :: r, h => ⟨h x (by simp), kept_of r fun s hs => h s (by simp [hs])⟩
theorem region_gsets {σ : Type} {P : Program} {Q : Exit → Act → World → Prop} {id : Nat} {l : List Oper} {w : World} {a0 : Act} (ws : σ → List (Nat × Value)) (ks : List Nat) (C : σ → (Nat → Bool) → World → Prop) (s0 : σ) (hm : P.follows .mixedOrders = true) (hok : okB l.toArray = true)
    (hw : ∀ g, (ws g).map (·.1) = ks) (hks : (ks.all fun t => keepB l t) = true) (hC : C s0 (fun _ => false) w.drew) (hstep : gh.Each P (fun g => sets a0 (ws g)) C Q 0 l)
    (hend : ∀ (s : σ) (L : Nat → Bool) (w' : World), (∀ i, i < l.length → L i = true) → C s L w' → Q .normal (sets a0 (ws s)) w') : (Code.region id l.toArray true).wp P Q a0 w :=
  gh.region_ghost (fun g => sets a0 (ws g)) C s0 hm hok (sets_defers a0 _).symm (fun s => (sets_size a0 (ws s)).symm) _ rfl (fun g => kept_of _ (keeps (ws g) (hw g) hks)) hC hstep hend
end Go.Proofs.YtlfhfcgcfggjcaaDoor.dk

/- copy at rows of structures, and the ways that copy and append(s, make(S, n)...) go in a walk. -/
namespace Go.Proofs.YtlfhfcgcfggjcaaDoor.cpr
open Go.RowKit
set_option linter.unusedVariables false

theorem run_copy_rows {P : Program} (w : World) (dT sT ty elem : TypeId) (i : TypeInfo) (g o dLen dCap : Nat) (a : Addr) (sLen sCap : Nat) (cur : Array Value) (t : TypeId) (cs : List Value)
    (hu : P.underlying dT = some (.slice elem)) (hi : P.info? elem = some i)
    (hg : w.heap[g]? = some (.cells cur t (0, 0))) (hn : cs.length = Nat.min sLen dLen * i.size)
    (hsrc : ∀ j v, cs[j]? = some v → w.cell? (a.add j) = some v) (hfit : o + cs.length ≤ cur.size) (h1 : ∀ v ∈ cs, v.oneCell' = true) :
    (Builtin.copy_ #[dT, sT] ty #[.slice (some ⟨g, o, none⟩) dLen dCap, .slice (some a) sLen sCap]).run P w =
      .ok (goInt (Nat.min sLen dLen)) (w.setRow g (cur.toList.take o ++ cs ++ cur.toList.drop (o + cs.length)).toArray) := by
  have hl := run_loadCells_list (P := P) w a cs hsrc
  have hst := run_storeCells_at P g o t cs 0 cur w hg (by simpa using hfit) h1
  simp [Builtin.copy_, run_underlying hu, Builtin.lenOf, Builtin.firstCells, sizeOf, typeInfo, hi, ← hn, hl, hst]
theorem wpList_copy_run {P : Program} {w w' : World} {ops : Array Oper} {rest : List Oper} {o : Oper} {a : Act} {Q : Exit → Act → World → Prop} (hgd : o.guard = none) (d s : Operand) (t t' : TypeId)
    (ho : o.op = .call { callee := .builtin .copy, args := #[d, s], argTypes := #[t, t'] }) (dv sv v : Value) (hd : a.eval d = dv) (hs : a.eval s = sv) (hrun : (Builtin.copy_ #[t, t'] o.type #[dv, sv]).run P w = .ok v w')
    (h : wpList P ops Q rest (a.put o.dst v) w') : wpList P ops Q (o :: rest) a w := by
  refine wpList_plain hgd fun K hK => ?_
  unfold Oper.wp
  simp [execOp, ho, resolve, invoke, builtin, hd, hs, hrun, Result.andThen]
  exact hK _ _ h
theorem wpList_append_run {P : Program} {w w' : World} {ops : Array Oper} {rest : List Oper} {o : Oper} {a : Act} {Q : Exit → Act → World → Prop} (hgd : o.guard = none) (d s : Operand) (t t' : TypeId)
    (ho : o.op = .call { callee := .builtin .append, args := #[d, s], argTypes := #[t, t'] }) (dv sv v : Value) (hd : a.eval d = dv) (hs : a.eval s = sv) (hrun : (Builtin.append_ #[t, t'] o.type #[dv, sv]).run P w = .ok v w')
    (h : wpList P ops Q rest (a.put o.dst v) w') : wpList P ops Q (o :: rest) a w := by
  refine wpList_plain hgd fun K hK => ?_
  unfold Oper.wp
  simp [execOp, ho, resolve, invoke, builtin, hd, hs, hrun, Result.andThen]
  exact hK _ _ h
theorem lastv {P : Program} {fin : Act} {D : Bool → World → Prop} {k : Nat} {o : Oper} (v : Value) (hd : ∀ d, o.dst = some d → fin.tmps[d]? = some v) (hrun : ∀ W, D false W → ∃ W', (execOp fin.eval o).run P W = .ok (.value v) W' ∧ D true W') : dn.Step P fin (dk.Cl D k) k o := by
  intro L W _ h0 hC
  have hC' : D false W := by unfold dk.Cl at hC; rw [h0] at hC; exact hC
  obtain ⟨W', h1, h2⟩ := hrun W hC'
  refine ⟨v, hd, ?_⟩
  rw [h1]
  exact ⟨rfl, by unfold dk.Cl dn.more; rw [if_pos rfl]; exact h2⟩
end Go.Proofs.YtlfhfcgcfggjcaaDoor.cpr
