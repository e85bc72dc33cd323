/- A region that draws its order and whose last operation is a store: the steps of RegionDone's law, each by what the operation gives. -/
import Derived.Test.YtoemkbooomgieaaGreatDoorRegionDone
import Derived.Test.YtoemkbooomgieaaGreatDoorRegionGhost
import Derived.WalkLawsBesides
namespace Go.Proofs.YtoemkbooomgieaaGreatDoor.dk
open Go.RowKit Go.Proofs.YtoemkbooomgieaaGreatDoor.dn
set_option linter.unusedVariables false

section
variable {P : Program} {fin : Act} {D : Bool → World → Prop} {k i : Nat} {o : Oper}
/-- the class that hangs on operation k alone -/
def Cl (D : Bool → World → Prop) (k : Nat) (L : Nat → Bool) (w : World) : Prop := D (L k) w
theorem Cl.more (hi : i ≠ k) {L : Nat → Bool} {w : World} (h : Cl D k L w) : Cl D k (more L i) w := by
  unfold Cl Go.Proofs.YtoemkbooomgieaaGreatDoor.dn.more
  rw [if_neg (Ne.symm hi)]
  exact h
theorem q (hi : i ≠ k) (v : Value) (hd : ∀ d, o.dst = some d → fin.tmps[d]? = some v) (hrun : ∀ b W, D b W → (execOp fin.eval o).run P W = .ok (.value v) W) : Step P fin (Cl D k) i o := by
  intro L W _ _ hC
  refine ⟨v, hd, ?_⟩
  rw [hrun _ _ hC]
  exact ⟨rfl, Cl.more hi hC⟩
theorem call (hi : i ≠ k) (f : FuncId) (args : Array Value) (v : Value) (hd : ∀ d, o.dst = some d → fin.tmps[d]? = some v) (hrun : ∀ b W, D b W → (execOp fin.eval o).run P W = .ok (.enter f args) W)
    (hcall : ∀ b W, D b W → Calls P f args W fun e w' => e = .returned v ∧ D b w') : Step P fin (Cl D k) i o := by
  intro L W _ _ hC
  refine ⟨v, hd, ?_⟩
  rw [hrun _ _ hC]
  exact (hcall _ _ hC).mono fun e w' ⟨h1, h2⟩ => ⟨h1, Cl.more hi h2⟩
theorem last (hdst : o.dst = none) (hrun : ∀ W, D false W → ∃ W', (execOp fin.eval o).run P W = .ok .skip W' ∧ D true W') : Step P fin (Cl D k) k o := by
  intro L W _ h0 hC
  have hC' : D false W := by unfold Cl at hC; rw [h0] at hC; exact hC
  obtain ⟨W', h1, h2⟩ := hrun W hC'
  refine ⟨undef, (fun d hd => by rw [hdst] at hd; cases hd), ?_⟩
  rw [h1]
  exact ⟨rfl, by unfold Cl Go.Proofs.YtoemkbooomgieaaGreatDoor.dn.more; rw [if_pos rfl]; exact h2⟩
end

/-- a frame with some of its temporaries written; of two writes the first in the list stays -/
def sets (a : Act) : List (Nat × Value) → Act
  | [] => a
  | (t, v) :: r => (sets a r).put (some t) v
theorem sets_defers (a : Act) : ∀ ws, (sets a ws).defers = a.defers
  | [] => rfl
  | (t, v) :: r => by simp [sets, Act.put, sets_defers a r]
theorem sets_size (a : Act) : ∀ ws, (sets a ws).tmps.size = a.tmps.size
  | [] => rfl
  | (t, v) :: r => by simp [sets, Act.put, sets_size a r]
theorem sets_off (a : Act) (s : Nat) : ∀ ws : List (Nat × Value), s ∉ ws.map (·.1) → (sets a ws).tmps[s]? = a.tmps[s]?
  | [], _ => rfl
  | (t, v) :: r, h => by
    simp at h
    have h1 := sets_off a s r (by simpa using h.2)
    simp only [sets, Act.put]
    rw [← h1]
    simp [show t ≠ s from fun e => h.1 e.symm]
theorem sets_on (a : Act) {s : Nat} {v : Value} (hs : s < a.tmps.size) : ∀ ws : List (Nat × Value), ws.lookup s = some v → (sets a ws).tmps[s]? = some v
  | [], h => by simp at h
  | (t, u) :: r, h => by
    simp only [sets, Act.put]
    by_cases e : s = t
    · subst e
      simp [List.lookup] at h
      subst h
      simp [sets_size, hs]
    · have h1 := sets_on a hs r (by simpa [List.lookup, show (s == t) = false by simpa using e] using h)
      rw [← h1]
      simp [show t ≠ s from fun h => e h.symm]
theorem sets_get (a : Act) (s : Nat) (ws : List (Nat × Value)) : (sets a ws).tmps[s]? = match ws.lookup s with | some v => (if s < a.tmps.size then some v else none) | none => a.tmps[s]? := by
  cases h : ws.lookup s with
  | some v =>
    simp only
    split
    · rename_i hs; exact sets_on a hs ws h
    · rename_i hs; exact Array.getElem?_eq_none (by rw [sets_size]; omega)
  | none =>
    simp only
    refine sets_off a s ws fun hm => ?_
    obtain ⟨x, hx, rfl⟩ := List.mem_map.1 hm
    have := List.lookup_eq_none_iff.1 h x hx
    simp at this
theorem eval_on (a : Act) {s : Nat} {v : Value} (ws : List (Nat × Value)) (hs : s < a.tmps.size) (h : ws.lookup s = some v) : (sets a ws).eval (.tmp s) = v := by
  simp [Act.eval, sets_on a hs ws h]
/-- of a region's temporaries those are kept that no operation writes -/
theorem keeps {a0 : Act} {l : List Oper} {ks : List Nat} (ws : List (Nat × Value)) (hw : ws.map (·.1) = ks) (hks : (ks.all fun t => keepB l t) = true) :
    ∀ s ∈ (List.range a0.tmps.size).filter (fun s => !keepB l s), a0.tmps[s]? = (sets a0 ws).tmps[s]? := fun s hs => by
  rw [List.mem_filter] at hs
  refine (sets_off a0 s ws fun hm => ?_).symm
  rw [hw] at hm
  have := List.all_eq_true.1 hks s hm
  rw [this] at hs
  simp at hs
theorem region_sets {P : Program} {Q : Exit → Act → World → Prop} {id : Nat} {l : List Oper} {w : World} {a0 : Act} (ws : List (Nat × Value)) (ks : List Nat) (C : (Nat → Bool) → World → Prop) (hm : P.follows .mixedOrders = true) (hok : okB l.toArray = true)
    (hw : ws.map (·.1) = ks) (hks : (ks.all fun t => keepB l t) = true) (hC : C (fun _ => false) w.drew) (hstep : Each P (sets a0 ws) C 0 l)
    (hend : ∀ (L : Nat → Bool) (w' : World), (∀ i, i < l.length → L i = true) → C L w' → Q .normal (sets a0 ws) w') : (Code.region id l.toArray true).wp P Q a0 w :=
  region_done (sets a0 ws) C hm hok (sets_defers a0 ws).symm (sets_size a0 ws).symm _ rfl (keeps ws hw hks) hC hstep hend

theorem lookup_set {s t : Nat} (hne : s ≠ t) (v : Value) : ∀ (l : List (Nat × Value)) (i : Nat), (l[i]?.map (·.1)) = some t → (l.set i (t, v)).lookup s = l.lookup s
  | [], i, h => by simp at h
  | (x, y) :: r, 0, h => by
    simp at h
    subst h
    simp [List.lookup, show (s == x) = false by simpa using hne]
  | (x, y) :: r, i + 1, h => by
    have := lookup_set hne v r i (by simpa using h)
    simp only [List.set_cons_succ, List.lookup]
    split <;> first | rfl | exact this
/-- two such frames that differ in the write of o's own temporary alone -/
theorem agree_sets {o : Oper} {a : Act} {ws ws' : List (Nat × Value)} (i t : Nat) (v : Value) (hd : o.dst = some t) (hi : (ws[i]?.map (·.1)) = some t) (h : ws' = ws.set i (t, v)) : gh.Agree o (sets a ws) (sets a ws') := by
  subst h
  refine ⟨by rw [sets_defers, sets_defers], by rw [sets_size, sets_size], fun s hs => ?_⟩
  rw [sets_get, sets_get, lookup_set (fun e => hs (by rw [hd, e])) v ws i hi]
theorem kept_of {a b : Array Value} : ∀ (l : List Nat), (∀ s ∈ l, a[s]? = b[s]?) → gh.Kept a b l
  | [], _ => trivial
  | x :: r, h => ⟨h x (by simp), kept_of r fun s hs => h s (by simp [hs])⟩
theorem region_gsets {σ : Type} {P : Program} {Q : Exit → Act → World → Prop} {id : Nat} {l : List Oper} {w : World} {a0 : Act} (ws : σ → List (Nat × Value)) (ks : List Nat) (C : σ → (Nat → Bool) → World → Prop) (s0 : σ) (hm : P.follows .mixedOrders = true) (hok : okB l.toArray = true)
    (hw : ∀ g, (ws g).map (·.1) = ks) (hks : (ks.all fun t => keepB l t) = true) (hC : C s0 (fun _ => false) w.drew) (hstep : gh.Each P (fun g => sets a0 (ws g)) C Q 0 l)
    (hend : ∀ (s : σ) (L : Nat → Bool) (w' : World), (∀ i, i < l.length → L i = true) → C s L w' → Q .normal (sets a0 (ws s)) w') : (Code.region id l.toArray true).wp P Q a0 w :=
  gh.region_ghost (fun g => sets a0 (ws g)) C s0 hm hok (sets_defers a0 _).symm (fun s => (sets_size a0 (ws s)).symm) _ rfl (fun g => kept_of _ (keeps (ws g) (hw g) hks)) hC hstep hend
end Go.Proofs.YtoemkbooomgieaaGreatDoor.dk
