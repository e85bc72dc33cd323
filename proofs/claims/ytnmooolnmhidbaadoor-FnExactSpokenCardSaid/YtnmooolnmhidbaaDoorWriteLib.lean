/- The statement that makes the program's writer out of a method: its operations in any order. -/
import Derived.Test.YtnmooolnmhidbaaDoorRegionGhost
import Derived.Test.YtnmooolnmhidbaaDoorMeths
import Derived.Deep.AppendLies
namespace Go.Proofs.YtnmooolnmhidbaaDoor.wl
set_option linter.unusedVariables false
open Go.ChangeShapes Go.WideShapes Go.ChangeAt Go.RowKit Go.Proofs.YtnmooolnmhidbaaDoor.me

/-- what is drawn on the way: where the first words lie, and where the writer -/
structure Gh where
  h : Nat
  g : Nat
  k : Nat

def zeros : Array Value := #[.slice none 0 0, .slice none 0 0, .string ⟨#[]⟩, .slice none 0 0]

def Cw (W : World) (t n : Value) (p d e : ByteArray) (s : Gh) (L : Nat → Bool) (w' : World) : Prop :=
  W.grownBy w' none ∧ (L 17 = true → W.heap.size ≤ s.h ∧ w'.heap[s.h]? = some (.cells #[.string d, .string e] 9 (0, 0))) ∧
  (L 19 = true → W.heap.size ≤ s.g ∧ w'.heap[s.g]? = some (.cells (if L 20 = true then #[t, n, .string p, .slice (some ⟨s.k, 0, none⟩) 2 2] else zeros) 55 (0, 0))) ∧
  (L 17 = true → L 19 = true → s.h ≠ s.g) ∧ (L 20 = true → L 17 = true ∧ L 19 = true ∧ L 18 = true) ∧ (L 18 = true → L 17 = true ∧ s.k = s.h)

section
variable {W : World} {t n : Value} {p d e : ByteArray} {fin : Gh → Act} {Q : Exit → Act → World → Prop}

theorem cw_start {w' : World} (hg : W.grownBy w' none) (s : Gh) : Cw W t n p d e s (fun _ => false) w' :=
  ⟨hg, (fun h => by cases h), (fun h => by cases h), (fun h => by cases h), (fun h => by cases h), (fun h => by cases h)⟩

theorem cw_more {s : Gh} {L : Nat → Bool} {w' : World} {i : Nat} (h17 : i ≠ 17 ∧ i ≠ 18) (h19 : i ≠ 19) (h20 : i ≠ 20) (h : Cw W t n p d e s L w') : Cw W t n p d e s (dn.more L i) w' := by
  have e17 : dn.more L i 17 = L 17 := by unfold dn.more; rw [if_neg (Ne.symm h17.1)]
  have e18 : dn.more L i 18 = L 18 := by unfold dn.more; rw [if_neg (Ne.symm h17.2)]
  have e19 : dn.more L i 19 = L 19 := by unfold dn.more; rw [if_neg (Ne.symm h19)]
  have e20 : dn.more L i 20 = L 20 := by unfold dn.more; rw [if_neg (Ne.symm h20)]
  unfold Cw
  rw [e17, e18, e19, e20]
  exact h
/-- nothing that is there is turned -/
theorem cw_next {s : Gh} {L : Nat → Bool} {w' w'' : World} (hb : Below w'.heap.size w' w'') (h : Cw W t n p d e s L w') : Cw W t n p d e s L w'' := by
  obtain ⟨a, b, c, f, g, g18⟩ := h
  refine ⟨a.trans ⟨hb.os, hb.tape, hb.output, hb.size, fun i hi _ => hb.block i hi⟩, fun h => ⟨(b h).1, ?_⟩, fun h => ⟨(c h).1, ?_⟩, f, g, g18⟩
  · rw [hb.block _ (Array.getElem?_eq_some_iff.1 (b h).2).1]; exact (b h).2
  · rw [hb.block _ (Array.getElem?_eq_some_iff.1 (c h).2).1]; exact (c h).2

theorem st_quiet {i : Nat} {o : Oper} (h17 : i ≠ 17 ∧ i ≠ 18) (h19 : i ≠ 19) (h20 : i ≠ 20) (hsel : ∀ cs b, o.op ≠ .select cs b) (v : Gh → Value) (hd : ∀ s d, o.dst = some d → (fin s).tmps[d]? = some (v s))
    (hrun : ∀ s L w', Cw W t n p d e s L w' → (execOp (fin s).eval o).run Tryd.prog w' = .ok (.value (v s)) w') : gh.Step Tryd.prog fin (Cw W t n p d e) Q i o :=
  gh.step_val hsel fun s L w' hdp h0 hC => ⟨s, v s, gh.Agree.refl _ _, fun d hd' => hd s d hd', by rw [hrun s L w' hC]; exact ⟨rfl, cw_more h17 h19 h20 hC⟩⟩
theorem st_field {i : Nat} {o : Oper} (h17 : i ≠ 17 ∧ i ≠ 18) (h19 : i ≠ 19) (h20 : i ≠ 20) (x : Operand) (ty : TypeId) (k b m : Nat) (hop : o.op = .fieldAddr ty x k) (hx : ∀ s, (fin s).eval x = .pointer (some ⟨b, 0, none⟩)) (hf : ∀ w' : World, (Instr.fieldAt ty (.pointer (some ⟨b, 0, none⟩)) k).run Tryd.prog w' = .ok (.pointer (some ⟨b, m, none⟩)) w')
    (hd : ∀ s d, o.dst = some d → (fin s).tmps[d]? = some (.pointer (some ⟨b, m, none⟩))) : gh.Step Tryd.prog fin (Cw W t n p d e) Q i o :=
  st_quiet h17 h19 h20 (by rw [hop]; simp) (fun _ => .pointer (some ⟨b, m, none⟩)) hd fun s L w' _ => by simp [execOp, hop, hx, hf, Result.andThen]
theorem st_load {i : Nat} {o : Oper} (h17 : i ≠ 17 ∧ i ≠ 18) (h19 : i ≠ 19) (h20 : i ≠ 20) (x : Operand) (ty : TypeId) (b off : Nat) (v : Value) (hop : o.op = .load ty x) (hx : ∀ s, (fin s).eval x = .pointer (some ⟨b, off, none⟩))
    (hf : ∀ w' : World, w'.cell? ⟨b, off, none⟩ = some v → (execOp (fun _ => .pointer (some ⟨b, off, none⟩)) o).run Tryd.prog w' = .ok (.value v) w')
    (hcell : W.cell? ⟨b, off, none⟩ = some v) (hb : b < W.heap.size) (hd : ∀ s d, o.dst = some d → (fin s).tmps[d]? = some v) : gh.Step Tryd.prog fin (Cw W t n p d e) Q i o :=
  st_quiet h17 h19 h20 (by rw [hop]; simp) (fun _ => v) hd fun s L w' hC => by
    have hc : w'.cell? ⟨b, off, none⟩ = some v := (World.cell?_of_block (w := W) (hC.1.block b hb (by simp))).trans hcell
    rw [execOp_congr (ρ' := fun _ => .pointer (some ⟨b, off, none⟩)) o (by rw [hop]; simp) (fun q hq => by
      rw [hop] at hq
      simp [Op.operands] at hq
      subst hq
      exact hx s)]
    exact hf w' hc
theorem st_add {i : Nat} {o : Oper} (h17 : i ≠ 17 ∧ i ≠ 18) (h19 : i ≠ 19) (h20 : i ≠ 20) (x q : Operand) (ty t2 : TypeId) (a c : ByteArray) (hop : o.op = .binOp .add ty x q t2) (hp : ∀ s, (fin s).eval x = .string a) (hq : ∀ s, (fin s).eval q = .string c) (hle : a.size + c.size ≤ 9223372036854775807)
    (hd : ∀ s d, o.dst = some d → (fin s).tmps[d]? = some (.string (a ++ c))) : gh.Step Tryd.prog fin (Cw W t n p d e) Q i o :=
  st_quiet h17 h19 h20 (by rw [hop]; simp) (fun _ => .string (a ++ c)) hd fun s L w' _ => by
    have hr := run_string_add_sum (P := Tryd.prog) w' a c hle
    simp only [execOp, hop, hp, hq]
    simp [eqGuard, binOp, hr, Result.andThen]
theorem st_call {i : Nat} {o : Oper} (h17 : i ≠ 17 ∧ i ≠ 18) (h19 : i ≠ 19) (h20 : i ≠ 20) (f : FuncId) (xs : Array Operand) (tys : Array TypeId) (vs : Array Value) (v : Value) (hop : o.op = .call { callee := .value (.func f), args := xs, argTypes := tys }) (hx : ∀ s, xs.toList.map (fin s).eval = vs.toList) (hd : ∀ s d, o.dst = some d → (fin s).tmps[d]? = some v)
    (hcf : ∀ w' : World, (callFunc f vs).run Tryd.prog w' = .ok (.enter f vs) w') (hcall : ∀ w', W.grownBy w' none → Calls Tryd.prog f vs w' fun e w'' => e = .returned v ∧ Below w'.heap.size w' w'') : gh.Step Tryd.prog fin (Cw W t n p d e) Q i o := by
  refine gh.step_val (by rw [hop]; simp) fun s L w' hdp h0 hC => ?_
  refine ⟨s, v, gh.Agree.refl _ _, (fun d hd' => hd s d hd'), ?_⟩
  have he : (execOp (fin s).eval o).run Tryd.prog w' = .ok (.enter f vs) w' := by
    have hf : (fin s).eval (.func f) = .func (.func f) #[] #[] := rfl
    have hxa : xs.map (fin s).eval = vs := Array.toList_inj.1 (by rw [Array.toList_map]; exact hx s)
    simp only [execOp, hop, resolve, hf, hxa]
    simp [go_sem, hcf]
  rw [he]
  exact (hcall w' hC.1).mono fun e' w'' ⟨he', hb⟩ => ⟨he', cw_more h17 h19 h20 (cw_next hb hC)⟩

theorem st_words {o : Oper} {d17 : Nat} (x z : Operand) (hop : o.op = .buildSlice 22 2 #[(0, x), (1, z)]) (hx : ∀ s, (fin s).eval x = .string d) (hz : ∀ s, (fin s).eval z = .string e) (hdst : o.dst = some d17)
    (hfin : ∀ s (h : Nat), gh.Agree o (fin s) (fin { s with h := h }) ∧ (fin { s with h := h }).tmps[d17]? = some (.slice (some ⟨h, 0, none⟩) 2 2)) : gh.Step Tryd.prog fin (Cw W t n p d e) Q 17 o := by
  refine gh.step_val (by rw [hop]; simp) fun s L w' hdp h0 hC => ?_
  obtain ⟨a, b, c, f, g, g18⟩ := hC
  have h20 : L 20 = false := by
    cases h : L 20 with
    | false => rfl
    | true => have := (g h).1; rw [h0] at this; cases this
  have h18 : L 18 = false := by
    cases h : L 18 with
    | false => rfl
    | true => have := (g18 h).1; rw [h0] at this; cases this
  refine ⟨{ s with h := w'.heap.size }, .slice (some ⟨w'.heap.size, 0, none⟩) 2 2, (hfin s _).1, (fun d hd => by rw [hdst] at hd; cases hd; exact (hfin s _).2), ?_⟩
  have hr : (Instr.buildSlice 22 2 #[(0, .string d), (1, .string e)]).run Tryd.prog w' = .ok (.slice (some ⟨w'.heap.size, 0, none⟩) 2 2) (w'.alloc (.cells #[.string d, .string e] 9)) := by simp [go_sem]
  have he : (execOp (fin s).eval o).run Tryd.prog w' = .ok (.value (.slice (some ⟨w'.heap.size, 0, none⟩) 2 2)) (w'.alloc (.cells #[.string d, .string e] 9)) := by simp [execOp, hop, hx, hz, hr, Result.andThen]
  rw [he]
  have e17 : dn.more L 17 17 = true := by simp [dn.more]
  have e18 : dn.more L 17 18 = L 18 := by simp [dn.more]
  have e19 : dn.more L 17 19 = L 19 := by simp [dn.more]
  have e20 : dn.more L 17 20 = L 20 := by simp [dn.more]
  unfold dn.left Cw
  rw [e17, e18, e19, e20, h20, h18]
  refine ⟨rfl, a.trans (World.grownBy_alloc _ _ none), (fun _ => ⟨a.size, heap_alloc_new w' _⟩), (fun h => ⟨(c h).1, ?_⟩), (fun _ h => ?_), (fun h => by cases h), (fun h => by cases h)⟩
  · have h1 := (c h).2
    rw [h20] at h1
    rw [heap_alloc_old w' _ (Array.getElem?_eq_some_iff.1 h1).1]
    exact h1
  · have h1 := (Array.getElem?_eq_some_iff.1 (c h).2).1
    show w'.heap.size ≠ s.g
    omega

theorem st_whole {o : Oper} {d18 : Nat} (hsel : ∀ cs b, o.op ≠ .select cs b) (v : Gh → Value) (hrun : ∀ s w', (execOp (fin s).eval o).run Tryd.prog w' = .ok (.value (v s)) w') (hdst : o.dst = some d18) (h17 : (o.after.any fun e => Region.binds .any e && e.on == 17) = true)
    (hfin : ∀ s, gh.Agree o (fin s) (fin { s with k := s.h }) ∧ (fin { s with k := s.h }).tmps[d18]? = some (v s)) : gh.Step Tryd.prog fin (Cw W t n p d e) Q 18 o := by
  refine gh.step_val hsel fun s L w' hdp h0 hC => ?_
  obtain ⟨a, b, c, f, g, g18⟩ := hC
  have l17 : L 17 = true := by
    obtain ⟨e, he, hb⟩ := Array.any_eq_true'.1 h17
    simp only [Bool.and_eq_true, beq_iff_eq] at hb
    have := hdp e he hb.1
    rwa [hb.2] at this
  refine ⟨{ s with k := s.h }, v s, (hfin s).1, (fun d hd => by rw [hdst] at hd; cases hd; exact (hfin s).2), ?_⟩
  rw [hrun]
  have e17 : dn.more L 18 17 = L 17 := by simp [dn.more]
  have e19 : dn.more L 18 19 = L 19 := by simp [dn.more]
  have e20 : dn.more L 18 20 = L 20 := by simp [dn.more]
  unfold dn.left Cw
  rw [e17, e19, e20]
  have e18 : dn.more L 18 18 = true := by simp [dn.more]
  refine ⟨rfl, a, b, (fun h => ⟨(c h).1, ?_⟩), f, (fun h => ⟨(g h).1, (g h).2.1, e18⟩), (fun _ => ⟨l17, rfl⟩)⟩
  have h20 : L 20 = false := by
    cases h : L 20 with
    | false => rfl
    | true => have := (g h).2.2; rw [h0] at this; cases this
  have h1 := (c h).2
  rw [h20] at h1 ⊢
  exact h1

theorem st_alloc {o : Oper} {d19 : Nat} (hop : o.op = .alloc 55) (hdst : o.dst = some d19) (hr : ∀ w' : World, (execOp (fun _ => undef) o).run Tryd.prog w' = .ok (.value (.pointer (some ⟨w'.heap.size, 0, none⟩))) (w'.alloc (.cells zeros 55)))
    (hfin : ∀ s (g : Nat), gh.Agree o (fin s) (fin { s with g := g }) ∧ (fin { s with g := g }).tmps[d19]? = some (.pointer (some ⟨g, 0, none⟩))) : gh.Step Tryd.prog fin (Cw W t n p d e) Q 19 o := by
  refine gh.step_val (by rw [hop]; simp) fun s L w' hdp h0 hC => ?_
  obtain ⟨a, b, c, f, g, g18⟩ := hC
  have h20 : L 20 = false := by
    cases h : L 20 with
    | false => rfl
    | true => have := (g h).2.1; rw [h0] at this; cases this
  refine ⟨{ s with g := w'.heap.size }, .pointer (some ⟨w'.heap.size, 0, none⟩), (hfin s _).1, (fun d hd => by rw [hdst] at hd; cases hd; exact (hfin s _).2), ?_⟩
  rw [execOp_congr (ρ' := fun _ => undef) o (by rw [hop]; simp) (fun q hq => by rw [hop] at hq; simp [Op.operands] at hq), hr w']
  have e17 : dn.more L 19 17 = L 17 := by simp [dn.more]
  have e18 : dn.more L 19 18 = L 18 := by simp [dn.more]
  have e19 : dn.more L 19 19 = true := by simp [dn.more]
  have e20 : dn.more L 19 20 = L 20 := by simp [dn.more]
  unfold dn.left Cw
  rw [e17, e18, e19, e20, h20]
  refine ⟨rfl, a.trans (World.grownBy_alloc _ _ none), (fun h => ⟨(b h).1, ?_⟩), (fun _ => ⟨a.size, heap_alloc_new w' _⟩), (fun h _ => ?_), (fun h => by cases h), g18⟩
  · have h1 := (b h).2
    rw [heap_alloc_old w' _ (Array.getElem?_eq_some_iff.1 h1).1]
    exact h1
  · have h1 := (Array.getElem?_eq_some_iff.1 (b h).2).1
    show s.h ≠ w'.heap.size
    omega

theorem st_store {o : Oper} {ta na : Option Addr} {tl tc nl nc : Nat} (x z : Operand) (hop : o.op = .store 55 x z) (hdst : o.dst = none) (hx : ∀ s, (fin s).eval x = .pointer (some ⟨s.g, 0, none⟩)) (hz : ∀ s, (fin s).eval z = .agg #[.slice ta tl tc, .slice na nl nc, .string p, .slice (some ⟨s.k, 0, none⟩) 2 2])
    (h17 : (o.after.any fun e => Region.binds .any e && e.on == 17) = true) (h19 : (o.after.any fun e => Region.binds .any e && e.on == 19) = true) (h18 : (o.after.any fun e => Region.binds .any e && e.on == 18) = true) : gh.Step Tryd.prog fin (Cw W (.slice ta tl tc) (.slice na nl nc) p d e) Q 20 o := by
  refine gh.step_val (by rw [hop]; simp) fun s L w' hdp h0 hC => ?_
  obtain ⟨a, b, c, f, g, g18⟩ := hC
  have dep : ∀ m : Nat, (o.after.any fun e => Region.binds .any e && e.on == m) = true → L m = true := fun m h => by
    obtain ⟨e, he, hb⟩ := Array.any_eq_true'.1 h
    simp only [Bool.and_eq_true, beq_iff_eq] at hb
    have := hdp e he hb.1
    rwa [hb.2] at this
  have l17 := dep 17 h17
  have l19 := dep 19 h19
  have l18 := dep 18 h18
  have blk := (c l19).2
  rw [h0] at blk
  simp only [Bool.false_eq_true, if_false] at blk
  have k0 := cell_of (o := 0) blk rfl
  have k1 := cell_of (o := 1) blk rfl
  have k2 := cell_of (o := 2) blk rfl
  have k3 := cell_of (o := 3) blk rfl
  have f0 := free_of (o := 0) blk
  have f1 := free_of (o := 1) blk
  have f2 := free_of (o := 2) blk
  have f3 := free_of (o := 3) blk
  have he : (execOp (fin s).eval o).run Tryd.prog w' = .ok .skip ((((w'.setCell ⟨s.g, 0, none⟩ (.slice ta tl tc)).setCell ⟨s.g, 1, none⟩ (.slice na nl nc)).setCell ⟨s.g, 2, none⟩ (.string p)).setCell ⟨s.g, 3, none⟩ (.slice (some ⟨s.k, 0, none⟩) 2 2)) := by
    simp only [execOp, hop, hx, hz]
    simp [go_sem, k0, k1, k2, k3, f0, f1, f2, f3]
  refine ⟨s, undef, gh.Agree.refl _ _, (fun d hd => by rw [hdst] at hd; cases hd), ?_⟩
  rw [he]
  have e17 : dn.more L 20 17 = L 17 := by simp [dn.more]
  have e18 : dn.more L 20 18 = L 18 := by simp [dn.more]
  have e19 : dn.more L 20 19 = L 19 := by simp [dn.more]
  have e20 : dn.more L 20 20 = true := by simp [dn.more]
  have b1 := heap_setCell_same _ s.g 0 _ _ (.slice ta tl tc) blk
  have b2 := heap_setCell_same _ s.g 1 _ _ (.slice na nl nc) b1
  have b3 := heap_setCell_same _ s.g 2 _ _ (.string p) b2
  have b4 := heap_setCell_same _ s.g 3 _ _ (.slice (some ⟨s.k, 0, none⟩) 2 2) b3
  have hne := f l17 l19
  have hbb : Below W.heap.size W ((((w'.setCell ⟨s.g, 0, none⟩ (.slice ta tl tc)).setCell ⟨s.g, 1, none⟩ (.slice na nl nc)).setCell ⟨s.g, 2, none⟩ (.string p)).setCell ⟨s.g, 3, none⟩ (.slice (some ⟨s.k, 0, none⟩) 2 2)) :=
    (((Below.mk (B := W.heap.size) a.os a.tape a.output a.size (fun i hi => a.block i hi (by simp))).setCell (c l19).1 _).setCell (c l19).1 _).setCell (c l19).1 _ |>.setCell (c l19).1 _
  unfold dn.left Cw
  rw [e17, e18, e19, e20]
  refine ⟨rfl, ⟨hbb.os, hbb.tape, hbb.output, hbb.size, fun i hi _ => hbb.block i hi⟩, (fun _ => ⟨(b l17).1, ?_⟩), (fun _ => ⟨(c l19).1, ?_⟩), f, (fun _ => ⟨l17, l19, l18⟩), g18⟩
  · rw [RowKit.Below.heap_setCell _ _ _ _ hne, RowKit.Below.heap_setCell _ _ _ _ hne, RowKit.Below.heap_setCell _ _ _ _ hne, RowKit.Below.heap_setCell _ _ _ _ hne]
    exact (b l17).2
  · rw [if_pos rfl, b4]
    simp [zeros]
end
end Go.Proofs.YtnmooolnmhidbaaDoor.wl
