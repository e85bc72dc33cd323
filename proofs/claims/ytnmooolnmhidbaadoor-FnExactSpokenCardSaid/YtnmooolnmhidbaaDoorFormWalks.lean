/- The two forms of a method, the specification's and the program's, answer alike at every class and id. -/
import Derived.Test.YtnmooolnmhidbaaDoorMapLit
import Derived.Test.YtnmooolnmhidbaaDoorRegionDone
import Derived.BigQuiet
import Derived.Deep.QuietTactic
namespace Go.Proofs.YtnmooolnmhidbaaDoor.fo
open Go.ChangeShapes Go.WideShapes Go.ChangeAt Go.RowKit Go.Maps Go.Proofs.YtnmooolnmhidbaaDoor.ml

/-- the methods that are known, with their letters -/
def tab : List ((Int × Int) × List UInt8) :=
  [((10, 50), [115, 115]), ((20, 10), []), ((20, 11), []), ((40, 10), [115, 115]), ((40, 11), []), ((50, 10), [115, 49]), ((50, 11), [115, 52]), ((50, 20), [115, 115, 115]), ((50, 21), []),
   ((60, 40), [115, 115]), ((60, 70), [115]), ((60, 71), [56, 49, 115, 115, 52]), ((60, 72), []), ((60, 80), [56, 49]), ((60, 120), [56, 49, 49]), ((85, 10), [49]), ((85, 11), []),
   ((90, 10), []), ((90, 11), []), ((90, 20), []), ((90, 21), []), ((90, 30), []), ((90, 31), [])]

def enc (x : (Int × Int) × List UInt8) : Value × Value := (.agg #[.int .i64 x.1.1, .int .i64 x.1.2], .agg #[.string ⟨x.2.toArray⟩])
def mo (l : List ((Int × Int) × List UInt8)) : Obj := mapOf (l.map enc)
def small (p : Int × Int) : Bool := decide (0 ≤ p.1) && decide (p.1 ≤ 1000) && decide (0 ≤ p.2) && decide (p.2 ≤ 1000)
theorem tab_small : ∀ x ∈ tab, small x.1 = true := by decide
theorem tab_keys : (tab.map (·.1)).Nodup := by decide
theorem tab_inj {x y : (Int × Int) × List UInt8} (hx : x ∈ tab) (hy : y ∈ tab) (h : x.1 = y.1) : x = y := by
  have h1 : ∀ x ∈ tab, ∀ y ∈ tab, x.1 = y.1 → x = y := by decide
  exact h1 x hx y hy h
theorem tab_at {i j : Nat} {x y : (Int × Int) × List UInt8} (hx : tab[i]? = some x) (hy : tab[j]? = some y) (h : x.1 = y.1) : i = j := by
  have hi := (List.getElem?_eq_some_iff.1 hx).1
  have hj := (List.getElem?_eq_some_iff.1 hy).1
  have h1 : (tab.map (·.1))[i]'(by simpa using hi) = (tab.map (·.1))[j]'(by simpa using hj) := by
    have a := (List.getElem?_eq_some_iff.1 hx).2
    have b := (List.getElem?_eq_some_iff.1 hy).2
    simp [a, b, h]
  rcases Nat.lt_trichotomy i j with hlt | he | hlt
  · exact absurd h1 (List.pairwise_iff_getElem.1 tab_keys i j _ _ hlt)
  · exact he
  · exact absurd h1.symm (List.pairwise_iff_getElem.1 tab_keys j i _ _ hlt)

theorem laidOut : laidOutB Tryd.prog = true := by kernel_rfl
theorem row : (108 : TypeId) < Tryd.prog.types.size := of_decide_eq_true (by kernel_rfl)
theorem wide : (match Tryd.prog.underlying 108 with | some (.array _ _) | some (.struct _) => true | _ => false) = true := by rw [Tryd.underlying108]
set_option maxRecDepth 100000 in
theorem law : Keyed Tryd.prog 108 := Keyed.of_law (deep_law_laid laidOut (m := 2) (by omega) row (by kernel_rfl) wide)
theorem cells2 : Tryd.prog.cellsOf 108 = 2 := by kernel_rfl
theorem cells1 : Tryd.prog.cellsOf 3 = 1 := by kernel_rfl
theorem isKey : Tryd.prog.keyType 108 = true := by kernel_rfl

theorem keyOf_pair (a b : Int) (ha : (Lit.int .i64 a).wf = true) (hb : (Lit.int .i64 b).wf = true) : ∃ q, keyOf Tryd.prog 108 (.agg #[.int .i64 a, .int .i64 b]) = some q := by
  obtain ⟨n, hn⟩ := Nat.exists_eq_succ_of_ne_zero (show Tryd.prog.types.size ≠ 0 from Nat.ne_of_gt (Nat.lt_of_le_of_lt (Nat.zero_le _) row))
  refine ⟨.string (keyBytes [.int .i64 a, .int .i64 b]), ?_⟩
  unfold keyOf
  rw [Tryd.underlying108, isKey, hn]
  have hf : (Value.agg #[.int .i64 a, .int .i64 b]).formed Tryd.prog 108 = true := by simp [Value.formed, Tryd.underlying108, cells2]
  simp only [hf, Bool.and_self, if_true]
  simp [Program.keyLits, Tryd.underlying108, Tryd.underlying3, cells2, cells1, Value.cells, List.range_succ, ha, hb]

theorem small_wf {p : Int × Int} (h : small p = true) : (Lit.int .i64 p.1).wf = true ∧ (Lit.int .i64 p.2).wf = true := by
  simp only [small, Bool.and_eq_true, decide_eq_true_eq] at h
  exact ⟨WalkArith.wf_i64 (by omega), WalkArith.wf_i64 (by omega)⟩

theorem ins (w : World) (l : List ((Int × Int) × List UInt8)) (a b : Int) (s : List UInt8) (h : (∀ x ∈ l, x.1 ≠ (a, b) ∧ small x.1 = true) ∧ small (a, b) = true) :
    (Instr.mapUpdate 106 (.map (some w.heap.size)) (.agg #[.int .i64 a, .int .i64 b]) (.agg #[.string ⟨s.toArray⟩])).run Tryd.prog (w.alloc (mo l)) = .ok () (w.alloc (mo (l ++ [((a, b), s)]))) := by
  have hk := small_wf h.2
  have r := run_insert law Tryd.underlying106 w (l.map enc) (.agg #[.int .i64 a, .int .i64 b]) (.agg #[.string ⟨s.toArray⟩]) (fun x hx => by
    obtain ⟨y, hy, rfl⟩ := List.mem_map.1 hx
    have hy' := small_wf (h.1 y hy).2
    exact keyOf_pair _ _ hy'.1 hy'.2) (keyOf_pair _ _ hk.1 hk.2) (fun x hx e => by
    obtain ⟨y, hy, rfl⟩ := List.mem_map.1 hx
    refine (h.1 y hy).1 ?_
    simp [enc] at e
    exact Prod.ext e.1 e.2)
  unfold mo
  rw [List.map_append]
  exact r

/-- the worlds while the map is being filled: which of the entries are in it hangs on which operations are done -/
def Cls (w : World) (L : Nat → Bool) (w' : World) : Prop :=
  (L 0 = false ∧ w' = w ∧ ∀ j, L (3 * j + 3) = false) ∨
  (L 0 = true ∧ ∃ l, w' = w.alloc (mo l) ∧ ∀ x, x ∈ l ↔ ∃ j, L (3 * j + 3) = true ∧ tab[j]? = some x)

theorem cls_more {w : World} {L : Nat → Bool} {w' : World} {i : Nat} (hi : i % 3 ≠ 0) (h : Cls w L w') : Cls w (dn.more L i) w' := by
  have e0 : dn.more L i 0 = L 0 := by unfold dn.more; rw [if_neg (by omega)]
  have ej : ∀ j, dn.more L i (3 * j + 3) = L (3 * j + 3) := fun j => by unfold dn.more; rw [if_neg (by omega)]
  unfold Cls
  simp only [e0, ej]
  exact h

theorem step_quiet {fin : Act} {w : World} {i : Nat} {o : Oper} (hi : i % 3 ≠ 0) (v : Value) (hd : ∀ d, o.dst = some d → fin.tmps[d]? = some v) (hrun : ∀ W : World, (execOp fin.eval o).run Tryd.prog W = .ok (.value v) W) :
    dn.Step Tryd.prog fin (Cls w) i o := by
  intro L W _ _ hC
  refine ⟨v, hd, ?_⟩
  rw [hrun]
  exact ⟨rfl, cls_more hi hC⟩

theorem step_make {fin : Act} {w : World} {o : Oper} (hop : o.op = .makeMap 106 none) (hd : ∀ d, o.dst = some d → fin.tmps[d]? = some (.map (some w.heap.size))) : dn.Step Tryd.prog fin (Cls w) 0 o := by
  intro L W _ h0 hC
  rcases hC with ⟨_, rfl, hno⟩ | ⟨h1, _⟩
  · refine ⟨_, hd, ?_⟩
    have hr := @run_makeMap Tryd.prog 106 W
    simp only [execOp, hop, Option.map_none, Sem.run_bind, hr, Result.andThen]
    refine ⟨rfl, Or.inr ⟨by simp [dn.more], [], rfl, fun x => ?_⟩⟩
    simp only [List.not_mem_nil, false_iff]
    rintro ⟨j, hj, _⟩
    simp only [dn.more, show ¬ (3 * j + 3 = 0) by omega, if_false, hno] at hj
    cases hj
  · rw [h0] at h1; cases h1

theorem step_insert {fin : Act} {w : World} {o : Oper} (j : Nat) (a b : Int) (s : List UInt8) (m x v : Operand) (hx : tab[j]? = some ((a, b), s)) (hop : o.op = .insert 106 m x v) (hdst : o.dst = none)
    (hm : fin.eval m = .map (some w.heap.size)) (hk : fin.eval x = .agg #[.int .i64 a, .int .i64 b]) (hv : fin.eval v = .agg #[.string ⟨s.toArray⟩]) (he : (o.after.any fun e => Region.binds .any e && e.on == 0) = true) :
    dn.Step Tryd.prog fin (Cls w) (3 * j + 3) o := by
  intro L W hw h0 hC
  obtain ⟨e, hem, hb⟩ := Array.any_eq_true'.1 he
  simp only [Bool.and_eq_true, beq_iff_eq] at hb
  have hL0 := hw e hem hb.1
  rw [hb.2] at hL0
  refine ⟨undef, (fun d hd => by rw [hdst] at hd; cases hd), ?_⟩
  rcases hC with ⟨h1, _⟩ | ⟨_, l, rfl, hl⟩
  · rw [h1] at hL0; cases hL0
  · have hfresh : (∀ x ∈ l, x.1 ≠ (a, b) ∧ small x.1 = true) ∧ small (a, b) = true := by
      refine ⟨fun y hy => ?_, tab_small ((a, b), s) (List.mem_of_getElem? hx)⟩
      obtain ⟨i, hi, hti⟩ := (hl y).1 hy
      refine ⟨fun e => ?_, tab_small y (List.mem_of_getElem? hti)⟩
      obtain rfl := tab_at hti hx e
      rw [h0] at hi
      cases hi
    have hr := ins w l a b s hfresh
    simp only [execOp, hop, hm, hk, hv, Sem.run_bind, hr, Result.andThen]
    refine ⟨rfl, Or.inr ⟨by simp [dn.more, hL0], _, rfl, fun y => ?_⟩⟩
    simp only [List.mem_append, List.mem_singleton, hl, dn.more]
    constructor
    · rintro (⟨i, hi, hti⟩ | rfl)
      · exact ⟨i, by split <;> first | rfl | exact hi, hti⟩
      · exact ⟨j, by simp, hx⟩
    · rintro ⟨i, hi, hti⟩
      by_cases hij : i = j
      · subst hij
        rw [hx] at hti
        exact Or.inr (Option.some.inj hti).symm
      · rw [if_neg (by omega)] at hi
        exact Or.inl ⟨i, hi, hti⟩

def fin (b : Nat) : Act := { tmps := #[.map (some b), .map (some b), .agg #[.int .i64 10, .int .i64 50], .agg #[.string ⟨#[115, 115]⟩], .agg #[.int .i64 20, .int .i64 10], .agg #[.string ⟨#[]⟩], .agg #[.int .i64 20, .int .i64 11], .agg #[.string ⟨#[]⟩], .agg #[.int .i64 40, .int .i64 10], .agg #[.string ⟨#[115, 115]⟩], .agg #[.int .i64 40, .int .i64 11], .agg #[.string ⟨#[]⟩], .agg #[.int .i64 50, .int .i64 10], .agg #[.string ⟨#[115, 49]⟩], .agg #[.int .i64 50, .int .i64 11], .agg #[.string ⟨#[115, 52]⟩], .agg #[.int .i64 50, .int .i64 20], .agg #[.string ⟨#[115, 115, 115]⟩], .agg #[.int .i64 50, .int .i64 21], .agg #[.string ⟨#[]⟩], .agg #[.int .i64 60, .int .i64 40], .agg #[.string ⟨#[115, 115]⟩], .agg #[.int .i64 60, .int .i64 70], .agg #[.string ⟨#[115]⟩], .agg #[.int .i64 60, .int .i64 71], .agg #[.string ⟨#[56, 49, 115, 115, 52]⟩], .agg #[.int .i64 60, .int .i64 72], .agg #[.string ⟨#[]⟩], .agg #[.int .i64 60, .int .i64 80], .agg #[.string ⟨#[56, 49]⟩], .agg #[.int .i64 60, .int .i64 120], .agg #[.string ⟨#[56, 49, 49]⟩], .agg #[.int .i64 85, .int .i64 10], .agg #[.string ⟨#[49]⟩], .agg #[.int .i64 85, .int .i64 11], .agg #[.string ⟨#[]⟩], .agg #[.int .i64 90, .int .i64 10], .agg #[.string ⟨#[]⟩], .agg #[.int .i64 90, .int .i64 11], .agg #[.string ⟨#[]⟩], .agg #[.int .i64 90, .int .i64 20], .agg #[.string ⟨#[]⟩], .agg #[.int .i64 90, .int .i64 21], .agg #[.string ⟨#[]⟩], .agg #[.int .i64 90, .int .i64 30], .agg #[.string ⟨#[]⟩], .agg #[.int .i64 90, .int .i64 31], .agg #[.string ⟨#[]⟩], .map (some b)], defers := [] }

theorem step_key {fin : Act} {w : World} {i : Nat} {o : Oper} (hi : i % 3 ≠ 0) (x y : Int) (hop : o.op = .build 108 #[(0, .const (.int .i64 x)), (1, .const (.int .i64 y))])
    (hd : ∀ d, o.dst = some d → fin.tmps[d]? = some (.agg #[.int .i64 x, .int .i64 y])) : dn.Step Tryd.prog fin (Cls w) i o :=
  step_quiet hi _ hd fun W => by
    have hb : (Instr.build 108 #[(0, .int .i64 x), (1, .int .i64 y)]).run Tryd.prog W = .ok (.agg #[.int .i64 x, .int .i64 y]) W := by kernel_rfl
    simp [execOp, hop, Act.eval, hb, Result.andThen]

theorem step_val {fin : Act} {w : World} {i : Nat} {o : Oper} (hi : i % 3 ≠ 0) (s : ByteArray) (hop : o.op = .build 104 #[(0, .const (.string s))])
    (hd : ∀ d, o.dst = some d → fin.tmps[d]? = some (.agg #[.string s])) : dn.Step Tryd.prog fin (Cls w) i o :=
  step_quiet hi _ hd fun W => by
    have hb : (Instr.build 104 #[(0, .string s)]).run Tryd.prog W = .ok (.agg #[.string s]) W := by kernel_rfl
    simp [execOp, hop, Act.eval, hb, Result.andThen]

theorem step_move {fin : Act} {w : World} {i : Nat} {o : Oper} (hi : i % 3 ≠ 0) (x : Operand) (hop : o.op = .move x ∨ o.op = .assign x) (hd : ∀ d, o.dst = some d → fin.tmps[d]? = some (fin.eval x)) : dn.Step Tryd.prog fin (Cls w) i o :=
  step_quiet hi _ hd fun W => by
    rcases hop with hop | hop <;> simp only [execOp, hop] <;> rfl

set_option maxRecDepth 100000 in
theorem impl_forms (w : World) : Calls Tryd.prog 62 #[] w fun e w' => e = .returned (.map (some w.heap.size)) ∧ ∃ l, w' = w.drew.alloc (mo l) ∧ ∀ x, x ∈ l ↔ x ∈ tab := by
  go_enter Tryd.func62, Tryd.ntmps62
  go_wp2
  refine dn.region_done (fin w.heap.size) (Cls w.drew) (by kernel_rfl) (by kernel_rfl) rfl rfl [] (by kernel_rfl) (fun s hs => by cases hs) (Or.inl ⟨rfl, rfl, fun _ => rfl⟩) ?each ?fin
  case each =>
    refine dn.each_append _ _ _ ?_ ?_
    · skip
      refine ⟨step_make rfl (by rintro _ ⟨⟩; rfl), ?_⟩
      refine ⟨step_key (by decide) _ _ rfl (by rintro _ ⟨⟩; rfl), ?_⟩
      refine ⟨step_val (by decide) _ rfl (by rintro _ ⟨⟩; rfl), ?_⟩
      refine ⟨step_insert 0 10 50 [115, 115] _ _ _ rfl rfl rfl rfl rfl rfl (by kernel_rfl), ?_⟩
      refine ⟨step_key (by decide) _ _ rfl (by rintro _ ⟨⟩; rfl), ?_⟩
      refine ⟨step_val (by decide) _ rfl (by rintro _ ⟨⟩; rfl), ?_⟩
      refine ⟨step_insert 1 20 10 [] _ _ _ rfl rfl rfl rfl rfl rfl (by kernel_rfl), ?_⟩
      refine ⟨step_key (by decide) _ _ rfl (by rintro _ ⟨⟩; rfl), ?_⟩
      refine ⟨step_val (by decide) _ rfl (by rintro _ ⟨⟩; rfl), ?_⟩
      refine ⟨step_insert 2 20 11 [] _ _ _ rfl rfl rfl rfl rfl rfl (by kernel_rfl), ?_⟩
      refine ⟨step_key (by decide) _ _ rfl (by rintro _ ⟨⟩; rfl), ?_⟩
      refine ⟨step_val (by decide) _ rfl (by rintro _ ⟨⟩; rfl), ?_⟩
      refine ⟨step_insert 3 40 10 [115, 115] _ _ _ rfl rfl rfl rfl rfl rfl (by kernel_rfl), ?_⟩
      refine ⟨step_key (by decide) _ _ rfl (by rintro _ ⟨⟩; rfl), ?_⟩
      refine ⟨step_val (by decide) _ rfl (by rintro _ ⟨⟩; rfl), ?_⟩
      refine ⟨step_insert 4 40 11 [] _ _ _ rfl rfl rfl rfl rfl rfl (by kernel_rfl), ?_⟩
      refine ⟨step_key (by decide) _ _ rfl (by rintro _ ⟨⟩; rfl), ?_⟩
      refine ⟨step_val (by decide) _ rfl (by rintro _ ⟨⟩; rfl), ?_⟩
      refine ⟨step_insert 5 50 10 [115, 49] _ _ _ rfl rfl rfl rfl rfl rfl (by kernel_rfl), ?_⟩
      refine ⟨step_key (by decide) _ _ rfl (by rintro _ ⟨⟩; rfl), ?_⟩
      refine ⟨step_val (by decide) _ rfl (by rintro _ ⟨⟩; rfl), ?_⟩
      refine ⟨step_insert 6 50 11 [115, 52] _ _ _ rfl rfl rfl rfl rfl rfl (by kernel_rfl), ?_⟩
      refine ⟨step_key (by decide) _ _ rfl (by rintro _ ⟨⟩; rfl), ?_⟩
      refine ⟨step_val (by decide) _ rfl (by rintro _ ⟨⟩; rfl), ?_⟩
      refine ⟨step_insert 7 50 20 [115, 115, 115] _ _ _ rfl rfl rfl rfl rfl rfl (by kernel_rfl), ?_⟩
      refine ⟨step_key (by decide) _ _ rfl (by rintro _ ⟨⟩; rfl), ?_⟩
      refine ⟨step_val (by decide) _ rfl (by rintro _ ⟨⟩; rfl), ?_⟩
      refine ⟨step_insert 8 50 21 [] _ _ _ rfl rfl rfl rfl rfl rfl (by kernel_rfl), ?_⟩
      refine ⟨step_key (by decide) _ _ rfl (by rintro _ ⟨⟩; rfl), ?_⟩
      refine ⟨step_val (by decide) _ rfl (by rintro _ ⟨⟩; rfl), ?_⟩
      refine ⟨step_insert 9 60 40 [115, 115] _ _ _ rfl rfl rfl rfl rfl rfl (by kernel_rfl), ?_⟩
      refine ⟨step_key (by decide) _ _ rfl (by rintro _ ⟨⟩; rfl), ?_⟩
      refine ⟨step_val (by decide) _ rfl (by rintro _ ⟨⟩; rfl), ?_⟩
      refine ⟨step_insert 10 60 70 [115] _ _ _ rfl rfl rfl rfl rfl rfl (by kernel_rfl), ?_⟩
      refine ⟨step_key (by decide) _ _ rfl (by rintro _ ⟨⟩; rfl), ?_⟩
      refine ⟨step_val (by decide) _ rfl (by rintro _ ⟨⟩; rfl), ?_⟩
      exact trivial
    · skip
      refine ⟨step_insert 11 60 71 [56, 49, 115, 115, 52] _ _ _ rfl rfl rfl rfl rfl rfl (by kernel_rfl), ?_⟩
      refine ⟨step_key (by decide) _ _ rfl (by rintro _ ⟨⟩; rfl), ?_⟩
      refine ⟨step_val (by decide) _ rfl (by rintro _ ⟨⟩; rfl), ?_⟩
      refine ⟨step_insert 12 60 72 [] _ _ _ rfl rfl rfl rfl rfl rfl (by kernel_rfl), ?_⟩
      refine ⟨step_key (by decide) _ _ rfl (by rintro _ ⟨⟩; rfl), ?_⟩
      refine ⟨step_val (by decide) _ rfl (by rintro _ ⟨⟩; rfl), ?_⟩
      refine ⟨step_insert 13 60 80 [56, 49] _ _ _ rfl rfl rfl rfl rfl rfl (by kernel_rfl), ?_⟩
      refine ⟨step_key (by decide) _ _ rfl (by rintro _ ⟨⟩; rfl), ?_⟩
      refine ⟨step_val (by decide) _ rfl (by rintro _ ⟨⟩; rfl), ?_⟩
      refine ⟨step_insert 14 60 120 [56, 49, 49] _ _ _ rfl rfl rfl rfl rfl rfl (by kernel_rfl), ?_⟩
      refine ⟨step_key (by decide) _ _ rfl (by rintro _ ⟨⟩; rfl), ?_⟩
      refine ⟨step_val (by decide) _ rfl (by rintro _ ⟨⟩; rfl), ?_⟩
      refine ⟨step_insert 15 85 10 [49] _ _ _ rfl rfl rfl rfl rfl rfl (by kernel_rfl), ?_⟩
      refine ⟨step_key (by decide) _ _ rfl (by rintro _ ⟨⟩; rfl), ?_⟩
      refine ⟨step_val (by decide) _ rfl (by rintro _ ⟨⟩; rfl), ?_⟩
      refine ⟨step_insert 16 85 11 [] _ _ _ rfl rfl rfl rfl rfl rfl (by kernel_rfl), ?_⟩
      refine ⟨step_key (by decide) _ _ rfl (by rintro _ ⟨⟩; rfl), ?_⟩
      refine ⟨step_val (by decide) _ rfl (by rintro _ ⟨⟩; rfl), ?_⟩
      refine ⟨step_insert 17 90 10 [] _ _ _ rfl rfl rfl rfl rfl rfl (by kernel_rfl), ?_⟩
      refine ⟨step_key (by decide) _ _ rfl (by rintro _ ⟨⟩; rfl), ?_⟩
      refine ⟨step_val (by decide) _ rfl (by rintro _ ⟨⟩; rfl), ?_⟩
      refine ⟨step_insert 18 90 11 [] _ _ _ rfl rfl rfl rfl rfl rfl (by kernel_rfl), ?_⟩
      refine ⟨step_key (by decide) _ _ rfl (by rintro _ ⟨⟩; rfl), ?_⟩
      refine ⟨step_val (by decide) _ rfl (by rintro _ ⟨⟩; rfl), ?_⟩
      refine ⟨step_insert 19 90 20 [] _ _ _ rfl rfl rfl rfl rfl rfl (by kernel_rfl), ?_⟩
      refine ⟨step_key (by decide) _ _ rfl (by rintro _ ⟨⟩; rfl), ?_⟩
      refine ⟨step_val (by decide) _ rfl (by rintro _ ⟨⟩; rfl), ?_⟩
      refine ⟨step_insert 20 90 21 [] _ _ _ rfl rfl rfl rfl rfl rfl (by kernel_rfl), ?_⟩
      refine ⟨step_key (by decide) _ _ rfl (by rintro _ ⟨⟩; rfl), ?_⟩
      refine ⟨step_val (by decide) _ rfl (by rintro _ ⟨⟩; rfl), ?_⟩
      refine ⟨step_insert 21 90 30 [] _ _ _ rfl rfl rfl rfl rfl rfl (by kernel_rfl), ?_⟩
      refine ⟨step_key (by decide) _ _ rfl (by rintro _ ⟨⟩; rfl), ?_⟩
      refine ⟨step_val (by decide) _ rfl (by rintro _ ⟨⟩; rfl), ?_⟩
      refine ⟨step_insert 22 90 31 [] _ _ _ rfl rfl rfl rfl rfl rfl (by kernel_rfl), ?_⟩
      refine ⟨step_move (by decide) _ (Or.inl rfl) (by rintro _ ⟨⟩; rfl), ?_⟩
      refine ⟨step_move (by decide) _ (Or.inr rfl) (by rintro _ ⟨⟩; rfl), ?_⟩
      exact trivial
  case fin =>
    intro L W hL hC
    rcases hC with ⟨h, _⟩ | ⟨_, l, rfl, hl⟩
    · have := hL 0 (of_decide_eq_true (by kernel_rfl))
      rw [h] at this; cases this
    · unfold fin
      go_wp2
      go_ret
      refine ⟨rfl, l, rfl, fun x => ?_⟩
      rw [hl]
      constructor
      · rintro ⟨j, _, h⟩; exact List.mem_of_getElem? h
      · intro h
        obtain ⟨j, hj⟩ := List.getElem?_of_mem h
        have := (List.getElem?_eq_some_iff.1 hj).1
        exact ⟨j, hL _ (show 3 * j + 3 < 72 by have : tab.length = 23 := rfl; omega), hj⟩

/-- WHAT BOTH ANSWER -/
def known (a b : Int) : Option (List UInt8) := (tab.find? fun x => x.1 == (a, b)).map (·.2)
def letters (a b : Int) : ByteArray := ⟨((known a b).getD []).toArray⟩

theorem known_of {a b : Int} {s : List UInt8} (h : ((a, b), s) ∈ tab) : known a b = some s := by
  unfold known
  cases hf : tab.find? (fun x => x.1 == (a, b)) with
  | none => exact absurd (List.find?_eq_none.1 hf _ h) (by simp)
  | some y =>
    have hy := List.mem_of_find?_eq_some hf
    have hk := List.find?_some hf
    simp only [beq_iff_eq] at hk
    rw [tab_inj hy h hk]
    rfl
theorem known_no {a b : Int} (h : ∀ x ∈ tab, x.1 ≠ (a, b)) : known a b = none := by
  unfold known
  rw [List.find?_eq_none.2 (fun x hx => by simpa using h x hx)]
  rfl

theorem zeroForm (W : World) : (zeroValue 104).run Tryd.prog W = .ok (.agg #[.string ByteArray.empty]) W := by kernel_rfl

theorem look (W : World) (l : List ((Int × Int) × List UInt8)) (b : Nat) (hb : W.heap[b]? = some (mo l)) (hl : ∀ x, x ∈ l ↔ x ∈ tab) (x y : Int) (hx : (Lit.int .i64 x).wf = true) (hy : (Lit.int .i64 y).wf = true) :
    (Instr.lookup 106 (.map (some b)) (.agg #[.int .i64 x, .int .i64 y]) true).run Tryd.prog W = .ok (.tuple #[.agg #[.string (letters x y)], .bool (known x y).isSome]) W := by
  rcases run_lookup law Tryd.underlying106 W b (l.map enc) (.agg #[.int .i64 x, .int .i64 y]) _ (zeroForm W) true hb (fun z hz => by
    obtain ⟨y, hy, rfl⟩ := List.mem_map.1 hz
    have hy' := small_wf (tab_small y ((hl y).1 hy))
    exact keyOf_pair _ _ hy'.1 hy'.2) (keyOf_pair _ _ hx hy) with ⟨hr, hno⟩ | ⟨v, hv, hr⟩
  · rw [hr]
    have hk : known x y = none := known_no fun z hz e => hno (enc z) (List.mem_map.2 ⟨z, (hl z).2 hz, rfl⟩) (by unfold enc; rw [e])
    simp only [if_true, letters, hk]
    rfl
  · rw [hr]
    obtain ⟨z, hz, e⟩ := List.mem_map.1 hv
    simp [enc] at e
    have hk : known x y = some z.2 := known_of (by
      have := (hl z).1 hz
      rwa [show z = ((x, y), z.2) from Prod.ext (Prod.ext e.1.1 e.1.2) rfl] at this)
    simp only [if_true, letters, hk, ← e.2]
    rfl

theorem impl_form (x y : Int) (w : World) (hx : (Lit.int .i64 x).wf = true) (hy : (Lit.int .i64 y).wf = true) :
    Calls Tryd.prog 41 #[.int .i64 x, .int .i64 y] w fun e w' => e = .returned (.tuple #[.string (letters x y), .bool (known x y).isSome]) ∧ Below w.heap.size w w' := by
  obtain ⟨s, hs⟩ : ∃ s, letters x y = s := ⟨_, rfl⟩
  obtain ⟨k, hk⟩ : ∃ k, (known x y).isSome = k := ⟨_, rfl⟩
  have HL := fun W l b hb hl => look W l b hb hl x y hx hy
  rw [hs, hk]
  simp only [hs, hk] at HL
  have HL' : Hid (∀ (W : World) (l : List ((Int × Int) × List UInt8)) (b : Nat), W.heap[b]? = some (mo l) → (∀ x, x ∈ l ↔ x ∈ tab) → (Instr.lookup 106 (.map (some b)) (.agg #[.int .i64 x, .int .i64 y]) true).run Tryd.prog W = .ok (.tuple #[.agg #[.string s], .bool k]) W) := HL
  clear HL hs hk
  go_enter Tryd.func41, Tryd.ntmps41
  go_wp2_with (go_at_call 62; refine (impl_forms _).mono ?_; rintro e w1 ⟨rfl, l, rfl, hl⟩; have hr := HL'.out (w.alloc (mo l)).drew l w.heap.size (MapKept.heap_alloc w _).1 hl)
  go_ret2
  exact ⟨rfl, (((Below.refl _ _).alloc (Nat.le_refl _) _).drew).alloc (by simp) _⟩

theorem none_of {x y : Int} (h : tab.all (fun z => !(1000 * x + y == 1000 * z.1.1 + z.1.2)) = true) : known x y = none := known_no fun z hz e => by
  have := List.all_eq_true.1 h z hz
  simp [e] at this
theorem leaf {x y : Int} {s : ByteArray} {w w' : World} (a b : Int) (hx : x = a) (hy : y = b) (hs : (letters a b, (known a b).isSome) = (s, true)) (hw : w' = w) :
    Ending.returned (.tuple #[.string s, .bool true]) = .returned (.tuple #[.string (letters x y), .bool (known x y).isSome]) ∧ w' = w := by
  subst hx hy
  obtain ⟨h1, h2⟩ := Prod.mk.inj hs
  rw [h1, h2]
  exact ⟨rfl, hw⟩
theorem leaf_no {x y : Int} {w w' : World} (h : known x y = none) (hw : w' = w) :
    Ending.returned (.tuple #[.string ⟨#[]⟩, .bool false]) = .returned (.tuple #[.string (letters x y), .bool (known x y).isSome]) ∧ w' = w := by
  rw [letters, h]
  exact ⟨rfl, hw⟩

set_option maxHeartbeats 2000000 in
theorem spec_in (x y : Int) (w : World) (hx1 : 0 ≤ x) (hx2 : x ≤ 100) (hy1 : 0 ≤ y) (hy2 : y ≤ 999) : Calls Tryd.prog 28 #[.int .i64 x, .int .i64 y] w fun e w' => e = .returned (.tuple #[.string (letters x y), .bool (known x y).isSome]) ∧ w' = w := by
  go_enter Tryd.func28, Tryd.ntmps28
  go_wp2_with (go_at_call 29; go_in)
  all_goals simp only [beq_iff_eq, beq_eq_false_iff_ne, ne_eq] at *
  all_goals go_ret2
  all_goals first | (refine leaf_no (none_of ?_) rfl; simp only [tab, List.all_cons, List.all_nil, Bool.and_true, Bool.and_eq_true, Bool.not_eq_true', beq_eq_false_iff_ne, ne_eq]; omega) | skip
  all_goals first | (refine leaf 10 50 ?_ ?_ rfl rfl; all_goals omega) | (refine leaf 20 10 ?_ ?_ rfl rfl; all_goals omega) | (refine leaf 20 11 ?_ ?_ rfl rfl; all_goals omega) | (refine leaf 40 10 ?_ ?_ rfl rfl; all_goals omega) | (refine leaf 40 11 ?_ ?_ rfl rfl; all_goals omega) | (refine leaf 50 10 ?_ ?_ rfl rfl; all_goals omega) | (refine leaf 50 11 ?_ ?_ rfl rfl; all_goals omega) | (refine leaf 50 20 ?_ ?_ rfl rfl; all_goals omega) | (refine leaf 50 21 ?_ ?_ rfl rfl; all_goals omega) | (refine leaf 60 40 ?_ ?_ rfl rfl; all_goals omega) | (refine leaf 60 70 ?_ ?_ rfl rfl; all_goals omega) | (refine leaf 60 71 ?_ ?_ rfl rfl; all_goals omega) | (refine leaf 60 72 ?_ ?_ rfl rfl; all_goals omega) | (refine leaf 60 80 ?_ ?_ rfl rfl; all_goals omega) | (refine leaf 60 120 ?_ ?_ rfl rfl; all_goals omega) | (refine leaf 85 10 ?_ ?_ rfl rfl; all_goals omega) | (refine leaf 85 11 ?_ ?_ rfl rfl; all_goals omega) | (refine leaf 90 10 ?_ ?_ rfl rfl; all_goals omega) | (refine leaf 90 11 ?_ ?_ rfl rfl; all_goals omega) | (refine leaf 90 20 ?_ ?_ rfl rfl; all_goals omega) | (refine leaf 90 21 ?_ ?_ rfl rfl; all_goals omega) | (refine leaf 90 30 ?_ ?_ rfl rfl; all_goals omega) | (refine leaf 90 31 ?_ ?_ rfl rfl; all_goals omega)

theorem spec_form (x y : Int) (w : World) : Calls Tryd.prog 28 #[.int .i64 x, .int .i64 y] w fun e w' => e = .returned (.tuple #[.string (letters x y), .bool (known x y).isSome]) ∧ w' = w := by
  have hno : (x < 0 ∨ 100 < x ∨ y < 0 ∨ 999 < y) → known x y = none := fun h => known_no fun z hz e => by
    have h1 : ∀ z ∈ tab, 0 ≤ z.1.1 ∧ z.1.1 ≤ 100 ∧ 0 ≤ z.1.2 ∧ z.1.2 ≤ 999 := by decide
    have := h1 z hz
    rw [e] at this
    simp only at this
    omega
  have HN : Hid ((x < 0 ∨ 100 < x ∨ y < 0 ∨ 999 < y) → known x y = none) := hno
  clear hno
  by_cases hx : x < 0
  · go_enter Tryd.func28, Tryd.ntmps28
    go_wp2_with (go_at_call 29; go_in)
    all_goals go_ret2
    all_goals exact leaf_no (HN.out (by omega)) rfl
  by_cases hx' : 100 < x
  · have hd : decide (x ≤ 100) = false := by simp; omega
    go_enter Tryd.func28, Tryd.ntmps28
    go_wp2_with (go_at_call 29; go_in)
    all_goals go_ret2
    all_goals exact leaf_no (HN.out (by omega)) rfl
  by_cases hy : y < 0
  · have hd : decide (0 ≤ y) = false := by simp; omega
    go_enter Tryd.func28, Tryd.ntmps28
    go_wp2_with (go_at_call 29; go_in)
    all_goals go_ret2
    all_goals exact leaf_no (HN.out (by omega)) rfl
  by_cases hy' : 999 < y
  · have hd : decide (y ≤ 999) = false := by simp; omega
    go_enter Tryd.func28, Tryd.ntmps28
    go_wp2_with (go_at_call 29; go_in)
    all_goals go_ret2
    all_goals exact leaf_no (HN.out (by omega)) rfl
  exact spec_in x y w (by omega) (by omega) (by omega) (by omega)
end Go.Proofs.YtnmooolnmhidbaaDoor.fo
