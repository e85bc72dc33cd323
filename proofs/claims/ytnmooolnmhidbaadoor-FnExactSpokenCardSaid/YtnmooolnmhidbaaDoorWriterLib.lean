/- The program's writer of a method as it lies in memory, and the statement that lays one word behind its words: its operations in any order. -/
import Derived.Test.YtnmooolnmhidbaaDoorMethodPlain
import Derived.Test.YtnmooolnmhidbaaDoorMeths
import Derived.Test.YtnmooolnmhidbaaDoorDecTextImpl
import Derived.Test.YtnmooolnmhidbaaDoorRegionGhost
import Derived.Deep.AppendLies
namespace Go.Proofs.YtnmooolnmhidbaaDoor.wt
set_option linter.unusedVariables false
open Go.ChangeShapes Go.WideShapes Go.ChangeAt Go.RowKit Go.Proofs.YtnmooolnmhidbaaDoor.ls Go.Proofs.YtnmooolnmhidbaaDoor.me Go.Proofs.YtnmooolnmhidbaaDoor.mp

/-- the writer in block wb: what is left of the texts and numbers, the bytes and the words so far (in block g); the two lists lie in blocks below B, the writer and its words do not -/
def Wr (w : World) (B wb g : Nat) (ts : List ByteArray) (ns : List Int) (bs : ByteArray) (ws : List ByteArray) : Prop :=
  ∃ (ta na : Option Addr) (tc nc wc : Nat), w.heap[wb]? = some (.cells #[.slice ta ts.length tc, .slice na ns.length nc, .string bs, .slice (some ⟨g, 0, none⟩) ws.length wc] 55 (0, 0)) ∧
    Sl Value.string w B ta ts ∧ Sl (Value.int .i64) w B na ns ∧ w.ownsRow B 9 1 (.slice (some ⟨g, 0, none⟩) ws.length wc) ws.length (ws.map Value.string) ∧ g ≠ wb ∧ B ≤ wb ∧ B ≤ g ∧ ts.length ≤ tc ∧ ns.length ≤ nc

theorem info9 : (Tryd.prog.info? 9).map (fun i => (i.zero, i.size, i.bytes)) = some (some (.string ByteArray.empty), 1, 16) := by kernel_rfl

/-! the statement 'w.words = append(w.words, y)': its operations in any order -/
/-- what is drawn on the way: where the one new word lies, where the words lie behind it, and their room -/
structure Gh where
  h : Nat
  gg : Nat
  cap : Nat

def Done (W : World) (B wb g : Nat) (ws : List ByteArray) (y : ByteArray) (s : Gh) (L : Nat → Bool) (w' : World) : Prop :=
  (L 13 = true → L 4 = true) ∧ (L 13 = true → L 12 = true) ∧ (L 16 = true → L 13 = true) ∧
  (L 13 = false → W.grownBy w' none ∧ (L 12 = true → w'.heap[s.h]? = some (.cells #[.string y] 9 (0, 0)) ∧ W.heap.size ≤ s.h)) ∧
  (L 13 = true → ∃ w1 : World, W.grownBy w1 (some g) ∧ w1.ownsRow B 9 1 (.slice (some ⟨s.gg, 0, none⟩) (ws.length + 1) s.cap) (ws.length + 1) (ws.map Value.string ++ [.string y]) ∧ (s.gg = g ∨ W.heap.size ≤ s.gg) ∧
    w' = if L 16 = true then w1.setCell ⟨wb, 3, none⟩ (.slice (some ⟨s.gg, 0, none⟩) (ws.length + 1) s.cap) else w1) ∧
  (L 12 = true → L 11 = true)

section
variable {W : World} {B wb g : Nat} {ws : List ByteArray} {y : ByteArray} {fin : Gh → Act} {Q : Exit → Act → World → Prop}

theorem done_more {s : Gh} {L : Nat → Bool} {w' : World} {i : Nat} (h12 : i ≠ 12) (h13 : i ≠ 13) (h16 : i ≠ 16) (h : Done W B wb g ws y s L w') : Done W B wb g ws y s (dn.more L i) w' := by
  have e12 : dn.more L i 12 = L 12 := by unfold dn.more; rw [if_neg (Ne.symm h12)]
  have e13 : dn.more L i 13 = L 13 := by unfold dn.more; rw [if_neg (Ne.symm h13)]
  have e16 : dn.more L i 16 = L 16 := by unfold dn.more; rw [if_neg (Ne.symm h16)]
  obtain ⟨a, b, c, d, e, f⟩ := h
  unfold Done
  rw [e12, e13, e16]
  exact ⟨(fun h => by unfold dn.more; split <;> first | rfl | exact a h), b, c, d, e, (fun h => by unfold dn.more; split <;> first | rfl | exact f h)⟩

theorem done_cell {s : Gh} {L : Nat → Bool} {w' : World} (h : Done W B wb g ws y s L w') {b o : Nat} (hb : b < W.heap.size) (hbg : b ≠ g) (hb3 : b ≠ wb ∨ o ≠ 3 ∨ L 16 = false) : w'.cell? ⟨b, o, none⟩ = W.cell? ⟨b, o, none⟩ := by
  obtain ⟨_, _, h163, hA, hB, _⟩ := h
  cases h13 : L 13 with
  | false => exact World.cell?_of_block (w := W) ((hA h13).1.block b hb (by simp))
  | true =>
    obtain ⟨w1, hg, _, _, rfl⟩ := hB h13
    have h1 : w1.cell? ⟨b, o, none⟩ = W.cell? ⟨b, o, none⟩ := World.cell?_of_block (w := W) (hg.block b hb (by simpa using hbg))
    split
    · rename_i h16
      refine (World.cell?_setCell_other _ _ _ _ ?_).trans h1
      intro e
      simp at e
      rcases hb3 with h | h | h
      · exact h e.1.symm
      · exact h e.2.symm
      · rw [h] at h16; cases h16
    · exact h1

/-- an operation that leaves one value and no trace in memory -/
theorem st_quiet {i : Nat} {o : Oper} (h12 : i ≠ 12) (h13 : i ≠ 13) (h16 : i ≠ 16) (hsel : ∀ cs b, o.op ≠ .select cs b) (v : Gh → Value) (hd : ∀ s d, o.dst = some d → (fin s).tmps[d]? = some (v s))
    (hrun : ∀ s L w', (∀ e ∈ o.after, Region.binds .any e = true → L e.on = true) → L i = false → Done W B wb g ws y s L w' → (execOp (fin s).eval o).run Tryd.prog w' = .ok (.value (v s)) w') : gh.Step Tryd.prog fin (Done W B wb g ws y) Q i o :=
  gh.step_val hsel fun s L w' hdp h0 hC => ⟨s, v s, gh.Agree.refl _ _, fun d hd' => hd s d hd', by rw [hrun s L w' hdp h0 hC]; exact ⟨rfl, done_more h12 h13 h16 hC⟩⟩

theorem st_move {i : Nat} {o : Oper} (h12 : i ≠ 12) (h13 : i ≠ 13) (h16 : i ≠ 16) (x : Operand) (hop : o.op = .move x) (hd : ∀ s d, o.dst = some d → (fin s).tmps[d]? = some ((fin s).eval x)) : gh.Step Tryd.prog fin (Done W B wb g ws y) Q i o :=
  st_quiet h12 h13 h16 (by rw [hop]; simp) (fun s => (fin s).eval x) hd fun s L w' _ _ _ => by simp [execOp, hop, go_sem]
theorem st_nil {i : Nat} {o : Oper} (h12 : i ≠ 12) (h13 : i ≠ 13) (h16 : i ≠ 16) (x : Operand) (p : Addr) (hop : o.op = .nilCheck x) (hx : ∀ s, (fin s).eval x = .pointer (some p)) (hd : ∀ s d, o.dst = some d → (fin s).tmps[d]? = some (.pointer (some p))) : gh.Step Tryd.prog fin (Done W B wb g ws y) Q i o :=
  st_quiet h12 h13 h16 (by rw [hop]; simp) (fun _ => .pointer (some p)) hd fun s L w' _ _ _ => by simp only [execOp, hop, hx]; simp [go_sem]
theorem st_field {i : Nat} {o : Oper} (h12 : i ≠ 12) (h13 : i ≠ 13) (h16 : i ≠ 16) (x : Operand) (t : TypeId) (k b m : Nat) (hop : o.op = .fieldAddr t x k) (hx : ∀ s, (fin s).eval x = .pointer (some ⟨b, 0, none⟩)) (hf : ∀ w' : World, (Instr.fieldAt t (.pointer (some ⟨b, 0, none⟩)) k).run Tryd.prog w' = .ok (.pointer (some ⟨b, m, none⟩)) w')
    (hd : ∀ s d, o.dst = some d → (fin s).tmps[d]? = some (.pointer (some ⟨b, m, none⟩))) : gh.Step Tryd.prog fin (Done W B wb g ws y) Q i o :=
  st_quiet h12 h13 h16 (by rw [hop]; simp) (fun _ => .pointer (some ⟨b, m, none⟩)) hd fun s L w' _ _ _ => by simp [execOp, hop, hx, hf, Result.andThen]
theorem st_index {i : Nat} {o : Oper} (h12 : i ≠ 12) (h13 : i ≠ 13) (h16 : i ≠ 16) (x k : Operand) (t : TypeId) (b off n c : Nat) (hop : o.op = .indexAddr t x k) (hx : ∀ s, (fin s).eval x = .slice (some ⟨b, off, none⟩) n c) (hk : ∀ s, (fin s).eval k = .int .i64 0)
    (hf : ∀ w' : World, (Instr.indexAt t (.slice (some ⟨b, off, none⟩) n c) (.int .i64 0)).run Tryd.prog w' = .ok (.pointer (some ⟨b, off, none⟩)) w')
    (hd : ∀ s d, o.dst = some d → (fin s).tmps[d]? = some (.pointer (some ⟨b, off, none⟩))) : gh.Step Tryd.prog fin (Done W B wb g ws y) Q i o :=
  st_quiet h12 h13 h16 (by rw [hop]; simp) (fun _ => .pointer (some ⟨b, off, none⟩)) hd fun s L w' _ _ _ => by simp [execOp, hop, hx, hk, hf, Result.andThen]

theorem st_add {i : Nat} {o : Oper} (h12 : i ≠ 12) (h13 : i ≠ 13) (h16 : i ≠ 16) (p q : Operand) (t t2 : TypeId) (a c : ByteArray) (hop : o.op = .binOp .add t p q t2) (hp : ∀ s, (fin s).eval p = .string a) (hq : ∀ s, (fin s).eval q = .string c) (hle : a.size + c.size ≤ 9223372036854775807)
    (hd : ∀ s d, o.dst = some d → (fin s).tmps[d]? = some (.string (a ++ c))) : gh.Step Tryd.prog fin (Done W B wb g ws y) Q i o :=
  st_quiet h12 h13 h16 (by rw [hop]; simp) (fun _ => .string (a ++ c)) hd fun s L w' _ _ _ => by
    have hr := run_string_add_sum (P := Tryd.prog) w' a c hle
    simp only [execOp, hop, hp, hq]
    simp [eqGuard, binOp, hr, Result.andThen]

/-- a load of a cell that the statement does not write (or that it writes behind this) -/
theorem st_load {i : Nat} {o : Oper} (h12 : i ≠ 12) (h13 : i ≠ 13) (h16 : i ≠ 16) (x : Operand) (t : TypeId) (b off : Nat) (v : Value) (hop : o.op = .load t x) (hx : ∀ s, (fin s).eval x = .pointer (some ⟨b, off, none⟩))
    (hf : ∀ w' : World, w'.cell? ⟨b, off, none⟩ = some v → (execOp (fun _ => .pointer (some ⟨b, off, none⟩)) o).run Tryd.prog w' = .ok (.value v) w')
    (hcell : W.cell? ⟨b, off, none⟩ = some v) (hb : b < W.heap.size) (hbg : b ≠ g) (hb3 : b ≠ wb ∨ off ≠ 3 ∨ i = 4)
    (hd : ∀ s d, o.dst = some d → (fin s).tmps[d]? = some v) : gh.Step Tryd.prog fin (Done W B wb g ws y) Q i o :=
  st_quiet h12 h13 h16 (by rw [hop]; simp) (fun _ => v) hd fun s L w' _ h0 hC => by
    have hc : w'.cell? ⟨b, off, none⟩ = some v := by
      rw [done_cell hC hb hbg ?_, hcell]
      rcases hb3 with h | h | h
      · exact .inl h
      · exact .inr (.inl h)
      · refine .inr (.inr ?_)
        subst h
        cases h16 : L 16 with
        | false => rfl
        | true =>
          have := hC.1 (hC.2.2.1 h16)
          rw [h0] at this
          cases this
    rw [execOp_congr (ρ' := fun _ => .pointer (some ⟨b, off, none⟩)) o (by rw [hop]; simp) (fun q hq => by
      rw [hop] at hq
      simp [Op.operands] at hq
      subst hq
      exact hx s)]
    exact hf w' hc

/-- the new word is asked of a function that turns nothing -/
theorem st_call {o : Oper} {d11 : Nat} (f : FuncId) (x : Operand) (v : Value) (hop : o.op = .call { callee := .value (.func f), args := #[x], argTypes := #[3] }) (hx : ∀ s, (fin s).eval x = v) (hdst : o.dst = some d11) (hd : ∀ s, (fin s).tmps[d11]? = some (.string y)) (hcf : ∀ w' : World, (callFunc f #[v]).run Tryd.prog w' = .ok (.enter f #[v]) w')
    (hcall : ∀ w', W.grownBy w' none → Calls Tryd.prog f #[v] w' fun e w'' => e = .returned (.string y) ∧ Below w'.heap.size w' w'') : gh.Step Tryd.prog fin (Done W B wb g ws y) Q 11 o := by
  refine gh.step_val (by rw [hop]; simp) fun s L w' hdp h0 hC => ?_
  obtain ⟨c1, c2, c3, cA, cB, c11⟩ := hC
  have h12 : L 12 = false := by
    cases h : L 12 with
    | false => rfl
    | true => have := c11 h; rw [h0] at this; cases this
  have h13 : L 13 = false := by
    cases h : L 13 with
    | false => rfl
    | true => have := c2 h; rw [h12] at this; cases this
  obtain ⟨hg, _⟩ := cA h13
  refine ⟨s, .string y, gh.Agree.refl _ _, (fun d hd' => by rw [hdst] at hd'; cases hd'; exact hd s), ?_⟩
  have he : (execOp (fin s).eval o).run Tryd.prog w' = .ok (.enter f #[v]) w' := by
    have hf : (fin s).eval (.func f) = .func (.func f) #[] #[] := rfl
    have ha : (#[x] : Array Operand).map (fin s).eval = #[v] := by simp [hx]
    simp only [execOp, hop, resolve, hf, ha]
    simp [go_sem, hcf]
  rw [he]
  have e12 : dn.more L 11 12 = L 12 := by simp [dn.more]
  have e13 : dn.more L 11 13 = L 13 := by simp [dn.more]
  have e16 : dn.more L 11 16 = L 16 := by simp [dn.more]
  refine (hcall w' hg).mono fun e w'' ⟨he', hb⟩ => ⟨he', ?_, ?_, ?_, ?_, ?_, ?_⟩
  · rw [e13, h13]; intro h; cases h
  · rw [e13, h13]; intro h; cases h
  · rw [e13, e16]; exact c3
  · intro _
    exact ⟨hg.trans ⟨hb.os, hb.tape, hb.output, hb.size, fun i hi _ => hb.block i hi⟩, fun h => by rw [e12, h12] at h; cases h⟩
  · rw [e13, h13]; intro h; cases h
  · rw [e12, h12]; intro h; cases h

/-- the new word in a row of its own -/
theorem st_build {o : Oper} {d12 : Nat} (x : Operand) (hop : o.op = .buildSlice 22 1 #[(0, x)]) (hx : ∀ s, (fin s).eval x = .string y) (hdst : o.dst = some d12) (h11 : (o.after.any fun e => Region.binds .any e && e.on == 11) = true)
    (hfin : ∀ s (h : Nat), gh.Agree o (fin s) (fin { s with h := h }) ∧ (fin { s with h := h }).tmps[d12]? = some (.slice (some ⟨h, 0, none⟩) 1 1)) : gh.Step Tryd.prog fin (Done W B wb g ws y) Q 12 o := by
  refine gh.step_val (by rw [hop]; simp) fun s L w' hdp h0 hC => ?_
  obtain ⟨c1, c2, c3, cA, cB, c11⟩ := hC
  have h13 : L 13 = false := by
    cases h : L 13 with
    | false => rfl
    | true => have := c2 h; rw [h0] at this; cases this
  obtain ⟨hg, _⟩ := cA h13
  refine ⟨{ s with h := w'.heap.size }, .slice (some ⟨w'.heap.size, 0, none⟩) 1 1, (hfin s _).1, (fun d hd => by rw [hdst] at hd; cases hd; exact (hfin s _).2), ?_⟩
  have hr : (Instr.buildSlice 22 1 #[(0, .string y)]).run Tryd.prog w' = .ok (.slice (some ⟨w'.heap.size, 0, none⟩) 1 1) (w'.alloc (.cells #[.string y] 9)) := by simp [go_sem]
  have he : (execOp (fin s).eval o).run Tryd.prog w' = .ok (.value (.slice (some ⟨w'.heap.size, 0, none⟩) 1 1)) (w'.alloc (.cells #[.string y] 9)) := by simp [execOp, hop, hx, hr, Result.andThen]
  rw [he]
  have e13 : dn.more L 12 13 = L 13 := by simp [dn.more]
  have e16 : dn.more L 12 16 = L 16 := by simp [dn.more]
  refine ⟨rfl, ?_, ?_, ?_, ?_, ?_, ?_⟩
  · rw [e13, h13]; intro h; cases h
  · rw [e13, h13]; intro h; cases h
  · rw [e13, e16]; exact c3
  · intro _
    exact ⟨hg.trans (World.grownBy_alloc _ _ none), fun _ => ⟨heap_alloc_new w' _, hg.size⟩⟩
  · rw [e13, h13]; intro h; cases h
  · intro _
    obtain ⟨e, he, hb⟩ := Array.any_eq_true'.1 h11
    simp only [Bool.and_eq_true, beq_iff_eq] at hb
    have := hdp e he hb.1
    rw [hb.2] at this
    simp [dn.more, this]

/-- the words with the new one behind them -/
theorem st_append {o : Oper} {d13 wc : Nat} (x z : Operand) (hop : o.op = .call { callee := .builtin .append, args := #[x, z], argTypes := #[22, 22] }) (hgd : o.guard = none) (hx : ∀ s, (fin s).eval x = .slice (some ⟨g, 0, none⟩) ws.length wc) (hz : ∀ s, (fin s).eval z = .slice (some ⟨s.h, 0, none⟩) 1 1) (hdst : o.dst = some d13)
    (h4 : (o.after.any fun e => Region.binds .any e && e.on == 4) = true) (h12 : (o.after.any fun e => Region.binds .any e && e.on == 12) = true)
    (hown : W.ownsRow B 9 1 (.slice (some ⟨g, 0, none⟩) ws.length wc) ws.length (ws.map Value.string)) (hws : ws.length ≤ 1048576) (hgl : g < W.heap.size) (hB : B ≤ W.heap.size)
    (hfin : ∀ s (gg cap : Nat), gh.Agree o (fin s) (fin { s with gg := gg, cap := cap }) ∧ (fin { s with gg := gg, cap := cap }).tmps[d13]? = some (.slice (some ⟨gg, 0, none⟩) (ws.length + 1) cap)) : gh.Step Tryd.prog fin (Done W B wb g ws y) Q 13 o := by
  obtain ⟨i0, hi, hz0, hz1, hz2⟩ := info_parts info9
  intro s L w' a ha hdp h0 hC K hK
  obtain ⟨c1, c2, c3, cA, cB, c11⟩ := hC
  have dep : ∀ n : Nat, (o.after.any fun e => Region.binds .any e && e.on == n) = true → L n = true := fun n h => by
    obtain ⟨e, he, hb⟩ := Array.any_eq_true'.1 h
    simp only [Bool.and_eq_true, beq_iff_eq] at hb
    have := hdp e he hb.1
    rwa [hb.2] at this
  have l4 := dep 4 h4
  have l12 := dep 12 h12
  have l16 : L 16 = false := by
    cases h : L 16 with
    | false => rfl
    | true => have := c3 h; rw [h0] at this; cases this
  obtain ⟨hg, hrow⟩ := cA h0
  obtain ⟨hblk, hH⟩ := hrow l12
  have hown' : w'.ownsRow B 9 1 (.slice (some ⟨g, 0, none⟩) ws.length wc) ws.length (ws.map Value.string) := hown.kept hg (by right; simp [Value.ownBlock])
  refine wp_append_lies w' x z 22 hop B 9 i0 _ 1 16 Tryd.underlying22 hi hz0 hz1 hz2 rfl (by omega) _ ws.length (ws.map Value.string) (by rw [ha x (by simp [hop, Op.operands, Call.operands])]; exact hx s) hown'
    ⟨s.h, 0, none⟩ 1 1 [.string y] (by rw [ha z (by simp [hop, Op.operands, Call.operands])]; exact hz s) rfl (World.news_of_block (cs := #[.string y]) (t := 9) (fr := (0, 0)) hblk) (by simp [Value.oneCell'])
    (by omega) (by unfold maxLen; omega) (by omega) (Nat.le_trans hB hg.size) w'.heap.size rfl ?_
  intro gg cap w2 hown2 hgrow hat hlt2
  refine hK { s with gg := gg, cap := cap } _ w2 (hfin s gg cap).1 (fun d hd => by rw [hdst] at hd; cases hd; exact (hfin s gg cap).2) ?_
  have e4 : dn.more L 13 4 = L 4 := by simp [dn.more]
  have e12 : dn.more L 13 12 = L 12 := by simp [dn.more]
  have e13 : dn.more L 13 13 = true := by simp [dn.more]
  have e16 : dn.more L 13 16 = L 16 := by simp [dn.more]
  refine ⟨(fun _ => by rw [e4]; exact l4), (fun _ => by rw [e12]; exact l12), (fun _ => e13), (fun h => by rw [e13] at h; cases h), (fun _ => ⟨w2, ?_, hown2, ?_, by rw [e16, l16]; rfl⟩), (fun _ => by have := c11 l12; simp [dn.more, this])⟩
  · have h1 : W.grownBy w' (some g) := ⟨hg.os, hg.tape, hg.output, hg.size, fun i hi _ => hg.block i hi (by simp)⟩
    exact h1.trans hgrow
  · rcases hat with h | h
    · left; simpa [Value.ownBlock] using h.symm
    · right; have := hg.size; show W.heap.size ≤ gg; omega

/-- they are stored -/
theorem st_store {o : Oper} (x z : Operand) (hop : o.op = .store 22 x z) (hdst : o.dst = none) (hx : ∀ s, (fin s).eval x = .pointer (some ⟨wb, 3, none⟩)) (hz : ∀ s, (fin s).eval z = .slice (some ⟨s.gg, 0, none⟩) (ws.length + 1) s.cap)
    (h13 : (o.after.any fun e => Region.binds .any e && e.on == 13) = true) (hwb : wb < W.heap.size) (hgw : g ≠ wb) (hcell : (W.cell? ⟨wb, 3, none⟩).isSome = true) (hfz : W.frozen? ⟨wb, 3, none⟩ = false) : gh.Step Tryd.prog fin (Done W B wb g ws y) Q 16 o := by
  refine gh.step_val (by rw [hop]; simp) fun s L w' hdp h0 hC => ?_
  have hC' := hC
  obtain ⟨c1, c2, c3, cA, cB, c11⟩ := hC
  have l13 : L 13 = true := by
    obtain ⟨e, he, hb⟩ := Array.any_eq_true'.1 h13
    simp only [Bool.and_eq_true, beq_iff_eq] at hb
    have := hdp e he hb.1
    rwa [hb.2] at this
  obtain ⟨w1, hg, hown, hat, hw⟩ := cB l13
  rw [h0] at hw
  simp at hw
  subst hw
  have k1 : w'.cell? ⟨wb, 3, none⟩ = W.cell? ⟨wb, 3, none⟩ := World.cell?_of_block (w := W) (hg.block wb hwb (by simpa using Ne.symm hgw))
  have f1 : w'.frozen? ⟨wb, 3, none⟩ = false := by rw [← hfz]; exact World.frozen?_of_block (w := W) (hg.block wb hwb (by simpa using Ne.symm hgw))
  obtain ⟨u, hu⟩ := Option.isSome_iff_exists.1 hcell
  rw [hu] at k1
  have he : (execOp (fin s).eval o).run Tryd.prog w' = .ok .skip (w'.setCell ⟨wb, 3, none⟩ (.slice (some ⟨s.gg, 0, none⟩) (ws.length + 1) s.cap)) := by simp only [execOp, hop, hx, hz]; simp [go_sem, k1, f1]
  refine ⟨s, undef, gh.Agree.refl _ _, (fun d hd => by rw [hdst] at hd; cases hd), ?_⟩
  rw [he]
  have e4 : dn.more L 16 4 = L 4 := by simp [dn.more]
  have e12 : dn.more L 16 12 = L 12 := by simp [dn.more]
  have e13 : dn.more L 16 13 = L 13 := by simp [dn.more]
  have e16 : dn.more L 16 16 = true := by simp [dn.more]
  refine ⟨rfl, (fun _ => by rw [e4]; exact c1 l13), (fun _ => by rw [e12]; exact c2 l13), (fun _ => by rw [e13]; exact l13), (fun h => by rw [e13, l13] at h; cases h), (fun _ => ⟨w', hg, hown, hat, by rw [e16]; simp⟩), (fun h => by rw [e12] at h; have := c11 h; simp [dn.more, this])⟩

theorem done_end {s : Gh} {L : Nat → Bool} {w' : World} (hC : Done W B wb g ws y s L w') (h13 : L 13 = true) (h16 : L 16 = true) {t0 n0 b0 v0 : Value} (blk : W.heap[wb]? = some (.cells #[t0, n0, b0, v0] 55 (0, 0))) (hgw : g ≠ wb)
    (hB1 : B ≤ wb) (hB2 : B ≤ g) (hB : B ≤ W.heap.size) :
    w'.heap[wb]? = some (.cells #[t0, n0, b0, .slice (some ⟨s.gg, 0, none⟩) (ws.length + 1) s.cap] 55 (0, 0)) ∧
      w'.ownsRow B 9 1 (.slice (some ⟨s.gg, 0, none⟩) (ws.length + 1) s.cap) (ws.length + 1) (ws.map Value.string ++ [.string y]) ∧ s.gg ≠ wb ∧ B ≤ s.gg ∧ Below B W w' ∧ (s.gg = g ∨ W.heap.size ≤ s.gg) ∧ ∀ k, k < W.heap.size → k ≠ wb → k ≠ g → w'.heap[k]? = W.heap[k]? := by
  have hwb : wb < W.heap.size := (Array.getElem?_eq_some_iff.1 blk).1
  obtain ⟨w1, hg, hown, hat, hw⟩ := hC.2.2.2.2.1 h13
  rw [h16, if_pos rfl] at hw
  subst hw
  have b1 := (hg.block wb hwb (by simpa using Ne.symm hgw)).trans blk
  have b2 := heap_setCell_same w1 wb 3 _ _ (.slice (some ⟨s.gg, 0, none⟩) (ws.length + 1) s.cap) b1
  have hne : s.gg ≠ wb := by omega
  have hb1 : Below B W w1 := (Below.refl B W).grown hg hB (fun k hk => by cases hk; exact hB2)
  refine ⟨by simpa using b2, ?_, hne, by omega, hb1.setCell hB1 _, hat, fun k hk h1 h2 => by rw [RowKit.Below.heap_setCell _ _ _ _ h1]; exact hg.block k hk (by simpa using h2)⟩
  obtain ⟨hlen, h | ⟨g', cap', cur, hv, h1, hgc, h2⟩⟩ := hown
  · simp at h
  · refine ⟨hlen, .inr ⟨g', cap', cur, hv, h1, ?_, h2⟩⟩
    simp at hv
    rw [RowKit.Below.heap_setCell _ _ _ _ (by simp; rw [← hv.1]; exact hne)]
    exact hgc

theorem owns_far {w : World} {gg n cap : Nat} {xs : List Value} (hown : w.ownsRow B 9 1 (.slice (some ⟨gg, 0, none⟩) n cap) n xs) {p : Addr} (hne : gg ≠ p.block) (v : Value) : (w.setCell p v).ownsRow B 9 1 (.slice (some ⟨gg, 0, none⟩) n cap) n xs := by
  obtain ⟨hlen, h | ⟨g', cap', cur, hv, h1, hgc, h2⟩⟩ := hown
  · simp at h
  · refine ⟨hlen, .inr ⟨g', cap', cur, hv, h1, ?_, h2⟩⟩
    simp at hv
    rw [RowKit.Below.heap_setCell _ _ _ _ (by rw [← hv.1]; exact hne)]
    exact hgc

/-- a text is taken off -/
theorem close_text {w' : World} {gg cap nc tc' : Nat} {t0 : Value} {na ta' : Option Addr} {r : List ByteArray} {ns : List Int} {bs : ByteArray}
    (blk : w'.heap[wb]? = some (.cells #[t0, .slice na ns.length nc, .string bs, .slice (some ⟨gg, 0, none⟩) (ws.length + 1) cap] 55 (0, 0)))
    (hown : w'.ownsRow B 9 1 (.slice (some ⟨gg, 0, none⟩) (ws.length + 1) cap) (ws.length + 1) (ws.map Value.string ++ [.string y])) (hS : Sl Value.string w' B ta' r) (hI : Sl (Value.int .i64) w' B na ns)
    (hne : gg ≠ wb) (hB1 : B ≤ wb) (hB2 : B ≤ gg) (htc : r.length ≤ tc') (hnc : ns.length ≤ nc) :
    Wr (w'.setCell ⟨wb, 0, none⟩ (.slice ta' r.length tc')) B wb gg r ns bs (ws ++ [y]) := by
  have hb : Below B w' (w'.setCell ⟨wb, 0, none⟩ (.slice ta' r.length tc')) := (Below.refl _ _).setCell hB1 _
  have b2 := heap_setCell_same w' wb 0 _ _ (.slice ta' r.length tc') blk
  refine ⟨ta', na, tc', nc, cap, by simpa using b2, hS.below hb, hI.below hb, ?_, hne, hB1, hB2, htc, hnc⟩
  have := owns_far hown (p := ⟨wb, 0, none⟩) hne (.slice ta' r.length tc')
  simpa using this

/-- a number is taken off -/
theorem close_num {w' : World} {gg cap tc nc' : Nat} {n0 : Value} {na' ta : Option Addr} {ts : List ByteArray} {r : List Int} {bs : ByteArray}
    (blk : w'.heap[wb]? = some (.cells #[.slice ta ts.length tc, n0, .string bs, .slice (some ⟨gg, 0, none⟩) (ws.length + 1) cap] 55 (0, 0)))
    (hown : w'.ownsRow B 9 1 (.slice (some ⟨gg, 0, none⟩) (ws.length + 1) cap) (ws.length + 1) (ws.map Value.string ++ [.string y])) (hS : Sl Value.string w' B ta ts) (hI : Sl (Value.int .i64) w' B na' r)
    (hne : gg ≠ wb) (hB1 : B ≤ wb) (hB2 : B ≤ gg) (htc : ts.length ≤ tc) (hnc : r.length ≤ nc') :
    Wr (w'.setCell ⟨wb, 1, none⟩ (.slice na' r.length nc')) B wb gg ts r bs (ws ++ [y]) := by
  have hb : Below B w' (w'.setCell ⟨wb, 1, none⟩ (.slice na' r.length nc')) := (Below.refl _ _).setCell hB1 _
  have b2 := heap_setCell_same w' wb 1 _ _ (.slice na' r.length nc') blk
  refine ⟨ta, na', tc, nc', cap, by simpa using b2, hS.below hb, hI.below hb, ?_, hne, hB1, hB2, htc, hnc⟩
  have := owns_far hown (p := ⟨wb, 1, none⟩) hne (.slice na' r.length nc')
  simpa using this

/-- what is left of a list once its first is taken off -/
theorem tail_sl {α : Type} {f : α → Value} {w w' : World} {x : α} {r : List α} {b off : Nat} (hc : ∀ (i : Nat) (y : α), (x :: r)[i]? = some y → w.cell? ⟨b, off + i, none⟩ = some (f y)) (hb : Below B w w') (hlt : b < B) : Sl f w' B (some ⟨b, off + 1, none⟩) r :=
  .inr ⟨b, off + 1, rfl, hlt, fun i y hy => by rw [hb.cell (p := ⟨b, off + 1 + i, none⟩) hlt, show off + 1 + i = off + (i + 1) by omega]; exact hc (i + 1) y (by simpa using hy)⟩

theorem done_start {w' : World} (hg : W.grownBy w' none) (s : Gh) : Done W B wb g ws y s (fun _ => false) w' :=
  ⟨(fun h => by cases h), (fun h => by cases h), (fun h => by cases h), (fun _ => ⟨hg, (fun h => by cases h)⟩), (fun h => by cases h), (fun h => by cases h)⟩
end

end Go.Proofs.YtnmooolnmhidbaaDoor.wt
