/- A heap of runs in memory: its box, its row, its methods, two of its runs changing places. -/
import Derived.Test.YtokaoafbgebelaaTd06

/- cmp.Or of two comparisons, in one region that draws its order. -/
namespace Go.Proofs.Ytokaoafbgebelaa.cor
open Go.ChangeShapes Go.WideShapes Go.ChangeAt Go.RowKit Go.Proofs.Ytokaoafbgebelaa.fl Go.Proofs.Ytokaoafbgebelaa.ri
set_option linter.unusedVariables false

theorem nanI (x : Int) (w : World) : Calls Try.prog 105 #[.int .i64 x] w fun e w' => e = .returned (.bool false) ∧ w = w' := by
  go_enter Try.func105, Try.ntmps105
  go_wp2
  go_ret
  simp
theorem cmp_int (x y : Int) (w : World) : Calls Try.prog 104 #[.int .i64 x, .int .i64 y] w fun e w' => e = .returned (.int .i64 (cmpI x y)) ∧ w' = w := by
  unfold cmpI
  have hn := fun x W => nanI x W
  by_cases h1 : x < y
  · have d1 : decide (x < y) = true := decide_eq_true h1
    rw [if_pos h1]
    clear h1
    go_enter Try.func104, Try.ntmps104
    go_wp2_with (go_at_call 105; refine (hn _ _).mono ?_; rintro e w0 ⟨rfl, hw0⟩; rw [← hw0]; clear hw0 w0)
    go_ret
    exact ⟨rfl, rfl⟩
  · have d1 : decide (x < y) = false := decide_eq_false h1
    rw [if_neg h1]
    by_cases h2 : x = y
    · subst h2
      rw [if_pos rfl]
      clear h1
      go_enter Try.func104, Try.ntmps104
      go_wp2_with (go_at_call 105; refine (hn _ _).mono ?_; rintro e w0 ⟨rfl, hw0⟩; rw [← hw0]; clear hw0 w0)
      go_ret
      exact ⟨rfl, rfl⟩
    · rw [if_neg h2]
      have d2 : decide (y < x) = true := decide_eq_true (by omega)
      clear h1 h2
      go_enter Try.func104, Try.ntmps104
      go_wp2_with (go_at_call 105; refine (hn _ _).mono ?_; rintro e w0 ⟨rfl, hw0⟩; rw [← hw0]; clear hw0 w0)
      go_ret
      exact ⟨rfl, rfl⟩
theorem cmp_or (x y : Int) (g : Nat) (w : World) (h0 : w.cell? ⟨g, 0, none⟩ = some (.int .i64 x)) (h1 : w.cell? ⟨g, 1, none⟩ = some (.int .i64 y)) :
    Calls Try.prog 103 #[.slice (some ⟨g, 0, none⟩) 2 2] w fun e w' => e = .returned (.int .i64 (or2 x y)) ∧ w' = w := by
  by_cases hx : x = 0
  · subst hx
    have e : or2 0 y = y := rfl
    rw [e]
    by_cases hy : y = 0
    · subst hy
      go_enter Try.func103, Try.ntmps103
      go_wp2
      refine wp_loop_rounds 3 ?_
      repeat (rw [rounds_succ]; go_wp2)
      go_ret
      exact ⟨rfl, rfl⟩
    · have ey : (y != 0) = true := by simpa using hy
      go_enter Try.func103, Try.ntmps103
      go_wp2
      refine wp_loop_rounds 3 ?_
      repeat (rw [rounds_succ]; go_wp2)
      go_ret
      exact ⟨rfl, rfl⟩
  · have ex : (x != 0) = true := by simpa using hx
    have e : or2 x y = x := by unfold or2; simp [hx]
    rw [e]
    go_enter Try.func103, Try.ntmps103
    go_wp2
    refine wp_loop_rounds 3 ?_
    repeat (rw [rounds_succ]; go_wp2)
    go_ret
    exact ⟨rfl, rfl⟩

def CH (W0 : World) (x y : Int) (j : Nat) (h : Nat) (L : Nat → Bool) (W : World) : Prop := Below W0.heap.size W0 W ∧ (L j = true → W.heap[h]? = some (.cells #[.int .i64 x, .int .i64 y] 3 (0, 0)))
theorem more_off (L : Nat → Bool) {i j : Nat} (h : j ≠ i) : dn.more L i j = L j := by unfold dn.more; rw [if_neg h]
section
variable {W0 : World} {x y : Int} {j : Nat} {ws : Nat → List (Nat × Value)} {act : Act} {Q : Exit → Act → World → Prop} {o : Oper}
theorem h_quiet {i : Nat} (hi : i ≠ j) (hsel : ∀ cs b, o.op ≠ .select cs b) (v : Value) (hd : ∀ s d, o.dst = some d → (dk.sets act (ws s)).tmps[d]? = some v)
    (hrun : ∀ s W, Below W0.heap.size W0 W → (execOp (dk.sets act (ws s)).eval o).run Try.prog W = .ok (.value v) W) : gh.Step Try.prog (fun s => dk.sets act (ws s)) (CH W0 x y j) Q i o := by
  refine gh.step_val hsel fun s L W hdp h0 hC => ⟨s, v, gh.Agree.refl _ _, hd s, ?_⟩
  rw [hrun s W hC.1]
  refine ⟨rfl, hC.1, ?_⟩
  rw [more_off L (Ne.symm hi)]
  exact hC.2
theorem h_call {i : Nat} (hi : i ≠ j) (hsel : ∀ cs b, o.op ≠ .select cs b) (f : FuncId) (args : Array Value) (v : Value) (hd : ∀ s d, o.dst = some d → (dk.sets act (ws s)).tmps[d]? = some v)
    (hrun : ∀ s W, (execOp (dk.sets act (ws s)).eval o).run Try.prog W = .ok (.enter f args) W) (hcall : ∀ W, Calls Try.prog f args W fun e w' => e = .returned v ∧ Below W.heap.size W w') : gh.Step Try.prog (fun s => dk.sets act (ws s)) (CH W0 x y j) Q i o := by
  refine gh.step_val hsel fun s L W hdp h0 hC => ⟨s, v, gh.Agree.refl _ _, hd s, ?_⟩
  rw [hrun s W]
  refine (hcall W).mono fun e w' ⟨h1, h2⟩ => ⟨h1, hC.1.trans (h2.mono hC.1.size), ?_⟩
  rw [more_off L (Ne.symm hi)]
  exact fun h => bstay (hC.2 h) h2 (Array.getElem?_eq_some_iff.1 (hC.2 h)).1
theorem h_build {d idx : Nat} (hsel : ∀ cs b, o.op ≠ .select cs b) (hsz : d < act.tmps.size) (hdst : o.dst = some d) (ld : ∀ h, (ws h).lookup d = some (.slice (some ⟨h, 0, none⟩) 2 2)) (hidx : ∀ h, ((ws h)[idx]?.map (·.1)) = some d) (hset : ∀ h h' : Nat, ws h' = (ws h).set idx (d, .slice (some ⟨h', 0, none⟩) 2 2))
    (hrun : ∀ s W, (execOp (dk.sets act (ws s)).eval o).run Try.prog W = .ok (.value (.slice (some ⟨W.heap.size, 0, none⟩) 2 2)) (W.alloc (.cells #[.int .i64 x, .int .i64 y] 3))) : gh.Step Try.prog (fun s => dk.sets act (ws s)) (CH W0 x y j) Q j o := by
  refine gh.step_val hsel fun s L W hdp h0 hC => ⟨W.heap.size, .slice (some ⟨W.heap.size, 0, none⟩) 2 2, dk.agree_sets idx d _ hdst (hidx s) (hset s _), (fun d' hd => by rw [hdst] at hd; cases hd; exact dk.sets_on _ hsz _ (ld _)), ?_⟩
  rw [hrun]
  exact ⟨rfl, hC.1.alloc hC.1.size _, fun _ => bnew W _ _⟩
theorem h_or (hsel : ∀ cs b, o.op ≠ .select cs b) (hd : ∀ s d, o.dst = some d → (dk.sets act (ws s)).tmps[d]? = some (.int .i64 (or2 x y)))
    (hrun : ∀ s W, (execOp (dk.sets act (ws s)).eval o).run Try.prog W = .ok (.enter 103 #[.slice (some ⟨s, 0, none⟩) 2 2]) W) (hdep : ∃ e ∈ o.after, Region.binds .any e = true ∧ e.on = j) : gh.Step Try.prog (fun s => dk.sets act (ws s)) (CH W0 x y j) Q (j + 1) o := by
  refine gh.step_val hsel fun s L W hdp h0 hC => ⟨s, .int .i64 (or2 x y), gh.Agree.refl _ _, hd s, ?_⟩
  obtain ⟨xp, mp, yp, zp⟩ := hdep
  have lp := hdp xp mp yp
  rw [zp] at lp
  have hcell := hC.2 lp
  rw [hrun s W]
  refine (cmp_or x y s W (bcell hcell rfl) (bcell hcell rfl)).mono ?_
  rintro e w' ⟨rfl, rfl⟩
  refine ⟨rfl, hC.1, ?_⟩
  rw [more_off L (show j ≠ j + 1 by omega)]
  exact hC.2
end

def ws (g n cap i j : Nat) (A B : It) (e f : flP.Pr) (h : Nat) : List (Nat × Value) :=
  [(7, .slice (some ⟨g, 0, none⟩) n cap), (8, .int .i64 i), (9, .pointer (some ⟨g, i * 2, none⟩)), (10, .pointer (some ⟨g, i * 2, none⟩)), (11, .slice (some ⟨A.b, A.o, none⟩) A.l.length A.c), (12, .pointer (some ⟨A.b, A.o, none⟩)), (13, .agg #[.string e.k, .string e.v, .bool e.g]),
   (14, .slice (some ⟨g, 0, none⟩) n cap), (15, .int .i64 j), (16, .pointer (some ⟨g, j * 2, none⟩)), (17, .pointer (some ⟨g, j * 2, none⟩)), (18, .slice (some ⟨B.b, B.o, none⟩) B.l.length B.c), (19, .pointer (some ⟨B.b, B.o, none⟩)), (20, .agg #[.string f.k, .string f.v, .bool f.g]),
   (21, .int .i64 (rc.cmpT e.k f.k)), (22, .slice (some ⟨g, 0, none⟩) n cap), (23, .int .i64 i), (24, .pointer (some ⟨g, i * 2, none⟩)), (25, .pointer (some ⟨g, i * 2 + 1, none⟩)), (26, .int .i64 A.p),
   (27, .slice (some ⟨g, 0, none⟩) n cap), (28, .int .i64 j), (29, .pointer (some ⟨g, j * 2, none⟩)), (30, .pointer (some ⟨g, j * 2 + 1, none⟩)), (31, .int .i64 B.p), (32, .int .i64 (cmpI A.p B.p)), (33, .slice (some ⟨h, 0, none⟩) 2 2),
   (34, .int .i64 (or2 (rc.cmpT e.k f.k) (cmpI A.p B.p))), (35, .bool (decide (or2 (rc.cmpT e.k f.k) (cmpI A.p B.p) < 0))), (6, .bool (decide (or2 (rc.cmpT e.k f.k) (cmpI A.p B.p) < 0)))]

/-- what is left of a run at place i of the row g -/
structure At (w : World) (g i : Nat) (r : It) : Prop where
  lt : g < w.heap.size
  c0 : w.cell? ⟨g, i * 2, none⟩ = some (.slice (some ⟨r.b, r.o, none⟩) r.l.length r.c)
  c1 : w.cell? ⟨g, i * 2 + 1, none⟩ = some (.int .i64 r.p)
set_option maxRecDepth 100000 in
set_option maxHeartbeats 4000000 in
theorem less_run (g n cap i j : Nat) (A B : It) (w : World) (hi : i < n) (hj : j < n) (hA : At w g i A) (hB : At w g j B) (fA : Fits w w.heap.size A) (fB : Fits w w.heap.size B) :
    Calls Try.prog 101 #[.slice (some ⟨g, 0, none⟩) n cap, .int .i64 i, .int .i64 j] w fun r w' => r = .returned (.bool (less A B)) ∧ Below w.heap.size w w' := by
  obtain ⟨e, ea, hAl⟩ : ∃ e ea, A.l = e :: ea := by
    cases h : A.l with
    | nil => exact absurd h fA.ne
    | cons e r => exact ⟨e, r, rfl⟩
  obtain ⟨f, fb, hBl⟩ : ∃ e ea, B.l = e :: ea := by
    cases h : B.l with
    | nil => exact absurd h fB.ne
    | cons e r => exact ⟨e, r, rfl⟩
  have hL : less A B = decide (or2 (rc.cmpT e.k f.k) (cmpI A.p B.p) < 0) := by unfold less key; rw [hAl, hBl]
  rw [hL]
  have hg := hA.lt
  have a0 := hA.c0
  have a1 := hA.c1
  have b0 := hB.c0
  have b1 := hB.c1
  have al := fA.lt
  have bl := fB.lt
  have ga : A.l[0]? = some e := by rw [hAl]; rfl
  have gb : B.l[0]? = some f := by rw [hBl]; rfl
  have ap0 : w.cell? ⟨A.b, A.o, none⟩ = some (.string e.k) := by simpa using fA.cells 0 e ga 0 _ rfl
  have ap1 : w.cell? ⟨A.b, A.o + 1, none⟩ = some (.string e.v) := by simpa using fA.cells 0 e ga 1 _ rfl
  have ap2 : w.cell? ⟨A.b, A.o + 2, none⟩ = some (.bool e.g) := by simpa using fA.cells 0 e ga 2 _ rfl
  have bp0 : w.cell? ⟨B.b, B.o, none⟩ = some (.string f.k) := by simpa using fB.cells 0 f gb 0 _ rfl
  have bp1 : w.cell? ⟨B.b, B.o + 1, none⟩ = some (.string f.v) := by simpa using fB.cells 0 f gb 1 _ rfl
  have bp2 : w.cell? ⟨B.b, B.o + 2, none⟩ = some (.bool f.g) := by simpa using fB.cells 0 f gb 2 _ rfl
  have an : (i : Int) < (n : Int) := by omega
  have bn : (j : Int) < (n : Int) := by omega
  have az : 0 < A.l.length := by rw [hAl]; simp
  have bz : 0 < B.l.length := by rw [hBl]; simp
  have hAp := fA.pl
  have hBp := fB.pl
  clear hA hB fA fB hL ga gb hAl hBl
  go_enter Try.func101, Try.ntmps101
  go_wp2
  refine dk.region_gsets (ws g n cap i j A B e f) [7, 8, 9, 10, 11, 12, 13, 14, 15, 16, 17, 18, 19, 20, 21, 22, 23, 24, 25, 26, 27, 28, 29, 30, 31, 32, 33, 34, 35, 6] (CH w (rc.cmpT e.k f.k) (cmpI A.p B.p) 26) 0 (by kernel_rfl) (by kernel_rfl) (fun _ => rfl) (by kernel_rfl) ⟨(Below.refl _ _).drew, fun e => by cases e⟩ ?each ?fin
  case each =>
    refine ⟨h_quiet (by decide) (by simp) (.slice (some ⟨g, 0, none⟩) n cap) (by rintro s _ ⟨⟩; exact dk.sets_on _ (by simp) _ rfl) (fun s W h => by simp [execOp, go_sem, Act.eval, dk.sets_get, ws, List.lookup]), ?_⟩
    refine ⟨h_quiet (by decide) (by simp) (.int .i64 i) (by rintro s _ ⟨⟩; exact dk.sets_on _ (by simp) _ rfl) (fun s W h => by simp [execOp, go_sem, Act.eval, dk.sets_get, ws, List.lookup]), ?_⟩
    refine ⟨h_quiet (by decide) (by simp) (.pointer (some ⟨g, i * 2, none⟩)) (by rintro s _ ⟨⟩; exact dk.sets_on _ (by simp) _ rfl) (fun s W h => by simp [execOp, go_sem, Act.eval, dk.sets_get, ws, List.lookup, an]), ?_⟩
    refine ⟨h_quiet (by decide) (by simp) (.pointer (some ⟨g, i * 2, none⟩)) (by rintro s _ ⟨⟩; exact dk.sets_on _ (by simp) _ rfl) (fun s W h => by simp [execOp, go_sem, Act.eval, dk.sets_get, ws, List.lookup]), ?_⟩
    refine ⟨h_quiet (by decide) (by simp) (.slice (some ⟨A.b, A.o, none⟩) A.l.length A.c) (by rintro s _ ⟨⟩; exact dk.sets_on _ (by simp) _ rfl) (fun s W h => by have c : W.cell? ⟨g, i * 2, none⟩ = some (.slice (some ⟨A.b, A.o, none⟩) A.l.length A.c) := (h.cell (p := ⟨g, _, none⟩) hg).trans a0; simp [execOp, go_sem, Act.eval, dk.sets_get, ws, List.lookup, c]), ?_⟩
    refine ⟨h_quiet (by decide) (by simp) (.pointer (some ⟨A.b, A.o, none⟩)) (by rintro s _ ⟨⟩; exact dk.sets_on _ (by simp) _ rfl) (fun s W h => by simp [execOp, go_sem, Act.eval, dk.sets_get, ws, List.lookup, az]), ?_⟩
    refine ⟨h_quiet (by decide) (by simp) (.agg #[.string e.k, .string e.v, .bool e.g]) (by rintro s _ ⟨⟩; exact dk.sets_on _ (by simp) _ rfl) (fun s W h => by have p0 : W.cell? ⟨A.b, A.o, none⟩ = some (.string e.k) := (h.cell (p := ⟨A.b, _, none⟩) al).trans ap0; have p1 : W.cell? ⟨A.b, A.o + 1, none⟩ = some (.string e.v) := (h.cell (p := ⟨A.b, _, none⟩) al).trans ap1; have p2 : W.cell? ⟨A.b, A.o + 2, none⟩ = some (.bool e.g) := (h.cell (p := ⟨A.b, _, none⟩) al).trans ap2; simp [execOp, go_sem, Act.eval, dk.sets_get, ws, List.lookup, p0, p1, p2]), ?_⟩
    refine ⟨h_quiet (by decide) (by simp) (.slice (some ⟨g, 0, none⟩) n cap) (by rintro s _ ⟨⟩; exact dk.sets_on _ (by simp) _ rfl) (fun s W h => by simp [execOp, go_sem, Act.eval, dk.sets_get, ws, List.lookup]), ?_⟩
    refine ⟨h_quiet (by decide) (by simp) (.int .i64 j) (by rintro s _ ⟨⟩; exact dk.sets_on _ (by simp) _ rfl) (fun s W h => by simp [execOp, go_sem, Act.eval, dk.sets_get, ws, List.lookup]), ?_⟩
    refine ⟨h_quiet (by decide) (by simp) (.pointer (some ⟨g, j * 2, none⟩)) (by rintro s _ ⟨⟩; exact dk.sets_on _ (by simp) _ rfl) (fun s W h => by simp [execOp, go_sem, Act.eval, dk.sets_get, ws, List.lookup, bn]), ?_⟩
    refine ⟨h_quiet (by decide) (by simp) (.pointer (some ⟨g, j * 2, none⟩)) (by rintro s _ ⟨⟩; exact dk.sets_on _ (by simp) _ rfl) (fun s W h => by simp [execOp, go_sem, Act.eval, dk.sets_get, ws, List.lookup]), ?_⟩
    refine ⟨h_quiet (by decide) (by simp) (.slice (some ⟨B.b, B.o, none⟩) B.l.length B.c) (by rintro s _ ⟨⟩; exact dk.sets_on _ (by simp) _ rfl) (fun s W h => by have c : W.cell? ⟨g, j * 2, none⟩ = some (.slice (some ⟨B.b, B.o, none⟩) B.l.length B.c) := (h.cell (p := ⟨g, _, none⟩) hg).trans b0; simp [execOp, go_sem, Act.eval, dk.sets_get, ws, List.lookup, c]), ?_⟩
    refine ⟨h_quiet (by decide) (by simp) (.pointer (some ⟨B.b, B.o, none⟩)) (by rintro s _ ⟨⟩; exact dk.sets_on _ (by simp) _ rfl) (fun s W h => by simp [execOp, go_sem, Act.eval, dk.sets_get, ws, List.lookup, bz]), ?_⟩
    refine ⟨h_quiet (by decide) (by simp) (.agg #[.string f.k, .string f.v, .bool f.g]) (by rintro s _ ⟨⟩; exact dk.sets_on _ (by simp) _ rfl) (fun s W h => by have p0 : W.cell? ⟨B.b, B.o, none⟩ = some (.string f.k) := (h.cell (p := ⟨B.b, _, none⟩) bl).trans bp0; have p1 : W.cell? ⟨B.b, B.o + 1, none⟩ = some (.string f.v) := (h.cell (p := ⟨B.b, _, none⟩) bl).trans bp1; have p2 : W.cell? ⟨B.b, B.o + 2, none⟩ = some (.bool f.g) := (h.cell (p := ⟨B.b, _, none⟩) bl).trans bp2; simp [execOp, go_sem, Act.eval, dk.sets_get, ws, List.lookup, p0, p1, p2]), ?_⟩
    refine ⟨h_call (by decide) (by simp) 41 #[.agg #[.string e.k, .string e.v, .bool e.g], .agg #[.string f.k, .string f.v, .bool f.g]] (.int .i64 (rc.cmpT e.k f.k)) (by rintro s _ ⟨⟩; exact dk.sets_on _ (by simp) _ rfl) (fun s W => by simp [go_sem, Act.eval, dk.sets_get, ws, List.lookup]) (fun W => pf.compare_pair e f W), ?_⟩
    refine ⟨h_quiet (by decide) (by simp) (.slice (some ⟨g, 0, none⟩) n cap) (by rintro s _ ⟨⟩; exact dk.sets_on _ (by simp) _ rfl) (fun s W h => by simp [execOp, go_sem, Act.eval, dk.sets_get, ws, List.lookup]), ?_⟩
    refine ⟨h_quiet (by decide) (by simp) (.int .i64 i) (by rintro s _ ⟨⟩; exact dk.sets_on _ (by simp) _ rfl) (fun s W h => by simp [execOp, go_sem, Act.eval, dk.sets_get, ws, List.lookup]), ?_⟩
    refine ⟨h_quiet (by decide) (by simp) (.pointer (some ⟨g, i * 2, none⟩)) (by rintro s _ ⟨⟩; exact dk.sets_on _ (by simp) _ rfl) (fun s W h => by simp [execOp, go_sem, Act.eval, dk.sets_get, ws, List.lookup, an]), ?_⟩
    refine ⟨h_quiet (by decide) (by simp) (.pointer (some ⟨g, i * 2 + 1, none⟩)) (by rintro s _ ⟨⟩; exact dk.sets_on _ (by simp) _ rfl) (fun s W h => by simp [execOp, go_sem, Act.eval, dk.sets_get, ws, List.lookup]), ?_⟩
    refine ⟨h_quiet (by decide) (by simp) (.int .i64 A.p) (by rintro s _ ⟨⟩; exact dk.sets_on _ (by simp) _ rfl) (fun s W h => by have c : W.cell? ⟨g, i * 2 + 1, none⟩ = some (.int .i64 A.p) := (h.cell (p := ⟨g, _, none⟩) hg).trans a1; simp [execOp, go_sem, Act.eval, dk.sets_get, ws, List.lookup, c]), ?_⟩
    refine ⟨h_quiet (by decide) (by simp) (.slice (some ⟨g, 0, none⟩) n cap) (by rintro s _ ⟨⟩; exact dk.sets_on _ (by simp) _ rfl) (fun s W h => by simp [execOp, go_sem, Act.eval, dk.sets_get, ws, List.lookup]), ?_⟩
    refine ⟨h_quiet (by decide) (by simp) (.int .i64 j) (by rintro s _ ⟨⟩; exact dk.sets_on _ (by simp) _ rfl) (fun s W h => by simp [execOp, go_sem, Act.eval, dk.sets_get, ws, List.lookup]), ?_⟩
    refine ⟨h_quiet (by decide) (by simp) (.pointer (some ⟨g, j * 2, none⟩)) (by rintro s _ ⟨⟩; exact dk.sets_on _ (by simp) _ rfl) (fun s W h => by simp [execOp, go_sem, Act.eval, dk.sets_get, ws, List.lookup, bn]), ?_⟩
    refine ⟨h_quiet (by decide) (by simp) (.pointer (some ⟨g, j * 2 + 1, none⟩)) (by rintro s _ ⟨⟩; exact dk.sets_on _ (by simp) _ rfl) (fun s W h => by simp [execOp, go_sem, Act.eval, dk.sets_get, ws, List.lookup]), ?_⟩
    refine ⟨h_quiet (by decide) (by simp) (.int .i64 B.p) (by rintro s _ ⟨⟩; exact dk.sets_on _ (by simp) _ rfl) (fun s W h => by have c : W.cell? ⟨g, j * 2 + 1, none⟩ = some (.int .i64 B.p) := (h.cell (p := ⟨g, _, none⟩) hg).trans b1; simp [execOp, go_sem, Act.eval, dk.sets_get, ws, List.lookup, c]), ?_⟩
    refine ⟨h_call (by decide) (by simp) 104 #[.int .i64 A.p, .int .i64 B.p] (.int .i64 (cmpI A.p B.p)) (by rintro s _ ⟨⟩; exact dk.sets_on _ (by simp) _ rfl) (fun s W => by simp [go_sem, Act.eval, dk.sets_get, ws, List.lookup]) (fun W => (cmp_int A.p B.p W).mono fun _ _ ⟨h1, h2⟩ => ⟨h1, by rw [h2]; exact Below.refl _ _⟩), ?_⟩
    refine ⟨h_build (d := 33) (idx := 26) (by simp) (by simp) rfl (fun h => rfl) (fun h => rfl) (fun h h' => rfl) (fun s W => by simp [execOp, go_sem, Act.eval, dk.sets_get, ws, List.lookup]), ?_⟩
    refine ⟨h_or (by simp) (by rintro s _ ⟨⟩; exact dk.sets_on _ (by simp) _ rfl) (fun s W => by simp [go_sem, Act.eval, dk.sets_get, ws, List.lookup]) ⟨⟨26, .data⟩, by simp, rfl, rfl⟩, ?_⟩
    refine ⟨h_quiet (by decide) (by simp) (.bool (decide (or2 (rc.cmpT e.k f.k) (cmpI A.p B.p) < 0))) (by rintro s _ ⟨⟩; exact dk.sets_on _ (by simp) _ rfl) (fun s W h => by simp [execOp, go_sem, Act.eval, dk.sets_get, ws, List.lookup]), ?_⟩
    exact ⟨h_quiet (by decide) (by simp) (.bool (decide (or2 (rc.cmpT e.k f.k) (cmpI A.p B.p) < 0))) (by rintro s _ ⟨⟩; exact dk.sets_on _ (by simp) _ rfl) (fun s W h => by simp [execOp, go_sem, Act.eval, dk.sets_get, ws, List.lookup]), trivial⟩
  case fin =>
    intro s L X hL hC
    have hBX : Below w.heap.size w X := hC.1
    clear hC hL
    go_wp2
    exact bodyPost_ret (v := .bool (decide (or2 (rc.cmpT e.k f.k) (cmpI A.p B.p) < 0))) (by simp [results, Try.results101, go_sem, dk.sets_get, ws, List.lookup]) rfl ⟨rfl, hBX⟩
end Go.Proofs.Ytokaoafbgebelaa.cor

/- Two of a heap's runs change their places. -/
namespace Go.Proofs.Ytokaoafbgebelaa.rsw
open Go.ChangeShapes Go.WideShapes Go.ChangeAt Go.RowKit Go.Proofs.Ytokaoafbgebelaa.fl Go.Proofs.Ytokaoafbgebelaa.ri
set_option linter.unusedVariables false

/-- one item laid at place i of the row g -/
def lay (w : World) (g i : Nat) (r : It) : World := (w.setCell ⟨g, i * 2, none⟩ (.slice (some ⟨r.b, r.o, none⟩) r.l.length r.c)).setCell ⟨g, i * 2 + 1, none⟩ (.int .i64 r.p)
def S1 (X : World) (g i : Nat) (B : It) : World := lay X g i B
def S2 (X : World) (g i j : Nat) (A B : It) : World := lay (S1 X g i B) g j A
def ST (w : World) (g i j : Nat) (A B : It) (x y : Bool) : World := if y = true then S2 w g i j A B else if x = true then S1 w g i B else w
def C (w : World) (g i j : Nat) (A B : It) (L : Nat → Bool) (W : World) : Prop := (L 13 = true → L 7 = true ∧ L 11 = true) ∧ (L 15 = true → L 13 = true) ∧ W = ST w g i j A B (L 13) (L 15)
theorem more_on (L : Nat → Bool) (i : Nat) : dn.more L i i = true := by unfold dn.more; rw [if_pos rfl]
theorem more_off (L : Nat → Bool) {i j : Nat} (h : j ≠ i) : dn.more L i j = L j := by unfold dn.more; rw [if_neg h]
section
variable {w : World} {g i j : Nat} {A B : It} {fin : Act} {o : Oper}
theorem qt {k : Nat} (hk : k ≠ 7 ∧ k ≠ 11 ∧ k ≠ 13 ∧ k ≠ 15) (v : Value) (hd : ∀ d, o.dst = some d → fin.tmps[d]? = some v) (hrun : ∀ (W : World), True → (execOp fin.eval o).run Try.prog W = .ok (.value v) W) : dn.Step Try.prog fin (C w g i j A B) k o := by
  intro L W hdp h0 hC
  refine ⟨v, hd, ?_⟩
  rw [hrun W trivial]
  obtain ⟨k7, k11, k13, k15⟩ := hk
  refine ⟨rfl, ?_⟩
  unfold C
  rw [more_off L k13.symm, more_off L k15.symm, more_off L k7.symm, more_off L k11.symm]
  exact hC
theorem ld7 (v : Value) (hd : ∀ d, o.dst = some d → fin.tmps[d]? = some v) (hrun : (execOp fin.eval o).run Try.prog w = .ok (.value v) w) : dn.Step Try.prog fin (C w g i j A B) 7 o := by
  intro L W hdp h0 hC
  refine ⟨v, hd, ?_⟩
  obtain ⟨c1, c2, c3⟩ := hC
  have n13 : L 13 = false := by
    cases h : L 13 with
    | false => rfl
    | true => have := (c1 h).1; rw [h0] at this; cases this
  have n15 : L 15 = false := by
    cases h : L 15 with
    | false => rfl
    | true => have := c2 h; rw [n13] at this; cases this
  rw [n13, n15] at c3
  have c3 : W = w := c3
  subst c3
  rw [hrun]
  refine ⟨rfl, ?_⟩
  unfold C
  rw [more_off L (show 13 ≠ 7 by decide), more_off L (show 15 ≠ 7 by decide), n13, n15]
  exact ⟨fun h => (by cases h), fun h => (by cases h), rfl⟩
theorem ld11 (v : Value) (hd : ∀ d, o.dst = some d → fin.tmps[d]? = some v) (hrun : (execOp fin.eval o).run Try.prog w = .ok (.value v) w) : dn.Step Try.prog fin (C w g i j A B) 11 o := by
  intro L W hdp h0 hC
  refine ⟨v, hd, ?_⟩
  obtain ⟨c1, c2, c3⟩ := hC
  have n13 : L 13 = false := by
    cases h : L 13 with
    | false => rfl
    | true => have := (c1 h).2; rw [h0] at this; cases this
  have n15 : L 15 = false := by
    cases h : L 15 with
    | false => rfl
    | true => have := c2 h; rw [n13] at this; cases this
  rw [n13, n15] at c3
  have c3 : W = w := c3
  subst c3
  rw [hrun]
  refine ⟨rfl, ?_⟩
  unfold C
  rw [more_off L (show 13 ≠ 11 by decide), more_off L (show 15 ≠ 11 by decide), n13, n15]
  exact ⟨fun h => (by cases h), fun h => (by cases h), rfl⟩
theorem st13 (hdst : o.dst = none) (h7 : ∃ e ∈ o.after, Region.binds .any e = true ∧ e.on = 7) (h11 : ∃ e ∈ o.after, Region.binds .any e = true ∧ e.on = 11) (hrun : (execOp fin.eval o).run Try.prog w = .ok .skip (S1 w g i B)) : dn.Step Try.prog fin (C w g i j A B) 13 o := by
  intro L W hdp h0 hC
  refine ⟨undef, (fun d hd => by rw [hdst] at hd; cases hd), ?_⟩
  obtain ⟨e7, m7, b7, o7⟩ := h7
  obtain ⟨e11, m11, b11, o11⟩ := h11
  have l7 := hdp e7 m7 b7
  have l11 := hdp e11 m11 b11
  rw [o7] at l7
  rw [o11] at l11
  obtain ⟨c1, c2, c3⟩ := hC
  have n15 : L 15 = false := by
    cases h : L 15 with
    | false => rfl
    | true => have := c2 h; rw [h0] at this; cases this
  rw [h0, n15] at c3
  have c3 : W = w := c3
  subst c3
  rw [hrun]
  refine ⟨rfl, ?_⟩
  unfold C
  rw [more_on, more_off L (show 15 ≠ 13 by decide), more_off L (show 7 ≠ 13 by decide), more_off L (show 11 ≠ 13 by decide), n15]
  exact ⟨fun _ => ⟨l7, l11⟩, fun h => (by cases h), rfl⟩
theorem st15 (hdst : o.dst = none) (h13 : ∃ e ∈ o.after, Region.binds .any e = true ∧ e.on = 13) (hrun : (execOp fin.eval o).run Try.prog (S1 w g i B) = .ok .skip (S2 w g i j A B)) : dn.Step Try.prog fin (C w g i j A B) 15 o := by
  intro L W hdp h0 hC
  refine ⟨undef, (fun d hd => by rw [hdst] at hd; cases hd), ?_⟩
  obtain ⟨e13, m13, b13, o13⟩ := h13
  have l13 := hdp e13 m13 b13
  rw [o13] at l13
  obtain ⟨c1, c2, c3⟩ := hC
  rw [h0, l13] at c3
  have c3 : W = S1 w g i B := c3
  subst c3
  rw [hrun]
  refine ⟨rfl, ?_⟩
  unfold C
  rw [more_on, more_off L (show 13 ≠ 15 by decide), more_off L (show 7 ≠ 15 by decide), more_off L (show 11 ≠ 15 by decide), l13]
  exact ⟨fun _ => c1 l13, fun _ => rfl, rfl⟩
end
def ws (g n cap i j : Nat) (A B : It) : List (Nat × Value) :=
  [(6, .slice (some ⟨g, 0, none⟩) n cap), (7, .int .i64 i), (8, .slice (some ⟨g, 0, none⟩) n cap), (9, .int .i64 j), (10, .slice (some ⟨g, 0, none⟩) n cap), (11, .int .i64 j), (12, .pointer (some ⟨g, j * 2, none⟩)), (13, .agg #[.slice (some ⟨B.b, B.o, none⟩) B.l.length B.c, .int .i64 B.p]),
   (14, .slice (some ⟨g, 0, none⟩) n cap), (15, .int .i64 i), (16, .pointer (some ⟨g, i * 2, none⟩)), (17, .agg #[.slice (some ⟨A.b, A.o, none⟩) A.l.length A.c, .int .i64 A.p]), (18, .pointer (some ⟨g, i * 2, none⟩)), (19, .pointer (some ⟨g, j * 2, none⟩))]

set_option maxRecDepth 100000 in
set_option maxHeartbeats 4000000 in
theorem swap_run (g n cap i j : Nat) (cur : Array Value) (A B : It) (w : World) (hi : i < n) (hj : j < n) (hn : n * 2 ≤ cur.size) (hb : w.heap[g]? = some (.cells cur 91 (0, 0))) (hA : cor.At w g i A) (hB : cor.At w g j B) :
    Calls Try.prog 102 #[.slice (some ⟨g, 0, none⟩) n cap, .int .i64 i, .int .i64 j] w fun r w' => r = .returned (.tuple #[]) ∧ w' = S2 w.drew g i j A B := by
  obtain ⟨X, hX⟩ : ∃ X, w.drew = X := ⟨_, rfl⟩
  have a0 : X.cell? ⟨g, i * 2, none⟩ = some (.slice (some ⟨A.b, A.o, none⟩) A.l.length A.c) := by rw [← hX]; exact hA.c0
  have a1 : X.cell? ⟨g, i * 2 + 1, none⟩ = some (.int .i64 A.p) := by rw [← hX]; exact hA.c1
  have b0 : X.cell? ⟨g, j * 2, none⟩ = some (.slice (some ⟨B.b, B.o, none⟩) B.l.length B.c) := by rw [← hX]; exact hB.c0
  have b1 : X.cell? ⟨g, j * 2 + 1, none⟩ = some (.int .i64 B.p) := by rw [← hX]; exact hB.c1
  have hbd : X.heap[g]? = some (.cells cur 91 (0, 0)) := by rw [← hX]; exact hb
  have af : ∀ k, X.frozen? ⟨g, k, none⟩ = false := fun k => bfree hbd k
  obtain ⟨Y, hY⟩ : ∃ Y, S1 X g i B = Y := ⟨_, rfl⟩
  have hb1 : (S1 X g i B).heap[g]? = some (.cells _ 91 (0, 0)) := bset (bset hbd _ _) _ _
  obtain ⟨u0, d0⟩ : ∃ u, (S1 X g i B).cell? ⟨g, j * 2, none⟩ = some u := ⟨_, bcell hb1 (Array.getElem?_eq_getElem (by simp; omega))⟩
  obtain ⟨u1, d1⟩ : ∃ u, (S1 X g i B).cell? ⟨g, j * 2 + 1, none⟩ = some u := ⟨_, bcell hb1 (Array.getElem?_eq_getElem (by simp; omega))⟩
  have df : ∀ k, (S1 X g i B).frozen? ⟨g, k, none⟩ = false := fun k => bfree hb1 k
  rw [hY] at d0 d1 df
  have hS2 : S2 X g i j A B = lay Y g j A := by rw [← hY]; rfl
  have an : (i : Int) < (n : Int) := by omega
  have bn : (j : Int) < (n : Int) := by omega
  clear hA hB hb hbd hb1 hn
  rw [hX]
  go_enter Try.func102, Try.ntmps102
  refine dk.region_sets (ws g n cap i j A B) [6, 7, 8, 9, 10, 11, 12, 13, 14, 15, 16, 17, 18, 19] (C X g i j A B) (by kernel_rfl) (by kernel_rfl) rfl (by kernel_rfl) ⟨fun h => (by cases h), fun h => (by cases h), hX⟩ ?each ?fin
  case each =>
    refine ⟨qt (by decide) (.slice (some ⟨g, 0, none⟩) n cap) (by rintro _ ⟨⟩; exact dk.sets_on _ (by simp) _ rfl) (fun W h => by simp [execOp, go_sem, Act.eval, dk.sets_get, ws, List.lookup]), ?_⟩
    refine ⟨qt (by decide) (.int .i64 i) (by rintro _ ⟨⟩; exact dk.sets_on _ (by simp) _ rfl) (fun W h => by simp [execOp, go_sem, Act.eval, dk.sets_get, ws, List.lookup]), ?_⟩
    refine ⟨qt (by decide) (.slice (some ⟨g, 0, none⟩) n cap) (by rintro _ ⟨⟩; exact dk.sets_on _ (by simp) _ rfl) (fun W h => by simp [execOp, go_sem, Act.eval, dk.sets_get, ws, List.lookup]), ?_⟩
    refine ⟨qt (by decide) (.int .i64 j) (by rintro _ ⟨⟩; exact dk.sets_on _ (by simp) _ rfl) (fun W h => by simp [execOp, go_sem, Act.eval, dk.sets_get, ws, List.lookup]), ?_⟩
    refine ⟨qt (by decide) (.slice (some ⟨g, 0, none⟩) n cap) (by rintro _ ⟨⟩; exact dk.sets_on _ (by simp) _ rfl) (fun W h => by simp [execOp, go_sem, Act.eval, dk.sets_get, ws, List.lookup]), ?_⟩
    refine ⟨qt (by decide) (.int .i64 j) (by rintro _ ⟨⟩; exact dk.sets_on _ (by simp) _ rfl) (fun W h => by simp [execOp, go_sem, Act.eval, dk.sets_get, ws, List.lookup]), ?_⟩
    refine ⟨qt (by decide) (.pointer (some ⟨g, j * 2, none⟩)) (by rintro _ ⟨⟩; exact dk.sets_on _ (by simp) _ rfl) (fun W h => by simp [execOp, go_sem, Act.eval, dk.sets_get, ws, List.lookup, bn]), ?_⟩
    refine ⟨ld7 (.agg #[.slice (some ⟨B.b, B.o, none⟩) B.l.length B.c, .int .i64 B.p]) (by rintro _ ⟨⟩; exact dk.sets_on _ (by simp) _ rfl) (by simp [execOp, go_sem, Act.eval, dk.sets_get, ws, List.lookup, b0, b1]), ?_⟩
    refine ⟨qt (by decide) (.slice (some ⟨g, 0, none⟩) n cap) (by rintro _ ⟨⟩; exact dk.sets_on _ (by simp) _ rfl) (fun W h => by simp [execOp, go_sem, Act.eval, dk.sets_get, ws, List.lookup]), ?_⟩
    refine ⟨qt (by decide) (.int .i64 i) (by rintro _ ⟨⟩; exact dk.sets_on _ (by simp) _ rfl) (fun W h => by simp [execOp, go_sem, Act.eval, dk.sets_get, ws, List.lookup]), ?_⟩
    refine ⟨qt (by decide) (.pointer (some ⟨g, i * 2, none⟩)) (by rintro _ ⟨⟩; exact dk.sets_on _ (by simp) _ rfl) (fun W h => by simp [execOp, go_sem, Act.eval, dk.sets_get, ws, List.lookup, an]), ?_⟩
    refine ⟨ld11 (.agg #[.slice (some ⟨A.b, A.o, none⟩) A.l.length A.c, .int .i64 A.p]) (by rintro _ ⟨⟩; exact dk.sets_on _ (by simp) _ rfl) (by simp [execOp, go_sem, Act.eval, dk.sets_get, ws, List.lookup, a0, a1]), ?_⟩
    refine ⟨qt (by decide) (.pointer (some ⟨g, i * 2, none⟩)) (by rintro _ ⟨⟩; exact dk.sets_on _ (by simp) _ rfl) (fun W h => by simp [execOp, go_sem, Act.eval, dk.sets_get, ws, List.lookup, an]), ?_⟩
    refine ⟨st13 rfl ⟨⟨7, .data⟩, by simp, rfl, rfl⟩ ⟨⟨11, .phase⟩, by simp, rfl, rfl⟩ (by simp [execOp, go_sem, Act.eval, dk.sets_get, ws, List.lookup, a0, a1, af, S1, lay]), ?_⟩
    refine ⟨qt (by decide) (.pointer (some ⟨g, j * 2, none⟩)) (by rintro _ ⟨⟩; exact dk.sets_on _ (by simp) _ rfl) (fun W h => by simp [execOp, go_sem, Act.eval, dk.sets_get, ws, List.lookup, bn]), ?_⟩
    exact ⟨st15 rfl ⟨⟨13, .chain⟩, by simp, rfl, rfl⟩ (by rw [hS2, hY]; simp [execOp, go_sem, Act.eval, dk.sets_get, ws, List.lookup, d0, d1, df, lay]), trivial⟩
  case fin =>
    intro L W hL hC
    obtain ⟨_, _, c3⟩ := hC
    rw [hL 13 (by decide), hL 15 (by decide)] at c3
    have c3 : W = S2 X g i j A B := c3
    subst c3
    clear hL
    go_end0
    exact ⟨rfl, rfl⟩
end Go.Proofs.Ytokaoafbgebelaa.rsw

/- A heap of runs in memory: its box, its row, its methods, two of its runs changing places. -/
namespace Go.Proofs.Ytokaoafbgebelaa.rst
open Go.ChangeShapes Go.WideShapes Go.ChangeAt Go.RowKit Go.Proofs.Ytokaoafbgebelaa.fl Go.Proofs.Ytokaoafbgebelaa.ri
set_option linter.unusedVariables false

/-- the row g holds the runs L, with room for cap -/
def HR (w : World) (g cap : Nat) (L : List It) : Prop :=
  ∃ cur, w.heap[g]? = some (.cells cur 91 (0, 0)) ∧ cur.size = cap * 2 ∧ L.length ≤ cap ∧ cap ≤ maxLen ∧ ∀ (i : Nat) (r : It), L[i]? = some r → ∀ (j : Nat) (v : Value), (cI r)[j]? = some v → cur[i * 2 + j]? = some v
/-- a heap's box hb and its row g, beside the world W0 in which its runs lie -/
structure SG (W0 : World) (hb g cap : Nat) (L : List It) (w : World) : Prop where
  bel : Below W0.heap.size W0 w
  hbB : W0.heap.size ≤ hb
  gB : W0.heap.size ≤ g
  ne : g ≠ hb
  box : w.heap[hb]? = some (.cells #[.slice (some ⟨g, 0, none⟩) L.length cap] 87 (0, 0))
  row : HR w g cap L
  fits : ∀ r ∈ L, Fits W0 W0.heap.size r
/-- nothing but the block g is turned; new memory besides -/
structure Kp (g : Nat) (w w' : World) : Prop where
  os : w'.os = w.os
  tape : w'.tape = w.tape
  output : w'.output = w.output
  size : w.heap.size ≤ w'.heap.size
  block : ∀ k, k < w.heap.size → k ≠ g → w'.heap[k]? = w.heap[k]?
theorem Kp.refl (g : Nat) (w : World) : Kp g w w := ⟨rfl, rfl, rfl, Nat.le_refl _, fun _ _ _ => rfl⟩
theorem Kp.trans {g : Nat} {a b c : World} (h1 : Kp g a b) (h2 : Kp g b c) : Kp g a c :=
  ⟨h2.os.trans h1.os, h2.tape.trans h1.tape, h2.output.trans h1.output, Nat.le_trans h1.size h2.size, fun k hk hne => (h2.block k (Nat.lt_of_lt_of_le hk h1.size) hne).trans (h1.block k hk hne)⟩
theorem Kp.of {g : Nat} {a b : World} (h : Below a.heap.size a b) : Kp g a b := ⟨h.os, h.tape, h.output, h.size, fun k hk _ => h.block k hk⟩

theorem load_heap (a : Addr) (v : Value) (w : World) (h : w.cell? a = some v) : (loadVar 87 a).run Try.prog w = .ok v w := by
  simp [loadVar, isAgg, underlying, Try.underlying87, h, Result.andThen]
theorem chk (nm : String) (a : Addr) (w : World) : (Builtin.ssaWrapNilChk_ #[89] 89 #[.pointer (some a), strVal "", strVal nm]).run Try.prog w = .ok (.pointer (some a)) w := rfl
theorem recv (nm : String) (a : Addr) (v : Value) (w : World) (h : w.cell? a = some v) : (receiverAt 89 (.val (.pointer (some a))) false (some nm)).run Try.prog w = .ok v w := by
  have h1 := load_heap a v w h
  have h2 := chk nm a w
  simp [receiverAt, underlying, Try.underlying89, Place.get, asAddr, Result.andThen, h1, h2]
theorem meth_of (n : Nat) (nm : String) (f : FuncId) (a : Addr) (v : Value) (w : World) (hf : (Try.prog.info? 89).map (fun i => (i.methods.find? (·.name == nm)).map (fun m => (m.path.toList, m.func, m.path.isEmpty))) = some (some ([], some (f, false), true))) (h : w.cell? a = some v) :
    (method (n + 1) 89 (.pointer (some a)) nm).run Try.prog w = .ok (f, v) w := by
  obtain ⟨I, hI, h1⟩ := Option.map_eq_some_iff.1 hf
  obtain ⟨m, hm, h2⟩ := Option.map_eq_some_iff.1 h1
  simp only [Prod.mk.injEq] at h2
  obtain ⟨p1, p2, p3⟩ := h2
  have p4 : m.path = #[] := by simpa using p3
  simp [method, typeInfo, hI, hm, p1, p2, follow, Result.andThen]
  rw [if_pos p4, recv _ a v w h]
theorem meth_less (a : Addr) (v : Value) (w : World) (h : w.cell? a = some v) : (method 238 89 (.pointer (some a)) "Less").run Try.prog w = .ok (101, v) w := meth_of 237 "Less" _ a v w (by kernel_rfl) h
theorem meth_swap (a : Addr) (v : Value) (w : World) (h : w.cell? a = some v) : (method 238 89 (.pointer (some a)) "Swap").run Try.prog w = .ok (102, v) w := meth_of 237 "Swap" _ a v w (by kernel_rfl) h
theorem meth_len (a : Addr) (v : Value) (w : World) (h : w.cell? a = some v) : (method 238 89 (.pointer (some a)) "Len").run Try.prog w = .ok (62, v) w := meth_of 237 "Len" _ a v w (by kernel_rfl) h
theorem meth_pop (a : Addr) (w : World) : (method 238 89 (.pointer (some a)) "Pop").run Try.prog w = .ok (106, .pointer (some a)) w := by kernel_rfl
theorem meth_push (a : Addr) (w : World) : (method 238 89 (.pointer (some a)) "Push").run Try.prog w = .ok (107, .pointer (some a)) w := by kernel_rfl

theorem HR.at {w : World} {g cap i : Nat} {L : List It} {r : It} (h : HR w g cap L) (hi : L[i]? = some r) : cor.At w g i r := by
  obtain ⟨cur, h1, _, _, _, h5⟩ := h
  exact ⟨(Array.getElem?_eq_some_iff.1 h1).1, by have := bcell (j := i * 2) h1 (h5 i r hi 0 _ rfl); exact this, bcell (j := i * 2 + 1) h1 (h5 i r hi 1 _ rfl)⟩
theorem HR.below {w w' : World} {g cap : Nat} {L : List It} (h : HR w g cap L) (hb : w'.heap[g]? = w.heap[g]?) : HR w' g cap L := by
  obtain ⟨cur, h1, h2⟩ := h
  exact ⟨cur, hb.trans h1, h2⟩
theorem SG.on {W0 : World} {hb g cap : Nat} {L : List It} {w w' : World} (h : SG W0 hb g cap L w) (hb' : Below w.heap.size w w') : SG W0 hb g cap L w' := by
  obtain ⟨cur, h1, h2⟩ := h.row
  exact ⟨h.bel.trans (hb'.mono h.bel.size), h.hbB, h.gB, h.ne, (hb'.block hb (Array.getElem?_eq_some_iff.1 h.box).1).trans h.box, ⟨cur, (hb'.block g (Array.getElem?_eq_some_iff.1 h1).1).trans h1, h2⟩, h.fits⟩
theorem SG.fit {W0 : World} {hb g cap : Nat} {L : List It} {w : World} (h : SG W0 hb g cap L w) {i : Nat} {r : It} (hi : L[i]? = some r) : Fits w w.heap.size r := by
  have f := (h.fits r (List.mem_of_getElem? hi)).below h.bel
  exact ⟨Nat.lt_of_lt_of_le f.lt h.bel.size, f.ne, f.len, f.pl, f.cells⟩
/-- the world behind a swap -/
theorem swap_heap {X : World} {g i j : Nat} {A B : It} {cur : Array Value} (hb : X.heap[g]? = some (.cells cur 91 (0, 0))) : (rsw.S2 X g i j A B).heap[g]? = some (.cells ((((cur.setIfInBounds (i * 2) (.slice (some ⟨B.b, B.o, none⟩) B.l.length B.c)).setIfInBounds (i * 2 + 1) (.int .i64 B.p)).setIfInBounds (j * 2) (.slice (some ⟨A.b, A.o, none⟩) A.l.length A.c)).setIfInBounds (j * 2 + 1) (.int .i64 A.p)) 91 (0, 0)) :=
  bset (bset (bset (bset hb _ _) _ _) _ _) _ _
theorem SG.swap {W0 : World} {hb g cap i j : Nat} {L : List It} {w : World} {A B : It} (h : SG W0 hb g cap L w) (hi : L[i]? = some A) (hj : L[j]? = some B) : SG W0 hb g cap (hp.sw L i j) (rsw.S2 w.drew g i j A B) ∧ Kp g w (rsw.S2 w.drew g i j A B) := by
  obtain ⟨cur, h1, h2, h3, h4, h5⟩ := h.row
  have hil := (List.getElem?_eq_some_iff.1 hi).1
  have hjl := (List.getElem?_eq_some_iff.1 hj).1
  have h1d : w.drew.heap[g]? = some (.cells cur 91 (0, 0)) := h1
  have hk : Kp g w (rsw.S2 w.drew g i j A B) := by
    refine ⟨rfl, rfl, rfl, by simp [rsw.S2, rsw.S1, rsw.lay], fun k hk hne => ?_⟩
    unfold rsw.S2 rsw.S1 rsw.lay
    rw [Below.heap_setCell _ _ _ k hne, Below.heap_setCell _ _ _ k hne, Below.heap_setCell _ _ _ k hne, Below.heap_setCell _ _ _ k hne]
    rfl
  have hgB := h.gB
  have hsz := h.bel.size
  have hbl := (Array.getElem?_eq_some_iff.1 h.box).1
  refine ⟨⟨⟨hk.os.trans h.bel.os, hk.tape.trans h.bel.tape, hk.output.trans h.bel.output, Nat.le_trans hsz hk.size, fun k hkk => (hk.block k (by omega) (by omega)).trans (h.bel.block k hkk)⟩, h.hbB, h.gB, h.ne, ?_, ⟨_, swap_heap h1d, by simpa using h2, by rw [hp.sw_len]; exact h3, h4, ?_⟩, fun r hr => h.fits r ((hp.sw_perm hi hj).mem_iff.1 hr)⟩, hk⟩
  · rw [hp.sw_len]
    exact (hk.block hb hbl (Ne.symm h.ne)).trans h.box
  · intro k r hk' q v hv
    rw [hp.sw_at hi hj] at hk'
    have hq : q < 2 := by have := (List.getElem?_eq_some_iff.1 hv).1; rwa [cI_len] at this
    have hkl : k < L.length := by
      rcases Nat.lt_or_ge k L.length with h' | h'
      · exact h'
      · rw [if_neg (by omega), if_neg (by omega), List.getElem?_eq_none h'] at hk'
        cases hk'
    simp only [Array.getElem?_setIfInBounds, Array.size_setIfInBounds]
    by_cases e1 : k = j
    · subst e1
      rw [if_pos rfl] at hk'
      cases hk'
      have : q = 0 ∨ q = 1 := by omega
      rcases this with rfl | rfl
      · simp [cI] at hv
        rw [if_neg (by omega), if_pos (by omega), if_pos (by omega), hv]
      · simp [cI] at hv
        rw [if_pos (by omega), if_pos (by omega), hv]
    · rw [if_neg e1] at hk'
      rw [if_neg (by omega), if_neg (by omega)]
      by_cases e2 : k = i
      · subst e2
        rw [if_pos rfl] at hk'
        cases hk'
        have : q = 0 ∨ q = 1 := by omega
        rcases this with rfl | rfl
        · simp [cI] at hv
          rw [if_neg (by omega), if_pos (by omega), if_pos (by omega), hv]
        · simp [cI] at hv
          rw [if_pos (by omega), if_pos (by omega), hv]
      · rw [if_neg e2] at hk'
        rw [if_neg (by omega), if_neg (by omega)]
        exact h5 k r hk' q v hv

end Go.Proofs.Ytokaoafbgebelaa.rst
