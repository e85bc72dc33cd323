/- cmp.Or of two comparisons, in one region that draws its order. -/
import Derived.Test.YtfoajjkcocppeaaRunItems
namespace Go.Proofs.Ytfoajjkcocppeaa.cor
open Go.ChangeShapes Go.WideShapes Go.ChangeAt Go.RowKit Go.Proofs.Ytfoajjkcocppeaa.fl Go.Proofs.Ytfoajjkcocppeaa.ri
set_option linter.unusedVariables false

theorem nanI (x : Int) (w : World) : Calls Try.prog 114 #[.int .i64 x] w fun e w' => e = .returned (.bool false) ∧ w = w' := by
  go_enter Try.func114, Try.ntmps114
  go_wp2
  go_ret
  simp
theorem cmp_int (x y : Int) (w : World) : Calls Try.prog 113 #[.int .i64 x, .int .i64 y] w fun e w' => e = .returned (.int .i64 (cmpI x y)) ∧ w' = w := by
  unfold cmpI
  have hn := fun x W => nanI x W
  by_cases h1 : x < y
  · have d1 : decide (x < y) = true := decide_eq_true h1
    rw [if_pos h1]
    clear h1
    go_enter Try.func113, Try.ntmps113
    go_wp2_with (go_at_call 114; refine (hn _ _).mono ?_; rintro e w0 ⟨rfl, hw0⟩; rw [← hw0]; clear hw0 w0)
    go_ret
    exact ⟨rfl, rfl⟩
  · have d1 : decide (x < y) = false := decide_eq_false h1
    rw [if_neg h1]
    by_cases h2 : x = y
    · subst h2
      rw [if_pos rfl]
      clear h1
      go_enter Try.func113, Try.ntmps113
      go_wp2_with (go_at_call 114; refine (hn _ _).mono ?_; rintro e w0 ⟨rfl, hw0⟩; rw [← hw0]; clear hw0 w0)
      go_ret
      exact ⟨rfl, rfl⟩
    · rw [if_neg h2]
      have d2 : decide (y < x) = true := decide_eq_true (by omega)
      clear h1 h2
      go_enter Try.func113, Try.ntmps113
      go_wp2_with (go_at_call 114; refine (hn _ _).mono ?_; rintro e w0 ⟨rfl, hw0⟩; rw [← hw0]; clear hw0 w0)
      go_ret
      exact ⟨rfl, rfl⟩
theorem cmp_or (x y : Int) (g : Nat) (w : World) (h0 : w.cell? ⟨g, 0, none⟩ = some (.int .i64 x)) (h1 : w.cell? ⟨g, 1, none⟩ = some (.int .i64 y)) :
    Calls Try.prog 112 #[.slice (some ⟨g, 0, none⟩) 2 2] w fun e w' => e = .returned (.int .i64 (or2 x y)) ∧ w' = w := by
  by_cases hx : x = 0
  · subst hx
    have e : or2 0 y = y := rfl
    rw [e]
    by_cases hy : y = 0
    · subst hy
      go_enter Try.func112, Try.ntmps112
      go_wp2
      refine wp_loop_rounds 3 ?_
      repeat (rw [rounds_succ]; go_wp2)
      go_ret
      exact ⟨rfl, rfl⟩
    · have ey : (y != 0) = true := by simpa using hy
      go_enter Try.func112, Try.ntmps112
      go_wp2
      refine wp_loop_rounds 3 ?_
      repeat (rw [rounds_succ]; go_wp2)
      go_ret
      exact ⟨rfl, rfl⟩
  · have ex : (x != 0) = true := by simpa using hx
    have e : or2 x y = x := by unfold or2; simp [hx]
    rw [e]
    go_enter Try.func112, Try.ntmps112
    go_wp2
    refine wp_loop_rounds 3 ?_
    repeat (rw [rounds_succ]; go_wp2)
    go_ret
    exact ⟨rfl, rfl⟩

def CH (W0 : World) (x y : Int) (j : Nat) (h : Nat) (L : Nat → Bool) (W : World) : Prop := Below W0.heap.size W0 W ∧ (L j = true → W.heap[h]? = some (.cells #[.int .i64 x, .int .i64 y] 3 (0, 0)))
theorem more_on (L : Nat → Bool) (i : Nat) : dn.more L i i = true := by unfold dn.more; rw [if_pos rfl]
theorem more_off (L : Nat → Bool) {i j : Nat} (h : j ≠ i) : dn.more L i j = L j := by unfold dn.more; rw [if_neg h]
section
variable {W0 : World} {x y : Int} {j : Nat} {ws : Nat → List (Nat × Value)} {act : Act} {Q : Exit → Act → World → Prop} {o : Oper}
theorem h_quiet {i : Nat} (hi : i ≠ j) (hsel : ∀ cs b, o.op ≠ .select cs b) (v : Value) (hd : ∀ s d, o.dst = some d → (dk.sets act (ws s)).tmps[d]? = some v)
    (hrun : ∀ s W, Below W0.heap.size W0 W → (execOp (dk.sets act (ws s)).eval o).run Try.prog W = .ok (.value v) W) : gh.Step Try.prog (fun s => dk.sets act (ws s)) (CH W0 x y j) Q i o := by
  refine gh.step_val hsel fun s L W hdp h0 hC => ⟨s, v, gh.Agree.refl _ _, hd s, ?_⟩
  rw [hrun s W hC.1]
  refine ⟨rfl, hC.1, ?_⟩
  rw [more_off L (Ne.symm hi)]
  exact hC.2
theorem h_call {i : Nat} (hi : i ≠ j) (hsel : ∀ cs b, o.op ≠ .select cs b) (f : FuncId) (args : Array Value) (v : Value) (hd : ∀ s d, o.dst = some d → (dk.sets act (ws s)).tmps[d]? = some v)
    (hrun : ∀ s W, (execOp (dk.sets act (ws s)).eval o).run Try.prog W = .ok (.enter f args) W) (hcall : ∀ W, Calls Try.prog f args W fun e w' => e = .returned v ∧ Below W.heap.size W w') : gh.Step Try.prog (fun s => dk.sets act (ws s)) (CH W0 x y j) Q i o := by
  refine gh.step_val hsel fun s L W hdp h0 hC => ⟨s, v, gh.Agree.refl _ _, hd s, ?_⟩
  rw [hrun s W]
  refine (hcall W).mono fun e w' ⟨h1, h2⟩ => ⟨h1, hC.1.trans (h2.mono hC.1.size), ?_⟩
  rw [more_off L (Ne.symm hi)]
  exact fun h => bstay (hC.2 h) h2 (Array.getElem?_eq_some_iff.1 (hC.2 h)).1
theorem h_build {d idx : Nat} (hsel : ∀ cs b, o.op ≠ .select cs b) (hsz : d < act.tmps.size) (hdst : o.dst = some d) (ld : ∀ h, (ws h).lookup d = some (.slice (some ⟨h, 0, none⟩) 2 2)) (hidx : ∀ h, ((ws h)[idx]?.map (·.1)) = some d) (hset : ∀ h h' : Nat, ws h' = (ws h).set idx (d, .slice (some ⟨h', 0, none⟩) 2 2))
    (hrun : ∀ s W, (execOp (dk.sets act (ws s)).eval o).run Try.prog W = .ok (.value (.slice (some ⟨W.heap.size, 0, none⟩) 2 2)) (W.alloc (.cells #[.int .i64 x, .int .i64 y] 3))) : gh.Step Try.prog (fun s => dk.sets act (ws s)) (CH W0 x y j) Q j o := by
  refine gh.step_val hsel fun s L W hdp h0 hC => ⟨W.heap.size, .slice (some ⟨W.heap.size, 0, none⟩) 2 2, dk.agree_sets idx d _ hdst (hidx s) (hset s _), (fun d' hd => by rw [hdst] at hd; cases hd; exact dk.sets_on _ hsz _ (ld _)), ?_⟩
  rw [hrun]
  exact ⟨rfl, hC.1.alloc hC.1.size _, fun _ => bnew W _ _⟩
theorem h_or (hsel : ∀ cs b, o.op ≠ .select cs b) (hd : ∀ s d, o.dst = some d → (dk.sets act (ws s)).tmps[d]? = some (.int .i64 (or2 x y)))
    (hrun : ∀ s W, (execOp (dk.sets act (ws s)).eval o).run Try.prog W = .ok (.enter 112 #[.slice (some ⟨s, 0, none⟩) 2 2]) W) (hdep : ∃ e ∈ o.after, Region.binds .any e = true ∧ e.on = j) : gh.Step Try.prog (fun s => dk.sets act (ws s)) (CH W0 x y j) Q (j + 1) o := by
  refine gh.step_val hsel fun s L W hdp h0 hC => ⟨s, .int .i64 (or2 x y), gh.Agree.refl _ _, hd s, ?_⟩
  obtain ⟨xp, mp, yp, zp⟩ := hdep
  have lp := hdp xp mp yp
  rw [zp] at lp
  have hcell := hC.2 lp
  rw [hrun s W]
  refine (cmp_or x y s W (bcell hcell rfl) (bcell hcell rfl)).mono ?_
  rintro e w' ⟨rfl, rfl⟩
  refine ⟨rfl, hC.1, ?_⟩
  rw [more_off L (show j ≠ j + 1 by omega)]
  exact hC.2
end

def ws (g n cap i j : Nat) (A B : It) (e f : flP.Pr) (h : Nat) : List (Nat × Value) :=
  [(7, .slice (some ⟨g, 0, none⟩) n cap), (8, .int .i64 i), (9, .pointer (some ⟨g, i * 2, none⟩)), (10, .pointer (some ⟨g, i * 2, none⟩)), (11, .slice (some ⟨A.b, A.o, none⟩) A.l.length A.c), (12, .pointer (some ⟨A.b, A.o, none⟩)), (13, .agg #[.string e.k, .string e.v, .bool e.g]),
   (14, .slice (some ⟨g, 0, none⟩) n cap), (15, .int .i64 j), (16, .pointer (some ⟨g, j * 2, none⟩)), (17, .pointer (some ⟨g, j * 2, none⟩)), (18, .slice (some ⟨B.b, B.o, none⟩) B.l.length B.c), (19, .pointer (some ⟨B.b, B.o, none⟩)), (20, .agg #[.string f.k, .string f.v, .bool f.g]),
   (21, .int .i64 (rc.cmpT e.k f.k)), (22, .slice (some ⟨g, 0, none⟩) n cap), (23, .int .i64 i), (24, .pointer (some ⟨g, i * 2, none⟩)), (25, .pointer (some ⟨g, i * 2 + 1, none⟩)), (26, .int .i64 A.p),
   (27, .slice (some ⟨g, 0, none⟩) n cap), (28, .int .i64 j), (29, .pointer (some ⟨g, j * 2, none⟩)), (30, .pointer (some ⟨g, j * 2 + 1, none⟩)), (31, .int .i64 B.p), (32, .int .i64 (cmpI A.p B.p)), (33, .slice (some ⟨h, 0, none⟩) 2 2),
   (34, .int .i64 (or2 (rc.cmpT e.k f.k) (cmpI A.p B.p))), (35, .bool (decide (or2 (rc.cmpT e.k f.k) (cmpI A.p B.p) < 0))), (6, .bool (decide (or2 (rc.cmpT e.k f.k) (cmpI A.p B.p) < 0)))]

/-- what is left of a run at place i of the row g -/
structure At (w : World) (g i : Nat) (r : It) : Prop where
  lt : g < w.heap.size
  c0 : w.cell? ⟨g, i * 2, none⟩ = some (.slice (some ⟨r.b, r.o, none⟩) r.l.length r.c)
  c1 : w.cell? ⟨g, i * 2 + 1, none⟩ = some (.int .i64 r.p)
set_option maxRecDepth 100000 in
set_option maxHeartbeats 4000000 in
theorem less_run (g n cap i j : Nat) (A B : It) (w : World) (hi : i < n) (hj : j < n) (hA : At w g i A) (hB : At w g j B) (fA : Fits w w.heap.size A) (fB : Fits w w.heap.size B) :
    Calls Try.prog 110 #[.slice (some ⟨g, 0, none⟩) n cap, .int .i64 i, .int .i64 j] w fun r w' => r = .returned (.bool (less A B)) ∧ Below w.heap.size w w' := by
  obtain ⟨e, ea, hAl⟩ : ∃ e ea, A.l = e :: ea := by
    cases h : A.l with
    | nil => exact absurd h fA.ne
    | cons e r => exact ⟨e, r, rfl⟩
  obtain ⟨f, fb, hBl⟩ : ∃ e ea, B.l = e :: ea := by
    cases h : B.l with
    | nil => exact absurd h fB.ne
    | cons e r => exact ⟨e, r, rfl⟩
  have hL : less A B = decide (or2 (rc.cmpT e.k f.k) (cmpI A.p B.p) < 0) := by unfold less key; rw [hAl, hBl]
  rw [hL]
  have hg := hA.lt
  have a0 := hA.c0
  have a1 := hA.c1
  have b0 := hB.c0
  have b1 := hB.c1
  have al := fA.lt
  have bl := fB.lt
  have ga : A.l[0]? = some e := by rw [hAl]; rfl
  have gb : B.l[0]? = some f := by rw [hBl]; rfl
  have ap0 : w.cell? ⟨A.b, A.o, none⟩ = some (.string e.k) := by simpa using fA.cells 0 e ga 0 _ rfl
  have ap1 : w.cell? ⟨A.b, A.o + 1, none⟩ = some (.string e.v) := by simpa using fA.cells 0 e ga 1 _ rfl
  have ap2 : w.cell? ⟨A.b, A.o + 2, none⟩ = some (.bool e.g) := by simpa using fA.cells 0 e ga 2 _ rfl
  have bp0 : w.cell? ⟨B.b, B.o, none⟩ = some (.string f.k) := by simpa using fB.cells 0 f gb 0 _ rfl
  have bp1 : w.cell? ⟨B.b, B.o + 1, none⟩ = some (.string f.v) := by simpa using fB.cells 0 f gb 1 _ rfl
  have bp2 : w.cell? ⟨B.b, B.o + 2, none⟩ = some (.bool f.g) := by simpa using fB.cells 0 f gb 2 _ rfl
  have an : (i : Int) < (n : Int) := by omega
  have bn : (j : Int) < (n : Int) := by omega
  have az : 0 < A.l.length := by rw [hAl]; simp
  have bz : 0 < B.l.length := by rw [hBl]; simp
  have hAp := fA.pl
  have hBp := fB.pl
  clear hA hB fA fB hL ga gb hAl hBl
  go_enter Try.func110, Try.ntmps110
  go_wp2
  refine dk.region_gsets (ws g n cap i j A B e f) [7, 8, 9, 10, 11, 12, 13, 14, 15, 16, 17, 18, 19, 20, 21, 22, 23, 24, 25, 26, 27, 28, 29, 30, 31, 32, 33, 34, 35, 6] (CH w (rc.cmpT e.k f.k) (cmpI A.p B.p) 26) 0 (by kernel_rfl) (by kernel_rfl) (fun _ => rfl) (by kernel_rfl) ⟨(Below.refl _ _).drew, fun e => by cases e⟩ ?each ?fin
  case each =>
    refine ⟨h_quiet (by decide) (by simp) (.slice (some ⟨g, 0, none⟩) n cap) (by rintro s _ ⟨⟩; exact dk.sets_on _ (by simp) _ rfl) (fun s W h => by simp [execOp, go_sem, Act.eval, dk.sets_get, ws, List.lookup]), ?_⟩
    refine ⟨h_quiet (by decide) (by simp) (.int .i64 i) (by rintro s _ ⟨⟩; exact dk.sets_on _ (by simp) _ rfl) (fun s W h => by simp [execOp, go_sem, Act.eval, dk.sets_get, ws, List.lookup]), ?_⟩
    refine ⟨h_quiet (by decide) (by simp) (.pointer (some ⟨g, i * 2, none⟩)) (by rintro s _ ⟨⟩; exact dk.sets_on _ (by simp) _ rfl) (fun s W h => by simp [execOp, go_sem, Act.eval, dk.sets_get, ws, List.lookup, an]), ?_⟩
    refine ⟨h_quiet (by decide) (by simp) (.pointer (some ⟨g, i * 2, none⟩)) (by rintro s _ ⟨⟩; exact dk.sets_on _ (by simp) _ rfl) (fun s W h => by simp [execOp, go_sem, Act.eval, dk.sets_get, ws, List.lookup]), ?_⟩
    refine ⟨h_quiet (by decide) (by simp) (.slice (some ⟨A.b, A.o, none⟩) A.l.length A.c) (by rintro s _ ⟨⟩; exact dk.sets_on _ (by simp) _ rfl) (fun s W h => by have c : W.cell? ⟨g, i * 2, none⟩ = some (.slice (some ⟨A.b, A.o, none⟩) A.l.length A.c) := (h.cell (p := ⟨g, _, none⟩) hg).trans a0; simp [execOp, go_sem, Act.eval, dk.sets_get, ws, List.lookup, c]), ?_⟩
    refine ⟨h_quiet (by decide) (by simp) (.pointer (some ⟨A.b, A.o, none⟩)) (by rintro s _ ⟨⟩; exact dk.sets_on _ (by simp) _ rfl) (fun s W h => by simp [execOp, go_sem, Act.eval, dk.sets_get, ws, List.lookup, az]), ?_⟩
    refine ⟨h_quiet (by decide) (by simp) (.agg #[.string e.k, .string e.v, .bool e.g]) (by rintro s _ ⟨⟩; exact dk.sets_on _ (by simp) _ rfl) (fun s W h => by have p0 : W.cell? ⟨A.b, A.o, none⟩ = some (.string e.k) := (h.cell (p := ⟨A.b, _, none⟩) al).trans ap0; have p1 : W.cell? ⟨A.b, A.o + 1, none⟩ = some (.string e.v) := (h.cell (p := ⟨A.b, _, none⟩) al).trans ap1; have p2 : W.cell? ⟨A.b, A.o + 2, none⟩ = some (.bool e.g) := (h.cell (p := ⟨A.b, _, none⟩) al).trans ap2; simp [execOp, go_sem, Act.eval, dk.sets_get, ws, List.lookup, p0, p1, p2]), ?_⟩
    refine ⟨h_quiet (by decide) (by simp) (.slice (some ⟨g, 0, none⟩) n cap) (by rintro s _ ⟨⟩; exact dk.sets_on _ (by simp) _ rfl) (fun s W h => by simp [execOp, go_sem, Act.eval, dk.sets_get, ws, List.lookup]), ?_⟩
    refine ⟨h_quiet (by decide) (by simp) (.int .i64 j) (by rintro s _ ⟨⟩; exact dk.sets_on _ (by simp) _ rfl) (fun s W h => by simp [execOp, go_sem, Act.eval, dk.sets_get, ws, List.lookup]), ?_⟩
    refine ⟨h_quiet (by decide) (by simp) (.pointer (some ⟨g, j * 2, none⟩)) (by rintro s _ ⟨⟩; exact dk.sets_on _ (by simp) _ rfl) (fun s W h => by simp [execOp, go_sem, Act.eval, dk.sets_get, ws, List.lookup, bn]), ?_⟩
    refine ⟨h_quiet (by decide) (by simp) (.pointer (some ⟨g, j * 2, none⟩)) (by rintro s _ ⟨⟩; exact dk.sets_on _ (by simp) _ rfl) (fun s W h => by simp [execOp, go_sem, Act.eval, dk.sets_get, ws, List.lookup]), ?_⟩
    refine ⟨h_quiet (by decide) (by simp) (.slice (some ⟨B.b, B.o, none⟩) B.l.length B.c) (by rintro s _ ⟨⟩; exact dk.sets_on _ (by simp) _ rfl) (fun s W h => by have c : W.cell? ⟨g, j * 2, none⟩ = some (.slice (some ⟨B.b, B.o, none⟩) B.l.length B.c) := (h.cell (p := ⟨g, _, none⟩) hg).trans b0; simp [execOp, go_sem, Act.eval, dk.sets_get, ws, List.lookup, c]), ?_⟩
    refine ⟨h_quiet (by decide) (by simp) (.pointer (some ⟨B.b, B.o, none⟩)) (by rintro s _ ⟨⟩; exact dk.sets_on _ (by simp) _ rfl) (fun s W h => by simp [execOp, go_sem, Act.eval, dk.sets_get, ws, List.lookup, bz]), ?_⟩
    refine ⟨h_quiet (by decide) (by simp) (.agg #[.string f.k, .string f.v, .bool f.g]) (by rintro s _ ⟨⟩; exact dk.sets_on _ (by simp) _ rfl) (fun s W h => by have p0 : W.cell? ⟨B.b, B.o, none⟩ = some (.string f.k) := (h.cell (p := ⟨B.b, _, none⟩) bl).trans bp0; have p1 : W.cell? ⟨B.b, B.o + 1, none⟩ = some (.string f.v) := (h.cell (p := ⟨B.b, _, none⟩) bl).trans bp1; have p2 : W.cell? ⟨B.b, B.o + 2, none⟩ = some (.bool f.g) := (h.cell (p := ⟨B.b, _, none⟩) bl).trans bp2; simp [execOp, go_sem, Act.eval, dk.sets_get, ws, List.lookup, p0, p1, p2]), ?_⟩
    refine ⟨h_call (by decide) (by simp) 59 #[.agg #[.string e.k, .string e.v, .bool e.g], .agg #[.string f.k, .string f.v, .bool f.g]] (.int .i64 (rc.cmpT e.k f.k)) (by rintro s _ ⟨⟩; exact dk.sets_on _ (by simp) _ rfl) (fun s W => by simp [go_sem, Act.eval, dk.sets_get, ws, List.lookup]) (fun W => pf.compare_pair e f W), ?_⟩
    refine ⟨h_quiet (by decide) (by simp) (.slice (some ⟨g, 0, none⟩) n cap) (by rintro s _ ⟨⟩; exact dk.sets_on _ (by simp) _ rfl) (fun s W h => by simp [execOp, go_sem, Act.eval, dk.sets_get, ws, List.lookup]), ?_⟩
    refine ⟨h_quiet (by decide) (by simp) (.int .i64 i) (by rintro s _ ⟨⟩; exact dk.sets_on _ (by simp) _ rfl) (fun s W h => by simp [execOp, go_sem, Act.eval, dk.sets_get, ws, List.lookup]), ?_⟩
    refine ⟨h_quiet (by decide) (by simp) (.pointer (some ⟨g, i * 2, none⟩)) (by rintro s _ ⟨⟩; exact dk.sets_on _ (by simp) _ rfl) (fun s W h => by simp [execOp, go_sem, Act.eval, dk.sets_get, ws, List.lookup, an]), ?_⟩
    refine ⟨h_quiet (by decide) (by simp) (.pointer (some ⟨g, i * 2 + 1, none⟩)) (by rintro s _ ⟨⟩; exact dk.sets_on _ (by simp) _ rfl) (fun s W h => by simp [execOp, go_sem, Act.eval, dk.sets_get, ws, List.lookup]), ?_⟩
    refine ⟨h_quiet (by decide) (by simp) (.int .i64 A.p) (by rintro s _ ⟨⟩; exact dk.sets_on _ (by simp) _ rfl) (fun s W h => by have c : W.cell? ⟨g, i * 2 + 1, none⟩ = some (.int .i64 A.p) := (h.cell (p := ⟨g, _, none⟩) hg).trans a1; simp [execOp, go_sem, Act.eval, dk.sets_get, ws, List.lookup, c]), ?_⟩
    refine ⟨h_quiet (by decide) (by simp) (.slice (some ⟨g, 0, none⟩) n cap) (by rintro s _ ⟨⟩; exact dk.sets_on _ (by simp) _ rfl) (fun s W h => by simp [execOp, go_sem, Act.eval, dk.sets_get, ws, List.lookup]), ?_⟩
    refine ⟨h_quiet (by decide) (by simp) (.int .i64 j) (by rintro s _ ⟨⟩; exact dk.sets_on _ (by simp) _ rfl) (fun s W h => by simp [execOp, go_sem, Act.eval, dk.sets_get, ws, List.lookup]), ?_⟩
    refine ⟨h_quiet (by decide) (by simp) (.pointer (some ⟨g, j * 2, none⟩)) (by rintro s _ ⟨⟩; exact dk.sets_on _ (by simp) _ rfl) (fun s W h => by simp [execOp, go_sem, Act.eval, dk.sets_get, ws, List.lookup, bn]), ?_⟩
    refine ⟨h_quiet (by decide) (by simp) (.pointer (some ⟨g, j * 2 + 1, none⟩)) (by rintro s _ ⟨⟩; exact dk.sets_on _ (by simp) _ rfl) (fun s W h => by simp [execOp, go_sem, Act.eval, dk.sets_get, ws, List.lookup]), ?_⟩
    refine ⟨h_quiet (by decide) (by simp) (.int .i64 B.p) (by rintro s _ ⟨⟩; exact dk.sets_on _ (by simp) _ rfl) (fun s W h => by have c : W.cell? ⟨g, j * 2 + 1, none⟩ = some (.int .i64 B.p) := (h.cell (p := ⟨g, _, none⟩) hg).trans b1; simp [execOp, go_sem, Act.eval, dk.sets_get, ws, List.lookup, c]), ?_⟩
    refine ⟨h_call (by decide) (by simp) 113 #[.int .i64 A.p, .int .i64 B.p] (.int .i64 (cmpI A.p B.p)) (by rintro s _ ⟨⟩; exact dk.sets_on _ (by simp) _ rfl) (fun s W => by simp [go_sem, Act.eval, dk.sets_get, ws, List.lookup]) (fun W => (cmp_int A.p B.p W).mono fun _ _ ⟨h1, h2⟩ => ⟨h1, by rw [h2]; exact Below.refl _ _⟩), ?_⟩
    refine ⟨h_build (d := 33) (idx := 26) (by simp) (by simp) rfl (fun h => rfl) (fun h => rfl) (fun h h' => rfl) (fun s W => by simp [execOp, go_sem, Act.eval, dk.sets_get, ws, List.lookup]), ?_⟩
    refine ⟨h_or (by simp) (by rintro s _ ⟨⟩; exact dk.sets_on _ (by simp) _ rfl) (fun s W => by simp [go_sem, Act.eval, dk.sets_get, ws, List.lookup]) ⟨⟨26, .data⟩, by simp, rfl, rfl⟩, ?_⟩
    refine ⟨h_quiet (by decide) (by simp) (.bool (decide (or2 (rc.cmpT e.k f.k) (cmpI A.p B.p) < 0))) (by rintro s _ ⟨⟩; exact dk.sets_on _ (by simp) _ rfl) (fun s W h => by simp [execOp, go_sem, Act.eval, dk.sets_get, ws, List.lookup]), ?_⟩
    exact ⟨h_quiet (by decide) (by simp) (.bool (decide (or2 (rc.cmpT e.k f.k) (cmpI A.p B.p) < 0))) (by rintro s _ ⟨⟩; exact dk.sets_on _ (by simp) _ rfl) (fun s W h => by simp [execOp, go_sem, Act.eval, dk.sets_get, ws, List.lookup]), trivial⟩
  case fin =>
    intro s L X hL hC
    have hBX : Below w.heap.size w X := hC.1
    clear hC hL
    go_wp2
    exact bodyPost_ret (v := .bool (decide (or2 (rc.cmpT e.k f.k) (cmpI A.p B.p) < 0))) (by simp [results, Try.results110, go_sem, dk.sets_get, ws, List.lookup]) rfl ⟨rfl, hBX⟩
end Go.Proofs.Ytfoajjkcocppeaa.cor
