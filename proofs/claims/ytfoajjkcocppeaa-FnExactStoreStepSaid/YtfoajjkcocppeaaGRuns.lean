/- The program's newestOf: the newest pair of each key, ascending, in a row of its own. -/
import Derived.Test.YtfoajjkcocppeaaTabOk
import Derived.Test.YtfoajjkcocppeaaDoneKit
import Derived.Test.YtfoajjkcocppeaaHeapPure
import Derived.Test.YtfoajjkcocppeaaFlatOwn
import Derived.Maps.AppendAt
import Derived.Test.YtfoajjkcocppeaaPutPure
import Derived.Test.YtfoajjkcocppeaaCopyRows
import Derived.Deep.QuietTactic
import Derived.BigQuiet

/- What is left of runs, as a heap holds it. -/
namespace Go.Proofs.Ytfoajjkcocppeaa.ri
open Go.ChangeShapes Go.WideShapes Go.ChangeAt Go.RowKit Go.Proofs.Ytfoajjkcocppeaa.fl Go.Proofs.Ytfoajjkcocppeaa.rc Go.Proofs.Ytfoajjkcocppeaa.ro
set_option linter.unusedVariables false

/-- what is left of a run: where it lies, its room, its pairs; its place -/
structure It where
  b : Nat
  o : Nat
  c : Nat
  l : List flP.Pr
  p : Nat
def cI (r : It) : List Value := [.slice (some ⟨r.b, r.o, none⟩) r.l.length r.c, .int .i64 r.p]
theorem cI_len (r : It) : (cI r).length = 2 := rfl
def key (r : It) : ByteArray := match r.l with
  | [] => ⟨#[]⟩
  | e :: _ => e.k
/-- its pairs lie in the world w, below B -/
structure Fits (w : World) (B : Nat) (r : It) : Prop where
  lt : r.b < B
  ne : r.l ≠ []
  len : r.l.length ≤ 300
  pl : r.p ≤ 100
  cells : ∀ (i : Nat) (e : flP.Pr), r.l[i]? = some e → ∀ (j : Nat) (v : Value), (flP.c e)[j]? = some v → w.cell? ⟨r.b, r.o + i * 3 + j, none⟩ = some v
theorem Fits.below {w w' : World} {B : Nat} {r : It} (h : Fits w B r) (hb : Below B w w') : Fits w' B r :=
  ⟨h.lt, h.ne, h.len, h.pl, fun i e he j v hv => (hb.cell (p := ⟨r.b, _, none⟩) h.lt).trans (h.cells i e he j v hv)⟩
def cmpI (x y : Int) : Int := if x < y then -1 else if x = y then 0 else 1
theorem cmpI_neg {x y : Int} : cmpI x y < 0 ↔ x < y := by unfold cmpI; split <;> (try split) <;> omega
theorem cmpI_zero {x y : Int} : cmpI x y = 0 ↔ x = y := by unfold cmpI; split <;> (try split) <;> omega
def or2 (x y : Int) : Int := if x ≠ 0 then x else y
/-- one ahead of the other: by its first key, then by its place -/
def less (a b : It) : Bool := decide (or2 (cmpT (key a) (key b)) (cmpI a.p b.p) < 0)
theorem less_iff {a b : It} : less a b = true ↔ lt (key a) (key b) = true ∨ (key a = key b ∧ a.p < b.p) := by
  unfold less or2
  rw [decide_eq_true_iff]
  by_cases h : cmpT (key a) (key b) = 0
  · have e := cmp_zero.1 h
    rw [if_neg (by simpa using h), cmpI_neg, e, lt_irrefl]
    simp
  · rw [if_pos h, cmp_neg]
    constructor
    · exact .inl
    · rintro (h1 | ⟨h1, _⟩)
      · exact h1
      · exact absurd (cmp_zero.2 h1) h
theorem ord : hp.Ord less := by
  have tri : ∀ {x y : ByteArray}, lt x y = false → lt y x = false → x = y := fun {x y} h1 h2 => by
    by_cases e : x = y
    · exact e
    · rw [lt_tri h1 e] at h2; cases h2
  have nl : ∀ {a b : It}, less a b = false → lt (key a) (key b) = false ∧ (key a = key b → b.p ≤ a.p) := fun {a b} h => by
    refine ⟨?_, fun e => ?_⟩
    · cases h1 : lt (key a) (key b) with
      | false => rfl
      | true => rw [less_iff.2 (.inl h1)] at h; cases h
    · rcases Nat.lt_or_ge a.p b.p with h1 | h1
      · rw [less_iff.2 (.inr ⟨e, h1⟩)] at h; cases h
      · exact h1
  refine ⟨fun a => ?_, fun {a b c} h1 h2 => ?_, fun {a b} h => ?_⟩
  · cases h : less a a with
    | false => rfl
    | true =>
      rcases less_iff.1 h with h1 | ⟨_, h1⟩
      · rw [lt_irrefl] at h1; cases h1
      · omega
  · obtain ⟨p1, q1⟩ := nl h1
    obtain ⟨p2, q2⟩ := nl h2
    cases h : less c a with
    | false => rfl
    | true =>
      rcases less_iff.1 h with h3 | ⟨h3, h4⟩
      · by_cases e : key b = key c
        · rw [← e, p1] at h3; cases h3
        · have h5 := lt_tri p2 (Ne.symm e)
          rw [lt_trans h5 h3] at p1; cases p1
      · have e1 : key b = key a := tri p1 (by rw [← h3]; exact p2)
        have := q1 e1
        have := q2 (h3.trans e1.symm)
        omega
  · cases h2 : less b a with
    | false => rfl
    | true =>
      rcases less_iff.1 h with h3 | ⟨h3, h4⟩
      · rcases less_iff.1 h2 with h5 | ⟨h5, _⟩
        · rw [lt_asymm h3] at h5; cases h5
        · rw [h5, lt_irrefl] at h3; cases h3
      · rcases less_iff.1 h2 with h5 | ⟨_, h5⟩
        · rw [h3, lt_irrefl] at h5; cases h5
        · omega

end Go.Proofs.Ytfoajjkcocppeaa.ri

/- cmp.Or of two comparisons, in one region that draws its order. -/
namespace Go.Proofs.Ytfoajjkcocppeaa.cor
open Go.ChangeShapes Go.WideShapes Go.ChangeAt Go.RowKit Go.Proofs.Ytfoajjkcocppeaa.fl Go.Proofs.Ytfoajjkcocppeaa.ri
set_option linter.unusedVariables false

theorem nanI (x : Int) (w : World) : Calls Try.prog 114 #[.int .i64 x] w fun e w' => e = .returned (.bool false) ∧ w = w' := by
  go_enter Try.func114, Try.ntmps114
  go_wp2
  go_ret
  simp
theorem cmp_int (x y : Int) (w : World) : Calls Try.prog 113 #[.int .i64 x, .int .i64 y] w fun e w' => e = .returned (.int .i64 (cmpI x y)) ∧ w' = w := by
  unfold cmpI
  have hn := fun x W => nanI x W
  by_cases h1 : x < y
  · have d1 : decide (x < y) = true := decide_eq_true h1
    rw [if_pos h1]
    clear h1
    go_enter Try.func113, Try.ntmps113
    go_wp2_with (go_at_call 114; refine (hn _ _).mono ?_; rintro e w0 ⟨rfl, hw0⟩; rw [← hw0]; clear hw0 w0)
    go_ret
    exact ⟨rfl, rfl⟩
  · have d1 : decide (x < y) = false := decide_eq_false h1
    rw [if_neg h1]
    by_cases h2 : x = y
    · subst h2
      rw [if_pos rfl]
      clear h1
      go_enter Try.func113, Try.ntmps113
      go_wp2_with (go_at_call 114; refine (hn _ _).mono ?_; rintro e w0 ⟨rfl, hw0⟩; rw [← hw0]; clear hw0 w0)
      go_ret
      exact ⟨rfl, rfl⟩
    · rw [if_neg h2]
      have d2 : decide (y < x) = true := decide_eq_true (by omega)
      clear h1 h2
      go_enter Try.func113, Try.ntmps113
      go_wp2_with (go_at_call 114; refine (hn _ _).mono ?_; rintro e w0 ⟨rfl, hw0⟩; rw [← hw0]; clear hw0 w0)
      go_ret
      exact ⟨rfl, rfl⟩
theorem cmp_or (x y : Int) (g : Nat) (w : World) (h0 : w.cell? ⟨g, 0, none⟩ = some (.int .i64 x)) (h1 : w.cell? ⟨g, 1, none⟩ = some (.int .i64 y)) :
    Calls Try.prog 112 #[.slice (some ⟨g, 0, none⟩) 2 2] w fun e w' => e = .returned (.int .i64 (or2 x y)) ∧ w' = w := by
  by_cases hx : x = 0
  · subst hx
    have e : or2 0 y = y := rfl
    rw [e]
    by_cases hy : y = 0
    · subst hy
      go_enter Try.func112, Try.ntmps112
      go_wp2
      refine wp_loop_rounds 3 ?_
      repeat (rw [rounds_succ]; go_wp2)
      go_ret
      exact ⟨rfl, rfl⟩
    · have ey : (y != 0) = true := by simpa using hy
      go_enter Try.func112, Try.ntmps112
      go_wp2
      refine wp_loop_rounds 3 ?_
      repeat (rw [rounds_succ]; go_wp2)
      go_ret
      exact ⟨rfl, rfl⟩
  · have ex : (x != 0) = true := by simpa using hx
    have e : or2 x y = x := by unfold or2; simp [hx]
    rw [e]
    go_enter Try.func112, Try.ntmps112
    go_wp2
    refine wp_loop_rounds 3 ?_
    repeat (rw [rounds_succ]; go_wp2)
    go_ret
    exact ⟨rfl, rfl⟩

def CH (W0 : World) (x y : Int) (j : Nat) (h : Nat) (L : Nat → Bool) (W : World) : Prop := Below W0.heap.size W0 W ∧ (L j = true → W.heap[h]? = some (.cells #[.int .i64 x, .int .i64 y] 3 (0, 0)))
theorem more_on (L : Nat → Bool) (i : Nat) : dn.more L i i = true := by unfold dn.more; rw [if_pos rfl]
theorem more_off (L : Nat → Bool) {i j : Nat} (h : j ≠ i) : dn.more L i j = L j := by unfold dn.more; rw [if_neg h]
section
variable {W0 : World} {x y : Int} {j : Nat} {ws : Nat → List (Nat × Value)} {act : Act} {Q : Exit → Act → World → Prop} {o : Oper}
theorem h_quiet {i : Nat} (hi : i ≠ j) (hsel : ∀ cs b, o.op ≠ .select cs b) (v : Value) (hd : ∀ s d, o.dst = some d → (dk.sets act (ws s)).tmps[d]? = some v)
    (hrun : ∀ s W, Below W0.heap.size W0 W → (execOp (dk.sets act (ws s)).eval o).run Try.prog W = .ok (.value v) W) : gh.Step Try.prog (fun s => dk.sets act (ws s)) (CH W0 x y j) Q i o := by
  refine gh.step_val hsel fun s L W hdp h0 hC => ⟨s, v, gh.Agree.refl _ _, hd s, ?_⟩
  rw [hrun s W hC.1]
  refine ⟨rfl, hC.1, ?_⟩
  rw [more_off L (Ne.symm hi)]
  exact hC.2
theorem h_call {i : Nat} (hi : i ≠ j) (hsel : ∀ cs b, o.op ≠ .select cs b) (f : FuncId) (args : Array Value) (v : Value) (hd : ∀ s d, o.dst = some d → (dk.sets act (ws s)).tmps[d]? = some v)
    (hrun : ∀ s W, (execOp (dk.sets act (ws s)).eval o).run Try.prog W = .ok (.enter f args) W) (hcall : ∀ W, Calls Try.prog f args W fun e w' => e = .returned v ∧ Below W.heap.size W w') : gh.Step Try.prog (fun s => dk.sets act (ws s)) (CH W0 x y j) Q i o := by
  refine gh.step_val hsel fun s L W hdp h0 hC => ⟨s, v, gh.Agree.refl _ _, hd s, ?_⟩
  rw [hrun s W]
  refine (hcall W).mono fun e w' ⟨h1, h2⟩ => ⟨h1, hC.1.trans (h2.mono hC.1.size), ?_⟩
  rw [more_off L (Ne.symm hi)]
  exact fun h => bstay (hC.2 h) h2 (Array.getElem?_eq_some_iff.1 (hC.2 h)).1
theorem h_build {d idx : Nat} (hsel : ∀ cs b, o.op ≠ .select cs b) (hsz : d < act.tmps.size) (hdst : o.dst = some d) (ld : ∀ h, (ws h).lookup d = some (.slice (some ⟨h, 0, none⟩) 2 2)) (hidx : ∀ h, ((ws h)[idx]?.map (·.1)) = some d) (hset : ∀ h h' : Nat, ws h' = (ws h).set idx (d, .slice (some ⟨h', 0, none⟩) 2 2))
    (hrun : ∀ s W, (execOp (dk.sets act (ws s)).eval o).run Try.prog W = .ok (.value (.slice (some ⟨W.heap.size, 0, none⟩) 2 2)) (W.alloc (.cells #[.int .i64 x, .int .i64 y] 3))) : gh.Step Try.prog (fun s => dk.sets act (ws s)) (CH W0 x y j) Q j o := by
  refine gh.step_val hsel fun s L W hdp h0 hC => ⟨W.heap.size, .slice (some ⟨W.heap.size, 0, none⟩) 2 2, dk.agree_sets idx d _ hdst (hidx s) (hset s _), (fun d' hd => by rw [hdst] at hd; cases hd; exact dk.sets_on _ hsz _ (ld _)), ?_⟩
  rw [hrun]
  exact ⟨rfl, hC.1.alloc hC.1.size _, fun _ => bnew W _ _⟩
theorem h_or (hsel : ∀ cs b, o.op ≠ .select cs b) (hd : ∀ s d, o.dst = some d → (dk.sets act (ws s)).tmps[d]? = some (.int .i64 (or2 x y)))
    (hrun : ∀ s W, (execOp (dk.sets act (ws s)).eval o).run Try.prog W = .ok (.enter 112 #[.slice (some ⟨s, 0, none⟩) 2 2]) W) (hdep : ∃ e ∈ o.after, Region.binds .any e = true ∧ e.on = j) : gh.Step Try.prog (fun s => dk.sets act (ws s)) (CH W0 x y j) Q (j + 1) o := by
  refine gh.step_val hsel fun s L W hdp h0 hC => ⟨s, .int .i64 (or2 x y), gh.Agree.refl _ _, hd s, ?_⟩
  obtain ⟨xp, mp, yp, zp⟩ := hdep
  have lp := hdp xp mp yp
  rw [zp] at lp
  have hcell := hC.2 lp
  rw [hrun s W]
  refine (cmp_or x y s W (bcell hcell rfl) (bcell hcell rfl)).mono ?_
  rintro e w' ⟨rfl, rfl⟩
  refine ⟨rfl, hC.1, ?_⟩
  rw [more_off L (show j ≠ j + 1 by omega)]
  exact hC.2
end

def ws (g n cap i j : Nat) (A B : It) (e f : flP.Pr) (h : Nat) : List (Nat × Value) :=
  [(7, .slice (some ⟨g, 0, none⟩) n cap), (8, .int .i64 i), (9, .pointer (some ⟨g, i * 2, none⟩)), (10, .pointer (some ⟨g, i * 2, none⟩)), (11, .slice (some ⟨A.b, A.o, none⟩) A.l.length A.c), (12, .pointer (some ⟨A.b, A.o, none⟩)), (13, .agg #[.string e.k, .string e.v, .bool e.g]),
   (14, .slice (some ⟨g, 0, none⟩) n cap), (15, .int .i64 j), (16, .pointer (some ⟨g, j * 2, none⟩)), (17, .pointer (some ⟨g, j * 2, none⟩)), (18, .slice (some ⟨B.b, B.o, none⟩) B.l.length B.c), (19, .pointer (some ⟨B.b, B.o, none⟩)), (20, .agg #[.string f.k, .string f.v, .bool f.g]),
   (21, .int .i64 (rc.cmpT e.k f.k)), (22, .slice (some ⟨g, 0, none⟩) n cap), (23, .int .i64 i), (24, .pointer (some ⟨g, i * 2, none⟩)), (25, .pointer (some ⟨g, i * 2 + 1, none⟩)), (26, .int .i64 A.p),
   (27, .slice (some ⟨g, 0, none⟩) n cap), (28, .int .i64 j), (29, .pointer (some ⟨g, j * 2, none⟩)), (30, .pointer (some ⟨g, j * 2 + 1, none⟩)), (31, .int .i64 B.p), (32, .int .i64 (cmpI A.p B.p)), (33, .slice (some ⟨h, 0, none⟩) 2 2),
   (34, .int .i64 (or2 (rc.cmpT e.k f.k) (cmpI A.p B.p))), (35, .bool (decide (or2 (rc.cmpT e.k f.k) (cmpI A.p B.p) < 0))), (6, .bool (decide (or2 (rc.cmpT e.k f.k) (cmpI A.p B.p) < 0)))]

/-- what is left of a run at place i of the row g -/
structure At (w : World) (g i : Nat) (r : It) : Prop where
  lt : g < w.heap.size
  c0 : w.cell? ⟨g, i * 2, none⟩ = some (.slice (some ⟨r.b, r.o, none⟩) r.l.length r.c)
  c1 : w.cell? ⟨g, i * 2 + 1, none⟩ = some (.int .i64 r.p)
set_option maxRecDepth 100000 in
set_option maxHeartbeats 4000000 in
theorem less_run (g n cap i j : Nat) (A B : It) (w : World) (hi : i < n) (hj : j < n) (hA : At w g i A) (hB : At w g j B) (fA : Fits w w.heap.size A) (fB : Fits w w.heap.size B) :
    Calls Try.prog 110 #[.slice (some ⟨g, 0, none⟩) n cap, .int .i64 i, .int .i64 j] w fun r w' => r = .returned (.bool (less A B)) ∧ Below w.heap.size w w' := by
  obtain ⟨e, ea, hAl⟩ : ∃ e ea, A.l = e :: ea := by
    cases h : A.l with
    | nil => exact absurd h fA.ne
    | cons e r => exact ⟨e, r, rfl⟩
  obtain ⟨f, fb, hBl⟩ : ∃ e ea, B.l = e :: ea := by
    cases h : B.l with
    | nil => exact absurd h fB.ne
    | cons e r => exact ⟨e, r, rfl⟩
  have hL : less A B = decide (or2 (rc.cmpT e.k f.k) (cmpI A.p B.p) < 0) := by unfold less key; rw [hAl, hBl]
  rw [hL]
  have hg := hA.lt
  have a0 := hA.c0
  have a1 := hA.c1
  have b0 := hB.c0
  have b1 := hB.c1
  have al := fA.lt
  have bl := fB.lt
  have ga : A.l[0]? = some e := by rw [hAl]; rfl
  have gb : B.l[0]? = some f := by rw [hBl]; rfl
  have ap0 : w.cell? ⟨A.b, A.o, none⟩ = some (.string e.k) := by simpa using fA.cells 0 e ga 0 _ rfl
  have ap1 : w.cell? ⟨A.b, A.o + 1, none⟩ = some (.string e.v) := by simpa using fA.cells 0 e ga 1 _ rfl
  have ap2 : w.cell? ⟨A.b, A.o + 2, none⟩ = some (.bool e.g) := by simpa using fA.cells 0 e ga 2 _ rfl
  have bp0 : w.cell? ⟨B.b, B.o, none⟩ = some (.string f.k) := by simpa using fB.cells 0 f gb 0 _ rfl
  have bp1 : w.cell? ⟨B.b, B.o + 1, none⟩ = some (.string f.v) := by simpa using fB.cells 0 f gb 1 _ rfl
  have bp2 : w.cell? ⟨B.b, B.o + 2, none⟩ = some (.bool f.g) := by simpa using fB.cells 0 f gb 2 _ rfl
  have an : (i : Int) < (n : Int) := by omega
  have bn : (j : Int) < (n : Int) := by omega
  have az : 0 < A.l.length := by rw [hAl]; simp
  have bz : 0 < B.l.length := by rw [hBl]; simp
  have hAp := fA.pl
  have hBp := fB.pl
  clear hA hB fA fB hL ga gb hAl hBl
  go_enter Try.func110, Try.ntmps110
  go_wp2
  refine dk.region_gsets (ws g n cap i j A B e f) [7, 8, 9, 10, 11, 12, 13, 14, 15, 16, 17, 18, 19, 20, 21, 22, 23, 24, 25, 26, 27, 28, 29, 30, 31, 32, 33, 34, 35, 6] (CH w (rc.cmpT e.k f.k) (cmpI A.p B.p) 26) 0 (by kernel_rfl) (by kernel_rfl) (fun _ => rfl) (by kernel_rfl) ⟨(Below.refl _ _).drew, fun e => by cases e⟩ ?each ?fin
  case each =>
    refine ⟨h_quiet (by decide) (by simp) (.slice (some ⟨g, 0, none⟩) n cap) (by rintro s _ ⟨⟩; exact dk.sets_on _ (by simp) _ rfl) (fun s W h => by simp [execOp, go_sem, Act.eval, dk.sets_get, ws, List.lookup]), ?_⟩
    refine ⟨h_quiet (by decide) (by simp) (.int .i64 i) (by rintro s _ ⟨⟩; exact dk.sets_on _ (by simp) _ rfl) (fun s W h => by simp [execOp, go_sem, Act.eval, dk.sets_get, ws, List.lookup]), ?_⟩
    refine ⟨h_quiet (by decide) (by simp) (.pointer (some ⟨g, i * 2, none⟩)) (by rintro s _ ⟨⟩; exact dk.sets_on _ (by simp) _ rfl) (fun s W h => by simp [execOp, go_sem, Act.eval, dk.sets_get, ws, List.lookup, an]), ?_⟩
    refine ⟨h_quiet (by decide) (by simp) (.pointer (some ⟨g, i * 2, none⟩)) (by rintro s _ ⟨⟩; exact dk.sets_on _ (by simp) _ rfl) (fun s W h => by simp [execOp, go_sem, Act.eval, dk.sets_get, ws, List.lookup]), ?_⟩
    refine ⟨h_quiet (by decide) (by simp) (.slice (some ⟨A.b, A.o, none⟩) A.l.length A.c) (by rintro s _ ⟨⟩; exact dk.sets_on _ (by simp) _ rfl) (fun s W h => by have c : W.cell? ⟨g, i * 2, none⟩ = some (.slice (some ⟨A.b, A.o, none⟩) A.l.length A.c) := (h.cell (p := ⟨g, _, none⟩) hg).trans a0; simp [execOp, go_sem, Act.eval, dk.sets_get, ws, List.lookup, c]), ?_⟩
    refine ⟨h_quiet (by decide) (by simp) (.pointer (some ⟨A.b, A.o, none⟩)) (by rintro s _ ⟨⟩; exact dk.sets_on _ (by simp) _ rfl) (fun s W h => by simp [execOp, go_sem, Act.eval, dk.sets_get, ws, List.lookup, az]), ?_⟩
    refine ⟨h_quiet (by decide) (by simp) (.agg #[.string e.k, .string e.v, .bool e.g]) (by rintro s _ ⟨⟩; exact dk.sets_on _ (by simp) _ rfl) (fun s W h => by have p0 : W.cell? ⟨A.b, A.o, none⟩ = some (.string e.k) := (h.cell (p := ⟨A.b, _, none⟩) al).trans ap0; have p1 : W.cell? ⟨A.b, A.o + 1, none⟩ = some (.string e.v) := (h.cell (p := ⟨A.b, _, none⟩) al).trans ap1; have p2 : W.cell? ⟨A.b, A.o + 2, none⟩ = some (.bool e.g) := (h.cell (p := ⟨A.b, _, none⟩) al).trans ap2; simp [execOp, go_sem, Act.eval, dk.sets_get, ws, List.lookup, p0, p1, p2]), ?_⟩
    refine ⟨h_quiet (by decide) (by simp) (.slice (some ⟨g, 0, none⟩) n cap) (by rintro s _ ⟨⟩; exact dk.sets_on _ (by simp) _ rfl) (fun s W h => by simp [execOp, go_sem, Act.eval, dk.sets_get, ws, List.lookup]), ?_⟩
    refine ⟨h_quiet (by decide) (by simp) (.int .i64 j) (by rintro s _ ⟨⟩; exact dk.sets_on _ (by simp) _ rfl) (fun s W h => by simp [execOp, go_sem, Act.eval, dk.sets_get, ws, List.lookup]), ?_⟩
    refine ⟨h_quiet (by decide) (by simp) (.pointer (some ⟨g, j * 2, none⟩)) (by rintro s _ ⟨⟩; exact dk.sets_on _ (by simp) _ rfl) (fun s W h => by simp [execOp, go_sem, Act.eval, dk.sets_get, ws, List.lookup, bn]), ?_⟩
    refine ⟨h_quiet (by decide) (by simp) (.pointer (some ⟨g, j * 2, none⟩)) (by rintro s _ ⟨⟩; exact dk.sets_on _ (by simp) _ rfl) (fun s W h => by simp [execOp, go_sem, Act.eval, dk.sets_get, ws, List.lookup]), ?_⟩
    refine ⟨h_quiet (by decide) (by simp) (.slice (some ⟨B.b, B.o, none⟩) B.l.length B.c) (by rintro s _ ⟨⟩; exact dk.sets_on _ (by simp) _ rfl) (fun s W h => by have c : W.cell? ⟨g, j * 2, none⟩ = some (.slice (some ⟨B.b, B.o, none⟩) B.l.length B.c) := (h.cell (p := ⟨g, _, none⟩) hg).trans b0; simp [execOp, go_sem, Act.eval, dk.sets_get, ws, List.lookup, c]), ?_⟩
    refine ⟨h_quiet (by decide) (by simp) (.pointer (some ⟨B.b, B.o, none⟩)) (by rintro s _ ⟨⟩; exact dk.sets_on _ (by simp) _ rfl) (fun s W h => by simp [execOp, go_sem, Act.eval, dk.sets_get, ws, List.lookup, bz]), ?_⟩
    refine ⟨h_quiet (by decide) (by simp) (.agg #[.string f.k, .string f.v, .bool f.g]) (by rintro s _ ⟨⟩; exact dk.sets_on _ (by simp) _ rfl) (fun s W h => by have p0 : W.cell? ⟨B.b, B.o, none⟩ = some (.string f.k) := (h.cell (p := ⟨B.b, _, none⟩) bl).trans bp0; have p1 : W.cell? ⟨B.b, B.o + 1, none⟩ = some (.string f.v) := (h.cell (p := ⟨B.b, _, none⟩) bl).trans bp1; have p2 : W.cell? ⟨B.b, B.o + 2, none⟩ = some (.bool f.g) := (h.cell (p := ⟨B.b, _, none⟩) bl).trans bp2; simp [execOp, go_sem, Act.eval, dk.sets_get, ws, List.lookup, p0, p1, p2]), ?_⟩
    refine ⟨h_call (by decide) (by simp) 59 #[.agg #[.string e.k, .string e.v, .bool e.g], .agg #[.string f.k, .string f.v, .bool f.g]] (.int .i64 (rc.cmpT e.k f.k)) (by rintro s _ ⟨⟩; exact dk.sets_on _ (by simp) _ rfl) (fun s W => by simp [go_sem, Act.eval, dk.sets_get, ws, List.lookup]) (fun W => pf.compare_pair e f W), ?_⟩
    refine ⟨h_quiet (by decide) (by simp) (.slice (some ⟨g, 0, none⟩) n cap) (by rintro s _ ⟨⟩; exact dk.sets_on _ (by simp) _ rfl) (fun s W h => by simp [execOp, go_sem, Act.eval, dk.sets_get, ws, List.lookup]), ?_⟩
    refine ⟨h_quiet (by decide) (by simp) (.int .i64 i) (by rintro s _ ⟨⟩; exact dk.sets_on _ (by simp) _ rfl) (fun s W h => by simp [execOp, go_sem, Act.eval, dk.sets_get, ws, List.lookup]), ?_⟩
    refine ⟨h_quiet (by decide) (by simp) (.pointer (some ⟨g, i * 2, none⟩)) (by rintro s _ ⟨⟩; exact dk.sets_on _ (by simp) _ rfl) (fun s W h => by simp [execOp, go_sem, Act.eval, dk.sets_get, ws, List.lookup, an]), ?_⟩
    refine ⟨h_quiet (by decide) (by simp) (.pointer (some ⟨g, i * 2 + 1, none⟩)) (by rintro s _ ⟨⟩; exact dk.sets_on _ (by simp) _ rfl) (fun s W h => by simp [execOp, go_sem, Act.eval, dk.sets_get, ws, List.lookup]), ?_⟩
    refine ⟨h_quiet (by decide) (by simp) (.int .i64 A.p) (by rintro s _ ⟨⟩; exact dk.sets_on _ (by simp) _ rfl) (fun s W h => by have c : W.cell? ⟨g, i * 2 + 1, none⟩ = some (.int .i64 A.p) := (h.cell (p := ⟨g, _, none⟩) hg).trans a1; simp [execOp, go_sem, Act.eval, dk.sets_get, ws, List.lookup, c]), ?_⟩
    refine ⟨h_quiet (by decide) (by simp) (.slice (some ⟨g, 0, none⟩) n cap) (by rintro s _ ⟨⟩; exact dk.sets_on _ (by simp) _ rfl) (fun s W h => by simp [execOp, go_sem, Act.eval, dk.sets_get, ws, List.lookup]), ?_⟩
    refine ⟨h_quiet (by decide) (by simp) (.int .i64 j) (by rintro s _ ⟨⟩; exact dk.sets_on _ (by simp) _ rfl) (fun s W h => by simp [execOp, go_sem, Act.eval, dk.sets_get, ws, List.lookup]), ?_⟩
    refine ⟨h_quiet (by decide) (by simp) (.pointer (some ⟨g, j * 2, none⟩)) (by rintro s _ ⟨⟩; exact dk.sets_on _ (by simp) _ rfl) (fun s W h => by simp [execOp, go_sem, Act.eval, dk.sets_get, ws, List.lookup, bn]), ?_⟩
    refine ⟨h_quiet (by decide) (by simp) (.pointer (some ⟨g, j * 2 + 1, none⟩)) (by rintro s _ ⟨⟩; exact dk.sets_on _ (by simp) _ rfl) (fun s W h => by simp [execOp, go_sem, Act.eval, dk.sets_get, ws, List.lookup]), ?_⟩
    refine ⟨h_quiet (by decide) (by simp) (.int .i64 B.p) (by rintro s _ ⟨⟩; exact dk.sets_on _ (by simp) _ rfl) (fun s W h => by have c : W.cell? ⟨g, j * 2 + 1, none⟩ = some (.int .i64 B.p) := (h.cell (p := ⟨g, _, none⟩) hg).trans b1; simp [execOp, go_sem, Act.eval, dk.sets_get, ws, List.lookup, c]), ?_⟩
    refine ⟨h_call (by decide) (by simp) 113 #[.int .i64 A.p, .int .i64 B.p] (.int .i64 (cmpI A.p B.p)) (by rintro s _ ⟨⟩; exact dk.sets_on _ (by simp) _ rfl) (fun s W => by simp [go_sem, Act.eval, dk.sets_get, ws, List.lookup]) (fun W => (cmp_int A.p B.p W).mono fun _ _ ⟨h1, h2⟩ => ⟨h1, by rw [h2]; exact Below.refl _ _⟩), ?_⟩
    refine ⟨h_build (d := 33) (idx := 26) (by simp) (by simp) rfl (fun h => rfl) (fun h => rfl) (fun h h' => rfl) (fun s W => by simp [execOp, go_sem, Act.eval, dk.sets_get, ws, List.lookup]), ?_⟩
    refine ⟨h_or (by simp) (by rintro s _ ⟨⟩; exact dk.sets_on _ (by simp) _ rfl) (fun s W => by simp [go_sem, Act.eval, dk.sets_get, ws, List.lookup]) ⟨⟨26, .data⟩, by simp, rfl, rfl⟩, ?_⟩
    refine ⟨h_quiet (by decide) (by simp) (.bool (decide (or2 (rc.cmpT e.k f.k) (cmpI A.p B.p) < 0))) (by rintro s _ ⟨⟩; exact dk.sets_on _ (by simp) _ rfl) (fun s W h => by simp [execOp, go_sem, Act.eval, dk.sets_get, ws, List.lookup]), ?_⟩
    exact ⟨h_quiet (by decide) (by simp) (.bool (decide (or2 (rc.cmpT e.k f.k) (cmpI A.p B.p) < 0))) (by rintro s _ ⟨⟩; exact dk.sets_on _ (by simp) _ rfl) (fun s W h => by simp [execOp, go_sem, Act.eval, dk.sets_get, ws, List.lookup]), trivial⟩
  case fin =>
    intro s L X hL hC
    have hBX : Below w.heap.size w X := hC.1
    clear hC hL
    go_wp2
    exact bodyPost_ret (v := .bool (decide (or2 (rc.cmpT e.k f.k) (cmpI A.p B.p) < 0))) (by simp [results, Try.results110, go_sem, dk.sets_get, ws, List.lookup]) rfl ⟨rfl, hBX⟩
end Go.Proofs.Ytfoajjkcocppeaa.cor

/- Two of a heap's runs change their places. -/
namespace Go.Proofs.Ytfoajjkcocppeaa.rsw
open Go.ChangeShapes Go.WideShapes Go.ChangeAt Go.RowKit Go.Proofs.Ytfoajjkcocppeaa.fl Go.Proofs.Ytfoajjkcocppeaa.ri
set_option linter.unusedVariables false

/-- one item laid at place i of the row g -/
def lay (w : World) (g i : Nat) (r : It) : World := (w.setCell ⟨g, i * 2, none⟩ (.slice (some ⟨r.b, r.o, none⟩) r.l.length r.c)).setCell ⟨g, i * 2 + 1, none⟩ (.int .i64 r.p)
def S1 (X : World) (g i : Nat) (B : It) : World := lay X g i B
def S2 (X : World) (g i j : Nat) (A B : It) : World := lay (S1 X g i B) g j A
def ST (w : World) (g i j : Nat) (A B : It) (x y : Bool) : World := if y = true then S2 w g i j A B else if x = true then S1 w g i B else w
def C (w : World) (g i j : Nat) (A B : It) (L : Nat → Bool) (W : World) : Prop := (L 13 = true → L 7 = true ∧ L 11 = true) ∧ (L 15 = true → L 13 = true) ∧ W = ST w g i j A B (L 13) (L 15)
theorem more_on (L : Nat → Bool) (i : Nat) : dn.more L i i = true := by unfold dn.more; rw [if_pos rfl]
theorem more_off (L : Nat → Bool) {i j : Nat} (h : j ≠ i) : dn.more L i j = L j := by unfold dn.more; rw [if_neg h]
section
variable {w : World} {g i j : Nat} {A B : It} {fin : Act} {o : Oper}
theorem qt {k : Nat} (hk : k ≠ 7 ∧ k ≠ 11 ∧ k ≠ 13 ∧ k ≠ 15) (v : Value) (hd : ∀ d, o.dst = some d → fin.tmps[d]? = some v) (hrun : ∀ (W : World), True → (execOp fin.eval o).run Try.prog W = .ok (.value v) W) : dn.Step Try.prog fin (C w g i j A B) k o := by
  intro L W hdp h0 hC
  refine ⟨v, hd, ?_⟩
  rw [hrun W trivial]
  obtain ⟨k7, k11, k13, k15⟩ := hk
  refine ⟨rfl, ?_⟩
  unfold C
  rw [more_off L k13.symm, more_off L k15.symm, more_off L k7.symm, more_off L k11.symm]
  exact hC
theorem ld7 (v : Value) (hd : ∀ d, o.dst = some d → fin.tmps[d]? = some v) (hrun : (execOp fin.eval o).run Try.prog w = .ok (.value v) w) : dn.Step Try.prog fin (C w g i j A B) 7 o := by
  intro L W hdp h0 hC
  refine ⟨v, hd, ?_⟩
  obtain ⟨c1, c2, c3⟩ := hC
  have n13 : L 13 = false := by
    cases h : L 13 with
    | false => rfl
    | true => have := (c1 h).1; rw [h0] at this; cases this
  have n15 : L 15 = false := by
    cases h : L 15 with
    | false => rfl
    | true => have := c2 h; rw [n13] at this; cases this
  rw [n13, n15] at c3
  have c3 : W = w := c3
  subst c3
  rw [hrun]
  refine ⟨rfl, ?_⟩
  unfold C
  rw [more_off L (show 13 ≠ 7 by decide), more_off L (show 15 ≠ 7 by decide), n13, n15]
  exact ⟨fun h => (by cases h), fun h => (by cases h), rfl⟩
theorem ld11 (v : Value) (hd : ∀ d, o.dst = some d → fin.tmps[d]? = some v) (hrun : (execOp fin.eval o).run Try.prog w = .ok (.value v) w) : dn.Step Try.prog fin (C w g i j A B) 11 o := by
  intro L W hdp h0 hC
  refine ⟨v, hd, ?_⟩
  obtain ⟨c1, c2, c3⟩ := hC
  have n13 : L 13 = false := by
    cases h : L 13 with
    | false => rfl
    | true => have := (c1 h).2; rw [h0] at this; cases this
  have n15 : L 15 = false := by
    cases h : L 15 with
    | false => rfl
    | true => have := c2 h; rw [n13] at this; cases this
  rw [n13, n15] at c3
  have c3 : W = w := c3
  subst c3
  rw [hrun]
  refine ⟨rfl, ?_⟩
  unfold C
  rw [more_off L (show 13 ≠ 11 by decide), more_off L (show 15 ≠ 11 by decide), n13, n15]
  exact ⟨fun h => (by cases h), fun h => (by cases h), rfl⟩
theorem st13 (hdst : o.dst = none) (h7 : ∃ e ∈ o.after, Region.binds .any e = true ∧ e.on = 7) (h11 : ∃ e ∈ o.after, Region.binds .any e = true ∧ e.on = 11) (hrun : (execOp fin.eval o).run Try.prog w = .ok .skip (S1 w g i B)) : dn.Step Try.prog fin (C w g i j A B) 13 o := by
  intro L W hdp h0 hC
  refine ⟨undef, (fun d hd => by rw [hdst] at hd; cases hd), ?_⟩
  obtain ⟨e7, m7, b7, o7⟩ := h7
  obtain ⟨e11, m11, b11, o11⟩ := h11
  have l7 := hdp e7 m7 b7
  have l11 := hdp e11 m11 b11
  rw [o7] at l7
  rw [o11] at l11
  obtain ⟨c1, c2, c3⟩ := hC
  have n15 : L 15 = false := by
    cases h : L 15 with
    | false => rfl
    | true => have := c2 h; rw [h0] at this; cases this
  rw [h0, n15] at c3
  have c3 : W = w := c3
  subst c3
  rw [hrun]
  refine ⟨rfl, ?_⟩
  unfold C
  rw [more_on, more_off L (show 15 ≠ 13 by decide), more_off L (show 7 ≠ 13 by decide), more_off L (show 11 ≠ 13 by decide), n15]
  exact ⟨fun _ => ⟨l7, l11⟩, fun h => (by cases h), rfl⟩
theorem st15 (hdst : o.dst = none) (h13 : ∃ e ∈ o.after, Region.binds .any e = true ∧ e.on = 13) (hrun : (execOp fin.eval o).run Try.prog (S1 w g i B) = .ok .skip (S2 w g i j A B)) : dn.Step Try.prog fin (C w g i j A B) 15 o := by
  intro L W hdp h0 hC
  refine ⟨undef, (fun d hd => by rw [hdst] at hd; cases hd), ?_⟩
  obtain ⟨e13, m13, b13, o13⟩ := h13
  have l13 := hdp e13 m13 b13
  rw [o13] at l13
  obtain ⟨c1, c2, c3⟩ := hC
  rw [h0, l13] at c3
  have c3 : W = S1 w g i B := c3
  subst c3
  rw [hrun]
  refine ⟨rfl, ?_⟩
  unfold C
  rw [more_on, more_off L (show 13 ≠ 15 by decide), more_off L (show 7 ≠ 15 by decide), more_off L (show 11 ≠ 15 by decide), l13]
  exact ⟨fun _ => c1 l13, fun _ => rfl, rfl⟩
end
def ws (g n cap i j : Nat) (A B : It) : List (Nat × Value) :=
  [(6, .slice (some ⟨g, 0, none⟩) n cap), (7, .int .i64 i), (8, .slice (some ⟨g, 0, none⟩) n cap), (9, .int .i64 j), (10, .slice (some ⟨g, 0, none⟩) n cap), (11, .int .i64 j), (12, .pointer (some ⟨g, j * 2, none⟩)), (13, .agg #[.slice (some ⟨B.b, B.o, none⟩) B.l.length B.c, .int .i64 B.p]),
   (14, .slice (some ⟨g, 0, none⟩) n cap), (15, .int .i64 i), (16, .pointer (some ⟨g, i * 2, none⟩)), (17, .agg #[.slice (some ⟨A.b, A.o, none⟩) A.l.length A.c, .int .i64 A.p]), (18, .pointer (some ⟨g, i * 2, none⟩)), (19, .pointer (some ⟨g, j * 2, none⟩))]

set_option maxRecDepth 100000 in
set_option maxHeartbeats 4000000 in
theorem swap_run (g n cap i j : Nat) (cur : Array Value) (A B : It) (w : World) (hi : i < n) (hj : j < n) (hn : n * 2 ≤ cur.size) (hb : w.heap[g]? = some (.cells cur 103 (0, 0))) (hA : cor.At w g i A) (hB : cor.At w g j B) :
    Calls Try.prog 111 #[.slice (some ⟨g, 0, none⟩) n cap, .int .i64 i, .int .i64 j] w fun r w' => r = .returned (.tuple #[]) ∧ w' = S2 w.drew g i j A B := by
  obtain ⟨X, hX⟩ : ∃ X, w.drew = X := ⟨_, rfl⟩
  have a0 : X.cell? ⟨g, i * 2, none⟩ = some (.slice (some ⟨A.b, A.o, none⟩) A.l.length A.c) := by rw [← hX]; exact hA.c0
  have a1 : X.cell? ⟨g, i * 2 + 1, none⟩ = some (.int .i64 A.p) := by rw [← hX]; exact hA.c1
  have b0 : X.cell? ⟨g, j * 2, none⟩ = some (.slice (some ⟨B.b, B.o, none⟩) B.l.length B.c) := by rw [← hX]; exact hB.c0
  have b1 : X.cell? ⟨g, j * 2 + 1, none⟩ = some (.int .i64 B.p) := by rw [← hX]; exact hB.c1
  have hbd : X.heap[g]? = some (.cells cur 103 (0, 0)) := by rw [← hX]; exact hb
  have af : ∀ k, X.frozen? ⟨g, k, none⟩ = false := fun k => bfree hbd k
  obtain ⟨Y, hY⟩ : ∃ Y, S1 X g i B = Y := ⟨_, rfl⟩
  have hb1 : (S1 X g i B).heap[g]? = some (.cells _ 103 (0, 0)) := bset (bset hbd _ _) _ _
  obtain ⟨u0, d0⟩ : ∃ u, (S1 X g i B).cell? ⟨g, j * 2, none⟩ = some u := ⟨_, bcell hb1 (Array.getElem?_eq_getElem (by simp; omega))⟩
  obtain ⟨u1, d1⟩ : ∃ u, (S1 X g i B).cell? ⟨g, j * 2 + 1, none⟩ = some u := ⟨_, bcell hb1 (Array.getElem?_eq_getElem (by simp; omega))⟩
  have df : ∀ k, (S1 X g i B).frozen? ⟨g, k, none⟩ = false := fun k => bfree hb1 k
  rw [hY] at d0 d1 df
  have hS2 : S2 X g i j A B = lay Y g j A := by rw [← hY]; rfl
  have an : (i : Int) < (n : Int) := by omega
  have bn : (j : Int) < (n : Int) := by omega
  clear hA hB hb hbd hb1 hn
  rw [hX]
  go_enter Try.func111, Try.ntmps111
  refine dk.region_sets (ws g n cap i j A B) [6, 7, 8, 9, 10, 11, 12, 13, 14, 15, 16, 17, 18, 19] (C X g i j A B) (by kernel_rfl) (by kernel_rfl) rfl (by kernel_rfl) ⟨fun h => (by cases h), fun h => (by cases h), hX⟩ ?each ?fin
  case each =>
    refine ⟨qt (by decide) (.slice (some ⟨g, 0, none⟩) n cap) (by rintro _ ⟨⟩; exact dk.sets_on _ (by simp) _ rfl) (fun W h => by simp [execOp, go_sem, Act.eval, dk.sets_get, ws, List.lookup]), ?_⟩
    refine ⟨qt (by decide) (.int .i64 i) (by rintro _ ⟨⟩; exact dk.sets_on _ (by simp) _ rfl) (fun W h => by simp [execOp, go_sem, Act.eval, dk.sets_get, ws, List.lookup]), ?_⟩
    refine ⟨qt (by decide) (.slice (some ⟨g, 0, none⟩) n cap) (by rintro _ ⟨⟩; exact dk.sets_on _ (by simp) _ rfl) (fun W h => by simp [execOp, go_sem, Act.eval, dk.sets_get, ws, List.lookup]), ?_⟩
    refine ⟨qt (by decide) (.int .i64 j) (by rintro _ ⟨⟩; exact dk.sets_on _ (by simp) _ rfl) (fun W h => by simp [execOp, go_sem, Act.eval, dk.sets_get, ws, List.lookup]), ?_⟩
    refine ⟨qt (by decide) (.slice (some ⟨g, 0, none⟩) n cap) (by rintro _ ⟨⟩; exact dk.sets_on _ (by simp) _ rfl) (fun W h => by simp [execOp, go_sem, Act.eval, dk.sets_get, ws, List.lookup]), ?_⟩
    refine ⟨qt (by decide) (.int .i64 j) (by rintro _ ⟨⟩; exact dk.sets_on _ (by simp) _ rfl) (fun W h => by simp [execOp, go_sem, Act.eval, dk.sets_get, ws, List.lookup]), ?_⟩
    refine ⟨qt (by decide) (.pointer (some ⟨g, j * 2, none⟩)) (by rintro _ ⟨⟩; exact dk.sets_on _ (by simp) _ rfl) (fun W h => by simp [execOp, go_sem, Act.eval, dk.sets_get, ws, List.lookup, bn]), ?_⟩
    refine ⟨ld7 (.agg #[.slice (some ⟨B.b, B.o, none⟩) B.l.length B.c, .int .i64 B.p]) (by rintro _ ⟨⟩; exact dk.sets_on _ (by simp) _ rfl) (by simp [execOp, go_sem, Act.eval, dk.sets_get, ws, List.lookup, b0, b1]), ?_⟩
    refine ⟨qt (by decide) (.slice (some ⟨g, 0, none⟩) n cap) (by rintro _ ⟨⟩; exact dk.sets_on _ (by simp) _ rfl) (fun W h => by simp [execOp, go_sem, Act.eval, dk.sets_get, ws, List.lookup]), ?_⟩
    refine ⟨qt (by decide) (.int .i64 i) (by rintro _ ⟨⟩; exact dk.sets_on _ (by simp) _ rfl) (fun W h => by simp [execOp, go_sem, Act.eval, dk.sets_get, ws, List.lookup]), ?_⟩
    refine ⟨qt (by decide) (.pointer (some ⟨g, i * 2, none⟩)) (by rintro _ ⟨⟩; exact dk.sets_on _ (by simp) _ rfl) (fun W h => by simp [execOp, go_sem, Act.eval, dk.sets_get, ws, List.lookup, an]), ?_⟩
    refine ⟨ld11 (.agg #[.slice (some ⟨A.b, A.o, none⟩) A.l.length A.c, .int .i64 A.p]) (by rintro _ ⟨⟩; exact dk.sets_on _ (by simp) _ rfl) (by simp [execOp, go_sem, Act.eval, dk.sets_get, ws, List.lookup, a0, a1]), ?_⟩
    refine ⟨qt (by decide) (.pointer (some ⟨g, i * 2, none⟩)) (by rintro _ ⟨⟩; exact dk.sets_on _ (by simp) _ rfl) (fun W h => by simp [execOp, go_sem, Act.eval, dk.sets_get, ws, List.lookup, an]), ?_⟩
    refine ⟨st13 rfl ⟨⟨7, .data⟩, by simp, rfl, rfl⟩ ⟨⟨11, .phase⟩, by simp, rfl, rfl⟩ (by simp [execOp, go_sem, Act.eval, dk.sets_get, ws, List.lookup, a0, a1, af, S1, lay]), ?_⟩
    refine ⟨qt (by decide) (.pointer (some ⟨g, j * 2, none⟩)) (by rintro _ ⟨⟩; exact dk.sets_on _ (by simp) _ rfl) (fun W h => by simp [execOp, go_sem, Act.eval, dk.sets_get, ws, List.lookup, bn]), ?_⟩
    exact ⟨st15 rfl ⟨⟨13, .chain⟩, by simp, rfl, rfl⟩ (by rw [hS2, hY]; simp [execOp, go_sem, Act.eval, dk.sets_get, ws, List.lookup, d0, d1, df, lay]), trivial⟩
  case fin =>
    intro L W hL hC
    obtain ⟨_, _, c3⟩ := hC
    rw [hL 13 (by decide), hL 15 (by decide)] at c3
    have c3 : W = S2 X g i j A B := c3
    subst c3
    clear hL
    go_end0
    exact ⟨rfl, rfl⟩
end Go.Proofs.Ytfoajjkcocppeaa.rsw

/- A heap of runs in memory: its box, its row, its methods, two of its runs changing places. -/
namespace Go.Proofs.Ytfoajjkcocppeaa.rst
open Go.ChangeShapes Go.WideShapes Go.ChangeAt Go.RowKit Go.Proofs.Ytfoajjkcocppeaa.fl Go.Proofs.Ytfoajjkcocppeaa.ri
set_option linter.unusedVariables false

/-- the row g holds the runs L, with room for cap -/
def HR (w : World) (g cap : Nat) (L : List It) : Prop :=
  ∃ cur, w.heap[g]? = some (.cells cur 103 (0, 0)) ∧ cur.size = cap * 2 ∧ L.length ≤ cap ∧ cap ≤ maxLen ∧ ∀ (i : Nat) (r : It), L[i]? = some r → ∀ (j : Nat) (v : Value), (cI r)[j]? = some v → cur[i * 2 + j]? = some v
/-- a heap's box hb and its row g, beside the world W0 in which its runs lie -/
structure SG (W0 : World) (hb g cap : Nat) (L : List It) (w : World) : Prop where
  bel : Below W0.heap.size W0 w
  hbB : W0.heap.size ≤ hb
  gB : W0.heap.size ≤ g
  ne : g ≠ hb
  box : w.heap[hb]? = some (.cells #[.slice (some ⟨g, 0, none⟩) L.length cap] 99 (0, 0))
  row : HR w g cap L
  fits : ∀ r ∈ L, Fits W0 W0.heap.size r
/-- nothing but the block g is turned; new memory besides -/
structure Kp (g : Nat) (w w' : World) : Prop where
  os : w'.os = w.os
  tape : w'.tape = w.tape
  output : w'.output = w.output
  size : w.heap.size ≤ w'.heap.size
  block : ∀ k, k < w.heap.size → k ≠ g → w'.heap[k]? = w.heap[k]?
theorem Kp.refl (g : Nat) (w : World) : Kp g w w := ⟨rfl, rfl, rfl, Nat.le_refl _, fun _ _ _ => rfl⟩
theorem Kp.trans {g : Nat} {a b c : World} (h1 : Kp g a b) (h2 : Kp g b c) : Kp g a c :=
  ⟨h2.os.trans h1.os, h2.tape.trans h1.tape, h2.output.trans h1.output, Nat.le_trans h1.size h2.size, fun k hk hne => (h2.block k (Nat.lt_of_lt_of_le hk h1.size) hne).trans (h1.block k hk hne)⟩
theorem Kp.of {g : Nat} {a b : World} (h : Below a.heap.size a b) : Kp g a b := ⟨h.os, h.tape, h.output, h.size, fun k hk _ => h.block k hk⟩

theorem load_heap (a : Addr) (v : Value) (w : World) (h : w.cell? a = some v) : (loadVar 99 a).run Try.prog w = .ok v w := by
  simp [loadVar, isAgg, underlying, Try.underlying99, h, Result.andThen]
theorem chk (nm : String) (a : Addr) (w : World) : (Builtin.ssaWrapNilChk_ #[101] 101 #[.pointer (some a), strVal "", strVal nm]).run Try.prog w = .ok (.pointer (some a)) w := rfl
theorem recv (nm : String) (a : Addr) (v : Value) (w : World) (h : w.cell? a = some v) : (receiverAt 101 (.val (.pointer (some a))) false (some nm)).run Try.prog w = .ok v w := by
  have h1 := load_heap a v w h
  have h2 := chk nm a w
  simp [receiverAt, underlying, Try.underlying101, Place.get, asAddr, Result.andThen, h1, h2]
theorem meth_of (n : Nat) (nm : String) (f : FuncId) (a : Addr) (v : Value) (w : World) (hf : (Try.prog.info? 101).map (fun i => (i.methods.find? (·.name == nm)).map (fun m => (m.path.toList, m.func, m.path.isEmpty))) = some (some ([], some (f, false), true))) (h : w.cell? a = some v) :
    (method (n + 1) 101 (.pointer (some a)) nm).run Try.prog w = .ok (f, v) w := by
  obtain ⟨I, hI, h1⟩ := Option.map_eq_some_iff.1 hf
  obtain ⟨m, hm, h2⟩ := Option.map_eq_some_iff.1 h1
  simp only [Prod.mk.injEq] at h2
  obtain ⟨p1, p2, p3⟩ := h2
  have p4 : m.path = #[] := by simpa using p3
  simp [method, typeInfo, hI, hm, p1, p2, follow, Result.andThen]
  rw [if_pos p4, recv _ a v w h]
theorem meth_less (a : Addr) (v : Value) (w : World) (h : w.cell? a = some v) : (method 246 101 (.pointer (some a)) "Less").run Try.prog w = .ok (110, v) w := meth_of 245 "Less" _ a v w (by kernel_rfl) h
theorem meth_swap (a : Addr) (v : Value) (w : World) (h : w.cell? a = some v) : (method 246 101 (.pointer (some a)) "Swap").run Try.prog w = .ok (111, v) w := meth_of 245 "Swap" _ a v w (by kernel_rfl) h
theorem meth_len (a : Addr) (v : Value) (w : World) (h : w.cell? a = some v) : (method 246 101 (.pointer (some a)) "Len").run Try.prog w = .ok (76, v) w := meth_of 245 "Len" _ a v w (by kernel_rfl) h
theorem meth_pop (a : Addr) (w : World) : (method 246 101 (.pointer (some a)) "Pop").run Try.prog w = .ok (115, .pointer (some a)) w := by kernel_rfl
theorem meth_push (a : Addr) (w : World) : (method 246 101 (.pointer (some a)) "Push").run Try.prog w = .ok (116, .pointer (some a)) w := by kernel_rfl

theorem HR.at {w : World} {g cap i : Nat} {L : List It} {r : It} (h : HR w g cap L) (hi : L[i]? = some r) : cor.At w g i r := by
  obtain ⟨cur, h1, _, _, _, h5⟩ := h
  exact ⟨(Array.getElem?_eq_some_iff.1 h1).1, by have := bcell (j := i * 2) h1 (h5 i r hi 0 _ rfl); exact this, bcell (j := i * 2 + 1) h1 (h5 i r hi 1 _ rfl)⟩
theorem HR.below {w w' : World} {g cap : Nat} {L : List It} (h : HR w g cap L) (hb : w'.heap[g]? = w.heap[g]?) : HR w' g cap L := by
  obtain ⟨cur, h1, h2⟩ := h
  exact ⟨cur, hb.trans h1, h2⟩
theorem SG.on {W0 : World} {hb g cap : Nat} {L : List It} {w w' : World} (h : SG W0 hb g cap L w) (hb' : Below w.heap.size w w') : SG W0 hb g cap L w' := by
  obtain ⟨cur, h1, h2⟩ := h.row
  exact ⟨h.bel.trans (hb'.mono h.bel.size), h.hbB, h.gB, h.ne, (hb'.block hb (Array.getElem?_eq_some_iff.1 h.box).1).trans h.box, ⟨cur, (hb'.block g (Array.getElem?_eq_some_iff.1 h1).1).trans h1, h2⟩, h.fits⟩
theorem SG.fit {W0 : World} {hb g cap : Nat} {L : List It} {w : World} (h : SG W0 hb g cap L w) {i : Nat} {r : It} (hi : L[i]? = some r) : Fits w w.heap.size r := by
  have f := (h.fits r (List.mem_of_getElem? hi)).below h.bel
  exact ⟨Nat.lt_of_lt_of_le f.lt h.bel.size, f.ne, f.len, f.pl, f.cells⟩
/-- the world behind a swap -/
theorem swap_heap {X : World} {g i j : Nat} {A B : It} {cur : Array Value} (hb : X.heap[g]? = some (.cells cur 103 (0, 0))) : (rsw.S2 X g i j A B).heap[g]? = some (.cells ((((cur.setIfInBounds (i * 2) (.slice (some ⟨B.b, B.o, none⟩) B.l.length B.c)).setIfInBounds (i * 2 + 1) (.int .i64 B.p)).setIfInBounds (j * 2) (.slice (some ⟨A.b, A.o, none⟩) A.l.length A.c)).setIfInBounds (j * 2 + 1) (.int .i64 A.p)) 103 (0, 0)) :=
  bset (bset (bset (bset hb _ _) _ _) _ _) _ _
theorem SG.swap {W0 : World} {hb g cap i j : Nat} {L : List It} {w : World} {A B : It} (h : SG W0 hb g cap L w) (hi : L[i]? = some A) (hj : L[j]? = some B) : SG W0 hb g cap (hp.sw L i j) (rsw.S2 w.drew g i j A B) ∧ Kp g w (rsw.S2 w.drew g i j A B) := by
  obtain ⟨cur, h1, h2, h3, h4, h5⟩ := h.row
  have hil := (List.getElem?_eq_some_iff.1 hi).1
  have hjl := (List.getElem?_eq_some_iff.1 hj).1
  have h1d : w.drew.heap[g]? = some (.cells cur 103 (0, 0)) := h1
  have hk : Kp g w (rsw.S2 w.drew g i j A B) := by
    refine ⟨rfl, rfl, rfl, by simp [rsw.S2, rsw.S1, rsw.lay], fun k hk hne => ?_⟩
    unfold rsw.S2 rsw.S1 rsw.lay
    rw [Below.heap_setCell _ _ _ k hne, Below.heap_setCell _ _ _ k hne, Below.heap_setCell _ _ _ k hne, Below.heap_setCell _ _ _ k hne]
    rfl
  have hgB := h.gB
  have hsz := h.bel.size
  have hbl := (Array.getElem?_eq_some_iff.1 h.box).1
  refine ⟨⟨⟨hk.os.trans h.bel.os, hk.tape.trans h.bel.tape, hk.output.trans h.bel.output, Nat.le_trans hsz hk.size, fun k hkk => (hk.block k (by omega) (by omega)).trans (h.bel.block k hkk)⟩, h.hbB, h.gB, h.ne, ?_, ⟨_, swap_heap h1d, by simpa using h2, by rw [hp.sw_len]; exact h3, h4, ?_⟩, fun r hr => h.fits r ((hp.sw_perm hi hj).mem_iff.1 hr)⟩, hk⟩
  · rw [hp.sw_len]
    exact (hk.block hb hbl (Ne.symm h.ne)).trans h.box
  · intro k r hk' q v hv
    rw [hp.sw_at hi hj] at hk'
    have hq : q < 2 := by have := (List.getElem?_eq_some_iff.1 hv).1; rwa [cI_len] at this
    have hkl : k < L.length := by
      rcases Nat.lt_or_ge k L.length with h' | h'
      · exact h'
      · rw [if_neg (by omega), if_neg (by omega), List.getElem?_eq_none h'] at hk'
        cases hk'
    simp only [Array.getElem?_setIfInBounds, Array.size_setIfInBounds]
    by_cases e1 : k = j
    · subst e1
      rw [if_pos rfl] at hk'
      cases hk'
      have : q = 0 ∨ q = 1 := by omega
      rcases this with rfl | rfl
      · simp [cI] at hv
        rw [if_neg (by omega), if_pos (by omega), if_pos (by omega), hv]
      · simp [cI] at hv
        rw [if_pos (by omega), if_pos (by omega), hv]
    · rw [if_neg e1] at hk'
      rw [if_neg (by omega), if_neg (by omega)]
      by_cases e2 : k = i
      · subst e2
        rw [if_pos rfl] at hk'
        cases hk'
        have : q = 0 ∨ q = 1 := by omega
        rcases this with rfl | rfl
        · simp [cI] at hv
          rw [if_neg (by omega), if_pos (by omega), if_pos (by omega), hv]
        · simp [cI] at hv
          rw [if_pos (by omega), if_pos (by omega), hv]
      · rw [if_neg e2] at hk'
        rw [if_neg (by omega), if_neg (by omega)]
        exact h5 k r hk' q v hv

end Go.Proofs.Ytfoajjkcocppeaa.rst

/- container/heap's up and down over the runs: the same runs, in a heap's order. -/
namespace Go.Proofs.Ytfoajjkcocppeaa.rup
open Go.ChangeShapes Go.WideShapes Go.ChangeAt Go.RowKit Go.Proofs.Ytfoajjkcocppeaa.fl Go.Proofs.Ytfoajjkcocppeaa.ri Go.Proofs.Ytfoajjkcocppeaa.rst
set_option linter.unusedVariables false

theorem half {k : Nat} (h : k ≠ 0) : ((k : Int) - 1).tdiv 2 = ((hp.P k : Nat) : Int) ∧ ((k : Int) - 1) / 2 = ((hp.P k : Nat) : Int) := by
  obtain ⟨m, rfl⟩ : ∃ m, k = m + 1 := ⟨k - 1, by omega⟩
  have e : ((m + 1 : Nat) : Int) - 1 = (m : Int) := by omega
  have e2 : hp.P (m + 1) = m / 2 := rfl
  rw [e, e2]
  exact ⟨rfl, by omega⟩

set_option maxRecDepth 100000 in
set_option maxHeartbeats 1000000 in
theorem up_run (W0 : World) (hb g cap j : Nat) (L : List It) (w : World) (hS : SG W0 hb g cap L w) (hj : j < L.length) (hl : L.length ≤ 100) (hU : hp.UpI less L j L.length) :
    Calls Try.prog 87 #[.iface 101 (.pointer (some ⟨hb, 0, none⟩)), .int .i64 j] w fun e w' => e = .returned (.tuple #[]) ∧ ∃ M : List It, M.Perm L ∧ hp.Heap less M M.length ∧ SG W0 hb g cap M w' ∧ Kp g w w' := by
  go_enter Try.func87, Try.ntmps87
  go_wp2
  go_loopw [1, 4] (fun x _ wr => ∃ (k : Nat) (M : List It), x = .int .i64 k ∧ k < M.length ∧ Hid (M.length = L.length) ∧ Hid (M.Perm L) ∧ Hid (hp.UpI less M k M.length) ∧ SG W0 hb g cap M wr ∧ Kp g w wr) (fun x _ _ => (intOf x).toNat)
  case atStart => exact ⟨j, L, rfl, hj, rfl, List.Perm.refl _, hU, hS, Kp.refl _ _⟩
  case round =>
    obtain ⟨k, M, rfl, hkm, hml, hperm, hup, hst, hkp⟩ := hrel
    have HST : Hid (SG W0 hb g cap M wr) := hst
    have HKP : Hid (Kp g w wr) := hkp
    clear hst hkp
    by_cases hk0 : k = 0
    · subst hk0
      have hfin : Hid (hp.Heap less M M.length) := hp.up_end hup.out (fun h => absurd h (by omega))
      go_wp2
      go_end0
      exact ⟨rfl, M, hperm.out, hfin.out, HST.out, HKP.out⟩
    · obtain ⟨hd, hd2⟩ := half hk0
      have hk100 : k ≤ 100 := by have := hml.out; omega
      have hpk : hp.P k < k := hp.P_lt (by omega)
      have gk : M[k]? = some M[k] := List.getElem?_eq_getElem hkm
      have gp : M[hp.P k]? = some (M[hp.P k]'(by omega)) := List.getElem?_eq_getElem _
      obtain ⟨A, hA⟩ : ∃ A, M[k] = A := ⟨_, rfl⟩
      obtain ⟨B, hB⟩ : ∃ B, M[hp.P k]'(by omega) = B := ⟨_, rfl⟩
      rw [hA] at gk
      rw [hB] at gp
      have HA : Hid (M[k]? = some A) := gk
      have HB : Hid (M[hp.P k]? = some B) := gp
      have HU2 : Hid (less A B = true → hp.UpI less (hp.sw M (hp.P k) k) (hp.P k) M.length) := fun h => hp.up_step ord (Nat.le_refl _) (by omega) hkm hup.out gp gk h
      have HU3 : Hid (less A B = false → hp.Heap less M M.length) := fun h => hp.up_end hup.out (fun _ a b ha hb => by rw [gp] at ha; rw [gk] at hb; cases ha; cases hb; exact h)
      obtain ⟨p, hp'⟩ : ∃ p, hp.P k = p := ⟨_, rfl⟩
      rw [hp'] at hd hd2 hpk HB HU2
      clear gk gp hA hB hp' hup
      have hne : ¬ ((p : Int) = (k : Int)) := by omega
      have hbx : wr.cell? ⟨hb, 0, none⟩ = some (.slice (some ⟨g, 0, none⟩) M.length cap) := bcell HST.out.box rfl
      have hm := meth_less ⟨hb, 0, none⟩ _ wr hbx
      have hless := cor.less_run g M.length cap k p A B wr hkm (by omega) (HST.out.row.at HA.out) (HST.out.row.at HB.out) (HST.out.fit HA.out) (HST.out.fit HB.out)
      obtain ⟨bb, hbb⟩ : ∃ bb, less A B = bb := ⟨_, rfl⟩
      rw [hbb] at hless HU2 HU3
      clear hbb
      go_wp2_with (go_at_call 110; fail)
      refine hless.mono ?_
      rintro e w1 ⟨rfl, hb1⟩
      have HS1 : Hid (SG W0 hb g cap M w1) := HST.out.on hb1
      have HK1 : Hid (Kp g w w1) := HKP.out.trans (Kp.of hb1)
      clear hless hm hbx hb1 HST HKP
      cases bb with
      | false =>
        go_wp2
        go_end0
        exact ⟨rfl, M, hperm.out, HU3.out (by trivial), HS1.out, HK1.out⟩
      | true =>
        have hbx1 : w1.cell? ⟨hb, 0, none⟩ = some (.slice (some ⟨g, 0, none⟩) M.length cap) := bcell HS1.out.box rfl
        have hm1 := meth_swap ⟨hb, 0, none⟩ _ w1 hbx1
        obtain ⟨cur, c1, c2, c3, _⟩ := HS1.out.row
        have hsw := rsw.swap_run g M.length cap p k cur B A w1 (by omega) hkm (by omega) c1 (HS1.out.row.at HB.out) (HS1.out.row.at HA.out)
        obtain ⟨hs2, hk2⟩ := HS1.out.swap HB.out HA.out
        have HS2 : Hid (SG W0 hb g cap (hp.sw M p k) (rsw.S2 w1.drew g p k B A)) := hs2
        have HK2 : Hid (Kp g w (rsw.S2 w1.drew g p k B A)) := HK1.out.trans hk2
        have HP2 : Hid ((hp.sw M p k).Perm L) := (hp.sw_perm HB.out HA.out).trans hperm.out
        have HLN : Hid ((hp.sw M p k).length = M.length) := hp.sw_len
        have HU4 : Hid (hp.UpI less (hp.sw M p k) p (hp.sw M p k).length) := by unfold Hid; rw [HLN.out]; exact HU2.out rfl
        obtain ⟨X, hX⟩ : ∃ X, rsw.S2 w1.drew g p k B A = X := ⟨_, rfl⟩
        rw [hX] at hsw HS2 HK2
        clear hs2 hk2 c1 c2 c3 hX
        go_wp2_with (go_at_call 111; fail)
        refine hsw.mono ?_
        rintro e w2 ⟨rfl, rfl⟩
        clear hsw hm1 hbx1
        go_wp2
        go_roundw
        case rel => exact ⟨p, hp.sw M p k, rfl, by rw [HLN.out]; omega, by unfold Hid; rw [HLN.out]; exact hml.out, HP2, HU4, HS2.out, HK2.out⟩
        case measure => simp [intOf]; omega
end Go.Proofs.Ytfoajjkcocppeaa.rup

/- container/heap's down over the runs: the same runs, in a heap's order. -/
namespace Go.Proofs.Ytfoajjkcocppeaa.rdn
open Go.ChangeShapes Go.WideShapes Go.ChangeAt Go.RowKit Go.Proofs.Ytfoajjkcocppeaa.fl Go.Proofs.Ytfoajjkcocppeaa.ri Go.Proofs.Ytfoajjkcocppeaa.rst
set_option linter.unusedVariables false

/-- what stands at the head of a round -/
structure Rd (W0 : World) (hb g cap n : Nat) (L : List It) (w : World) (k : Nat) (M : List It) (wr : World) : Prop where
  kn : k < n ∨ k = 0
  len : M.length = L.length
  perm : M.Perm L
  dn : hp.DnI less M k n
  rest : ∀ q, n ≤ q → M[q]? = L[q]?
  st : SG W0 hb g cap M wr
  kp : Kp g w wr
theorem Rd.on {W0 : World} {hb g cap n k : Nat} {L M : List It} {w wr w1 : World} (h : Rd W0 hb g cap n L w k M wr) (hb1 : Below wr.heap.size wr w1) : Rd W0 hb g cap n L w k M w1 := ⟨h.kn, h.len, h.perm, h.dn, h.rest, h.st.on hb1, h.kp.trans (Kp.of hb1)⟩
theorem Rd.swap {W0 : World} {hb g cap n k j : Nat} {L M : List It} {w wr : World} {A J : It} (h : Rd W0 hb g cap n L w k M wr) (hA : M[k]? = some A) (hJ : M[j]? = some J) (hkn : k < n) (hjn : j < n) (hd : hp.DnI less (hp.sw M k j) j n) : Rd W0 hb g cap n L w j (hp.sw M k j) (rsw.S2 wr.drew g k j A J) := by
  obtain ⟨h1, h2⟩ := h.st.swap hA hJ
  exact ⟨.inl hjn, hp.sw_len.trans h.len, (hp.sw_perm hA hJ).trans h.perm, hd, fun q hq => by rw [hp.sw_else hA hJ (by omega) (by omega)]; exact h.rest q hq, h1, h.kp.trans h2⟩
/-- what is left when it is done -/
def Fin (W0 : World) (hb g cap n : Nat) (L : List It) (w w' : World) : Prop := ∃ M : List It, M.Perm L ∧ hp.Heap less M n ∧ (∀ q, n ≤ q → M[q]? = L[q]?) ∧ SG W0 hb g cap M w' ∧ Kp g w w'
theorem Rd.fin {W0 : World} {hb g cap n k : Nat} {L M : List It} {w wr : World} (h : Rd W0 hb g cap n L w k M wr) (hh : hp.Heap less M n) : Fin W0 hb g cap n L w wr := ⟨M, h.perm, hh, h.rest, h.st, h.kp⟩
/-- Less, asked through the interface -/
theorem ask {W0 : World} {hb g cap n k : Nat} {L M : List It} {w wr : World} (h : Rd W0 hb g cap n L w k M wr) {i j : Nat} {A B : It} (hi : M[i]? = some A) (hj : M[j]? = some B) :
    Calls Try.prog 110 #[.slice (some ⟨g, 0, none⟩) M.length cap, .int .i64 i, .int .i64 j] wr fun r w' => r = .returned (.bool (less A B)) ∧ Below wr.heap.size wr w' :=
  cor.less_run g M.length cap i j A B wr (List.getElem?_eq_some_iff.1 hi).1 (List.getElem?_eq_some_iff.1 hj).1 (h.st.row.at hi) (h.st.row.at hj) (h.st.fit hi) (h.st.fit hj)
theorem turn {W0 : World} {hb g cap n k : Nat} {L M : List It} {w wr : World} (h : Rd W0 hb g cap n L w k M wr) {i j : Nat} {A B : It} (hi : M[i]? = some A) (hj : M[j]? = some B) :
    Calls Try.prog 111 #[.slice (some ⟨g, 0, none⟩) M.length cap, .int .i64 i, .int .i64 j] wr fun r w' => r = .returned (.tuple #[]) ∧ w' = rsw.S2 wr.drew g i j A B := by
  obtain ⟨cur, c1, c2, c3, _⟩ := h.st.row
  exact rsw.swap_run g M.length cap i j cur A B wr (List.getElem?_eq_some_iff.1 hi).1 (List.getElem?_eq_some_iff.1 hj).1 (by omega) c1 (h.st.row.at hi) (h.st.row.at hj)
theorem getM {M : List It} {i : Nat} (h : i < M.length) : ∃ A, M[i]? = some A := ⟨_, List.getElem?_eq_getElem h⟩

set_option maxRecDepth 100000 in
set_option maxHeartbeats 2000000 in
theorem down_run (W0 : World) (hb g cap i n : Nat) (L : List It) (w : World) (hS : SG W0 hb g cap L w) (hin : i < n ∨ i = 0) (hnl : n ≤ L.length) (hl : L.length ≤ 100) (hD : hp.DnI less L i n) :
    Calls Try.prog 92 #[.iface 101 (.pointer (some ⟨hb, 0, none⟩)), .int .i64 i, .int .i64 n] w fun e w' => (∃ b : Bool, e = .returned (.bool b)) ∧ Fin W0 hb g cap n L w w' := by
  have HR0 : Hid (Rd W0 hb g cap n L w i L w) := ⟨hin, rfl, List.Perm.refl _, hD, fun _ _ => rfl, hS, Kp.refl _ _⟩
  have hn100 : n ≤ 100 := by omega
  have HNL : Hid (n ≤ L.length) := hnl
  clear hS hD hnl hl
  go_enter Try.func92, Try.ntmps92
  go_wp2
  go_loopw [7, 8, 9, 10] (fun x _ _ _ wr => ∃ (k : Nat) (M : List It), x = .int .i64 k ∧ k ≤ 100 ∧ Hid (Rd W0 hb g cap n L w k M wr)) (fun x _ _ _ _ => n - (intOf x).toNat)
  case atStart => exact ⟨i, L, rfl, by omega, HR0⟩
  case round =>
    obtain ⟨k, M, rfl, hk100, hrd⟩ := hrel
    by_cases h1 : 2 * k + 1 < n
    case neg =>
      have hf : Hid (Fin W0 hb g cap n L w wr) := hrd.out.fin (hp.down_end hrd.out.dn (hp.none_child h1))
      have c1 : (n : Int) ≤ 2 * (k : Int) + 1 := by omega
      clear h1
      go_wp2
      go_ret
      exact ⟨⟨_, rfl⟩, hf.out⟩
    case pos =>
      have hML : Hid (n ≤ M.length) := by unfold Hid; rw [hrd.out.len]; exact HNL.out
      obtain ⟨A, gA⟩ := getM (M := M) (i := k) (by have := hML.out; omega)
      have HA : Hid (M[k]? = some A) := gA
      obtain ⟨J1, g1⟩ := getM (M := M) (i := 2 * k + 1) (by have := hML.out; omega)
      have H1 : Hid (M[2 * k + 1]? = some J1) := g1
      clear gA g1
      have c1 : ¬ (n : Int) ≤ 2 * (k : Int) + 1 := by omega
      have c2 : ¬ 2 * (k : Int) + 1 < 0 := by omega
      have hbx : wr.cell? ⟨hb, 0, none⟩ = some (.slice (some ⟨g, 0, none⟩) M.length cap) := bcell hrd.out.st.box rfl
      have hm := meth_less ⟨hb, 0, none⟩ _ wr hbx
      by_cases h2 : 2 * k + 2 < n
      case pos =>
        obtain ⟨J2, g2⟩ := getM (M := M) (i := 2 * k + 2) (by have := hML.out; omega)
        have H2 : Hid (M[2 * k + 2]? = some J2) := g2
        clear g2
        have c3 : 2 * (k : Int) + 1 + 1 < (n : Int) := by omega
        have hask := ask hrd.out H2.out H1.out
        have e2 : ((2 * k + 2 : Nat) : Int) = 2 * (k : Int) + 1 + 1 := by omega
        have e1 : ((2 * k + 1 : Nat) : Int) = 2 * (k : Int) + 1 := by omega
        rw [e2, e1] at hask
        have HL2 : Hid (less J2 J1 = true → ∀ c, 0 < c → c < n → hp.P c = k → hp.Le less M (2 * k + 2) c) := fun h => hp.least_two ord H1.out H2.out h
        have HL1 : Hid (less J2 J1 = false → ∀ c, 0 < c → c < n → hp.P c = k → hp.Le less M (2 * k + 1) c) := fun h => hp.least_one ord H1.out (fun _ y hy => by rw [H2.out] at hy; cases hy; exact h)
        obtain ⟨b1, hb1⟩ : ∃ b, less J2 J1 = b := ⟨_, rfl⟩
        rw [hb1] at hask HL1 HL2
        clear hb1
        go_wp2_with (go_at_call 110; fail)
        refine hask.mono ?_
        rintro e w1 ⟨rfl, hbe1⟩
        have HR1 : Hid (Rd W0 hb g cap n L w k M w1) := hrd.out.on hbe1
        clear hask hm hbx hbe1 hrd
        cases b1 with
        | false =>
          have HLE : Hid (∀ c, 0 < c → c < n → hp.P c = k → hp.Le less M (2 * k + 1) c) := HL1.out rfl
          clear HL1 HL2 H2
          have eJ : ((2 * k + 1 : Nat) : Int) = 2 * (k : Int) + 1 := by omega
          have hbx1 : w1.cell? ⟨hb, 0, none⟩ = some (.slice (some ⟨g, 0, none⟩) M.length cap) := bcell HR1.out.st.box rfl
          have hm1 := meth_less ⟨hb, 0, none⟩ _ w1 hbx1
          have hask1 := ask HR1.out H1.out HA.out
          rw [eJ] at hask1
          have HD2 : Hid (less J1 A = true → hp.DnI less (hp.sw M k (2 * k + 1)) (2 * k + 1) n) := fun h => hp.down_step ord HA.out H1.out (by omega) (by omega) (hp.P_one k) HR1.out.dn h HLE.out
          have HD3 : Hid (less J1 A = false → hp.Heap less M n) := fun h => hp.down_end HR1.out.dn (hp.least_end ord H1.out HA.out h HLE.out)
          obtain ⟨b2, hb2⟩ : ∃ b, less J1 A = b := ⟨_, rfl⟩
          rw [hb2] at hask1 HD2 HD3
          clear hb2 HLE
          go_wp2_with (go_at_call 110; fail)
          refine hask1.mono ?_
          rintro e w2 ⟨rfl, hbe2⟩
          have HR2 : Hid (Rd W0 hb g cap n L w k M w2) := HR1.out.on hbe2
          clear hask1 hm1 hbx1 hbe2
          cases b2 with
          | false =>
            have hf : Hid (Fin W0 hb g cap n L w w2) := HR2.out.fin (HD3.out rfl)
            clear HD2 HD3
            go_wp2
            go_ret
            exact ⟨⟨_, rfl⟩, hf.out⟩
          | true =>
            have hbx2 : w2.cell? ⟨hb, 0, none⟩ = some (.slice (some ⟨g, 0, none⟩) M.length cap) := bcell HR2.out.st.box rfl
            have hm2 := meth_swap ⟨hb, 0, none⟩ _ w2 hbx2
            have hsw := turn HR2.out HA.out H1.out
            have HR3 : Hid (Rd W0 hb g cap n L w (2 * k + 1) (hp.sw M k (2 * k + 1)) (rsw.S2 w2.drew g k (2 * k + 1) A J1)) := HR2.out.swap HA.out H1.out (by omega) (by omega) (HD2.out rfl)
            obtain ⟨X, hX⟩ : ∃ X, rsw.S2 w2.drew g k (2 * k + 1) A J1 = X := ⟨_, rfl⟩
            rw [hX] at hsw HR3
            rw [eJ] at hsw
            clear hX HD2 HD3
            go_wp2_with (go_at_call 111; fail)
            refine hsw.mono ?_
            rintro e w3 ⟨rfl, rfl⟩
            clear hsw hm2 hbx2
            go_wp2
            go_roundw
            case rel => exact ⟨2 * k + 1, hp.sw M k (2 * k + 1), by rw [eJ], by omega, HR3⟩
            case measure => simp [intOf]; omega
        | true =>
          have HLE : Hid (∀ c, 0 < c → c < n → hp.P c = k → hp.Le less M (2 * k + 2) c) := HL2.out rfl
          clear HL1 HL2 H1
          have eJ : ((2 * k + 2 : Nat) : Int) = 2 * (k : Int) + 1 + 1 := by omega
          have hbx1 : w1.cell? ⟨hb, 0, none⟩ = some (.slice (some ⟨g, 0, none⟩) M.length cap) := bcell HR1.out.st.box rfl
          have hm1 := meth_less ⟨hb, 0, none⟩ _ w1 hbx1
          have hask1 := ask HR1.out H2.out HA.out
          rw [eJ] at hask1
          have HD2 : Hid (less J2 A = true → hp.DnI less (hp.sw M k (2 * k + 2)) (2 * k + 2) n) := fun h => hp.down_step ord HA.out H2.out (by omega) (by omega) (hp.P_two k) HR1.out.dn h HLE.out
          have HD3 : Hid (less J2 A = false → hp.Heap less M n) := fun h => hp.down_end HR1.out.dn (hp.least_end ord H2.out HA.out h HLE.out)
          obtain ⟨b2, hb2⟩ : ∃ b, less J2 A = b := ⟨_, rfl⟩
          rw [hb2] at hask1 HD2 HD3
          clear hb2 HLE
          go_wp2_with (go_at_call 110; fail)
          refine hask1.mono ?_
          rintro e w2 ⟨rfl, hbe2⟩
          have HR2 : Hid (Rd W0 hb g cap n L w k M w2) := HR1.out.on hbe2
          clear hask1 hm1 hbx1 hbe2
          cases b2 with
          | false =>
            have hf : Hid (Fin W0 hb g cap n L w w2) := HR2.out.fin (HD3.out rfl)
            clear HD2 HD3
            go_wp2
            go_ret
            exact ⟨⟨_, rfl⟩, hf.out⟩
          | true =>
            have hbx2 : w2.cell? ⟨hb, 0, none⟩ = some (.slice (some ⟨g, 0, none⟩) M.length cap) := bcell HR2.out.st.box rfl
            have hm2 := meth_swap ⟨hb, 0, none⟩ _ w2 hbx2
            have hsw := turn HR2.out HA.out H2.out
            have HR3 : Hid (Rd W0 hb g cap n L w (2 * k + 2) (hp.sw M k (2 * k + 2)) (rsw.S2 w2.drew g k (2 * k + 2) A J2)) := HR2.out.swap HA.out H2.out (by omega) (by omega) (HD2.out rfl)
            obtain ⟨X, hX⟩ : ∃ X, rsw.S2 w2.drew g k (2 * k + 2) A J2 = X := ⟨_, rfl⟩
            rw [hX] at hsw HR3
            rw [eJ] at hsw
            clear hX HD2 HD3
            go_wp2_with (go_at_call 111; fail)
            refine hsw.mono ?_
            rintro e w3 ⟨rfl, rfl⟩
            clear hsw hm2 hbx2
            go_wp2
            go_roundw
            case rel => exact ⟨2 * k + 2, hp.sw M k (2 * k + 2), by rw [eJ], by omega, HR3⟩
            case measure => simp [intOf]; omega
      case neg =>
        have c3 : ¬ 2 * (k : Int) + 1 + 1 < (n : Int) := by omega
        have HLE : Hid (∀ c, 0 < c → c < n → hp.P c = k → hp.Le less M (2 * k + 1) c) := hp.least_one ord H1.out (fun h => absurd h h2)
        clear hm hbx
        have eJ : ((2 * k + 1 : Nat) : Int) = 2 * (k : Int) + 1 := by omega
        have hbx1 : wr.cell? ⟨hb, 0, none⟩ = some (.slice (some ⟨g, 0, none⟩) M.length cap) := bcell hrd.out.st.box rfl
        have hm1 := meth_less ⟨hb, 0, none⟩ _ wr hbx1
        have hask1 := ask hrd.out H1.out HA.out
        rw [eJ] at hask1
        have HD2 : Hid (less J1 A = true → hp.DnI less (hp.sw M k (2 * k + 1)) (2 * k + 1) n) := fun h => hp.down_step ord HA.out H1.out (by omega) (by omega) (hp.P_one k) hrd.out.dn h HLE.out
        have HD3 : Hid (less J1 A = false → hp.Heap less M n) := fun h => hp.down_end hrd.out.dn (hp.least_end ord H1.out HA.out h HLE.out)
        obtain ⟨b2, hb2⟩ : ∃ b, less J1 A = b := ⟨_, rfl⟩
        rw [hb2] at hask1 HD2 HD3
        clear hb2 HLE
        go_wp2_with (go_at_call 110; fail)
        refine hask1.mono ?_
        rintro e w2 ⟨rfl, hbe2⟩
        have HR2 : Hid (Rd W0 hb g cap n L w k M w2) := hrd.out.on hbe2
        clear hask1 hm1 hbx1 hbe2
        cases b2 with
        | false =>
          have hf : Hid (Fin W0 hb g cap n L w w2) := HR2.out.fin (HD3.out rfl)
          clear HD2 HD3
          go_wp2
          go_ret
          exact ⟨⟨_, rfl⟩, hf.out⟩
        | true =>
          have hbx2 : w2.cell? ⟨hb, 0, none⟩ = some (.slice (some ⟨g, 0, none⟩) M.length cap) := bcell HR2.out.st.box rfl
          have hm2 := meth_swap ⟨hb, 0, none⟩ _ w2 hbx2
          have hsw := turn HR2.out HA.out H1.out
          have HR3 : Hid (Rd W0 hb g cap n L w (2 * k + 1) (hp.sw M k (2 * k + 1)) (rsw.S2 w2.drew g k (2 * k + 1) A J1)) := HR2.out.swap HA.out H1.out (by omega) (by omega) (HD2.out rfl)
          obtain ⟨X, hX⟩ : ∃ X, rsw.S2 w2.drew g k (2 * k + 1) A J1 = X := ⟨_, rfl⟩
          rw [hX] at hsw HR3
          rw [eJ] at hsw
          clear hX HD2 HD3
          go_wp2_with (go_at_call 111; fail)
          refine hsw.mono ?_
          rintro e w3 ⟨rfl, rfl⟩
          clear hsw hm2 hbx2
          go_wp2
          go_roundw
          case rel => exact ⟨2 * k + 1, hp.sw M k (2 * k + 1), by rw [eJ], by omega, HR3⟩
          case measure => simp [intOf]; omega
end Go.Proofs.Ytfoajjkcocppeaa.rdn

/- *h = append(*h, x) in one region that draws its order: the row behind it, and the box that holds it. -/
namespace Go.Proofs.Ytfoajjkcocppeaa.pap
open Go.ChangeShapes Go.WideShapes Go.ChangeAt Go.RowKit Go.Proofs.Ytfoajjkcocppeaa.fl
set_option linter.unusedVariables false

theorem add0 (g j : Nat) : (⟨g, 0, none⟩ : Addr).add j = ⟨g, j, none⟩ := by unfold Addr.add; split <;> simp_all
/-- what is drawn: the place of the new one, the row behind the append -/
structure G where
  h : Nat
  v1 : Value
/-- the world ahead, from where on what may be turned lies, the box and its type, the elements' type and cells, the row, how many, the cells, the new one's cells -/
structure Pm where
  W0 : World
  B : Nat
  hb : Nat
  TB : TypeId
  T : TypeId
  n : Nat
  v0 : Value
  k : Nat
  xs : List Value
  ms : List Value
structure Ok (p : Pm) : Prop where
  hB : p.B ≤ p.W0.heap.size
  hbB : p.B ≤ p.hb
  box : p.W0.heap[p.hb]? = some (.cells #[p.v0] p.TB (0, 0))
  own : p.W0.ownsRow p.B p.T p.n p.v0 p.k p.xs
  ne : p.v0.ownBlock ≠ some p.hb
structure D (p : Pm) (g : G) (cl cm cb ca cs : Bool) (W : World) : Prop where
  bel : Below p.B p.W0 W
  bel2 : ca = false → Below p.W0.heap.size p.W0 W
  box : W.heap[p.hb]? = some (.cells #[if cs = true then g.v1 else p.v0] p.TB (0, 0))
  atb : cb = true → cm = true ∧ (ca = false → W.heap[g.h]? = some (.cells p.ms.toArray p.T (0, 0)))
  ata : ca = true → cl = true ∧ cb = true ∧ W.ownsRow p.B p.T p.n g.v1 (p.k + 1) (p.xs ++ p.ms) ∧ g.v1.ownBlock ≠ some p.hb
  ats : cs = true → ca = true
/-- the numbers of the operations that count: the box read, the new one read, laid, appended, the box written -/
structure J where
  jl : Nat
  jm : Nat
  jb : Nat
  ja : Nat
  js : Nat
def J.ok (x : J) : Prop := x.jl ≠ x.jm ∧ x.jl ≠ x.jb ∧ x.jl ≠ x.ja ∧ x.jl ≠ x.js ∧ x.jm ≠ x.jb ∧ x.jm ≠ x.ja ∧ x.jm ≠ x.js ∧ x.jb ≠ x.ja ∧ x.jb ≠ x.js ∧ x.ja ≠ x.js
def C (p : Pm) (x : J) (g : G) (L : Nat → Bool) (W : World) : Prop := D p g (L x.jl) (L x.jm) (L x.jb) (L x.ja) (L x.js) W
theorem start {p : Pm} (O : Ok p) (x : J) (g : G) : C p x g (fun _ => false) p.W0.drew :=
  ⟨(Below.refl _ _).drew, fun _ => (Below.refl _ _).drew, O.box, fun h => (by cases h), fun h => (by cases h), fun h => (by cases h)⟩
theorem more_on (L : Nat → Bool) (i : Nat) : dn.more L i i = true := by unfold dn.more; rw [if_pos rfl]
theorem more_off (L : Nat → Bool) {i j : Nat} (h : j ≠ i) : dn.more L i j = L j := by unfold dn.more; rw [if_neg h]
section
variable {p : Pm} {x : J} {ws : G → List (Nat × Value)} {act : Act} {Q : Exit → Act → World → Prop} {o : Oper}
theorem quiet {i : Nat} (hi : i ≠ x.jl ∧ i ≠ x.jm ∧ i ≠ x.jb ∧ i ≠ x.ja ∧ i ≠ x.js) (hsel : ∀ cs b, o.op ≠ .select cs b) (u : Value) (hd : ∀ s d, o.dst = some d → (dk.sets act (ws s)).tmps[d]? = some u)
    (hrun : ∀ s (W : World), (execOp (dk.sets act (ws s)).eval o).run Try.prog W = .ok (.value u) W) : gh.Step Try.prog (fun s => dk.sets act (ws s)) (C p x) Q i o := by
  refine gh.step_val hsel fun s L W hdp h0 hC => ⟨s, u, gh.Agree.refl _ _, hd s, ?_⟩
  rw [hrun s W]
  refine ⟨rfl, ?_⟩
  obtain ⟨i0, i1, i2, i3, i4⟩ := hi
  unfold C
  rw [more_off L i0.symm, more_off L i1.symm, more_off L i2.symm, more_off L i3.symm, more_off L i4.symm]
  exact hC
theorem sl (hx : x.ok) {d : Nat} (hsel : ∀ cs b, o.op ≠ .select cs b) (hdst : o.dst = some d) (hd : ∀ s, (dk.sets act (ws s)).tmps[d]? = some p.v0)
    (hrun : ∀ s (W : World), W.heap[p.hb]? = some (.cells #[p.v0] p.TB (0, 0)) → (execOp (dk.sets act (ws s)).eval o).run Try.prog W = .ok (.value p.v0) W) : gh.Step Try.prog (fun s => dk.sets act (ws s)) (C p x) Q x.jl o := by
  refine gh.step_val hsel fun s L W hdp h0 hC => ⟨s, p.v0, gh.Agree.refl _ _, (fun d' hd' => by rw [hdst] at hd'; cases hd'; exact hd s), ?_⟩
  have hC' : D p s (L x.jl) (L x.jm) (L x.jb) (L x.ja) (L x.js) W := hC
  have na : L x.ja = false := by
    cases h : L x.ja with
    | false => rfl
    | true => have := (hC'.ata h).1; rw [h0] at this; cases this
  have ns : L x.js = false := by
    cases h : L x.js with
    | false => rfl
    | true => have := hC'.ats h; rw [na] at this; cases this
  have hb := hC'.box
  rw [ns] at hb
  rw [hrun s W hb]
  refine ⟨rfl, ?_⟩
  obtain ⟨x1, x2, x3, x4, _⟩ := hx
  unfold C
  rw [more_on, more_off L x1.symm, more_off L x2.symm, more_off L x3.symm, more_off L x4.symm]
  exact ⟨hC'.bel, hC'.bel2, hC'.box, hC'.atb, fun h => (by rw [na] at h; cases h), hC'.ats⟩
theorem sm (hx : x.ok) {d : Nat} (u : Value) (hsel : ∀ cs b, o.op ≠ .select cs b) (hdst : o.dst = some d) (hd : ∀ s, (dk.sets act (ws s)).tmps[d]? = some u)
    (hrun : ∀ s (W : World), Below p.W0.heap.size p.W0 W → (execOp (dk.sets act (ws s)).eval o).run Try.prog W = .ok (.value u) W) : gh.Step Try.prog (fun s => dk.sets act (ws s)) (C p x) Q x.jm o := by
  refine gh.step_val hsel fun s L W hdp h0 hC => ⟨s, u, gh.Agree.refl _ _, (fun d' hd' => by rw [hdst] at hd'; cases hd'; exact hd s), ?_⟩
  have hC' : D p s (L x.jl) (L x.jm) (L x.jb) (L x.ja) (L x.js) W := hC
  have nb : L x.jb = false := by
    cases h : L x.jb with
    | false => rfl
    | true => have := (hC'.atb h).1; rw [h0] at this; cases this
  have na : L x.ja = false := by
    cases h : L x.ja with
    | false => rfl
    | true => have := (hC'.ata h).2.1; rw [nb] at this; cases this
  rw [hrun s W (hC'.bel2 na)]
  refine ⟨rfl, ?_⟩
  obtain ⟨x1, _, _, _, x5, x6, x7, _⟩ := hx
  unfold C
  rw [more_on, more_off L x1, more_off L x5.symm, more_off L x6.symm, more_off L x7.symm]
  exact ⟨hC'.bel, hC'.bel2, hC'.box, fun h => (by rw [nb] at h; cases h), fun h => (by rw [na] at h; cases h), hC'.ats⟩
theorem sb (O : Ok p) (hx : x.ok) {d idx : Nat} (hsel : ∀ cs b, o.op ≠ .select cs b) (hdst : o.dst = some d) (hsz : d < act.tmps.size) (ld : ∀ g, (ws g).lookup d = some (.slice (some ⟨g.h, 0, none⟩) 1 1)) (hidx : ∀ g, ((ws g)[idx]?.map (·.1)) = some d) (hset : ∀ g (e : Nat), ws { g with h := e } = (ws g).set idx (d, .slice (some ⟨e, 0, none⟩) 1 1))
    (hrun : ∀ s (W : World), (execOp (dk.sets act (ws s)).eval o).run Try.prog W = .ok (.value (.slice (some ⟨W.heap.size, 0, none⟩) 1 1)) (W.alloc (.cells p.ms.toArray p.T))) (hdep : ∃ e ∈ o.after, Region.binds .any e = true ∧ e.on = x.jm) : gh.Step Try.prog (fun s => dk.sets act (ws s)) (C p x) Q x.jb o := by
  refine gh.step_val hsel fun s L W hdp h0 hC => ⟨{ s with h := W.heap.size }, .slice (some ⟨W.heap.size, 0, none⟩) 1 1, dk.agree_sets idx d _ hdst (hidx s) (hset s _), (fun d' hd => by rw [hdst] at hd; cases hd; exact dk.sets_on _ hsz _ (ld _)), ?_⟩
  have hC' : D p s (L x.jl) (L x.jm) (L x.jb) (L x.ja) (L x.js) W := hC
  obtain ⟨xp, mp, yp, zp⟩ := hdep
  have lm := hdp xp mp yp
  rw [zp] at lm
  have na : L x.ja = false := by
    cases h : L x.ja with
    | false => rfl
    | true => have := (hC'.ata h).2.1; rw [h0] at this; cases this
  have ns : L x.js = false := by
    cases h : L x.js with
    | false => rfl
    | true => have := hC'.ats h; rw [na] at this; cases this
  rw [hrun s W]
  refine ⟨rfl, ?_⟩
  obtain ⟨_, x2, _, _, x5, _, _, x8, x9, _⟩ := hx
  unfold C
  rw [more_on, more_off L x2, more_off L x5, more_off L x8.symm, more_off L x9.symm, lm, na, ns]
  have hb := hC'.box
  rw [ns] at hb
  have hsz2 := (hC'.bel2 na).size
  exact ⟨hC'.bel.alloc (Nat.le_trans O.hB hsz2) _, fun _ => (hC'.bel2 na).alloc hsz2 _, bold hb _, fun _ => ⟨rfl, fun _ => bnew W _ _⟩, fun h => (by cases h), fun h => (by cases h)⟩
theorem sa (O : Ok p) (hx : x.ok) {ST : TypeId} {i0 : TypeInfo} {z : Value} {bytes : Nat} (ht : Try.prog.underlying ST = some (.slice p.T)) (hi : Try.prog.info? p.T = some i0) (hz : i0.zero = some z) (hn : i0.size = p.n) (hby0 : i0.bytes = bytes) (hzs : z.cells.size = p.n) (hn0 : 0 < p.n)
    {s1 s2 d idx : Nat} (hop : o.op = .call { callee := .builtin .append, args := #[.tmp s1, .tmp s2], argTypes := #[ST, ST] }) (hdst : o.dst = some d) (hsz : d < act.tmps.size ∧ s1 < act.tmps.size ∧ s2 < act.tmps.size)
    (ld : ∀ g, (ws g).lookup d = some g.v1) (l1 : ∀ g, (ws g).lookup s1 = some p.v0) (l2 : ∀ g, (ws g).lookup s2 = some (.slice (some ⟨g.h, 0, none⟩) 1 1)) (hidx : ∀ g, ((ws g)[idx]?.map (·.1)) = some d) (hset : ∀ g (v : Value), ws { g with v1 := v } = (ws g).set idx (d, v))
    (hlen : p.ms.length = p.n) (h1c : ∀ u ∈ p.ms, u.oneCell' = true) (hk : p.k ≤ 1048576) (hby : (p.k + 1) * bytes ≤ 140737488355328)
    (hdep : ∃ e ∈ o.after, Region.binds .any e = true ∧ e.on = x.jl) (hdep2 : ∃ e ∈ o.after, Region.binds .any e = true ∧ e.on = x.jb) : gh.Step Try.prog (fun s => dk.sets act (ws s)) (C p x) Q x.ja o := by
  refine gh.step_val (by rw [hop]; simp) fun s L W hdp h0 hC => ?_
  have hC' : D p s (L x.jl) (L x.jm) (L x.jb) (L x.ja) (L x.js) W := hC
  obtain ⟨xp, mp, yp, zp⟩ := hdep
  have ll := hdp xp mp yp
  rw [zp] at ll
  obtain ⟨xq, mq, yq, zq⟩ := hdep2
  have lb := hdp xq mq yq
  rw [zq] at lb
  have ns : L x.js = false := by
    cases h : L x.js with
    | false => rfl
    | true => have := hC'.ats h; rw [h0] at this; cases this
  have hb2 := hC'.bel2 h0
  have hcell := (hC'.atb lb).2 h0
  have hown : W.ownsRow p.B p.T p.n p.v0 p.k p.xs := O.own.kept (row := none) ⟨hb2.os, hb2.tape, hb2.output, hb2.size, fun i hi _ => hb2.block i hi⟩ (by
    cases hv : p.v0.ownBlock with
    | none => exact .inl rfl
    | some g => right; simp)
  have hnews : ∀ j u, p.ms[j]? = some u → W.cell? ((⟨s.h, 0, none⟩ : Addr).add j) = some u := fun j u hu => by
    rw [add0]
    exact bcell hcell (by simpa using hu)
  have hbox := hC'.box
  rw [ns] at hbox
  have hblt := (Array.getElem?_eq_some_iff.1 hbox).1
  obtain ⟨v', w', hr, ho, hg, _, hat⟩ := run_append_own_at (P := Try.prog) W p.B ST o.type p.T i0 z p.n bytes ht hi hz hn hby0 hzs hn0 _ p.k p.xs hown ⟨s.h, 0, none⟩ 1 1 p.ms (by rw [hlen, Nat.one_mul]) hnews h1c (by unfold maxLen; omega) hby (Nat.le_trans O.hB hb2.size)
  refine ⟨{ s with v1 := v' }, v', dk.agree_sets idx d _ hdst (hidx s) (hset s _), (fun d' hd => by rw [hdst] at hd; cases hd; exact dk.sets_on _ hsz.1 _ (ld _)), ?_⟩
  have e1 : (dk.sets act (ws s)).eval (.tmp s1) = p.v0 := dk.eval_on _ _ hsz.2.1 (l1 s)
  have e2 : (dk.sets act (ws s)).eval (.tmp s2) = .slice (some ⟨s.h, 0, none⟩) 1 1 := dk.eval_on _ _ hsz.2.2 (l2 s)
  have hr2 : (execOp (dk.sets act (ws s)).eval o).run Try.prog W = .ok (.value v') w' := by
    unfold execOp
    simp only [hop, resolve, invoke, builtin, Sem.run_bind, Sem.run_pure, Result.andThen_ok, List.map_toArray, List.map_cons, List.map_nil, e1, e2, hr]
  rw [hr2]
  refine ⟨rfl, ?_⟩
  obtain ⟨_, _, x3, _, _, x6, _, x8, _, x10⟩ := hx
  unfold C
  rw [more_on, more_off L x3, more_off L x6, more_off L x8, more_off L x10.symm, ll, lb, ns]
  have hbel : Below p.B p.W0 w' := hC'.bel.grown hg (Nat.le_trans O.hB hb2.size) (fun b hb => (hown.lt b hb).1)
  have hbw : w'.heap[p.hb]? = some (.cells #[p.v0] p.TB (0, 0)) := (hg.block p.hb hblt (fun e => O.ne e.symm)).trans hbox
  have hne : v'.ownBlock ≠ some p.hb := by
    intro e
    rcases hat with ha | ha
    · rw [ha] at e; exact O.ne e
    · rw [ha] at e
      have := Option.some.inj e
      omega
  exact ⟨hbel, fun h => (by cases h), hbw, fun _ => ⟨(hC'.atb lb).1, fun h => (by cases h)⟩, fun _ => ⟨rfl, rfl, ho, hne⟩, fun h => (by cases h)⟩
theorem ss (O : Ok p) (hx : x.ok) (hdst : o.dst = none) (hsel : ∀ cs b, o.op ≠ .select cs b) (hrun : ∀ s (W : World) a m c, s.v1 = .slice a m c → W.heap[p.hb]? = some (.cells #[p.v0] p.TB (0, 0)) → (execOp (dk.sets act (ws s)).eval o).run Try.prog W = .ok .skip (W.setCell ⟨p.hb, 0, none⟩ (.slice a m c)))
    (hdep : ∃ e ∈ o.after, Region.binds .any e = true ∧ e.on = x.ja) : gh.Step Try.prog (fun s => dk.sets act (ws s)) (C p x) Q x.js o := by
  refine gh.step_val hsel fun s L W hdp h0 hC => ⟨s, undef, gh.Agree.refl _ _, (fun d hd => by rw [hdst] at hd; cases hd), ?_⟩
  have hC' : D p s (L x.jl) (L x.jm) (L x.jb) (L x.ja) (L x.js) W := hC
  obtain ⟨xp, mp, yp, zp⟩ := hdep
  have la := hdp xp mp yp
  rw [zp] at la
  have hb := hC'.box
  rw [h0] at hb
  obtain ⟨va, vm, vc, hv1⟩ : ∃ a m c, s.v1 = .slice a m c := by
    rcases (hC'.ata la).2.2.1.2 with ⟨h, _⟩ | ⟨g, cap, cur, h, _⟩
    · exact ⟨_, _, _, h⟩
    · exact ⟨_, _, _, h⟩
  rw [hrun s W va vm vc hv1 hb, ← hv1]
  refine ⟨rfl, ?_⟩
  obtain ⟨_, _, _, x4, _, _, x7, _, x9, x10⟩ := hx
  unfold C
  rw [more_on, more_off L x4, more_off L x7, more_off L x9, more_off L x10, la]
  obtain ⟨a1, a2, a3, a4⟩ := hC'.ata la
  refine ⟨hC'.bel.setCell (p := ⟨p.hb, 0, none⟩) O.hbB _, fun h => (by cases h), bset hb _ _, fun h => ⟨(hC'.atb h).1, fun h => (by cases h)⟩, fun _ => ⟨a1, a2, ?_, a4⟩, fun _ => rfl⟩
  refine ⟨a3.1, ?_⟩
  rcases a3.2 with h | ⟨g, cap, cur, e, q1, q2, q3⟩
  · exact .inl h
  · refine .inr ⟨g, cap, cur, e, q1, ?_, q3⟩
    rw [Below.heap_setCell W ⟨p.hb, 0, none⟩ _ g (fun e2 => a4 (by rw [e]; show some g = some p.hb; rw [e2]))]
    exact q2
theorem done {g : G} {L : Nat → Bool} {W : World} {N : Nat} (h : C p x g L W) (h1 : x.ja < N) (h2 : x.js < N) (hL : ∀ i, i < N → L i = true) : Below p.B p.W0 W ∧ W.heap[p.hb]? = some (.cells #[g.v1] p.TB (0, 0)) ∧ W.ownsRow p.B p.T p.n g.v1 (p.k + 1) (p.xs ++ p.ms) ∧ g.v1.ownBlock ≠ some p.hb := by
  have h' : D p g (L x.jl) (L x.jm) (L x.jb) (L x.ja) (L x.js) W := h
  have hb := h'.box
  rw [hL x.js h2] at hb
  obtain ⟨_, _, a3, a4⟩ := h'.ata (hL x.ja h1)
  exact ⟨h'.bel, hb, a3, a4⟩
end
end Go.Proofs.Ytfoajjkcocppeaa.pap

/- heap.Push over the runs: one more run in the heap. -/
namespace Go.Proofs.Ytfoajjkcocppeaa.rpu
open Go.ChangeShapes Go.WideShapes Go.ChangeAt Go.RowKit Go.Proofs.Ytfoajjkcocppeaa.fl Go.Proofs.Ytfoajjkcocppeaa.ri Go.Proofs.Ytfoajjkcocppeaa.rst
set_option linter.unusedVariables false

/-- a heap's box and its row, or no row yet -/
structure SN (W0 : World) (hb : Nat) (L : List It) (w : World) : Prop where
  bel : Below W0.heap.size W0 w
  hbB : W0.heap.size ≤ hb
  box : ∃ v, w.heap[hb]? = some (.cells #[v] 99 (0, 0)) ∧ w.ownsRow W0.heap.size 103 2 v L.length (L.flatMap cI) ∧ v.ownBlock ≠ some hb
  fits : ∀ r ∈ L, Fits W0 W0.heap.size r
theorem take_eq {cur : Array Value} {L : List It} (h : ∀ (i : Nat) (r : It), L[i]? = some r → ∀ (j : Nat) (v : Value), (cI r)[j]? = some v → cur[i * 2 + j]? = some v) (hs : L.length * 2 ≤ cur.size) : cur.toList.take (L.length * 2) = L.flatMap cI := by
  apply List.ext_getElem?
  intro j
  by_cases hj : j < L.length * 2
  · rw [List.getElem?_take_of_lt hj]
    have hj2 : j < (L.flatMap cI).length := by rw [flat_len cI_len]; exact hj
    obtain ⟨u, hu⟩ : ∃ u, (L.flatMap cI)[j]? = some u := ⟨_, List.getElem?_eq_getElem hj2⟩
    obtain ⟨i, e, r, k1, k2, k3⟩ := flat_get cI_len L j _ hu
    rw [hu]
    subst k3
    have := h i e k1 r _ k2
    simpa using this
  · rw [List.getElem?_eq_none (by rw [List.length_take]; omega), List.getElem?_eq_none (by rw [flat_len cI_len]; omega)]
theorem SN.of {W0 : World} {hb g cap : Nat} {L : List It} {w : World} (h : SG W0 hb g cap L w) : SN W0 hb L w := by
  obtain ⟨cur, h1, h2, h3, h4, h5⟩ := h.row
  refine ⟨h.bel, h.hbB, ⟨_, h.box, ⟨flat_len cI_len L, .inr ⟨g, cap, cur, rfl, h.gB, h1, h3, h4, h2, take_eq h5 (by omega)⟩⟩, ?_⟩, h.fits⟩
  intro e
  exact h.ne (Option.some.inj e)
/-- its row, where there is one -/
theorem SN.sg {W0 : World} {hb : Nat} {L : List It} {w : World} (h : SN W0 hb L w) (h0 : L ≠ []) : ∃ g cap, SG W0 hb g cap L w := by
  obtain ⟨v, hv, ⟨_, ⟨rfl, hn⟩ | ⟨g, cap, cur, rfl, h1, h2, h3, h4, h5, h6⟩⟩, hne⟩ := h.box
  · exact absurd (List.eq_nil_of_length_eq_zero hn) h0
  · refine ⟨g, cap, h.bel, h.hbB, h1, fun e => hne (by rw [e]; rfl), hv, ⟨cur, h2, h5, h3, h4, fun i r hr j v hv => ?_⟩, h.fits⟩
    have hf := flat_at cI_len L i r hr j v hv
    rw [← h6] at hf
    have hlt := (List.getElem?_eq_some_iff.1 hf).1
    rw [List.length_take] at hlt
    rw [List.getElem?_take_of_lt (by omega)] at hf
    simpa using hf
theorem infoR : (Try.prog.info? 103).map (fun i => (i.zero, i.size, i.bytes)) = some (some (.agg #[.slice none 0 0, .int .i64 0]), 2, 32) := by kernel_rfl

def J0 : pap.J := ⟨3, 4, 5, 6, 8⟩
theorem J0_ok : J0.ok := by unfold pap.J.ok J0; decide
def ws (hb n : Nat) (v : Value) (r : It) (g : pap.G) : List (Nat × Value) :=
  [(12, .pointer (some ⟨hb, 0, none⟩)), (13, .pointer (some ⟨hb, 0, none⟩)), (14, .pointer (some ⟨hb, 0, none⟩)), (15, v), (16, .agg #[.slice (some ⟨r.b, r.o, none⟩) r.l.length r.c, .int .i64 r.p]), (17, .slice (some ⟨g.h, 0, none⟩) 1 1), (18, g.v1), (19, .pointer (some ⟨hb, 0, none⟩))]

set_option maxRecDepth 100000 in
set_option maxHeartbeats 1000000 in
theorem push_m (W0 : World) (hb : Nat) (L : List It) (r : It) (w : World) (hS : SN W0 hb L w) (hr : Fits W0 W0.heap.size r) (hl : L.length ≤ 50) :
    Calls Try.prog 116 #[.pointer (some ⟨hb, 0, none⟩), .iface 103 (.agg #[.slice (some ⟨r.b, r.o, none⟩) r.l.length r.c, .int .i64 r.p])] w fun e w' => e = .returned (.tuple #[]) ∧ SN W0 hb (L ++ [r]) w' := by
  obtain ⟨i0, hi, hz0, hz1, hz2⟩ := info_parts infoR
  obtain ⟨v, hv, hown, hne⟩ := hS.box
  have hlt := (Array.getElem?_eq_some_iff.1 hv).1
  have hsz := hS.bel.size
  have c0 : w.cell? ⟨hb, 0, none⟩ = some v := bcell hv rfl
  have HV : Hid (w.heap[hb]? = some (.cells #[v] 99 (0, 0))) := hv
  have HS : Hid (SN W0 hb L w) := hS
  have HRF : Hid (Fits W0 W0.heap.size r) := hr
  have hta : ∀ W : World, (Instr.typeAssert (.iface 103 (.agg #[.slice (some ⟨r.b, r.o, none⟩) r.l.length r.c, .int .i64 r.p])) 20 103 true).run Try.prog W = .ok (.tuple #[.agg #[.slice (some ⟨r.b, r.o, none⟩) r.l.length r.c, .int .i64 r.p], .bool true]) W := fun W => by kernel_rfl
  have hal : Below w.heap.size w (w.alloc (.cells #[.slice (some ⟨r.b, r.o, none⟩) r.l.length r.c, .int .i64 r.p] 103)) := (Below.refl _ _).alloc (Nat.le_refl _) _
  have hA := bnew w #[.slice (some ⟨r.b, r.o, none⟩) r.l.length r.c, .int .i64 r.p] 103
  obtain ⟨X, hX⟩ : ∃ X, w.alloc (.cells #[.slice (some ⟨r.b, r.o, none⟩) r.l.length r.c, .int .i64 r.p] 103) = X := ⟨_, rfl⟩
  rw [hX] at hal hA
  have hXl := (Array.getElem?_eq_some_iff.1 hA).1
  have HA : Hid (X.heap[w.heap.size]? = some (.cells #[.slice (some ⟨r.b, r.o, none⟩) r.l.length r.c, .int .i64 r.p] 103 (0, 0))) := hA
  have O : pap.Ok ⟨X, W0.heap.size, hb, 99, 103, 2, v, L.length, L.flatMap cI, cI r⟩ := ⟨Nat.le_trans hsz hal.size, hS.hbB, bstay hv hal hlt, hown.kept (row := none) ⟨hal.os, hal.tape, hal.output, hal.size, fun i hi _ => hal.block i hi⟩ (by
    cases hv : v.ownBlock with
    | none => exact .inl rfl
    | some g => right; simp), hne⟩
  have HO : Hid (pap.Ok ⟨X, W0.heap.size, hb, 99, 103, 2, v, L.length, L.flatMap cI, cI r⟩) := O
  clear hv hS hr hA O hown hne
  go_enter Try.func116, Try.ntmps116
  go_wp2
  clear hX
  refine dk.region_gsets (ws hb w.heap.size v r) [12, 13, 14, 15, 16, 17, 18, 19] (pap.C ⟨X, W0.heap.size, hb, 99, 103, 2, v, L.length, L.flatMap cI, cI r⟩ J0) ⟨0, .slice none 0 0⟩ (by kernel_rfl) (by kernel_rfl) (fun _ => rfl) (by kernel_rfl) (pap.start HO.out _ _) ?each ?fin
  case each =>
    refine ⟨pap.quiet (by decide) (by simp) (.pointer (some ⟨hb, 0, none⟩)) (by rintro s _ ⟨⟩; exact dk.sets_on _ (by simp) _ rfl) (fun s W => by simp [execOp, go_sem, Act.eval, dk.sets_get, ws, List.lookup]), ?_⟩
    refine ⟨pap.quiet (by decide) (by simp) (.pointer (some ⟨hb, 0, none⟩)) (by rintro s _ ⟨⟩; exact dk.sets_on _ (by simp) _ rfl) (fun s W => by simp [execOp, go_sem, Act.eval, dk.sets_get, ws, List.lookup]), ?_⟩
    refine ⟨pap.quiet (by decide) (by simp) (.pointer (some ⟨hb, 0, none⟩)) (by rintro s _ ⟨⟩; exact dk.sets_on _ (by simp) _ rfl) (fun s W => by simp [execOp, go_sem, Act.eval, dk.sets_get, ws, List.lookup]), ?_⟩
    refine ⟨pap.sl (x := J0) (d := 15) J0_ok (by simp) rfl (fun s => dk.sets_on _ (by simp) _ rfl) (fun s W h => by have c : W.cell? ⟨hb, 0, none⟩ = some v := bcell h rfl; simp [execOp, go_sem, Act.eval, dk.sets_get, ws, List.lookup, c]), ?_⟩
    refine ⟨pap.sm (x := J0) (d := 16) J0_ok (.agg #[.slice (some ⟨r.b, r.o, none⟩) r.l.length r.c, .int .i64 r.p]) (by simp) rfl (fun s => dk.sets_on _ (by simp) _ rfl) (fun s W h => by have hh := bstay HA.out h hXl; have d0 : W.cell? ⟨w.heap.size, 0, none⟩ = some (.slice (some ⟨r.b, r.o, none⟩) r.l.length r.c) := bcell hh rfl; have d1 : W.cell? ⟨w.heap.size, 1, none⟩ = some (.int .i64 r.p) := bcell hh rfl; simp [execOp, go_sem, Act.eval, dk.sets_get, ws, List.lookup, d0, d1]), ?_⟩
    refine ⟨pap.sb (x := J0) (d := 17) (idx := 5) HO.out J0_ok (by simp) rfl (by simp) (fun g => rfl) (fun g => rfl) (fun g e => rfl) (fun s W => by simp [execOp, go_sem, Act.eval, dk.sets_get, ws, List.lookup, cI]) ⟨⟨4, .data⟩, by simp, rfl, rfl⟩, ?_⟩
    refine ⟨pap.sa (x := J0) (d := 18) (s1 := 15) (s2 := 17) (idx := 6) HO.out J0_ok Try.underlying99 hi hz0 hz1 hz2 rfl (by show 0 < 2; decide) rfl rfl ⟨by simp, by simp, by simp⟩ (fun g => rfl) (fun g => rfl) (fun g => rfl) (fun g => rfl) (fun g v => rfl) rfl (by intro u hu; simp [cI] at hu; rcases hu with rfl | rfl <;> rfl) (by show L.length ≤ 1048576; omega) (by show (L.length + 1) * 32 ≤ 140737488355328; omega) ⟨⟨3, .data⟩, by simp, rfl, rfl⟩ ⟨⟨5, .data⟩, by simp, rfl, rfl⟩, ?_⟩
    refine ⟨pap.quiet (by decide) (by simp) (.pointer (some ⟨hb, 0, none⟩)) (by rintro s _ ⟨⟩; exact dk.sets_on _ (by simp) _ rfl) (fun s W => by simp [execOp, go_sem, Act.eval, dk.sets_get, ws, List.lookup]), ?_⟩
    exact ⟨pap.ss (x := J0) HO.out J0_ok rfl (by simp) (fun s W a m c' hv1 h => by have c : W.cell? ⟨hb, 0, none⟩ = some v := bcell h rfl; have f : W.frozen? ⟨hb, 0, none⟩ = false := bfree h 0; simp [execOp, go_sem, Act.eval, dk.sets_get, ws, List.lookup, c, f, hv1]) ⟨⟨6, .data⟩, by simp, rfl, rfl⟩, trivial⟩
  case fin =>
    intro s K W hK hC
    obtain ⟨d1, d2, d3, d4⟩ := pap.done hC (N := 9) (by decide) (by decide) hK
    have hsn : Hid (SN W0 hb (L ++ [r]) W) := by
      refine ⟨HS.out.bel.trans ((hal.mono hsz).trans d1), HS.out.hbB, ⟨s.v1, d2, ?_, d4⟩, fun q hq => ?_⟩
      · rw [List.length_append, List.flatMap_append]
        simpa using d3
      · rcases List.mem_append.1 hq with h | h
        · exact HS.out.fits q h
        · simp at h; subst h; exact HRF.out
    clear hC hK d1 d2 d3 d4
    simp only [dk.sets, ws]
    go_wp2
    go_end0
    exact ⟨rfl, hsn.out⟩
end Go.Proofs.Ytfoajjkcocppeaa.rpu

/- heap.Push, heap.Pop and heap.Fix over the runs. -/
namespace Go.Proofs.Ytfoajjkcocppeaa.rpo
open Go.ChangeShapes Go.WideShapes Go.ChangeAt Go.RowKit Go.Proofs.Ytfoajjkcocppeaa.fl Go.Proofs.Ytfoajjkcocppeaa.ri Go.Proofs.Ytfoajjkcocppeaa.rst Go.Proofs.Ytfoajjkcocppeaa.rpu
set_option linter.unusedVariables false

theorem len_run (a : Option Addr) (n cap : Nat) (w : World) : Calls Try.prog 76 #[.slice a n cap] w fun e w' => e = .returned (.int .i64 n) ∧ w = w' := by
  go_enter Try.func76, Try.ntmps76
  go_wp2
  go_ret
  exact ⟨rfl, rfl⟩

set_option maxRecDepth 100000 in
set_option maxHeartbeats 1000000 in
theorem push_run (W0 : World) (hb : Nat) (L : List It) (r : It) (w : World) (hS : SN W0 hb L w) (hH : hp.Heap less L L.length) (hr : Fits W0 W0.heap.size r) (hl : L.length ≤ 50) :
    Calls Try.prog 75 #[.iface 101 (.pointer (some ⟨hb, 0, none⟩)), .iface 103 (.agg #[.slice (some ⟨r.b, r.o, none⟩) r.l.length r.c, .int .i64 r.p])] w fun e w' => e = .returned (.tuple #[]) ∧ ∃ M : List It, M.Perm (L ++ [r]) ∧ hp.Heap less M M.length ∧ SN W0 hb M w' := by
  have hpm := push_m W0 hb L r w hS hr hl
  have hmp := meth_push ⟨hb, 0, none⟩ w
  have HH : Hid (hp.Heap less L L.length) := hH
  clear hS hH hr
  go_enter Try.func75, Try.ntmps75
  go_wp2_with (go_at_call 116; fail)
  refine hpm.mono ?_
  rintro e w1 ⟨rfl, hs1⟩
  obtain ⟨g, cap, hsg⟩ := hs1.sg (by simp)
  have hlen : (L ++ [r]).length = L.length + 1 := by simp
  have hbx : w1.cell? ⟨hb, 0, none⟩ = some (.slice (some ⟨g, 0, none⟩) (L.length + 1) cap) := by rw [← hlen]; exact bcell hsg.box rfl
  have hml := meth_len ⟨hb, 0, none⟩ _ w1 hbx
  have hup := rup.up_run W0 hb g cap L.length (L ++ [r]) w1 hsg (by omega) (by omega) (by rw [hlen]; exact hp.up_new HH.out)
  clear hpm hmp hs1 hsg hlen
  go_wp2_with (first | (go_at_call 76; refine (len_run _ _ _ _).mono ?_; rintro e w0 ⟨rfl, hw0⟩; rw [← hw0]; clear hw0 w0) | (go_at_call 87; fail))
  refine hup.mono ?_
  rintro e w2 ⟨rfl, M, hM, hHM, hSM, _⟩
  have HM : Hid (M.Perm (L ++ [r]) ∧ hp.Heap less M M.length ∧ SN W0 hb M w2) := ⟨hM, hHM, .of hSM⟩
  clear hup hml hbx hM hHM hSM
  go_wp2
  go_end0
  exact ⟨rfl, M, HM.out⟩

set_option maxRecDepth 100000 in
set_option maxHeartbeats 1000000 in
theorem fix_run (W0 : World) (hb g cap : Nat) (L : List It) (w : World) (hS : SG W0 hb g cap L w) (h0 : 0 < L.length) (hl : L.length ≤ 100) (hD : hp.DnI less L 0 L.length) :
    Calls Try.prog 89 #[.iface 101 (.pointer (some ⟨hb, 0, none⟩)), .int .i64 0] w fun e w' => e = .returned (.tuple #[]) ∧ ∃ M : List It, M.Perm L ∧ hp.Heap less M M.length ∧ SG W0 hb g cap M w' ∧ Kp g w w' := by
  have hbx : w.cell? ⟨hb, 0, none⟩ = some (.slice (some ⟨g, 0, none⟩) L.length cap) := bcell hS.box rfl
  have hml := meth_len ⟨hb, 0, none⟩ _ w hbx
  have hdn := rdn.down_run W0 hb g cap 0 L.length L w hS (.inr rfl) (Nat.le_refl _) hl hD
  clear hS hD
  go_enter Try.func89, Try.ntmps89
  go_wp2_with (first | (go_at_call 76; refine (len_run _ _ _ _).mono ?_; rintro e w0 ⟨rfl, hw0⟩; rw [← hw0]; clear hw0 w0) | (go_at_call 92; fail))
  refine hdn.mono ?_
  rintro e w2 ⟨⟨bb, rfl⟩, M, hM, hHM, _, hSM, hKM⟩
  have hlM := hM.length_eq
  have HM : Hid (M.Perm L ∧ hp.Heap less M M.length ∧ SG W0 hb g cap M w2 ∧ Kp g w w2) := ⟨hM, by rw [hlM]; exact hHM, hSM, hKM⟩
  have hup := rup.up_run W0 hb g cap 0 M w2 hSM (by omega) (by omega) ⟨fun i h1 h2 h3 => HM.out.2.1 i h1 h2, fun h => absurd h (by omega)⟩
  clear hdn hml hbx hM hHM hSM hKM hlM
  cases bb with
  | true =>
    clear hup
    go_wp2
    go_end0
    exact ⟨rfl, M, HM.out⟩
  | false =>
    go_wp2_with (go_at_call 87; fail)
    refine hup.mono ?_
    rintro e w3 ⟨rfl, M3, hM3, hH3, hS3, hK3⟩
    have HM3 : Hid (M3.Perm L ∧ hp.Heap less M3 M3.length ∧ SG W0 hb g cap M3 w3 ∧ Kp g w w3) := ⟨hM3.trans HM.out.1, hH3, hS3, HM.out.2.2.2.trans hK3⟩
    clear hup hM3 hH3 hS3 hK3
    go_wp2
    go_end0
    exact ⟨rfl, M3, HM3.out⟩

/-- nothing but the box and the row is turned; new memory besides -/
structure Kq (hb g : Nat) (w w' : World) : Prop where
  os : w'.os = w.os
  tape : w'.tape = w.tape
  output : w'.output = w.output
  size : w.heap.size ≤ w'.heap.size
  block : ∀ k, k < w.heap.size → k ≠ g → k ≠ hb → w'.heap[k]? = w.heap[k]?
theorem Kq.refl (hb g : Nat) (w : World) : Kq hb g w w := ⟨rfl, rfl, rfl, Nat.le_refl _, fun _ _ _ _ => rfl⟩
theorem Kq.trans {hb g : Nat} {a b c : World} (h1 : Kq hb g a b) (h2 : Kq hb g b c) : Kq hb g a c :=
  ⟨h2.os.trans h1.os, h2.tape.trans h1.tape, h2.output.trans h1.output, Nat.le_trans h1.size h2.size, fun k hk h3 h4 => (h2.block k (Nat.lt_of_lt_of_le hk h1.size) h3 h4).trans (h1.block k hk h3 h4)⟩
theorem Kq.of {hb g : Nat} {a b : World} (h : Kp g a b) : Kq hb g a b := ⟨h.os, h.tape, h.output, h.size, fun k hk h1 _ => h.block k hk h1⟩

set_option maxRecDepth 100000 in
set_option maxHeartbeats 1000000 in
theorem pop_m (W0 : World) (hb g cap : Nat) (L : List It) (r : It) (w : World) (hS : SG W0 hb g cap (L ++ [r]) w) (hl : L.length ≤ 100) :
    Calls Try.prog 115 #[.pointer (some ⟨hb, 0, none⟩)] w fun e w' => (∃ v, e = .returned v) ∧ SG W0 hb g cap L w' ∧ Kq hb g w w' := by
  have hbx : w.cell? ⟨hb, 0, none⟩ = some (.slice (some ⟨g, 0, none⟩) (L.length + 1) cap) := by have := bcell (j := 0) hS.box rfl; simpa using this
  have hat := hS.row.at (i := L.length) (r := r) (by simp)
  have r0 := hat.c0
  have r1 := hat.c1
  have HS : Hid (SG W0 hb g cap (L ++ [r]) w) := hS
  have hblt := (Array.getElem?_eq_some_iff.1 hS.box).1
  have hxb := bold hS.box (.cells #[.slice (some ⟨r.b, r.o, none⟩) r.l.length r.c, .int .i64 r.p] 103)
  have hA := bnew w #[.slice (some ⟨r.b, r.o, none⟩) r.l.length r.c, .int .i64 r.p] 103
  have hal : Below w.heap.size w (w.alloc (.cells #[.slice (some ⟨r.b, r.o, none⟩) r.l.length r.c, .int .i64 r.p] 103)) := (Below.refl _ _).alloc (Nat.le_refl _) _
  obtain ⟨X, hX⟩ : ∃ X, w.alloc (.cells #[.slice (some ⟨r.b, r.o, none⟩) r.l.length r.c, .int .i64 r.p] 103) = X := ⟨_, rfl⟩
  rw [hX] at hxb hA hal
  have x0 : X.cell? ⟨hb, 0, none⟩ = some (.slice (some ⟨g, 0, none⟩) (L.length + 1) cap) := by have := bcell (j := 0) hxb rfl; simpa using this
  have xf : X.frozen? ⟨hb, 0, none⟩ = false := bfree hxb 0
  have hyA := boff hA hb 0 (.slice (some ⟨g, 0, none⟩) L.length cap) (by omega)
  have hyb := bset hxb 0 (.slice (some ⟨g, 0, none⟩) L.length cap)
  obtain ⟨Y, hY⟩ : ∃ Y, X.setCell ⟨hb, 0, none⟩ (.slice (some ⟨g, 0, none⟩) L.length cap) = Y := ⟨_, rfl⟩
  rw [hY] at hyA hyb
  have y0 : Y.cell? ⟨w.heap.size, 0, none⟩ = some (.slice (some ⟨r.b, r.o, none⟩) r.l.length r.c) := bcell hyA rfl
  have y1 : Y.cell? ⟨w.heap.size, 1, none⟩ = some (.int .i64 r.p) := bcell hyA rfl
  have hkq : Kq hb g w Y := by
    refine ⟨by rw [← hY, ← hX]; rfl, by rw [← hY, ← hX]; rfl, by rw [← hY, ← hX]; rfl, by rw [← hY, ← hX]; simp, fun k hk h1 h2 => ?_⟩
    rw [← hY, Below.heap_setCell _ _ _ k h2]
    exact hal.block k hk
  have hgB := HS.out.gB
  have hgne := HS.out.ne
  have hbB := HS.out.hbB
  have hsz := HS.out.bel.size
  have hsg : SG W0 hb g cap L Y := by
    obtain ⟨cur, h1, h2, h3, h4, h5⟩ := HS.out.row
    have hgl := (Array.getElem?_eq_some_iff.1 h1).1
    refine ⟨⟨hkq.os.trans HS.out.bel.os, hkq.tape.trans HS.out.bel.tape, hkq.output.trans HS.out.bel.output, Nat.le_trans hsz hkq.size, fun k hk => (hkq.block k (by omega) (by omega) (by omega)).trans (HS.out.bel.block k hk)⟩, hbB, hgB, hgne, by simpa using hyb, ⟨cur, ?_, h2, by simp at h3; omega, h4, fun i q hq => h5 i q (by rw [List.getElem?_append_left (List.getElem?_eq_some_iff.1 hq).1]; exact hq)⟩, fun q hq => HS.out.fits q (by simp [hq])⟩
    rw [← hY, Below.heap_setCell _ _ _ g hgne]
    exact (hal.block g hgl).trans h1
  have HF : Hid (SG W0 hb g cap L Y ∧ Kq hb g w Y) := ⟨hsg, hkq⟩
  have i1 : (L.length : Int) ≤ (cap : Int) := by have := HS.out.row; obtain ⟨_, _, _, h3, _⟩ := this; simp at h3; omega
  clear hS hat hsg hkq hyA hyb hxb hA hal
  go_enter Try.func115, Try.ntmps115
  go_wp2
  go_ret
  exact ⟨⟨_, rfl⟩, HF.out⟩

set_option maxRecDepth 100000 in
set_option maxHeartbeats 1000000 in
theorem pop_run (W0 : World) (hb g cap : Nat) (L : List It) (r : It) (w : World) (hS : SG W0 hb g cap L w) (h0 : L[0]? = some r) (hl : L.length ≤ 100) (hH : hp.Heap less L L.length) :
    Calls Try.prog 88 #[.iface 101 (.pointer (some ⟨hb, 0, none⟩))] w fun e w' => (∃ v, e = .returned v) ∧ ∃ M : List It, (r :: M).Perm L ∧ hp.Heap less M M.length ∧ SG W0 hb g cap M w' ∧ Kq hb g w w' := by
  have hpos := (List.getElem?_eq_some_iff.1 h0).1
  obtain ⟨n, hn⟩ : ∃ n, L.length = n + 1 := ⟨L.length - 1, by omega⟩
  obtain ⟨q, hq⟩ : ∃ q, L[n]? = some q := ⟨_, List.getElem?_eq_getElem (by omega)⟩
  have hbx : w.cell? ⟨hb, 0, none⟩ = some (.slice (some ⟨g, 0, none⟩) L.length cap) := bcell hS.box rfl
  have hml := meth_len ⟨hb, 0, none⟩ _ w hbx
  have hms := meth_swap ⟨hb, 0, none⟩ _ w hbx
  obtain ⟨cur, c1, c2, c3, _⟩ := hS.row
  have hsw := rsw.swap_run g L.length cap 0 n cur r q w hpos (by omega) (by omega) c1 (hS.row.at h0) (hS.row.at hq)
  obtain ⟨hs1, hk1⟩ := hS.swap h0 hq
  have hD := hp.down_sw (m := n) h0 hq (by rw [← hn]; exact hH)
  have hsl : (hp.sw L 0 n).length = n + 1 := by rw [hp.sw_len, hn]
  have hlast : (hp.sw L 0 n)[n]? = some r := hp.sw_last h0 hq
  have hperm := hp.sw_perm h0 hq
  obtain ⟨X, hX⟩ : ∃ X, rsw.S2 w.drew g 0 n r q = X := ⟨_, rfl⟩
  rw [hX] at hsw hs1 hk1
  have hdn := rdn.down_run W0 hb g cap 0 n (hp.sw L 0 n) X hs1 (.inr rfl) (by omega) (by omega) hD
  have hmp := fun W => meth_pop ⟨hb, 0, none⟩ W
  have HPM : Hid (∀ (M : List It) (W : World), M.Perm (hp.sw L 0 n) → hp.Heap less M n → (∀ k, n ≤ k → M[k]? = (hp.sw L 0 n)[k]?) → SG W0 hb g cap M W → Kp g X W →
      Calls Try.prog 115 #[.pointer (some ⟨hb, 0, none⟩)] W fun e w' => (∃ v, e = .returned v) ∧ ∃ M : List It, (r :: M).Perm L ∧ hp.Heap less M M.length ∧ SG W0 hb g cap M w' ∧ Kq hb g w w') := fun M W p1 p2 p3 p4 p5 => by
    have hlM : M.length = n + 1 := by rw [p1.length_eq, hsl]
    have hMr : M[n]? = some r := by rw [p3 n (Nat.le_refl _), hlast]
    have hsplit : M = M.take n ++ [r] := by
      have h1 := List.take_append_getElem (l := M) (i := n) (by omega)
      have h2 : M[n]'(by omega) = r := (List.getElem?_eq_some_iff.1 hMr).2
      rw [h2, ← hlM, List.take_length] at h1
      exact h1.symm
    have htl : (M.take n).length = n := by rw [List.length_take]; omega
    rw [hsplit] at p4
    refine (pop_m W0 hb g cap (M.take n) r W p4 (by omega)).mono fun e w' ⟨hv, hs, hk⟩ => ⟨hv, M.take n, ?_, ?_, hs, ((Kq.of hk1).trans (Kq.of p5)).trans hk⟩
    · have h3 : (M.take n ++ [r]).Perm L := by rw [← hsplit]; exact p1.trans hperm
      exact (List.perm_append_singleton r (M.take n)).symm.trans h3
    · rw [htl]
      exact p2.take (Nat.le_refl _)
  rw [hn] at hml hms hsw hbx
  clear hS hH c1 c2 c3 hs1 hk1 hD hX hlast hperm hq h0
  go_enter Try.func88, Try.ntmps88
  go_wp2_with (first | (go_at_call 76; refine (len_run _ _ _ _).mono ?_; rintro e w0 ⟨rfl, hw0⟩; rw [← hw0]; clear hw0 w0) | (go_at_call 111; refine hsw.mono ?_; rintro e w1 ⟨rfl, rfl⟩) | (go_at_call 92; fail))
  refine hdn.mono ?_
  rintro e w2 ⟨⟨bb, rfl⟩, M, p1, p2, p3, p4, p5⟩
  have hpm := HPM.out M w2 p1 p2 p3 p4 p5
  clear hdn HPM p1 p2 p3 p4 p5 hsw hml hms
  go_wp2_with (go_at_call 115; fail)
  refine hpm.mono ?_
  rintro e w3 ⟨⟨v, rfl⟩, hM⟩
  have HM : Hid (∃ M : List It, (r :: M).Perm L ∧ hp.Heap less M M.length ∧ SG W0 hb g cap M w3 ∧ Kq hb g w w3) := hM
  clear hpm hM
  go_wp2
  go_ret
  exact ⟨⟨_, rfl⟩, HM.out⟩
end Go.Proofs.Ytfoajjkcocppeaa.rpo

/- The first pair of all runs, taken out of their heap. -/
namespace Go.Proofs.Ytfoajjkcocppeaa.rfi
open Go.ChangeShapes Go.WideShapes Go.ChangeAt Go.RowKit Go.Proofs.Ytfoajjkcocppeaa.fl Go.Proofs.Ytfoajjkcocppeaa.ri Go.Proofs.Ytfoajjkcocppeaa.rst Go.Proofs.Ytfoajjkcocppeaa.rpu Go.Proofs.Ytfoajjkcocppeaa.rpo
set_option linter.unusedVariables false

/-- what is left of a run behind its first pair -/
def nx (r : It) : List It := match r.l with
  | _ :: x :: t => [⟨r.b, r.o + 3, r.c - 1, x :: t, r.p⟩]
  | _ => []
set_option maxRecDepth 100000 in
set_option maxHeartbeats 1000000 in
theorem first_one (W0 : World) (hb g cap : Nat) (L : List It) (r : It) (e : flP.Pr) (w : World) (hS : SG W0 hb g cap L w) (h0 : L[0]? = some r) (hr : r.l = [e]) (hl : L.length ≤ 100) (hH : hp.Heap less L L.length) :
    Calls Try.prog 77 #[.pointer (some ⟨hb, 0, none⟩)] w fun x w' => x = .returned (.agg #[.string e.k, .string e.v, .bool e.g]) ∧ ∃ M : List It, (r :: M).Perm L ∧ hp.Heap less M M.length ∧ SG W0 hb g cap M w' ∧ Kq hb g w w' := by
  have hal : Below w.heap.size w (w.alloc (.cells #[.string ⟨#[]⟩, .string ⟨#[]⟩, .bool false] 63)) := (Below.refl _ _).alloc (Nat.le_refl _) _
  have hbn := bnew w #[.string ⟨#[]⟩, .string ⟨#[]⟩, .bool false] 63
  obtain ⟨X, hX⟩ : ∃ X, w.alloc (.cells #[.string ⟨#[]⟩, .string ⟨#[]⟩, .bool false] 63) = X := ⟨_, rfl⟩
  rw [hX] at hal hbn
  have hSX := hS.on hal
  have hbl := (Array.getElem?_eq_some_iff.1 hS.box).1
  obtain ⟨hgc, hgl⟩ : ∃ o, w.heap[g]? = some o := by obtain ⟨cur, h1, _⟩ := hS.row; exact ⟨_, h1⟩
  have hgl2 := (Array.getElem?_eq_some_iff.1 hgl).1
  have HBN : Hid (X.heap[w.heap.size]? = some (.cells #[.string ⟨#[]⟩, .string ⟨#[]⟩, .bool false] 63 (0, 0))) := hbn
  have hXl := (Array.getElem?_eq_some_iff.1 hbn).1
  have hbx : X.cell? ⟨hb, 0, none⟩ = some (.slice (some ⟨g, 0, none⟩) L.length cap) := bcell hSX.box rfl
  have hat := hSX.row.at h0
  have hpos := (List.getElem?_eq_some_iff.1 h0).1
  have i1 : (0 : Int) < (L.length : Int) := by omega
  have HF : Hid (Fits W0 W0.heap.size r) := hS.fits r (List.mem_of_getElem? h0)
  have hrl : r.l[0]? = some e := by rw [hr]; rfl
  have r0 : X.cell? ⟨g, 0, none⟩ = some (.slice (some ⟨r.b, r.o, none⟩) 1 r.c) := by have := hat.c0; rw [hr] at this; simpa using this
  have hpop := pop_run W0 hb g cap L r X hSX h0 hl hH
  have hS0 := hS.bel.size
  clear hS hSX h0 hH hat hbn hgl
  go_enter Try.func77, Try.ntmps77
  go_wp2_with (go_at_call 88; fail)
  clear hX
  refine hpop.mono ?_
  rintro x w1 ⟨⟨v, rfl⟩, M, p1, p2, p3, p4⟩
  have hF1 := HF.out.below p3.bel
  have d0 : w1.cell? ⟨r.b, r.o, none⟩ = some (.string e.k) := by simpa using hF1.cells 0 e hrl 0 _ rfl
  have d1 : w1.cell? ⟨r.b, r.o + 1, none⟩ = some (.string e.v) := by simpa using hF1.cells 0 e hrl 1 _ rfl
  have d2 : w1.cell? ⟨r.b, r.o + 2, none⟩ = some (.bool e.g) := by simpa using hF1.cells 0 e hrl 2 _ rfl
  have hb1 : w1.heap[w.heap.size]? = some (.cells #[.string ⟨#[]⟩, .string ⟨#[]⟩, .bool false] 63 (0, 0)) := (p4.block w.heap.size hXl (by omega) (by omega)).trans HBN.out
  have b0 : w1.cell? ⟨w.heap.size, 0, none⟩ = some (.string ⟨#[]⟩) := bcell hb1 rfl
  have b1 : w1.cell? ⟨w.heap.size, 1, none⟩ = some (.string ⟨#[]⟩) := bcell hb1 rfl
  have b2 : w1.cell? ⟨w.heap.size, 2, none⟩ = some (.bool false) := bcell hb1 rfl
  have bf : ∀ k, w1.frozen? ⟨w.heap.size, k, none⟩ = false := fun k => bfree hb1 k
  have bf0 := bf 0
  have bf1 := bf 1
  have bf2 := bf 2
  have hYb := bset (bset (bset hb1 0 (.string e.k)) 1 (.string e.v)) 2 (.bool e.g)
  obtain ⟨Y, hY⟩ : ∃ Y, ((w1.setCell ⟨w.heap.size, 0, none⟩ (.string e.k)).setCell ⟨w.heap.size, 1, none⟩ (.string e.v)).setCell ⟨w.heap.size, 2, none⟩ (.bool e.g) = Y := ⟨_, rfl⟩
  have hw1s : w.heap.size < w1.heap.size := (Array.getElem?_eq_some_iff.1 hb1).1
  have hYo : ∀ k, k ≠ w.heap.size → Y.heap[k]? = w1.heap[k]? := fun k hk => by rw [← hY, Below.heap_setCell _ _ _ k hk, Below.heap_setCell _ _ _ k hk, Below.heap_setCell _ _ _ k hk]
  have hYs : Y.heap.size = w1.heap.size := by rw [← hY]; simp
  rw [hY] at hYb
  have y0 : Y.cell? ⟨w.heap.size, 0, none⟩ = some (.string e.k) := bcell hYb rfl
  have y1 : Y.cell? ⟨w.heap.size, 1, none⟩ = some (.string e.v) := bcell hYb rfl
  have y2 : Y.cell? ⟨w.heap.size, 2, none⟩ = some (.bool e.g) := bcell hYb rfl
  have hsz := p3.bel.size
  have hSY : SG W0 hb g cap M Y := by
    obtain ⟨cur, c1, c2⟩ := p3.row
    refine ⟨⟨by rw [← hY]; exact p3.bel.os, by rw [← hY]; exact p3.bel.tape, by rw [← hY]; exact p3.bel.output, by omega, fun k hk => (hYo k (by have := hS0; omega)).trans (p3.bel.block k hk)⟩, p3.hbB, p3.gB, p3.ne, (hYo hb (by omega)).trans p3.box, ⟨cur, (hYo g (by omega)).trans c1, c2⟩, p3.fits⟩
  have hKY : Kq hb g w Y := ⟨by rw [← hY]; exact p4.os.trans hal.os, by rw [← hY]; exact p4.tape.trans hal.tape, by rw [← hY]; exact p4.output.trans hal.output, by omega, fun k hk h1 h2 => ((hYo k (by omega)).trans (p4.block k (by omega) h1 h2)).trans (hal.block k hk)⟩
  have HM : Hid (∃ M : List It, (r :: M).Perm L ∧ hp.Heap less M M.length ∧ SG W0 hb g cap M Y ∧ Kq hb g w Y) := ⟨M, p1, p2, hSY, hKY⟩
  clear hpop p1 p2 p3 p4 hF1 hbx r0 hSY hKY hYo hYs hYb hb1 bf HBN
  go_wp2
  exact bodyPost_ret (v := .agg #[.string e.k, .string e.v, .bool e.g]) (by simp [results, Try.results77, go_sem, y0, y1, y2]) rfl ⟨rfl, HM.out⟩

def ws (hb g n cap : Nat) (r : It) (m : Nat) : List (Nat × Value) :=
  [(16, .pointer (some ⟨hb, 0, none⟩)), (17, .pointer (some ⟨hb, 0, none⟩)), (18, .slice (some ⟨g, 0, none⟩) n cap), (19, .slice (some ⟨r.b, r.o, none⟩) (m + 2) r.c), (20, .slice (some ⟨r.b, r.o + 3, none⟩) (m + 1) (r.c - 1)), (21, .pointer (some ⟨g, 0, none⟩)), (22, .pointer (some ⟨g, 0, none⟩))]
def D (X Y : World) (b : Bool) (W : World) : Prop := W = if b = true then Y else X
theorem D.at {X Y W : World} {b : Bool} (h : D X Y b W) {a : Addr} {v : Value} (hx : X.cell? a = some v) (hy : Y.cell? a = some v) : W.cell? a = some v := by
  unfold D at h
  subst h
  split <;> assumption

set_option maxRecDepth 100000 in
set_option maxHeartbeats 1000000 in
theorem first_more (W0 : World) (hb g cap : Nat) (L : List It) (r : It) (e f : flP.Pr) (t : List flP.Pr) (w : World) (hS : SG W0 hb g cap L w) (h0 : L[0]? = some r) (hr : r.l = e :: f :: t) (hl : L.length ≤ 100) (hc : r.l.length ≤ r.c) (hH : hp.Heap less L L.length) :
    Calls Try.prog 77 #[.pointer (some ⟨hb, 0, none⟩)] w fun x w' => x = .returned (.agg #[.string e.k, .string e.v, .bool e.g]) ∧ ∃ M : List It, M.Perm (L.set 0 ⟨r.b, r.o + 3, r.c - 1, f :: t, r.p⟩) ∧ hp.Heap less M M.length ∧ SG W0 hb g cap M w' ∧ Kq hb g w w' := by
  have hal : Below w.heap.size w (w.alloc (.cells #[.string ⟨#[]⟩, .string ⟨#[]⟩, .bool false] 63)) := (Below.refl _ _).alloc (Nat.le_refl _) _
  have hbn := bnew w #[.string ⟨#[]⟩, .string ⟨#[]⟩, .bool false] 63
  obtain ⟨X, hX⟩ : ∃ X, w.alloc (.cells #[.string ⟨#[]⟩, .string ⟨#[]⟩, .bool false] 63) = X := ⟨_, rfl⟩
  rw [hX] at hal hbn
  have hSX := hS.on hal
  have hbl := (Array.getElem?_eq_some_iff.1 hS.box).1
  obtain ⟨hgc, hgl⟩ : ∃ o, w.heap[g]? = some o := by obtain ⟨cur, h1, _⟩ := hS.row; exact ⟨_, h1⟩
  have hgl2 := (Array.getElem?_eq_some_iff.1 hgl).1
  have HBN : Hid (X.heap[w.heap.size]? = some (.cells #[.string ⟨#[]⟩, .string ⟨#[]⟩, .bool false] 63 (0, 0))) := hbn
  have hXl := (Array.getElem?_eq_some_iff.1 hbn).1
  have hbx : X.cell? ⟨hb, 0, none⟩ = some (.slice (some ⟨g, 0, none⟩) L.length cap) := bcell hSX.box rfl
  have hat := hSX.row.at h0
  have hpos := (List.getElem?_eq_some_iff.1 h0).1
  have i1 : (0 : Int) < (L.length : Int) := by omega
  have HF : Hid (Fits W0 W0.heap.size r) := hS.fits r (List.mem_of_getElem? h0)
  have hrl : r.l[0]? = some e := by rw [hr]; rfl
  have hlen : r.l.length = t.length + 2 := by rw [hr]; rfl
  have r0 : X.cell? ⟨g, 0, none⟩ = some (.slice (some ⟨r.b, r.o, none⟩) (t.length + 2) r.c) := by have := hat.c0; rw [hlen] at this; simpa using this
  have hS0 := hS.bel.size
  obtain ⟨cur, c1, c2, c3, c4, c5⟩ := hSX.row
  have hne := hSX.ne
  have hgB := hSX.gB
  have hbB := hSX.hbB
  -- the world behind the store
  have hZb := bset (show X.drew.heap[g]? = some (.cells cur 103 (0, 0)) from c1) 0 (.slice (some ⟨r.b, r.o + 3, none⟩) (t.length + 1) (r.c - 1))
  obtain ⟨V, hV⟩ : ∃ V, X.drew = V := ⟨_, rfl⟩
  have v0 : V.cell? ⟨g, 0, none⟩ = some (.slice (some ⟨r.b, r.o, none⟩) (t.length + 2) r.c) := by rw [← hV]; exact r0
  have vf : V.frozen? ⟨g, 0, none⟩ = false := by rw [← hV]; exact bfree (show X.drew.heap[g]? = _ from c1) 0
  have vb : V.cell? ⟨hb, 0, none⟩ = some (.slice (some ⟨g, 0, none⟩) L.length cap) := by rw [← hV]; exact hbx
  rw [hV] at hZb
  obtain ⟨Z, hZ⟩ : ∃ Z, V.setCell ⟨g, 0, none⟩ (.slice (some ⟨r.b, r.o + 3, none⟩) (t.length + 1) (r.c - 1)) = Z := ⟨_, rfl⟩
  have hZo : ∀ k, k ≠ g → Z.heap[k]? = X.heap[k]? := fun k hk => by rw [← hZ, Below.heap_setCell _ _ _ k hk, ← hV]; rfl
  have hZs : Z.heap.size = X.heap.size := by rw [← hZ, ← hV]; simp
  have hKZ : Kq hb g X Z := ⟨by rw [← hZ, ← hV]; rfl, by rw [← hZ, ← hV]; rfl, by rw [← hZ, ← hV]; rfl, by omega, fun k _ h1 _ => hZo k h1⟩
  rw [hZ] at hZb
  have hzl : g < X.heap.size := (Array.getElem?_eq_some_iff.1 c1).1
  have zb : Z.cell? ⟨hb, 0, none⟩ = some (.slice (some ⟨g, 0, none⟩) L.length cap) := by
    have := (hZo hb (Ne.symm hne)).trans hSX.box
    exact bcell this rfl
  have hfr := hS.fits r (List.mem_of_getElem? h0)
  have hSZ : SG W0 hb g cap (L.set 0 ⟨r.b, r.o + 3, r.c - 1, f :: t, r.p⟩) Z := by
    have hXs := hSX.bel.size
    refine ⟨⟨hKZ.os.trans hSX.bel.os, hKZ.tape.trans hSX.bel.tape, hKZ.output.trans hSX.bel.output, by omega, fun k hk => (hZo k (by omega)).trans (hSX.bel.block k hk)⟩, hbB, hgB, hne, by rw [List.length_set]; exact (hZo hb (Ne.symm hne)).trans hSX.box, ⟨_, hZb, by simpa using c2, by rw [List.length_set]; exact c3, c4, fun i q hq j v hv => ?_⟩, fun q hq => ?_⟩
    · have hj : j < 2 := by have := (List.getElem?_eq_some_iff.1 hv).1; rwa [cI_len] at this
      rw [List.getElem?_set] at hq
      rw [Array.getElem?_setIfInBounds]
      by_cases ei : 0 = i
      · subst ei
        rw [if_pos rfl, if_pos hpos] at hq
        cases hq
        have : j = 0 ∨ j = 1 := by omega
        rcases this with rfl | rfl
        · rw [if_pos (by omega), if_pos (by omega)]
          simpa [cI] using hv
        · rw [if_neg (by omega)]
          exact c5 0 r h0 1 v hv
      · rw [if_neg ei] at hq
        rw [if_neg (by omega)]
        exact c5 i q hq j v hv
    · rcases List.mem_or_eq_of_mem_set hq with h | rfl
      · exact hS.fits q h
      · exact ⟨hfr.lt, by simp, by have := hfr.len; rw [hlen] at this; simp; omega, hfr.pl, fun i y hy j v hv => by
          have := hfr.cells (i + 1) y (by rw [hr]; simpa using hy) j v hv
          have e2 : r.o + (i + 1) * 3 + j = (r.o + 3) + i * 3 + j := by omega
          rw [e2] at this
          exact this⟩
  have hfix := fun W (h : Z = W) => fix_run W0 hb g cap (L.set 0 ⟨r.b, r.o + 3, r.c - 1, f :: t, r.p⟩) Z hSZ (by simpa using hpos) (by simpa using hl) (by rw [List.length_set]; exact hp.down_set hH)
  have hfixZ := hfix Z rfl
  have hcc : t.length + 2 ≤ r.c := by omega
  have hL0 : L ≠ [] := by rintro rfl; simp at hpos
  clear hfix hS hSX h0 hH hat hbn hgl hSZ c1 c2 c3 c4 c5 hfr hZb hlen hr hc
  go_enter Try.func77, Try.ntmps77
  go_wp2
  clear hX
  refine dk.region_sets (ws hb g L.length cap r t.length) [16, 17, 18, 19, 20, 21, 22] (dk.Cl (D V Z) 7) (by kernel_rfl) (by kernel_rfl) rfl (by kernel_rfl) (by show D V Z false X.drew; exact hV) ?each ?fin
  case each =>
    refine ⟨dk.q (by decide) (.pointer (some ⟨hb, 0, none⟩)) (by rintro _ ⟨⟩; exact dk.sets_on _ (by simp) _ rfl) (fun b W h => by simp [execOp, go_sem, Act.eval, dk.sets_get, ws, List.lookup]), ?_⟩
    refine ⟨dk.q (by decide) (.pointer (some ⟨hb, 0, none⟩)) (by rintro _ ⟨⟩; exact dk.sets_on _ (by simp) _ rfl) (fun b W h => by simp [execOp, go_sem, Act.eval, dk.sets_get, ws, List.lookup]), ?_⟩
    refine ⟨dk.q (by decide) (.slice (some ⟨g, 0, none⟩) L.length cap) (by rintro _ ⟨⟩; exact dk.sets_on _ (by simp) _ rfl) (fun b W h => by have c := D.at h vb zb; simp [execOp, go_sem, Act.eval, dk.sets_get, ws, List.lookup, c]), ?_⟩
    refine ⟨dk.q (by decide) (.slice (some ⟨r.b, r.o, none⟩) (t.length + 2) r.c) (by rintro _ ⟨⟩; exact dk.sets_on _ (by simp) _ rfl) (fun b W h => by simp [execOp, go_sem, Act.eval, dk.sets_get, ws, List.lookup]), ?_⟩
    refine ⟨dk.q (by decide) (.slice (some ⟨r.b, r.o + 3, none⟩) (t.length + 1) (r.c - 1)) (by rintro _ ⟨⟩; exact dk.sets_on _ (by simp) _ rfl) (fun b W h => by simp [execOp, go_sem, Act.eval, dk.sets_get, ws, List.lookup]; rw [if_pos (by omega), if_neg (by omega)]), ?_⟩
    refine ⟨dk.q (by decide) (.pointer (some ⟨g, 0, none⟩)) (by rintro _ ⟨⟩; exact dk.sets_on _ (by simp) _ rfl) (fun b W h => by simp [execOp, go_sem, Act.eval, dk.sets_get, ws, List.lookup, hL0]), ?_⟩
    refine ⟨dk.q (by decide) (.pointer (some ⟨g, 0, none⟩)) (by rintro _ ⟨⟩; exact dk.sets_on _ (by simp) _ rfl) (fun b W h => by simp [execOp, go_sem, Act.eval, dk.sets_get, ws, List.lookup]), ?_⟩
    exact ⟨dk.last rfl (fun W h => ⟨Z, by have h : W = V := h; subst h; rw [← hZ]; simp [execOp, go_sem, Act.eval, dk.sets_get, ws, List.lookup, v0, vf], rfl⟩), trivial⟩
  case fin =>
    intro K W hK hC
    have hC' : W = Z := by
      have h : D V Z (K 7) W := hC
      rw [hK 7 (by decide)] at h
      exact h
    subst hC'
    clear hC hK
    simp only [dk.sets, ws]
    go_wp2_with (go_at_call 89; fail)
    refine hfixZ.mono ?_
    rintro x w1 ⟨rfl, M, p1, p2, p3, p4'⟩
    have p4 := hKZ.trans (Kq.of (hb := hb) p4')
    have hF1 := HF.out.below p3.bel
    have d0 : w1.cell? ⟨r.b, r.o, none⟩ = some (.string e.k) := by simpa using hF1.cells 0 e hrl 0 _ rfl
    have d1 : w1.cell? ⟨r.b, r.o + 1, none⟩ = some (.string e.v) := by simpa using hF1.cells 0 e hrl 1 _ rfl
    have d2 : w1.cell? ⟨r.b, r.o + 2, none⟩ = some (.bool e.g) := by simpa using hF1.cells 0 e hrl 2 _ rfl
    have hb1 : w1.heap[w.heap.size]? = some (.cells #[.string ⟨#[]⟩, .string ⟨#[]⟩, .bool false] 63 (0, 0)) := (p4.block w.heap.size hXl (by omega) (by omega)).trans HBN.out
    have b0 : w1.cell? ⟨w.heap.size, 0, none⟩ = some (.string ⟨#[]⟩) := bcell hb1 rfl
    have b1 : w1.cell? ⟨w.heap.size, 1, none⟩ = some (.string ⟨#[]⟩) := bcell hb1 rfl
    have b2 : w1.cell? ⟨w.heap.size, 2, none⟩ = some (.bool false) := bcell hb1 rfl
    have bf : ∀ k, w1.frozen? ⟨w.heap.size, k, none⟩ = false := fun k => bfree hb1 k
    have bf0 := bf 0
    have bf1 := bf 1
    have bf2 := bf 2
    have hYb := bset (bset (bset hb1 0 (.string e.k)) 1 (.string e.v)) 2 (.bool e.g)
    obtain ⟨Y, hY⟩ : ∃ Y, ((w1.setCell ⟨w.heap.size, 0, none⟩ (.string e.k)).setCell ⟨w.heap.size, 1, none⟩ (.string e.v)).setCell ⟨w.heap.size, 2, none⟩ (.bool e.g) = Y := ⟨_, rfl⟩
    have hw1s : w.heap.size < w1.heap.size := (Array.getElem?_eq_some_iff.1 hb1).1
    have hYo : ∀ k, k ≠ w.heap.size → Y.heap[k]? = w1.heap[k]? := fun k hk => by rw [← hY, Below.heap_setCell _ _ _ k hk, Below.heap_setCell _ _ _ k hk, Below.heap_setCell _ _ _ k hk]
    have hYs : Y.heap.size = w1.heap.size := by rw [← hY]; simp
    rw [hY] at hYb
    have y0 : Y.cell? ⟨w.heap.size, 0, none⟩ = some (.string e.k) := bcell hYb rfl
    have y1 : Y.cell? ⟨w.heap.size, 1, none⟩ = some (.string e.v) := bcell hYb rfl
    have y2 : Y.cell? ⟨w.heap.size, 2, none⟩ = some (.bool e.g) := bcell hYb rfl
    have hsz := p3.bel.size
    have hSY : SG W0 hb g cap M Y := by
      obtain ⟨cur, c1, c2⟩ := p3.row
      refine ⟨⟨by rw [← hY]; exact p3.bel.os, by rw [← hY]; exact p3.bel.tape, by rw [← hY]; exact p3.bel.output, by omega, fun k hk => (hYo k (by have := hS0; omega)).trans (p3.bel.block k hk)⟩, p3.hbB, p3.gB, p3.ne, (hYo hb (by omega)).trans p3.box, ⟨cur, (hYo g (by omega)).trans c1, c2⟩, p3.fits⟩
    have hKY : Kq hb g w Y := ⟨by rw [← hY]; exact p4.os.trans hal.os, by rw [← hY]; exact p4.tape.trans hal.tape, by rw [← hY]; exact p4.output.trans hal.output, by omega, fun k hk h1 h2 => ((hYo k (by omega)).trans (p4.block k (by omega) h1 h2)).trans (hal.block k hk)⟩
    have HM : Hid (∃ M : List It, M.Perm (L.set 0 ⟨r.b, r.o + 3, r.c - 1, f :: t, r.p⟩) ∧ hp.Heap less M M.length ∧ SG W0 hb g cap M Y ∧ Kq hb g w Y) := ⟨M, p1, p2, hSY, hKY⟩
    clear hfixZ p1 p2 p3 p4 p4' hF1 hbx r0 hSY hKY hYo hYs hYb hb1 bf HBN hKZ hZo hZs zb vb v0 vf
    go_wp2
    exact bodyPost_ret (v := .agg #[.string e.k, .string e.v, .bool e.g]) (by simp [results, Try.results77, go_sem, y0, y1, y2]) rfl ⟨rfl, HM.out⟩
end Go.Proofs.Ytfoajjkcocppeaa.rfi

/- Layers of ascending pairs put together: the newest of each key, ascending. -/
namespace Go.Proofs.Ytfoajjkcocppeaa.mgp
open Go.Proofs.Ytfoajjkcocppeaa.rc Go.Proofs.Ytfoajjkcocppeaa.ro Go.Proofs.Ytfoajjkcocppeaa.tk Go.Proofs.Ytfoajjkcocppeaa.ptp Go.Proofs.Ytfoajjkcocppeaa.ri
set_option linter.unusedVariables false

def Asc (l : List flP.Pr) : Prop := l.Pairwise fun a b => lt a.k b.k = true
theorem asc_of {l : List flP.Pr} (h : UpP l l.length) : Asc l := by
  unfold Asc
  rw [List.pairwise_iff_getElem]
  have step : ∀ (d i : Nat) a b, l[i]? = some a → l[i + d + 1]? = some b → lt a.k b.k = true := by
    intro d
    induction d with
    | zero => intro i a b ha hb; exact cmp_neg.1 (h i a b (List.getElem?_eq_some_iff.1 hb).1 ha hb)
    | succ d ih =>
      intro i a b ha hb
      have hlt : i + d + 1 < l.length := by have := (List.getElem?_eq_some_iff.1 hb).1; omega
      have hm : l[i + d + 1]? = some l[i + d + 1] := List.getElem?_eq_getElem hlt
      exact lt_trans (ih i a _ ha hm) (cmp_neg.1 (h (i + d + 1) _ b (by have := (List.getElem?_eq_some_iff.1 hb).1; omega) hm (by rw [show i + d + 1 + 1 = i + (d + 1) + 1 by omega]; exact hb)))
  intro i j hi hj hij
  obtain ⟨d, rfl⟩ : ∃ d, j = i + d + 1 := ⟨j - i - 1, by omega⟩
  exact step d i _ _ (List.getElem?_eq_getElem hi) (List.getElem?_eq_getElem hj)
theorem of_asc {l : List flP.Pr} (h : Asc l) : UpP l l.length := fun i a b hi ha hb => by
  obtain ⟨h1, rfl⟩ := List.getElem?_eq_some_iff.1 ha
  obtain ⟨h2, rfl⟩ := List.getElem?_eq_some_iff.1 hb
  exact cmp_neg.2 (List.pairwise_iff_getElem.1 h i (i + 1) h1 h2 (by omega))
theorem asc_ext : ∀ {l m : List flP.Pr}, Asc l → Asc m → (∀ e, e ∈ l ↔ e ∈ m) → l = m
  | [], [], _, _, _ => rfl
  | [], b :: m, _, _, h => by have := (h b).2 (by simp); cases this
  | a :: l, [], _, _, h => by have := (h a).1 (by simp); cases this
  | a :: l, b :: m, hl, hm, h => by
    obtain ⟨l1, l2⟩ := List.pairwise_cons.1 hl
    obtain ⟨m1, m2⟩ := List.pairwise_cons.1 hm
    have e : a = b := by
      rcases List.mem_cons.1 ((h a).1 (by simp)) with h1 | h1
      · exact h1
      · rcases List.mem_cons.1 ((h b).2 (by simp)) with h2 | h2
        · exact h2.symm
        · have := lt_asymm (m1 a h1); rw [l1 b h2] at this; cases this
    subst e
    congr 1
    refine asc_ext l2 m2 fun x => ⟨fun hx => ?_, fun hx => ?_⟩
    · rcases List.mem_cons.1 ((h x).1 (by simp [hx])) with h1 | h1
      · subst h1; have := l1 x hx; rw [lt_irrefl] at this; cases this
      · exact h1
    · rcases List.mem_cons.1 ((h x).2 (by simp [hx])) with h1 | h1
      · subst h1; have := m1 x hx; rw [lt_irrefl] at this; cases this
      · exact h1
theorem asc_key {l : List flP.Pr} (h : Asc l) {a b : flP.Pr} (ha : a ∈ l) (hb : b ∈ l) (hk : a.k = b.k) : a = b := by
  induction l with
  | nil => cases ha
  | cons x l ih =>
    obtain ⟨l1, l2⟩ := List.pairwise_cons.1 h
    rcases List.mem_cons.1 ha with rfl | ha'
    · rcases List.mem_cons.1 hb with rfl | hb'
      · rfl
      · have := l1 b hb'; rw [hk, lt_irrefl] at this; cases this
    · rcases List.mem_cons.1 hb with rfl | hb'
      · have := l1 a ha'; rw [hk, lt_irrefl] at this; cases this
      · exact ih l2 ha' hb'

theorem setP_cons (a : flP.Pr) (l : List flP.Pr) (e : flP.Pr) : setP (a :: l) e = if lt a.k e.k = true then a :: setP l e else if a.k = e.k then e :: l else e :: a :: l := by
  by_cases h : lt a.k e.k = true
  · have hp : posP (a :: l) e.k = posP l e.k + 1 := by show (if lt a.k e.k = true then posP l e.k + 1 else 0) = _; rw [if_pos h]
    rw [if_pos h]
    unfold setP restP
    rw [hp]
    have hi : isP (a :: l) (posP l e.k + 1) e.k = isP l (posP l e.k) e.k := by unfold isP; rw [List.getElem?_cons_succ]
    rw [hi]
    split <;> simp
  · have hp : posP (a :: l) e.k = 0 := by show (if lt a.k e.k = true then posP l e.k + 1 else 0) = _; rw [if_neg h]
    rw [if_neg h]
    unfold setP restP
    rw [hp]
    have hi : isP (a :: l) 0 e.k = decide (a.k = e.k) := rfl
    rw [hi]
    by_cases hk : a.k = e.k
    · rw [if_pos (decide_eq_true hk), if_pos hk]; simp
    · rw [if_neg (by simpa using hk), if_neg hk]; simp
theorem setP_iff : ∀ {l : List flP.Pr}, Asc l → ∀ (e x : flP.Pr), x ∈ setP l e ↔ x = e ∨ (x ∈ l ∧ x.k ≠ e.k)
  | [], _, e, x => by simp [setP, restP, posP, isP]
  | a :: l, h, e, x => by
    obtain ⟨l1, l2⟩ := List.pairwise_cons.1 h
    rw [setP_cons]
    split
    · rename_i hlt
      have hne : a.k ≠ e.k := fun hk => by rw [hk, lt_irrefl] at hlt; cases hlt
      rw [List.mem_cons, setP_iff l2 e x]
      constructor
      · rintro (rfl | rfl | ⟨h1, h2⟩)
        · exact .inr ⟨by simp, hne⟩
        · exact .inl rfl
        · exact .inr ⟨by simp [h1], h2⟩
      · rintro (rfl | ⟨h1, h2⟩)
        · exact .inr (.inl rfl)
        · rcases List.mem_cons.1 h1 with rfl | h1
          · exact .inl rfl
          · exact .inr (.inr ⟨h1, h2⟩)
    · rename_i hlt
      have hgt : ∀ y ∈ l, y.k ≠ e.k := fun y hy hk => hlt (by rw [← hk]; exact l1 y hy)
      split
      · rename_i hk
        rw [List.mem_cons]
        constructor
        · rintro (rfl | h1)
          · exact .inl rfl
          · exact .inr ⟨by simp [h1], hgt x h1⟩
        · rintro (rfl | ⟨h1, h2⟩)
          · exact .inl rfl
          · rcases List.mem_cons.1 h1 with rfl | h1
            · exact absurd hk h2
            · exact .inr h1
      · rename_i hk
        rw [List.mem_cons]
        constructor
        · rintro (rfl | h1)
          · exact .inl rfl
          · rcases List.mem_cons.1 h1 with rfl | h2
            · exact .inr ⟨h1, hk⟩
            · exact .inr ⟨h1, hgt x h2⟩
        · rintro (rfl | ⟨h1, h2⟩)
          · exact .inl rfl
          · exact .inr h1
theorem setP_asc : ∀ {l : List flP.Pr}, Asc l → ∀ (e : flP.Pr), Asc (setP l e)
  | [], _, e => by simp [setP, restP, posP, isP, Asc]
  | a :: l, h, e => by
    obtain ⟨l1, l2⟩ := List.pairwise_cons.1 h
    rw [setP_cons]
    split
    · rename_i hlt
      refine List.pairwise_cons.2 ⟨fun x hx => ?_, setP_asc l2 e⟩
      rcases (setP_iff l2 e x).1 hx with rfl | ⟨h1, _⟩
      · exact hlt
      · exact l1 x h1
    · rename_i hlt
      have hlt' : lt a.k e.k = false := by simpa using hlt
      split
      · rename_i hk
        exact List.pairwise_cons.2 ⟨fun x hx => by rw [← hk]; exact l1 x hx, l2⟩
      · rename_i hk
        have hea := lt_tri hlt' hk
        refine List.pairwise_cons.2 ⟨fun x hx => ?_, h⟩
        rcases List.mem_cons.1 hx with rfl | hx
        · exact hea
        · exact lt_trans hea (l1 x hx)

/-- x is the newest of its key in the layers, the first one counting most -/
def New (ls : List (List flP.Pr)) (x : flP.Pr) : Prop := ∃ (i : Nat) (l : List flP.Pr), ls[i]? = some l ∧ x ∈ l ∧ ∀ (j : Nat) (m : List flP.Pr), j < i → ls[j]? = some m → ∀ y ∈ m, y.k ≠ x.k
theorem new_one {ls : List (List flP.Pr)} (hA : ∀ l ∈ ls, Asc l) {x y : flP.Pr} (hx : New ls x) (hy : New ls y) (hk : x.k = y.k) : x = y := by
  obtain ⟨i, l, h1, h2, h3⟩ := hx
  obtain ⟨j, m, k1, k2, k3⟩ := hy
  rcases Nat.lt_trichotomy i j with h | rfl | h
  · exact absurd hk (k3 i l h h1 x h2)
  · rw [h1] at k1; cases k1
    exact asc_key (hA l (List.mem_of_getElem? h1)) h2 k2 hk
  · exact absurd hk.symm (h3 j m h k1 y k2)
/-- the newest of each key, ascending: there is one such list -/
def Is (ls : List (List flP.Pr)) (out : List flP.Pr) : Prop := Asc out ∧ ∀ x, x ∈ out ↔ New ls x
theorem Is.one {ls : List (List flP.Pr)} {a b : List flP.Pr} (ha : Is ls a) (hb : Is ls b) : a = b := asc_ext ha.1 hb.1 fun e => (ha.2 e).trans (hb.2 e).symm

/-- what stands while the runs are put together -/
structure Inv (ls : List (List flP.Pr)) (M : List It) (out : List flP.Pr) : Prop where
  sf : ∀ r ∈ M, ∃ l d, ls[r.p]? = some l ∧ l = d ++ r.l
  up : Asc out
  lo : ∀ r ∈ M, ∀ e ∈ r.l, ∀ x ∈ out, lt e.k x.k = false
  nw : ∀ x ∈ out, New ls x
  cv : ∀ (i : Nat) l, ls[i]? = some l → ∀ e ∈ l, (∃ x ∈ out, x.k = e.k) ∨ ∃ r ∈ M, r.p = i ∧ e ∈ r.l
theorem Inv.perm {ls : List (List flP.Pr)} {M N : List It} {out : List flP.Pr} (h : Inv ls M out) (hp : N.Perm M) : Inv ls N out :=
  ⟨fun r hr => h.sf r (hp.mem_iff.1 hr), h.up, fun r hr => h.lo r (hp.mem_iff.1 hr), h.nw, fun i l hl e he => (h.cv i l hl e he).imp_right fun ⟨r, hr, h2⟩ => ⟨r, hp.mem_iff.2 hr, h2⟩⟩
theorem Inv.fin {ls : List (List flP.Pr)} {out : List flP.Pr} (hA : ∀ l ∈ ls, Asc l) (h : Inv ls [] out) : Is ls out := by
  refine ⟨h.up, fun x => ⟨h.nw x, fun hx => ?_⟩⟩
  obtain ⟨i, l, h1, h2, h3⟩ := hx
  rcases h.cv i l h1 x h2 with ⟨y, hy, hk⟩ | ⟨r, hr, _⟩
  · rw [← new_one hA (h.nw y hy) ⟨i, l, h1, h2, h3⟩ hk]; exact hy
  · cases hr
theorem suffix_asc {d l : List flP.Pr} (h : Asc (d ++ l)) : Asc l := (List.pairwise_append.1 h).2.1
/-- the first pair of all: no pair that is left comes ahead of it -/
theorem least {ls : List (List flP.Pr)} {r : It} {rest : List It} {e : flP.Pr} {t : List flP.Pr} {out : List flP.Pr} (hA : ∀ l ∈ ls, Asc l) (h : Inv ls (r :: rest) out) (hr : r.l = e :: t) (hm : ∀ q ∈ rest, less q r = false) : ∀ q ∈ r :: rest, ∀ y ∈ q.l, lt y.k e.k = false ∧ (y.k = e.k → r.p ≤ q.p) := by
  intro q hq y hy
  obtain ⟨l, d, h1, h2⟩ := h.sf q hq
  have hq2 : Asc q.l := suffix_asc (by rw [← h2]; exact hA l (List.mem_of_getElem? h1))
  obtain ⟨f, u, hf⟩ : ∃ f u, q.l = f :: u := by
    cases hh : q.l with
    | nil => rw [hh] at hy; cases hy
    | cons f u => exact ⟨f, u, rfl⟩
  have hke : key r = e.k := by unfold key; rw [hr]
  have hkf : key q = f.k := by unfold key; rw [hf]
  have hfy : lt y.k f.k = false ∧ (y.k = f.k ∨ lt f.k y.k = true) := by
    rw [hf] at hy hq2
    rcases List.mem_cons.1 hy with rfl | hy
    · exact ⟨lt_irrefl _, .inl rfl⟩
    · have := (List.pairwise_cons.1 hq2).1 y hy
      exact ⟨lt_asymm this, .inr this⟩
  have hfe : lt f.k e.k = false ∧ (f.k = e.k → r.p ≤ q.p) := by
    rcases List.mem_cons.1 hq with rfl | hq'
    · rw [hr] at hf; cases hf
      exact ⟨lt_irrefl _, fun _ => Nat.le_refl _⟩
    · have hl := hm q hq'
      refine ⟨?_, fun hk => ?_⟩
      · cases h3 : lt f.k e.k with
        | false => rfl
        | true => rw [less_iff.2 (.inl (by rw [hke, hkf]; exact h3))] at hl; cases hl
      · rcases Nat.lt_or_ge q.p r.p with h3 | h3
        · rw [less_iff.2 (.inr ⟨by rw [hke, hkf]; exact hk, h3⟩)] at hl; cases hl
        · exact h3
  refine ⟨?_, fun hk => ?_⟩
  · rcases hfy.2 with h3 | h3
    · rw [h3]; exact hfe.1
    · cases h4 : lt y.k e.k with
      | false => rfl
      | true => have := lt_trans h3 h4; rw [hfe.1] at this; cases this
  · refine hfe.2 ?_
    rcases hfy.2 with h3 | h3
    · rw [← h3]; exact hk
    · rw [hk] at h3
      rw [hfe.1] at h3; cases h3
theorem Inv.next {ls : List (List flP.Pr)} {r : It} {rest : List It} {e : flP.Pr} {t : List flP.Pr} {out out' : List flP.Pr} (h : Inv ls (r :: rest) out) (hr : r.l = e :: t) (hup : Asc out') (hlo : ∀ q ∈ rfi.nx r ++ rest, ∀ y ∈ q.l, ∀ x ∈ out', lt y.k x.k = false) (hnw : ∀ x ∈ out', New ls x) (hsub : ∀ x ∈ out, x ∈ out') (hek : ∃ x ∈ out', x.k = e.k) : Inv ls (rfi.nx r ++ rest) out' := by
  have hnx : ∀ q ∈ rfi.nx r, q.p = r.p ∧ q.l = t := fun q hq => by
    unfold rfi.nx at hq
    rw [hr] at hq
    cases t with
    | nil => cases hq
    | cons f u => simp at hq; subst hq; exact ⟨rfl, rfl⟩
  refine ⟨fun q hq => ?_, hup, hlo, hnw, fun i l hl y hy => ?_⟩
  · rcases List.mem_append.1 hq with hq | hq
    · obtain ⟨h1, h2⟩ := hnx q hq
      obtain ⟨l, d, h3, h4⟩ := h.sf r (by simp)
      exact ⟨l, d ++ [e], by rw [h1]; exact h3, by rw [h4, hr, h2]; simp⟩
    · exact h.sf q (by simp [hq])
  · rcases h.cv i l hl y hy with ⟨x, hx, hk⟩ | ⟨q, hq, h1, h2⟩
    · exact .inl ⟨x, hsub x hx, hk⟩
    · rcases List.mem_cons.1 hq with rfl | hq
      · rw [hr] at h2
        rcases List.mem_cons.1 h2 with rfl | h2
        · exact .inl hek
        · cases ht : t with
          | nil => rw [ht] at h2; cases h2
          | cons f u =>
            rw [ht] at h2
            refine .inr ⟨⟨q.b, q.o + 3, q.c - 1, f :: u, q.p⟩, ?_, h1, h2⟩
            unfold rfi.nx
            rw [hr, ht]
            simp
      · exact .inr ⟨q, by simp [hq], h1, h2⟩
/-- the popped pair's key is there already -/
theorem Inv.skip {ls : List (List flP.Pr)} {r : It} {rest : List It} {e z : flP.Pr} {t : List flP.Pr} {out : List flP.Pr} (h : Inv ls (r :: rest) out) (hr : r.l = e :: t) (hz : z ∈ out) (hk : z.k = e.k) : Inv ls (rfi.nx r ++ rest) out := by
  refine h.next hr h.up (fun q hq y hy x hx => ?_) h.nw (fun x hx => hx) ⟨z, hz, hk⟩
  rcases List.mem_append.1 hq with hq | hq
  · have : q.l = t := by
      unfold rfi.nx at hq
      rw [hr] at hq
      cases t with
      | nil => cases hq
      | cons f u => simp at hq; subst hq; rfl
    rw [this] at hy
    exact h.lo r (by simp) y (by rw [hr]; simp [hy]) x hx
  · exact h.lo q (by simp [hq]) y hy x hx
/-- the popped pair is a new one -/
theorem Inv.take {ls : List (List flP.Pr)} {r : It} {rest : List It} {e : flP.Pr} {t : List flP.Pr} {out : List flP.Pr} (hA : ∀ l ∈ ls, Asc l) (h : Inv ls (r :: rest) out) (hr : r.l = e :: t) (hm : ∀ q ∈ rest, less q r = false) (hne : ∀ z, out.getLast? = some z → z.k ≠ e.k) : Inv ls (rfi.nx r ++ rest) (out ++ [e]) := by
  have hl := least hA h hr hm
  have hout : ∀ x ∈ out, lt x.k e.k = true := fun x hx => by
    have h1 := h.lo r (by simp) e (by rw [hr]; simp) x hx
    cases hg : out.getLast? with
    | none => rw [List.getLast?_eq_none_iff] at hg; rw [hg] at hx; cases hx
    | some z =>
      obtain ⟨pre, hpre⟩ := List.getLast?_eq_some_iff.1 hg
      have hz : z ∈ out := by rw [hpre]; simp
      have hz1 := h.lo r (by simp) e (by rw [hr]; simp) z hz
      have hz2 : lt z.k e.k = true := lt_tri hz1 (Ne.symm (hne z hg))
      rw [hpre] at hx
      rcases List.mem_append.1 hx with hx | hx
      · have := h.up
        rw [hpre] at this
        exact lt_trans ((List.pairwise_append.1 this).2.2 x hx z (by simp)) hz2
      · simp at hx; subst hx; exact hz2
  refine h.next hr ?_ (fun q hq y hy x hx => ?_) (fun x hx => ?_) (fun x hx => by simp [hx]) ⟨e, by simp, rfl⟩
  · refine List.pairwise_append.2 ⟨h.up, by simp, fun x hx y hy => ?_⟩
    simp at hy; subst hy
    exact hout x hx
  · have hy' : lt y.k e.k = false ∧ ∀ x ∈ out, lt y.k x.k = false := by
      rcases List.mem_append.1 hq with hq | hq
      · have : q.l = t := by
          unfold rfi.nx at hq
          rw [hr] at hq
          cases t with
          | nil => cases hq
          | cons f u => simp at hq; subst hq; rfl
        rw [this] at hy
        exact ⟨(hl r (by simp) y (by rw [hr]; simp [hy])).1, h.lo r (by simp) y (by rw [hr]; simp [hy])⟩
      · exact ⟨(hl q (by simp [hq]) y hy).1, h.lo q (by simp [hq]) y hy⟩
    rcases List.mem_append.1 hx with hx | hx
    · exact hy'.2 x hx
    · simp at hx; subst hx; exact hy'.1
  · rcases List.mem_append.1 hx with hx | hx
    · exact h.nw x hx
    · simp at hx; subst hx
      obtain ⟨l, d, h1, h2⟩ := h.sf r (by simp)
      refine ⟨r.p, l, h1, by rw [h2, hr]; simp, fun j m hj hmm y hy hk => ?_⟩
      rcases h.cv j m hmm y hy with ⟨z, hz, hzk⟩ | ⟨q, hq, h3, h4⟩
      · have := hout z hz
        rw [hzk, hk, lt_irrefl] at this; cases this
      · have := (hl q hq y h4).2 hk
        omega
end Go.Proofs.Ytfoajjkcocppeaa.mgp

/- The newest of each key, one pair of the next layer after the other. -/
namespace Go.Proofs.Ytfoajjkcocppeaa.mgs
open Go.Proofs.Ytfoajjkcocppeaa.rc Go.Proofs.Ytfoajjkcocppeaa.ro Go.Proofs.Ytfoajjkcocppeaa.tk Go.Proofs.Ytfoajjkcocppeaa.ptp Go.Proofs.Ytfoajjkcocppeaa.mgp
set_option linter.unusedVariables false

theorem new_there {ls : List (List flP.Pr)} : ∀ (i : Nat) (l : List flP.Pr) (y : flP.Pr), ls[i]? = some l → y ∈ l → ∃ x, New ls x ∧ x.k = y.k := by
  intro i
  induction i using Nat.strongRecOn with
  | ind i ih =>
    intro l y hl hy
    by_cases h : ∃ (j : Nat) (m : List flP.Pr) (z : flP.Pr), j < i ∧ ls[j]? = some m ∧ z ∈ m ∧ z.k = y.k
    · obtain ⟨j, m, z, h1, h2, h3, h4⟩ := h
      obtain ⟨x, hx, hk⟩ := ih j h1 m z h2 h3
      exact ⟨x, hx, hk.trans h4⟩
    · exact ⟨y, ⟨i, l, hl, hy, fun j m hj hm z hz hk => h ⟨j, m, z, hj, hm, hz, hk⟩⟩, rfl⟩
theorem at_app {L : List (List flP.Pr)} {m l : List flP.Pr} {i : Nat} (h : (L ++ [m])[i]? = some l) : (i < L.length ∧ L[i]? = some l) ∨ (i = L.length ∧ l = m) := by
  rcases Nat.lt_or_ge i L.length with h1 | h1
  · rw [List.getElem?_append_left h1] at h; exact .inl ⟨h1, h⟩
  · rw [List.getElem?_append_right h1] at h
    have : i - L.length = 0 := by
      rcases Nat.eq_zero_or_pos (i - L.length) with h2 | h2
      · exact h2
      · rw [List.getElem?_eq_none (by simp; omega)] at h; cases h
    rw [this] at h
    simp at h
    exact .inr ⟨by omega, h.symm⟩
theorem new_app {L : List (List flP.Pr)} {m : List flP.Pr} {x : flP.Pr} : New (L ++ [m]) x ↔ New L x ∨ (x ∈ m ∧ ∀ (j : Nat) (l : List flP.Pr), L[j]? = some l → ∀ y ∈ l, y.k ≠ x.k) := by
  constructor
  · rintro ⟨i, l, h1, h2, h3⟩
    rcases at_app h1 with ⟨hi, hl⟩ | ⟨rfl, rfl⟩
    · exact .inl ⟨i, l, hl, h2, fun j q hj hq => h3 j q hj (by rw [List.getElem?_append_left (by omega)]; exact hq)⟩
    · exact .inr ⟨h2, fun j q hq => h3 j q (List.getElem?_eq_some_iff.1 hq).1 (by rw [List.getElem?_append_left (List.getElem?_eq_some_iff.1 hq).1]; exact hq)⟩
  · rintro (⟨i, l, h1, h2, h3⟩ | ⟨h2, h3⟩)
    · have hi := (List.getElem?_eq_some_iff.1 h1).1
      exact ⟨i, l, by rw [List.getElem?_append_left hi]; exact h1, h2, fun j q hj hq => h3 j q hj (by rw [List.getElem?_append_left (by omega)] at hq; exact hq)⟩
    · refine ⟨L.length, m, by simp, h2, fun j q hj hq => h3 j q (by rw [List.getElem?_append_left hj] at hq; exact hq)⟩
theorem is_nil {L : List (List flP.Pr)} {all : List flP.Pr} (h : Is L all) : Is (L ++ [[]]) all := ⟨h.1, fun x => by rw [h.2 x, new_app]; simp⟩
theorem is_one {l : List flP.Pr} (h : Asc l) : Is [l] l := ⟨h, fun x => by
  have := new_app (L := []) (m := l) (x := x)
  rw [List.nil_append] at this
  rw [this]
  constructor
  · intro hx; exact .inr ⟨hx, fun j q hq => by simp at hq⟩
  · rintro (⟨i, q, h1, _⟩ | ⟨h1, _⟩)
    · simp at h1
    · exact h1⟩
/-- a pair whose key is there already -/
theorem is_old {L : List (List flP.Pr)} {m all : List flP.Pr} {e z : flP.Pr} (h : Is (L ++ [m]) all) (hA : Asc (m ++ [e])) (hz : z ∈ all) (hk : z.k = e.k) : Is (L ++ [m ++ [e]]) all := by
  refine ⟨h.1, fun x => ?_⟩
  rw [h.2 x, new_app, new_app]
  constructor
  · rintro (h1 | ⟨h1, h2⟩)
    · exact .inl h1
    · exact .inr ⟨by simp [h1], h2⟩
  · rintro (h1 | ⟨h1, h2⟩)
    · exact .inl h1
    · rcases List.mem_append.1 h1 with h3 | h3
      · exact .inr ⟨h3, h2⟩
      · simp at h3; subst h3
        exfalso
        rcases new_app.1 ((h.2 z).1 hz) with ⟨i, l, k1, k2, _⟩ | ⟨k1, _⟩
        · exact h2 i l k1 z k2 hk
        · have := (List.pairwise_append.1 hA).2.2 z k1 x (by simp)
          rw [hk, lt_irrefl] at this; cases this
/-- a pair whose key is not there yet -/
theorem is_new {L : List (List flP.Pr)} {m all : List flP.Pr} {e : flP.Pr} (h : Is (L ++ [m]) all) (hno : ∀ z ∈ all, z.k ≠ e.k) : Is (L ++ [m ++ [e]]) (setP all e) := by
  have hL : ∀ (j : Nat) (l : List flP.Pr), L[j]? = some l → ∀ y ∈ l, y.k ≠ e.k := fun j l hl y hy hk => by
    obtain ⟨x, hx, hxk⟩ := new_there (ls := L ++ [m]) j l y (by rw [List.getElem?_append_left (List.getElem?_eq_some_iff.1 hl).1]; exact hl) hy
    exact hno x ((h.2 x).2 hx) (hxk.trans hk)
  refine ⟨setP_asc h.1 e, fun x => ?_⟩
  rw [setP_iff h.1, h.2 x, new_app, new_app]
  constructor
  · rintro (rfl | ⟨h1 | ⟨h1, h2⟩, _⟩)
    · exact .inr ⟨by simp, hL⟩
    · exact .inl h1
    · exact .inr ⟨by simp [h1], h2⟩
  · rintro (h1 | ⟨h1, h2⟩)
    · refine .inr ⟨.inl h1, hno x ((h.2 x).2 (new_app.2 (.inl h1)))⟩
    · rcases List.mem_append.1 h1 with h3 | h3
      · exact .inr ⟨.inr ⟨h3, h2⟩, hno x ((h.2 x).2 (new_app.2 (.inr ⟨h3, h2⟩)))⟩
      · simp at h3; exact .inl h3
/-- a pair of a layer that counts more -/
theorem is_over {a b all : List flP.Pr} {k : Nat} {e : flP.Pr} (h : Is [a.take k, b] all) (hA : Asc a) (hk : a[k]? = some e) : Is [a.take (k + 1), b] (setP all e) := by
  obtain ⟨hl, rfl⟩ := List.getElem?_eq_some_iff.1 hk
  have ht : a.take (k + 1) = a.take k ++ [a[k]] := by rw [List.take_succ_eq_append_getElem hl]
  have hA2 : Asc (a.take k ++ [a[k]]) := by rw [← ht]; exact hA.sublist (List.take_sublist _ _)
  have two : ∀ (u v : List flP.Pr) (x : flP.Pr), New [u, v] x ↔ x ∈ u ∨ (x ∈ v ∧ ∀ y ∈ u, y.k ≠ x.k) := fun u v x => by
    have h1 := new_app (L := [u]) (m := v) (x := x)
    have h2 := new_app (L := []) (m := u) (x := x)
    rw [List.nil_append] at h2
    rw [show [u, v] = [u] ++ [v] from rfl, h1, h2]
    constructor
    · rintro ((⟨i, q, h3, _⟩ | ⟨h3, _⟩) | ⟨h3, h4⟩)
      · simp at h3
      · exact .inl h3
      · exact .inr ⟨h3, h4 0 u rfl⟩
    · rintro (h3 | ⟨h3, h4⟩)
      · exact .inl (.inr ⟨h3, fun j q hq => by simp at hq⟩)
      · refine .inr ⟨h3, fun j q hq => ?_⟩
        cases j with
        | zero => simp at hq; subst hq; exact h4
        | succ j => simp at hq
  refine ⟨setP_asc h.1 _, fun x => ?_⟩
  rw [setP_iff h.1, h.2 x, two, two, ht]
  constructor
  · rintro (rfl | ⟨h1 | ⟨h1, h2⟩, h3⟩)
    · exact .inl (List.mem_append_right _ (List.mem_singleton.2 rfl))
    · exact .inl (List.mem_append_left _ h1)
    · refine .inr ⟨h1, fun y hy => ?_⟩
      rcases List.mem_append.1 hy with hy | hy
      · exact h2 y hy
      · simp at hy; subst hy; exact fun e => h3 e.symm
  · rintro (h1 | ⟨h1, h2⟩)
    · rcases List.mem_append.1 h1 with h3 | h3
      · refine .inr ⟨.inl h3, fun hk2 => ?_⟩
        have := (List.pairwise_append.1 hA2).2.2 x h3 a[k] (by simp)
        rw [hk2, lt_irrefl] at this; cases this
      · simp at h3; exact .inl h3
    · exact .inr ⟨.inr ⟨h1, fun y hy => h2 y (List.mem_append_left _ hy)⟩, fun hk2 => h2 a[k] (List.mem_append_right _ (List.mem_singleton.2 rfl)) hk2.symm⟩
end Go.Proofs.Ytfoajjkcocppeaa.mgs

/- The program's newestOf: the newest pair of each key, ascending, in a row of its own. -/
namespace Go.Proofs.Ytfoajjkcocppeaa.rnw
open Go.ChangeShapes Go.WideShapes Go.ChangeAt Go.RowKit Go.Proofs.Ytfoajjkcocppeaa.fl Go.Proofs.Ytfoajjkcocppeaa.rn Go.Proofs.Ytfoajjkcocppeaa.ri Go.Proofs.Ytfoajjkcocppeaa.rst Go.Proofs.Ytfoajjkcocppeaa.rpu Go.Proofs.Ytfoajjkcocppeaa.rpo
set_option linter.unusedVariables false

/-- the heap holds the first k runs, those that are not empty -/
structure Jn (rs : List Rn) (k : Nat) (M : List It) : Prop where
  of : ∀ q ∈ M, ∃ r, rs[q.p]? = some r ∧ q.l = r.l ∧ q.p < k ∧ q.l.length ≤ q.c
  all : ∀ (i : Nat) r, i < k → rs[i]? = some r → r.l ≠ [] → ∃ q ∈ M, q.p = i ∧ q.l = r.l
  len : M.length ≤ k
theorem Jn.perm {rs : List Rn} {k : Nat} {M N : List It} (h : Jn rs k M) (hp : N.Perm M) : Jn rs k N :=
  ⟨fun q hq => h.of q (hp.mem_iff.1 hq), fun i r hi hr hn => by obtain ⟨q, hq, h2⟩ := h.all i r hi hr hn; exact ⟨q, hp.mem_iff.2 hq, h2⟩, by rw [hp.length_eq]; exact h.len⟩
theorem Jn.skip {rs : List Rn} {k : Nat} {M : List It} {r : Rn} (h : Jn rs k M) (hr : rs[k]? = some r) (he : r.l = []) : Jn rs (k + 1) M := by
  refine ⟨fun q hq => ?_, fun i x hi hx hn => ?_, by have := h.len; omega⟩
  · obtain ⟨x, h1, h2, h3, h4⟩ := h.of q hq
    exact ⟨x, h1, h2, by omega, h4⟩
  · by_cases e : i = k
    · subst e; rw [hr] at hx; cases hx; exact absurd he hn
    · exact h.all i x (by omega) hx hn
theorem Jn.push {rs : List Rn} {k : Nat} {M : List It} {r : Rn} {q : It} (h : Jn rs k M) (hr : rs[k]? = some r) (hq : q.p = k ∧ q.l = r.l ∧ q.l.length ≤ q.c) : Jn rs (k + 1) (M ++ [q]) := by
  obtain ⟨q1, q2, q3⟩ := hq
  refine ⟨fun x hx => ?_, fun i x hi hx hn => ?_, by have := h.len; simp; omega⟩
  · rcases List.mem_append.1 hx with hx | hx
    · obtain ⟨y, h1, h2, h3, h4⟩ := h.of x hx
      exact ⟨y, h1, h2, by omega, h4⟩
    · simp at hx; subst hx
      exact ⟨r, by rw [q1]; exact hr, q2, by omega, q3⟩
  · by_cases e : i = k
    · subst e; rw [hr] at hx; cases hx
      exact ⟨q, by simp, q1, q2⟩
    · obtain ⟨y, hy, h2⟩ := h.all i x (by omega) hx hn
      exact ⟨y, by simp [hy], h2⟩
theorem Jn.inv {rs : List Rn} {M : List It} (h : Jn rs rs.length M) : mgp.Inv (rs.map (·.l)) M [] := by
  refine ⟨fun q hq => ?_, by simp [mgp.Asc], fun _ _ _ _ x hx => (by cases hx), fun x hx => (by cases hx), fun i l hl e he => .inr ?_⟩
  · obtain ⟨r, h1, h2, _⟩ := h.of q hq
    exact ⟨r.l, [], by rw [List.getElem?_map, h1]; rfl, by rw [h2]; rfl⟩
  · rw [List.getElem?_map, Option.map_eq_some_iff] at hl
    obtain ⟨r, hr, rfl⟩ := hl
    obtain ⟨q, hq, h1, h2⟩ := h.all i r (List.getElem?_eq_some_iff.1 hr).1 hr (fun e2 => by rw [e2] at he; cases he)
    exact ⟨q, hq, h1, by rw [h2]; exact he⟩

def tot (M : List It) : Nat := (M.map fun q => q.l.length).sum
theorem tot_cons (q : It) (M : List It) : tot (q :: M) = q.l.length + tot M := by simp [tot]
theorem tot_app (M N : List It) : tot (M ++ N) = tot M + tot N := by simp [tot]
theorem tot_perm {M N : List It} (h : M.Perm N) : tot M = tot N := by
  induction h with
  | nil => rfl
  | cons x _ ih => rw [tot_cons, tot_cons, ih]
  | swap x y l => simp only [tot_cons]; omega
  | trans _ _ ih1 ih2 => exact ih1.trans ih2
theorem tot_nx {r : It} {e : flP.Pr} {t : List flP.Pr} (h : r.l = e :: t) : tot (rfi.nx r) = t.length := by
  unfold rfi.nx
  rw [h]
  cases t with
  | nil => rfl
  | cons f u => simp [tot]
theorem tot_le : ∀ {M : List It}, (∀ q ∈ M, q.l.length ≤ 300) → tot M ≤ 300 * M.length
  | [], _ => by simp [tot]
  | q :: M, h => by
    have h1 := h q (by simp)
    have h2 := tot_le (M := M) fun x hx => h x (by simp [hx])
    rw [tot_cons, List.length_cons]
    omega
def lenAt (w : World) (g i : Nat) : Nat := match w.cell? ⟨g, i * 2, none⟩ with
  | some (.slice _ m _) => m
  | _ => 0
/-- how many pairs are left in a heap, as memory tells it -/
def meas (hb g : Nat) (w : World) : Nat := match w.cell? ⟨hb, 0, none⟩ with
  | some (.slice _ n _) => ((List.range n).map (lenAt w g)).sum
  | _ => 0
theorem meas_eq {W0 : World} {hb g cap : Nat} {M : List It} {w : World} (h : SG W0 hb g cap M w) : meas hb g w = tot M := by
  have hb1 : w.cell? ⟨hb, 0, none⟩ = some (.slice (some ⟨g, 0, none⟩) M.length cap) := bcell h.box rfl
  unfold meas
  rw [hb1]
  show ((List.range M.length).map (lenAt w g)).sum = (M.map fun q => q.l.length).sum
  congr 1
  apply List.ext_getElem?
  intro i
  rw [List.getElem?_map, List.getElem?_map]
  by_cases hi : i < M.length
  · rw [List.getElem?_range hi, List.getElem?_eq_getElem hi]
    simp only [Option.map_some]
    have := (h.row.at (List.getElem?_eq_getElem hi)).c0
    unfold lenAt
    rw [this]
  · rw [List.getElem?_eq_none (by simpa using hi), List.getElem?_eq_none (by omega)]
    rfl
theorem own_kq {w w' : World} {B hb g n m : Nat} {T : TypeId} {v : Value} {xs : List Value} (h : w.ownsRow B T m v n xs) (hk : Kq hb g w w') (h1 : v.ownBlock ≠ some hb) (h2 : v.ownBlock ≠ some g) : w'.ownsRow B T m v n xs := by
  refine ⟨h.1, ?_⟩
  rcases h.2 with h3 | ⟨b, cap, cur, rfl, hB, hc, h4⟩
  · exact .inl h3
  · exact .inr ⟨b, cap, cur, rfl, hB, (hk.block b (Array.getElem?_eq_some_iff.1 hc).1 (fun e => h2 (by rw [e]; rfl)) (fun e => h1 (by rw [e]; rfl))).trans hc, h4⟩
theorem own_below {w w' : World} {B n m : Nat} {T : TypeId} {v : Value} {xs : List Value} (h : w.ownsRow B T m v n xs) (hb : Below w.heap.size w w') : w'.ownsRow B T m v n xs :=
  h.kept (row := none) ⟨hb.os, hb.tape, hb.output, hb.size, fun i hi _ => hb.block i hi⟩ (by
    cases hv : v.ownBlock with
    | none => exact .inl rfl
    | some g => right; simp)
theorem bdrewN {B : Nat} {a w : World} (h : Below B a w) (n : Nat) : Below B a (w.drewN n) := ⟨h.os, h.tape, h.output, h.size, h.block⟩

/-- the first pair of all, taken out of the heap -/
theorem first_run (W0 : World) (hb g cap : Nat) (r : It) (rest : List It) (e : flP.Pr) (t : List flP.Pr) (w : World) (hS : SG W0 hb g cap (r :: rest) w) (hr : r.l = e :: t) (hl : (r :: rest).length ≤ 100) (hc : r.l.length ≤ r.c) (hH : hp.Heap less (r :: rest) (r :: rest).length) :
    Calls Try.prog 77 #[.pointer (some ⟨hb, 0, none⟩)] w fun x w' => x = .returned (.agg #[.string e.k, .string e.v, .bool e.g]) ∧ ∃ M : List It, M.Perm (rfi.nx r ++ rest) ∧ hp.Heap less M M.length ∧ SG W0 hb g cap M w' ∧ Kq hb g w w' := by
  cases t with
  | nil =>
    refine (rfi.first_one W0 hb g cap (r :: rest) r e w hS rfl hr hl hH).mono fun x w' ⟨h1, M, h2, h3⟩ => ⟨h1, M, ?_, h3⟩
    have : rfi.nx r = [] := by unfold rfi.nx; rw [hr]
    rw [this]
    exact h2.cons_inv
  | cons f u =>
    refine (rfi.first_more W0 hb g cap (r :: rest) r e f u w hS rfl hr hl hc hH).mono fun x w' ⟨h1, M, h2, h3⟩ => ⟨h1, M, ?_, h3⟩
    have : rfi.nx r = [⟨r.b, r.o + 3, r.c - 1, f :: u, r.p⟩] := by unfold rfi.nx; rw [hr]
    rw [this]
    exact h2
/-- what stands at the head of a round -/
structure St (w : World) (g cap : Nat) (ls : List (List flP.Pr)) (M : List It) (out : List flP.Pr) (v : Value) (wr : World) : Prop where
  inv : mgp.Inv ls M out
  heap : hp.Heap less M M.length
  sg : SG w w.heap.size g cap M wr
  ml : M.length ≤ 20
  mc : ∀ q ∈ M, q.l.length ≤ q.c
  own : wr.ownsRow w.heap.size 63 3 v out.length (out.flatMap flP.c)
  n1 : v.ownBlock ≠ some w.heap.size
  n2 : v.ownBlock ≠ some g
  ol : out.length + tot M ≤ 6000
theorem St.on {w : World} {g cap : Nat} {ls : List (List flP.Pr)} {M : List It} {out : List flP.Pr} {v : Value} {wr w1 : World} (h : St w g cap ls M out v wr) (hb : Below wr.heap.size wr w1) : St w g cap ls M out v w1 :=
  ⟨h.inv, h.heap, h.sg.on hb, h.ml, h.mc, own_below h.own hb, h.n1, h.n2, h.ol⟩
theorem infoP : (Try.prog.info? 63).map (fun i => (i.zero, i.size, i.bytes)) = some (some (.agg #[.string ByteArray.empty, .string ByteArray.empty, .bool false]), 3, 40) := by kernel_rfl
theorem nx_mc {r : It} {e : flP.Pr} {t : List flP.Pr} (hr : r.l = e :: t) (hc : r.l.length ≤ r.c) : ∀ q ∈ rfi.nx r, q.l.length ≤ q.c := fun q hq => by
  unfold rfi.nx at hq
  rw [hr] at hq hc
  cases t with
  | nil => cases hq
  | cons f u => simp at hq hc; subst hq; simp; omega
theorem nx_len (r : It) : (rfi.nx r).length ≤ 1 := by
  unfold rfi.nx
  split <;> simp

set_option maxRecDepth 100000 in
set_option maxHeartbeats 2000000 in
theorem newest_run (rs : List Rn) (ra : Option Addr) (rc : Nat) (w : World) (hl : rs.length ≤ 20) (hlen : ∀ r ∈ rs, r.l.length ≤ 300 ∧ r.l.length ≤ r.c) (hA : ∀ l ∈ rs.map (·.l), mgp.Asc l) (hR : VR w w.heap.size ra rs) :
    Calls Try.prog 62 #[.slice ra rs.length rc] w fun e w' => ∃ v out, e = .returned v ∧ mgp.Is (rs.map (·.l)) out ∧ out.length ≤ 6000 ∧ w'.ownsRow w.heap.size 63 3 v out.length (out.flatMap flP.c) ∧ Below w.heap.size w w' := by
  have HR : Hid (VR w w.heap.size ra rs) := hR
  have HLE : Hid (∀ r ∈ rs, r.l.length ≤ 300 ∧ r.l.length ≤ r.c) := hlen
  have HAS : Hid (∀ l ∈ rs.map (·.l), mgp.Asc l) := hA
  have hal : Below w.heap.size w (w.alloc (.cells #[.slice none 0 0] 99)) := (Below.refl _ _).alloc (Nat.le_refl _) _
  have hbn := bnew w #[.slice none 0 0] 99
  have HS0 : Hid (SN w w.heap.size [] (w.alloc (.cells #[.slice none 0 0] 99))) := ⟨hal, Nat.le_refl _, ⟨_, hbn, World.ownsRow_nil _ _ _ _, by simp [Value.ownBlock]⟩, fun r hr => (by cases hr)⟩
  clear hR hlen hA hbn
  go_enter Try.func62, Try.ntmps62
  go_wp2
  go_loopw [4, 5, 10] (fun _ _ x wr => ∃ (k : Nat) (M : List It), k ≤ rs.length ∧ x = .int .i64 k ∧ Hid (Jn rs k M) ∧ Hid (hp.Heap less M M.length) ∧ Hid (SN w w.heap.size M wr)) (fun _ _ x _ => rs.length - (intOf x).toNat)
  case atStart => exact ⟨0, [], Nat.zero_le _, rfl, ⟨fun q hq => (by cases hq), fun i r hi => absurd hi (by omega), Nat.le_refl _⟩, fun i h0 h1 => absurd h1 (by simp), HS0⟩
  case round =>
    obtain ⟨k, M, hk, rfl, hjn, hhp, hsn⟩ := hrel
    by_cases hkl : k < rs.length
    · have HG : Hid (rs[k]? = some rs[k]) := List.getElem?_eq_getElem hkl
      have hmem := List.getElem_mem hkl
      have hrow := HR.out.2 rs[k] hmem
      have hle := HLE.out rs[k] hmem
      obtain ⟨⟨qa, qc, ql⟩, he⟩ : ∃ e, rs[k] = e := ⟨_, rfl⟩
      rw [he] at HG hrow hle
      obtain ⟨b, off, rfl, hlt, hc⟩ := HR.out.1.resolve_left (by rintro rfl; simp at hkl)
      have c0 : wr.cell? ⟨b, off + k, none⟩ = some (.slice qa ql.length qc) := (hsn.out.bel.cell (p := ⟨b, off + k, none⟩) hlt).trans (by have := hc k _ HG.out 0 _ rfl; simpa using this)
      have i2 : (k : Int) < (rs.length : Int) := by omega
      clear he hc hmem
      by_cases hq0 : ql = []
      · subst hq0
        have HJ : Hid (Jn rs (k + 1) M) := hjn.out.skip HG.out rfl
        go_wp2
        go_roundw
        case rel => exact ⟨k + 1, M, by omega, by go_num, HJ, hhp, hsn⟩
        case measure => simp [intOf]; omega
      · have hpos : 0 < ql.length := List.length_pos_iff.2 hq0
        rcases hrow with h0 | ⟨qb, qo, rfl, hqlt, hqc⟩
        · exact absurd h0 hq0
        have hfit : Fits w w.heap.size ⟨qb, qo, qc, ql, k⟩ := ⟨hqlt, hq0, hle.1, by show k ≤ 100; omega, hqc⟩
        have hpush := push_run w w.heap.size M ⟨qb, qo, qc, ql, k⟩ wr hsn.out hhp.out hfit (by have := hjn.out.len; omega)
        have HJ : Hid (Jn rs (k + 1) (M ++ [⟨qb, qo, qc, ql, k⟩])) := hjn.out.push HG.out ⟨rfl, rfl, hle.2⟩
        have i3 : (0 : Int) < (ql.length : Int) := by omega
        clear hqc hfit hsn hhp hjn
        go_wp2_with (go_at_call 75; fail)
        refine hpush.mono ?_
        rintro e w1 ⟨rfl, N, n1, n2, n3⟩
        have HJ2 : Hid (Jn rs (k + 1) N) := HJ.out.perm n1
        have HN2 : Hid (hp.Heap less N N.length) := n2
        have HN3 : Hid (SN w w.heap.size N w1) := n3
        clear hpush n1 n2 n3 c0
        go_wp2
        go_roundw
        case rel => exact ⟨k + 1, N, by omega, by go_num, HJ2, HN2, HN3⟩
        case measure => simp [intOf]; omega
    · obtain rfl : k = rs.length := by omega
      have HI : Hid (mgp.Inv (rs.map (·.l)) M []) := hjn.out.inv
      have HML : Hid (M.length ≤ 20) := by unfold Hid; have := hjn.out.len; omega
      have HMC : Hid (∀ q ∈ M, q.l.length ≤ q.c) := fun q hq => by obtain ⟨_, _, _, _, h4⟩ := hjn.out.of q hq; exact h4
      have hbx : ∃ a c, wr.cell? ⟨w.heap.size, 0, none⟩ = some (.slice a M.length c) := by
        obtain ⟨v, hv, ho, _⟩ := hsn.out.box
        rcases ho.2 with ⟨rfl, h0⟩ | ⟨g, cap, cur, rfl, _⟩
        · exact ⟨none, 0, by rw [h0]; exact bcell hv rfl⟩
        · exact ⟨_, _, bcell hv rfl⟩
      clear hjn hkl hk
      by_cases hM0 : M = []
      · subst hM0
        obtain ⟨a, c, hbx⟩ := hbx
        have hbx : wr.cell? ⟨w.heap.size, 0, none⟩ = some (.slice a 0 c) := hbx
        have hIs : Hid (mgp.Is (rs.map (·.l)) []) := HI.out.fin HAS.out
        have hbel : Below w.heap.size w wr := hsn.out.bel
        clear HI HMC HML
        go_wp2
        refine wp_loop_rounds 1 ?_
        rw [rounds_succ]
        go_wp2_with (go_at_call 76; refine (len_run _ _ _ _).mono ?_; rintro e w0 ⟨rfl, hw0⟩; rw [← hw0]; clear hw0 w0)
        go_ret
        exact ⟨_, [], rfl, hIs.out, by simp, World.ownsRow_nil _ _ _ _, hbel⟩
      · obtain ⟨g, cap, hsg⟩ := hsn.out.sg hM0
        have HSG : Hid (SG w w.heap.size g cap M wr) := hsg
        have hlt5 : ∀ q ∈ M, q.l.length ≤ 300 := fun q hq => (hsg.fits q hq).len
        have hst : Hid (St w g cap (rs.map (·.l)) M [] (.slice none 0 0) wr) := ⟨HI.out, hhp.out, hsg, HML.out, HMC.out, World.ownsRow_nil _ _ _ _, by simp [Value.ownBlock], by simp [Value.ownBlock], by have := tot_le hlt5; have := HML.out; simp; omega⟩
        obtain ⟨i0, hi, hz0, hz1, hz2⟩ := info_parts infoP
        clear hsn hsg hbx hM0 HI HML HMC HSG hhp hlt5
        go_wp2
        go_loopw [6, 7] (fun v _ wx => ∃ (N : List It) (out : List flP.Pr), Hid (St w g cap (rs.map (·.l)) N out v wx)) (fun _ _ wx => meas w.heap.size g wx)
        case atStart => exact ⟨M, [], hst⟩
        case round =>
          obtain ⟨N, out, hSt⟩ := hrel
          have hbx : wr.cell? ⟨w.heap.size, 0, none⟩ = some (.slice (some ⟨g, 0, none⟩) N.length cap) := bcell hSt.out.sg.box rfl
          cases N with
          | nil =>
            have hIs : Hid (mgp.Is (rs.map (·.l)) out) := hSt.out.inv.fin HAS.out
            have HFO : Hid (out.length ≤ 6000 ∧ wr.ownsRow w.heap.size 63 3 u6 out.length (out.flatMap flP.c) ∧ Below w.heap.size w wr) := ⟨by have := hSt.out.ol; omega, hSt.out.own, hSt.out.sg.bel⟩
            go_wp2_with (go_at_call 76; refine (len_run _ _ _ _).mono ?_; rintro e w0 ⟨rfl, hw0⟩; rw [← hw0]; clear hw0 w0)
            go_ret
            exact ⟨_, out, rfl, hIs.out, HFO.out⟩
          | cons r rest =>
            obtain ⟨e, t, hrl⟩ : ∃ e t, r.l = e :: t := by
              cases h : r.l with
              | nil => exact absurd h (hSt.out.sg.fits r (by simp)).ne
              | cons e t => exact ⟨e, t, rfl⟩
            have hfirst := first_run w w.heap.size g cap r rest e t wr hSt.out.sg hrl (by have := hSt.out.ml; omega) (hSt.out.mc r (by simp)) hSt.out.heap
            have hmin : ∀ q ∈ rest, less q r = false := fun q hq => by
              obtain ⟨i, hi⟩ := List.getElem?_of_mem hq
              exact hp.Heap.head ord hSt.out.heap (Nat.le_refl _) (i + 1) (by have := (List.getElem?_eq_some_iff.1 hi).1; simp; omega) r q rfl (by simpa using hi)
            have HTK : Hid ((∀ z, out.getLast? = some z → z.k ≠ e.k) → mgp.Inv (rs.map (·.l)) (rfi.nx r ++ rest) (out ++ [e])) := fun h => hSt.out.inv.take HAS.out hrl hmin h
            have HSK : Hid (∀ z, z ∈ out → z.k = e.k → mgp.Inv (rs.map (·.l)) (rfi.nx r ++ rest) out) := fun z hz hk => hSt.out.inv.skip hrl hz hk
            have hme : meas w.heap.size g wr = t.length + 1 + tot rest := by rw [meas_eq hSt.out.sg, tot_cons, hrl]; rfl
            have HTN : Hid (tot (rfi.nx r ++ rest) = t.length + tot rest) := by unfold Hid; rw [tot_app, tot_nx hrl]
            have HLN : Hid ((rfi.nx r ++ rest).length ≤ 20) := by unfold Hid; have := nx_len r; have := hSt.out.ml; simp at this ⊢; omega
            have HCN : Hid (∀ q ∈ rfi.nx r ++ rest, q.l.length ≤ q.c) := fun q hq => by
              rcases List.mem_append.1 hq with h | h
              · exact nx_mc hrl (hSt.out.mc r (by simp)) q h
              · exact hSt.out.mc q (by simp [h])
            have HOL : Hid (out.length + (t.length + 1 + tot rest) ≤ 6000) := by unfold Hid; have := hSt.out.ol; rw [tot_cons, hrl] at this; simpa using this
            obtain ⟨oa, oc, hu6, _⟩ := own_row flP.c_len hSt.out.own
            subst hu6
            have i1 : (0 : Int) < (rest.length : Int) + 1 := by omega
            have hbx : wr.cell? ⟨w.heap.size, 0, none⟩ = some (.slice (some ⟨g, 0, none⟩) (rest.length + 1) cap) := hbx
            clear hmin hrl
            go_wp2_with (first | (go_at_call 76; refine (len_run _ _ _ _).mono ?_; rintro e w0 ⟨rfl, hw0⟩; rw [← hw0]; clear hw0 w0) | (go_at_call 77; fail))
            refine hfirst.mono ?_
            rintro x w1 ⟨rfl, N2, n1, n2, n3, n4⟩
            have hown1 := own_kq hSt.out.own n4 hSt.out.n1 hSt.out.n2
            have hal1 : Below w1.heap.size w1 (w1.alloc (.cells #[.string e.k, .string e.v, .bool e.g] 63)) := (Below.refl _ _).alloc (Nat.le_refl _) _
            have hA1 := bnew w1 #[.string e.k, .string e.v, .bool e.g] 63
            obtain ⟨X, hX⟩ : ∃ X, w1.alloc (.cells #[.string e.k, .string e.v, .bool e.g] 63) = X := ⟨_, rfl⟩
            rw [hX] at hal1 hA1
            have hXl := (Array.getElem?_eq_some_iff.1 hA1).1
            have HOX : Hid (X.ownsRow w.heap.size 63 3 (.slice oa out.length oc) out.length (out.flatMap flP.c)) := own_below hown1 hal1
            have HSX : Hid (SG w w.heap.size g cap N2 X) := n3.on hal1
            have HAX : Hid (X.heap[w1.heap.size]? = some (.cells #[.string e.k, .string e.v, .bool e.g] 63 (0, 0))) := hA1
            have HN1 : Hid ((Value.slice oa out.length oc).ownBlock ≠ some w.heap.size) := hSt.out.n1
            have HN2 : Hid ((Value.slice oa out.length oc).ownBlock ≠ some g) := hSt.out.n2
            have HPM : Hid (N2.Perm (rfi.nx r ++ rest)) := n1
            have HHP : Hid (hp.Heap less N2 N2.length) := n2
            have x0 : X.cell? ⟨w1.heap.size, 0, none⟩ = some (.string e.k) := bcell hA1 rfl
            have hrowX : Row flP.c 3 X X.heap.size oa out := by
              obtain ⟨a2, c2, h2, h3⟩ := own_row flP.c_len HOX.out
              cases h2
              exact h3
            clear hfirst n1 n2 n3 n4 hown1 hal1 hA1 hSt hbx
            have fin_skip : ∀ (z : flP.Pr) (Y : World), z ∈ out → z.k = e.k → Below X.heap.size X Y → Hid (St w g cap (rs.map (·.l)) N2 out (.slice oa out.length oc) Y) := fun z Y hz hk hb => by
              have hi := (HSK.out z hz hk).perm HPM.out
              refine ⟨hi, HHP.out, HSX.out.on hb, by rw [HPM.out.length_eq]; exact HLN.out, fun q hq => HCN.out q (HPM.out.mem_iff.1 hq), own_below HOX.out hb, HN1.out, HN2.out, by rw [tot_perm HPM.out, HTN.out]; have := HOL.out; omega⟩
            have FSK : Hid (∀ (z : flP.Pr) (Y : World), z ∈ out → z.k = e.k → Below X.heap.size X Y → Hid (St w g cap (rs.map (·.l)) N2 out (.slice oa out.length oc) Y)) := fin_skip
            have hsb : w.heap.size < X.heap.size := (Array.getElem?_eq_some_iff.1 HSX.out.box).1
            have hsg : g < X.heap.size := by obtain ⟨cur, h1, _⟩ := HSX.out.row; exact (Array.getElem?_eq_some_iff.1 h1).1
            have FTK : Hid (∀ (Y Y2 : World) (v : Value), (∀ z, out.getLast? = some z → z.k ≠ e.k) → Below X.heap.size X Y → Y.grownBy Y2 (Value.slice oa out.length oc).ownBlock → Y2.ownsRow w.heap.size 63 3 v (out.length + 1) (out.flatMap flP.c ++ [.string e.k, .string e.v, .bool e.g]) → (v.ownBlock = (Value.slice oa out.length oc).ownBlock ∨ v.ownBlock = some Y.heap.size) → Hid (St w g cap (rs.map (·.l)) N2 (out ++ [e]) v Y2)) := fun Y Y2 v hz hb hg ho hat => by
              have hi := (HTK.out hz).perm HPM.out
              have hsy := HSX.out.on hb
              have hys := hb.size
              obtain ⟨cur, r1, r2⟩ := hsy.row
              have hsg2 : SG w w.heap.size g cap N2 Y2 := ⟨hsy.bel.grown hg (by omega) (fun b hbk => (HOX.out.lt b hbk).1), hsy.hbB, hsy.gB, hsy.ne, (hg.block _ (by omega) (Ne.symm HN1.out)).trans hsy.box, ⟨cur, (hg.block g (by omega) (Ne.symm HN2.out)).trans r1, r2⟩, hsy.fits⟩
              refine ⟨hi, HHP.out, hsg2, by rw [HPM.out.length_eq]; exact HLN.out, fun q hq => HCN.out q (HPM.out.mem_iff.1 hq), ?_, ?_, ?_, by rw [tot_perm HPM.out, HTN.out]; have := HOL.out; simp; omega⟩
              · rw [List.length_append, List.flatMap_append]
                simpa [flP.c] using ho
              · rcases hat with h | h
                · rw [h]; exact HN1.out
                · rw [h]; intro h2; have := Option.some.inj h2; omega
              · rcases hat with h | h
                · rw [h]; exact HN2.out
                · rw [h]; intro h2; have := Option.some.inj h2; omega
            have HMB : Hid (out.length ≤ 6000) := by unfold Hid; have := HOL.out; omega
            have HMT : Hid (∀ (Y : World) (o : List flP.Pr) (v : Value), St w g cap (rs.map (·.l)) N2 o v Y → meas w.heap.size g Y < meas w.heap.size g wr) := fun Y o v h => by rw [hme, meas_eq h.sg, tot_perm HPM.out, HTN.out]; omega
            clear fin_skip hme HTN HLN HCN HOL HTK HSK HPM HHP HSX HN1 HN2
            by_cases h0 : out.length = 0
            · have hcond : ∀ z, out.getLast? = some z → z.k ≠ e.k := fun z hz => by rw [List.eq_nil_of_length_eq_zero h0] at hz; cases hz
              rw [h0] at HOX FTK ⊢
              clear hrowX FSK
              have FSK : True := trivial
              go_wp2
              go_quiet (fail)
              have hbY := bdrewN (Below.refl X.heap.size X) nq
              obtain ⟨Y, hY⟩ : ∃ Y, X.drewN nq = Y := ⟨_, rfl⟩
              rw [hY] at hbY ⊢
              clear hY x0
              have hAY := bstay HAX.out hbY hXl
              have y0 : Y.cell? ⟨w1.heap.size, 0, none⟩ = some (.string e.k) := bcell hAY rfl
              have y1 : Y.cell? ⟨w1.heap.size, 1, none⟩ = some (.string e.v) := bcell hAY rfl
              have y2 : Y.cell? ⟨w1.heap.size, 2, none⟩ = some (.bool e.g) := bcell hAY rfl
              have hbY3 : Below X.heap.size X (Y.alloc (.cells #[.string e.k, .string e.v, .bool e.g] 63)) := hbY.alloc hbY.size _
              obtain ⟨v', Y4, hr, ho, hg, _, hat⟩ := run_append_own_at (P := Try.prog) (Y.alloc (.cells #[.string e.k, .string e.v, .bool e.g] 63)) w.heap.size 29 29 63 i0 (.agg #[.string ByteArray.empty, .string ByteArray.empty, .bool false]) 3 40 Try.underlying29 hi hz0 hz1 hz2 rfl (by decide) _ 0 (out.flatMap flP.c) (own_below HOX.out hbY3) ⟨Y.heap.size, 0, none⟩ 1 1 [.string e.k, .string e.v, .bool e.g] rfl (fun j u hu => by rw [pap.add0]; exact bcell (bnew Y _ _) (by simpa using hu)) (by intro u hu; simp at hu; rcases hu with rfl | rfl | rfl <;> rfl) (by unfold maxLen; omega) (by omega) (by have := hbY3.size; omega)
              have hst4 := FTK.out _ Y4 v' hcond hbY3 hg ho hat
              have hms := HMT.out Y4 _ v' hst4.out
              clear hAY ho hg hat hbY3 hbY FTK FSK HMT HOX HAX
              go_wp2_with (at_builtin; refine cpr.wpList_append_run rfl _ _ _ _ rfl _ _ _ rfl rfl hr ?_)
              go_roundw
              case rel => exact ⟨N2, out ++ [e], hst4⟩
              case measure => exact hms
            · obtain ⟨m, hm⟩ : ∃ m, out.length = m + 1 := ⟨out.length - 1, by omega⟩
              obtain ⟨z, hz⟩ : ∃ z, out[m]? = some z := ⟨_, List.getElem?_eq_getElem (by omega)⟩
              have hlast : out.getLast? = some z := by rw [List.getLast?_eq_getElem?, hm]; exact hz
              have hmb : m ≤ 6000 := by have := HMB.out; omega
              have wm : IntKind.i64.wrap (m : Int) = (m : Int) := by rw [IntKind.wrap_i64]; omega
              have wm2 : (m : Int) < (m : Int) + 1 := by omega
              have wm3 : ((m : Int) + 1 == 0) = false := by rw [beq_eq_false_iff_ne]; omega
              obtain ⟨ob, oo, rfl, holt, hoc⟩ := hrowX.resolve_left (by rintro rfl; simp at h0)
              have z0 : X.cell? ⟨ob, oo + m * 3, none⟩ = some (.string z.k) := by have := hoc m z hz 0 _ rfl; simpa using this
              rw [hm] at HOX FTK FSK ⊢
              clear hoc hrowX h0
              by_cases hk : z.k = e.k
              · have hskip := FSK.out z
                rw [hk] at z0
                have HZM : Hid (z ∈ out) := List.mem_of_getElem? hz
                clear hz hlast hm FTK
                go_wp2
                go_quiet (fail)
                have hbY := bdrewN (Below.refl X.heap.size X) nq
                obtain ⟨Y, hY⟩ : ∃ Y, X.drewN nq = Y := ⟨_, rfl⟩
                rw [hY] at hbY ⊢
                have hst4 := hskip Y HZM.out hk hbY
                have hms := HMT.out Y _ _ hst4.out
                clear hY x0 z0 hskip FSK HMT HOX HAX
                go_wp2
                go_roundw
                case rel => exact ⟨N2, out, hst4⟩
                case measure => exact hms
              · have hcond : ∀ y, out.getLast? = some y → y.k ≠ e.k := fun y hy => by rw [hlast] at hy; cases hy; exact hk
                have hq : (z.k.toList == e.k.toList) = false := by rw [beq_eq_false_iff_ne]; exact fun h => hk (Go.Proofs.Ytfoajjkcocppeaa.rc.of_same h)
                clear hz hlast hm hk
                go_wp2
                go_quiet (fail)
                clear z0
                have hbY := bdrewN (Below.refl X.heap.size X) nq
                obtain ⟨Y, hY⟩ : ∃ Y, X.drewN nq = Y := ⟨_, rfl⟩
                rw [hY] at hbY ⊢
                clear hY x0
                have hAY := bstay HAX.out hbY hXl
                have y0 : Y.cell? ⟨w1.heap.size, 0, none⟩ = some (.string e.k) := bcell hAY rfl
                have y1 : Y.cell? ⟨w1.heap.size, 1, none⟩ = some (.string e.v) := bcell hAY rfl
                have y2 : Y.cell? ⟨w1.heap.size, 2, none⟩ = some (.bool e.g) := bcell hAY rfl
                have hbY3 : Below X.heap.size X (Y.alloc (.cells #[.string e.k, .string e.v, .bool e.g] 63)) := hbY.alloc hbY.size _
                obtain ⟨v', Y4, hr, ho, hg, _, hat⟩ := run_append_own_at (P := Try.prog) (Y.alloc (.cells #[.string e.k, .string e.v, .bool e.g] 63)) w.heap.size 29 29 63 i0 (.agg #[.string ByteArray.empty, .string ByteArray.empty, .bool false]) 3 40 Try.underlying29 hi hz0 hz1 hz2 rfl (by decide) _ (m + 1) (out.flatMap flP.c) (own_below HOX.out hbY3) ⟨Y.heap.size, 0, none⟩ 1 1 [.string e.k, .string e.v, .bool e.g] rfl (fun j u hu => by rw [pap.add0]; exact bcell (bnew Y _ _) (by simpa using hu)) (by intro u hu; simp at hu; rcases hu with rfl | rfl | rfl <;> rfl) (by unfold maxLen; omega) (by omega) (by have := hbY3.size; omega)
                have hst4 := FTK.out _ Y4 v' hcond hbY3 hg ho hat
                have hms := HMT.out Y4 _ v' hst4.out
                clear hAY ho hg hat hbY3 hbY FTK FSK HMT HOX HAX
                go_wp2_with (at_builtin; refine cpr.wpList_append_run rfl _ _ _ _ rfl _ _ _ rfl rfl hr ?_)
                go_roundw
                case rel => exact ⟨N2, out ++ [e], hst4⟩
                case measure => exact hms
end Go.Proofs.Ytfoajjkcocppeaa.rnw
