/- An open queue closed: what was in the heap, in order. -/
import Derived.Test.YtnlcmheahihlpaaQueuePure
import Derived.Test.YtnlcmheahihlpaaDoneKit
import Derived.BigRegion
import Derived.Test.YtnlcmheahihlpaaFlatOwn
import Derived.ArgAppend
import Derived.Lib.SliceRun
import Derived.Maps.AppendAt
import Derived.Test.YtnlcmheahihlpaaQw04
import Derived.Test.YtnlcmheahihlpaaCopyRows

/- Messages and held ones compared; ascending at both. -/
namespace Go.Proofs.Ytnlcmheahihlpaa.qc
open Go.ChangeShapes Go.WideShapes Go.ChangeAt Go.RowKit Go.Proofs.Ytnlcmheahihlpaa.fl Go.Proofs.Ytnlcmheahihlpaa.qk
set_option linter.unusedVariables false

def cmpI (x y : Int) : Int := if x < y then -1 else if x = y then 0 else 1
theorem cmpI_neg {x y : Int} : cmpI x y < 0 ↔ x < y := by unfold cmpI; split <;> (try split) <;> omega
theorem cmpI_zero {x y : Int} : cmpI x y = 0 ↔ x = y := by unfold cmpI; split <;> (try split) <;> omega
theorem nanI (x : Int) (w : World) : Calls Try.prog 73 #[.int .i64 x] w fun e w' => e = .returned (.bool false) ∧ w = w' := by
  go_enter Try.func73, Try.ntmps73
  go_wp2
  go_ret
  simp
theorem cmp_int (x y : Int) (w : World) : Calls Try.prog 59 #[.int .i64 x, .int .i64 y] w fun e w' => e = .returned (.int .i64 (cmpI x y)) ∧ w' = w := by
  unfold cmpI
  have hn := fun x W => nanI x W
  by_cases h1 : x < y
  · have d1 : decide (x < y) = true := decide_eq_true h1
    rw [if_pos h1]
    clear h1
    go_enter Try.func59, Try.ntmps59
    go_wp2_with (go_at_call 73; refine (hn _ _).mono ?_; rintro e w0 ⟨rfl, hw0⟩; rw [← hw0]; clear hw0 w0)
    go_ret
    exact ⟨rfl, rfl⟩
  · have d1 : decide (x < y) = false := decide_eq_false h1
    rw [if_neg h1]
    by_cases h2 : x = y
    · subst h2
      rw [if_pos rfl]
      clear h1
      go_enter Try.func59, Try.ntmps59
      go_wp2_with (go_at_call 73; refine (hn _ _).mono ?_; rintro e w0 ⟨rfl, hw0⟩; rw [← hw0]; clear hw0 w0)
      go_ret
      exact ⟨rfl, rfl⟩
    · rw [if_neg h2]
      have d2 : decide (y < x) = true := decide_eq_true (by omega)
      clear h1 h2
      go_enter Try.func59, Try.ntmps59
      go_wp2_with (go_at_call 73; refine (hn _ _).mono ?_; rintro e w0 ⟨rfl, hw0⟩; rw [← hw0]; clear hw0 w0)
      go_ret
      exact ⟨rfl, rfl⟩
def RM (w : World) (g off : Nat) (l : List flM.Ms) : Prop := g < w.heap.size ∧ ∀ (i : Nat) (e : flM.Ms), l[i]? = some e → w.cell? ⟨g, off + i * 5, none⟩ = some (.int .i64 e.q) ∧ w.cell? ⟨g, off + i * 5 + 1, none⟩ = some (.string e.x) ∧ w.cell? ⟨g, off + i * 5 + 2, none⟩ = some (.string e.k) ∧ w.cell? ⟨g, off + i * 5 + 3, none⟩ = some (.string e.b) ∧ w.cell? ⟨g, off + i * 5 + 4, none⟩ = some (.bool e.a)
theorem RM.below {w w' : World} {g off : Nat} {l : List flM.Ms} (h : RM w g off l) (hb : Below w.heap.size w w') : RM w' g off l :=
  ⟨Nat.lt_of_lt_of_le h.1 hb.size, fun i e he => ⟨(hb.cell (p := ⟨g, _, none⟩) h.1).trans (h.2 i e he).1, (hb.cell (p := ⟨g, _, none⟩) h.1).trans (h.2 i e he).2.1, (hb.cell (p := ⟨g, _, none⟩) h.1).trans (h.2 i e he).2.2.1, (hb.cell (p := ⟨g, _, none⟩) h.1).trans (h.2 i e he).2.2.2.1, (hb.cell (p := ⟨g, _, none⟩) h.1).trans (h.2 i e he).2.2.2.2⟩⟩
theorem rm_row {w : World} {g off : Nat} {l : List flM.Ms} (hlt : g < w.heap.size) (hc : ∀ (i : Nat) (e : flM.Ms), l[i]? = some e → ∀ (j : Nat) (v : Value), (flM.c e)[j]? = some v → w.cell? ⟨g, off + i * 5 + j, none⟩ = some v) : RM w g off l := ⟨hlt, fun i e he => ⟨hc i e he 0 _ rfl, hc i e he 1 _ rfl, hc i e he 2 _ rfl, hc i e he 3 _ rfl, hc i e he 4 _ rfl⟩⟩
def RH (w : World) (g off : Nat) (l : List flH.Hd) : Prop := g < w.heap.size ∧ ∀ (i : Nat) (e : flH.Hd), l[i]? = some e → w.cell? ⟨g, off + i * 7, none⟩ = some (.int .i64 e.t) ∧ w.cell? ⟨g, off + i * 7 + 1, none⟩ = some (.int .i64 e.o) ∧ w.cell? ⟨g, off + i * 7 + 2, none⟩ = some (.int .i64 e.m.q) ∧ w.cell? ⟨g, off + i * 7 + 3, none⟩ = some (.string e.m.x) ∧ w.cell? ⟨g, off + i * 7 + 4, none⟩ = some (.string e.m.k) ∧ w.cell? ⟨g, off + i * 7 + 5, none⟩ = some (.string e.m.b) ∧ w.cell? ⟨g, off + i * 7 + 6, none⟩ = some (.bool e.m.a)
theorem RH.below {w w' : World} {g off : Nat} {l : List flH.Hd} (h : RH w g off l) (hb : Below w.heap.size w w') : RH w' g off l :=
  ⟨Nat.lt_of_lt_of_le h.1 hb.size, fun i e he => ⟨(hb.cell (p := ⟨g, _, none⟩) h.1).trans (h.2 i e he).1, (hb.cell (p := ⟨g, _, none⟩) h.1).trans (h.2 i e he).2.1, (hb.cell (p := ⟨g, _, none⟩) h.1).trans (h.2 i e he).2.2.1, (hb.cell (p := ⟨g, _, none⟩) h.1).trans (h.2 i e he).2.2.2.1, (hb.cell (p := ⟨g, _, none⟩) h.1).trans (h.2 i e he).2.2.2.2.1, (hb.cell (p := ⟨g, _, none⟩) h.1).trans (h.2 i e he).2.2.2.2.2.1, (hb.cell (p := ⟨g, _, none⟩) h.1).trans (h.2 i e he).2.2.2.2.2.2⟩⟩
theorem rh_row {w : World} {g off : Nat} {l : List flH.Hd} (hlt : g < w.heap.size) (hc : ∀ (i : Nat) (e : flH.Hd), l[i]? = some e → ∀ (j : Nat) (v : Value), (flH.c e)[j]? = some v → w.cell? ⟨g, off + i * 7 + j, none⟩ = some v) : RH w g off l := ⟨hlt, fun i e he => ⟨hc i e he 0 _ rfl, hc i e he 1 _ rfl, hc i e he 2 _ rfl, hc i e he 3 _ rfl, hc i e he 4 _ rfl, hc i e he 5 _ rfl, hc i e he 6 _ rfl⟩⟩
def cmpM (a b : flM.Ms) : Int := cmpI a.q b.q
def UpM (l : List flM.Ms) (n : Nat) : Prop := ∀ i a b, i + 1 < n → l[i]? = some a → l[i + 1]? = some b → cmpM a b < 0
theorem compare_msg (a b : flM.Ms) (w : World) : Calls Try.prog 32 #[.agg #[.int .i64 a.q, .string a.x, .string a.k, .string a.b, .bool a.a], .agg #[.int .i64 b.q, .string b.x, .string b.k, .string b.b, .bool b.a]] w fun e w' => e = .returned (.int .i64 (cmpM a b)) ∧ Below w.heap.size w w' := by
  obtain ⟨aq, ax, ak, ad, ag⟩ := a
  obtain ⟨bq, bx, bk, bd, bg⟩ := b
  have hc := fun W => cmp_int aq bq W
  go_enter Try.func32, Try.ntmps32
  go_wp2_with (go_at_call 59; refine (hc _).mono ?_; rintro e w0 ⟨rfl, hw0⟩; rw [hw0]; clear hw0 w0)
  go_ret
  exact ⟨rfl, ((Below.refl _ _).alloc (Nat.le_refl _) _).alloc (by simp) _⟩

set_option maxRecDepth 100000 in
set_option maxHeartbeats 1000000 in
theorem asc_off_msg (l : List flM.Ms) (g off c : Nat) (w : World) (hl : l.length ≤ 1048576) (hE : RM w g off l) :
    Calls Try.prog 31 #[.slice (some ⟨g, off, none⟩) l.length c, .func (.func 32) #[] #[]] w fun r w' => (∃ b : Bool, r = .returned (.bool b) ∧ (b = true ↔ UpM l l.length)) ∧ Below w.heap.size w w' := by
  have HE : Hid (RM w g off l) := hE
  clear hE
  go_enter Try.func31, Try.ntmps31
  go_wp2
  go_loopw [5] (fun v wr => ∃ k : Nat, 1 ≤ k ∧ (k ≤ l.length ∨ k = 1) ∧ v = .int .i64 k ∧ Hid (UpM l k) ∧ Below w.heap.size w wr) (fun v _ => l.length - (intOf v).toNat)
  case atStart => exact ⟨1, Nat.le_refl _, .inr rfl, rfl, fun i a b h => by omega, Below.refl _ _⟩
  case round =>
    obtain ⟨k, hk1, hk2, rfl, hup, hbel⟩ := hrel
    have hbs := hbel.size
    by_cases hkl : k < l.length
    · obtain ⟨m, rfl⟩ : ∃ m, k = m + 1 := ⟨k - 1, by omega⟩
      have g0 : l[m]? = some l[m] := List.getElem?_eq_getElem (by omega)
      have g1 : l[m + 1]? = some l[m + 1] := List.getElem?_eq_getElem hkl
      have hE2 := HE.out.below hbel
      obtain ⟨a0, a1, a2, a3, a4⟩ := hE2.2 m _ g0
      obtain ⟨b0, b1, b2, b3, b4⟩ := hE2.2 (m + 1) _ g1
      have hgl := hE2.1
      have HG0 : Hid (l[m]? = some l[m]) := g0
      have HG1 : Hid (l[m + 1]? = some l[m + 1]) := g1
      obtain ⟨⟨aq, ax, ak, ad, ag⟩, ha⟩ : ∃ e, l[m] = e := ⟨_, rfl⟩
      obtain ⟨⟨bq, bx, bk, bd, bg⟩, hb⟩ : ∃ e, l[m + 1] = e := ⟨_, rfl⟩
      rw [ha] at a0 a1 a2 a3 a4 HG0
      rw [hb] at b0 b1 b2 b3 b4 HG1
      have hcmp := compare_msg ⟨aq, ax, ak, ad, ag⟩ ⟨bq, bx, bk, bd, bg⟩ wr.drew
      obtain ⟨z, hz⟩ : ∃ z, cmpM ⟨aq, ax, ak, ad, ag⟩ ⟨bq, bx, bk, bd, bg⟩ = z := ⟨_, rfl⟩
      rw [hz] at hcmp
      have HZ : Hid (cmpM ⟨aq, ax, ak, ad, ag⟩ ⟨bq, bx, bk, bd, bg⟩ = z) := hz
      clear g0 g1 ha hb hE2 hz
      have i1 : IntKind.i64.wrap (m : Int) = (m : Int) := by rw [IntKind.wrap_i64]; omega
      have i2 : (m : Int) < (l.length : Int) := by omega
      have i3 : (m : Int) + 1 < (l.length : Int) := by omega
      have i4 : ((m : Int) + 1).toNat = m + 1 := by omega
      by_cases hneg : z < 0
      · have hup2 : Hid (UpM l (m + 1 + 1)) := fun j a b hj ha hb => by
          by_cases e : j = m
          · subst e
            rw [HG0.out] at ha
            rw [HG1.out] at hb
            cases ha
            cases hb
            show cmpM ⟨aq, ax, ak, ad, ag⟩ ⟨bq, bx, bk, bd, bg⟩ < 0
            rw [HZ.out]
            exact hneg
          · exact hup.out j a b (by omega) ha hb
        go_wp2
        go_region_with (go_at_call 32; refine hcmp.mono ?_; rintro e w1 ⟨rfl, hb1⟩)
        all_goals go_wp2
        all_goals go_roundw
        all_goals first | exact ⟨m + 1 + 1, by omega, .inl (by omega), by go_num, hup2, hbel.drew.trans (hb1.mono hbs)⟩ | (simp [intOf]; omega)
      · have hno : ¬ UpM l l.length := fun h => by
          have := h m _ _ (by omega) HG0.out HG1.out
          have h2 : cmpM ⟨aq, ax, ak, ad, ag⟩ ⟨bq, bx, bk, bd, bg⟩ < 0 := this
          rw [HZ.out] at h2
          exact hneg h2
        have HNO : Hid (¬ UpM l l.length) := hno
        have hge : (0 : Int) ≤ z := by omega
        clear hno
        go_wp2
        go_region_with (go_at_call 32; refine hcmp.mono ?_; rintro e w1 ⟨rfl, hb1⟩)
        all_goals go_wp2
        all_goals go_ret
        all_goals exact ⟨⟨false, rfl, by simp; exact HNO.out⟩, hbel.drew.trans (hb1.mono hbs)⟩
    · have hall : Hid (UpM l l.length) := fun j a b hj ha hb => hup.out j a b (by omega) ha hb
      go_wp2
      go_ret
      exact ⟨⟨true, rfl, by simp; exact hall.out⟩, hbel⟩
set_option maxRecDepth 100000 in
set_option maxHeartbeats 8000000 in
theorem asc_msg (l : List flM.Ms) (a : Option Addr) (c : Nat) (w : World) (hl : l.length ≤ 1048576) (hS : Row flM.c 5 w w.heap.size a l) :
    Calls Try.prog 31 #[.slice a l.length c, .func (.func 32) #[] #[]] w fun r w' => (∃ b : Bool, r = .returned (.bool b) ∧ (b = true ↔ UpM l l.length)) ∧ Below w.heap.size w w' := by
  rcases hS with rfl | ⟨b, off, rfl, hlt, hc⟩
  · go_enter Try.func31, Try.ntmps31
    go_wp2
    refine wp_loop_rounds 1 ?_
    rw [rounds_succ]
    go_wp2
    go_ret
    exact ⟨⟨true, rfl, by simp; exact fun i a b h => by simp at h⟩, Below.refl _ _⟩
  · exact asc_off_msg l b off c w hl (rm_row hlt hc)
def cmpH (a b : flH.Hd) : Int := if cmpI a.o b.o ≠ 0 then cmpI a.o b.o else cmpI a.t b.t
def UpH (l : List flH.Hd) (n : Nat) : Prop := ∀ i a b, i + 1 < n → l[i]? = some a → l[i + 1]? = some b → cmpH a b < 0
def or2 (x y : Int) : Int := if x ≠ 0 then x else y
theorem cmp_or (x y : Int) (g : Nat) (w : World) (h0 : w.cell? ⟨g, 0, none⟩ = some (.int .i64 x)) (h1 : w.cell? ⟨g, 1, none⟩ = some (.int .i64 y)) :
    Calls Try.prog 60 #[.slice (some ⟨g, 0, none⟩) 2 2] w fun e w' => e = .returned (.int .i64 (or2 x y)) ∧ w' = w := by
  by_cases hx : x = 0
  · subst hx
    have e : or2 0 y = y := rfl
    rw [e]
    by_cases hy : y = 0
    · subst hy
      go_enter Try.func60, Try.ntmps60
      go_wp2
      refine wp_loop_rounds 3 ?_
      repeat (rw [rounds_succ]; go_wp2)
      go_ret
      exact ⟨rfl, rfl⟩
    · have ey : (y != 0) = true := by simpa using hy
      go_enter Try.func60, Try.ntmps60
      go_wp2
      refine wp_loop_rounds 3 ?_
      repeat (rw [rounds_succ]; go_wp2)
      go_ret
      exact ⟨rfl, rfl⟩
  · have ex : (x != 0) = true := by simpa using hx
    have e : or2 x y = x := by unfold or2; simp [hx]
    rw [e]
    go_enter Try.func60, Try.ntmps60
    go_wp2
    refine wp_loop_rounds 3 ?_
    repeat (rw [rounds_succ]; go_wp2)
    go_ret
    exact ⟨rfl, rfl⟩
def wsH (n : Nat) (ao bo aw bw : Int) (h : Nat) : List (Nat × Value) := [(5, .pointer (some ⟨n, 1, none⟩)), (6, .int .i64 ao), (7, .pointer (some ⟨n + 1, 1, none⟩)), (8, .int .i64 bo), (9, .int .i64 (cmpI ao bo)), (10, .pointer (some ⟨n, 0, none⟩)), (11, .int .i64 aw), (12, .pointer (some ⟨n + 1, 0, none⟩)), (13, .int .i64 bw), (14, .int .i64 (cmpI aw bw)), (15, .slice (some ⟨h, 0, none⟩) 2 2), (16, .int .i64 (or2 (cmpI ao bo) (cmpI aw bw))), (4, .int .i64 (or2 (cmpI ao bo) (cmpI aw bw)))]
def CH (W0 : World) (x y : Int) (h : Nat) (L : Nat → Bool) (W : World) : Prop := Below W0.heap.size W0 W ∧ (L 10 = true → W.heap[h]? = some (.cells #[.int .i64 x, .int .i64 y] 3 (0, 0)))
theorem more_off (L : Nat → Bool) {i j : Nat} (h : j ≠ i) : dn.more L i j = L j := by unfold dn.more; rw [if_neg h]
section
variable {W0 : World} {n : Nat} {ao bo aw bw : Int} {act : Act} {Q : Exit → Act → World → Prop} {o : Oper}
theorem h_quiet {i : Nat} (hi : i ≠ 10) (hsel : ∀ cs b, o.op ≠ .select cs b) (v : Value) (hd : ∀ s d, o.dst = some d → (dk.sets act (wsH n ao bo aw bw s)).tmps[d]? = some v)
    (hrun : ∀ s W, (∀ (b : Nat) (o : Obj), W0.heap[b]? = some o → W.heap[b]? = some o) → (execOp (dk.sets act (wsH n ao bo aw bw s)).eval o).run Try.prog W = .ok (.value v) W) : gh.Step Try.prog (fun s => dk.sets act (wsH n ao bo aw bw s)) (CH W0 (cmpI ao bo) (cmpI aw bw)) Q i o := by
  refine gh.step_val hsel fun s L W hdp h0 hC => ⟨s, v, gh.Agree.refl _ _, hd s, ?_⟩
  rw [hrun s W (fun b o hb => bstay hb hC.1 (Array.getElem?_eq_some_iff.1 hb).1)]
  refine ⟨rfl, hC.1, ?_⟩
  rw [more_off L (Ne.symm hi)]
  exact hC.2
theorem h_call {i : Nat} (hi : i ≠ 10) (hsel : ∀ cs b, o.op ≠ .select cs b) (x y : Int) (hd : ∀ s d, o.dst = some d → (dk.sets act (wsH n ao bo aw bw s)).tmps[d]? = some (.int .i64 (cmpI x y)))
    (hrun : ∀ s W, (execOp (dk.sets act (wsH n ao bo aw bw s)).eval o).run Try.prog W = .ok (.enter 59 #[.int .i64 x, .int .i64 y]) W) : gh.Step Try.prog (fun s => dk.sets act (wsH n ao bo aw bw s)) (CH W0 (cmpI ao bo) (cmpI aw bw)) Q i o := by
  refine gh.step_val hsel fun s L W hdp h0 hC => ⟨s, .int .i64 (cmpI x y), gh.Agree.refl _ _, hd s, ?_⟩
  rw [hrun s W]
  refine (cmp_int x y W).mono ?_
  rintro e w' ⟨rfl, rfl⟩
  refine ⟨rfl, hC.1, ?_⟩
  rw [more_off L (Ne.symm hi)]
  exact hC.2
theorem h_build (hsel : ∀ cs b, o.op ≠ .select cs b) (hsz : 15 < act.tmps.size) (hdst : o.dst = some 15)
    (hrun : ∀ s W, (execOp (dk.sets act (wsH n ao bo aw bw s)).eval o).run Try.prog W = .ok (.value (.slice (some ⟨W.heap.size, 0, none⟩) 2 2)) (W.alloc (.cells #[.int .i64 (cmpI ao bo), .int .i64 (cmpI aw bw)] 3))) : gh.Step Try.prog (fun s => dk.sets act (wsH n ao bo aw bw s)) (CH W0 (cmpI ao bo) (cmpI aw bw)) Q 10 o := by
  refine gh.step_val hsel fun s L W hdp h0 hC => ⟨W.heap.size, .slice (some ⟨W.heap.size, 0, none⟩) 2 2, dk.agree_sets 10 15 _ hdst rfl rfl, (fun d hd => by rw [hdst] at hd; cases hd; exact dk.sets_on _ (by omega) _ rfl), ?_⟩
  rw [hrun]
  exact ⟨rfl, hC.1.alloc hC.1.size _, fun _ => bnew W _ _⟩
theorem h_or (hsel : ∀ cs b, o.op ≠ .select cs b) (hd : ∀ s d, o.dst = some d → (dk.sets act (wsH n ao bo aw bw s)).tmps[d]? = some (.int .i64 (or2 (cmpI ao bo) (cmpI aw bw))))
    (hrun : ∀ s W, (execOp (dk.sets act (wsH n ao bo aw bw s)).eval o).run Try.prog W = .ok (.enter 60 #[.slice (some ⟨s, 0, none⟩) 2 2]) W) (hdep : ∃ e ∈ o.after, Region.binds .any e = true ∧ e.on = 10) : gh.Step Try.prog (fun s => dk.sets act (wsH n ao bo aw bw s)) (CH W0 (cmpI ao bo) (cmpI aw bw)) Q 11 o := by
  refine gh.step_val hsel fun s L W hdp h0 hC => ⟨s, .int .i64 (or2 (cmpI ao bo) (cmpI aw bw)), gh.Agree.refl _ _, hd s, ?_⟩
  obtain ⟨xp, mp, yp, zp⟩ := hdep
  have lp := hdp xp mp yp
  rw [zp] at lp
  have hcell := hC.2 lp
  rw [hrun s W]
  refine (cmp_or (cmpI ao bo) (cmpI aw bw) s W (bcell hcell rfl) (bcell hcell rfl)).mono ?_
  rintro e w' ⟨rfl, rfl⟩
  refine ⟨rfl, hC.1, ?_⟩
  rw [more_off L (show 10 ≠ 11 by omega)]
  exact hC.2
end
set_option maxRecDepth 100000 in
set_option maxHeartbeats 2000000 in
theorem compare_held (a b : flH.Hd) (w : World) : Calls Try.prog 34 #[.agg #[.int .i64 a.t, .int .i64 a.o, .int .i64 a.m.q, .string a.m.x, .string a.m.k, .string a.m.b, .bool a.m.a], .agg #[.int .i64 b.t, .int .i64 b.o, .int .i64 b.m.q, .string b.m.x, .string b.m.k, .string b.m.b, .bool b.m.a]] w fun e w' => e = .returned (.int .i64 (cmpH a b)) ∧ Below w.heap.size w w' := by
  obtain ⟨aw, ao, ⟨aq, ax, ak, ad, ag⟩⟩ := a
  obtain ⟨bw, bo, ⟨bq, bx, bk, bd, bg⟩⟩ := b
  have hbl : Below w.heap.size w ((w.alloc (.cells #[.int .i64 aw, .int .i64 ao, .int .i64 aq, .string ax, .string ak, .string ad, .bool ag] 55)).alloc (.cells #[.int .i64 bw, .int .i64 bo, .int .i64 bq, .string bx, .string bk, .string bd, .bool bg] 55)) := ((Below.refl _ _).alloc (Nat.le_refl _) _).alloc (by simp) _
  have hA := bold (bnew w #[.int .i64 aw, .int .i64 ao, .int .i64 aq, .string ax, .string ak, .string ad, .bool ag] 55) (.cells #[.int .i64 bw, .int .i64 bo, .int .i64 bq, .string bx, .string bk, .string bd, .bool bg] 55)
  have hB := bnew (w.alloc (.cells #[.int .i64 aw, .int .i64 ao, .int .i64 aq, .string ax, .string ak, .string ad, .bool ag] 55)) #[.int .i64 bw, .int .i64 bo, .int .i64 bq, .string bx, .string bk, .string bd, .bool bg] 55
  rw [World.size_alloc] at hB
  obtain ⟨W, hW⟩ : ∃ W, (w.alloc (.cells #[.int .i64 aw, .int .i64 ao, .int .i64 aq, .string ax, .string ak, .string ad, .bool ag] 55)).alloc (.cells #[.int .i64 bw, .int .i64 bo, .int .i64 bq, .string bx, .string bk, .string bd, .bool bg] 55) = W := ⟨_, rfl⟩
  rw [hW] at hbl hA hB
  have HA : Hid (W.heap[w.heap.size]? = some (.cells #[.int .i64 aw, .int .i64 ao, .int .i64 aq, .string ax, .string ak, .string ad, .bool ag] 55 (0, 0))) := hA
  have HB : Hid (W.heap[w.heap.size + 1]? = some (.cells #[.int .i64 bw, .int .i64 bo, .int .i64 bq, .string bx, .string bk, .string bd, .bool bg] 55 (0, 0))) := hB
  clear hA hB
  go_enter Try.func34, Try.ntmps34
  go_wp2
  refine dk.region_gsets (wsH w.heap.size ao bo aw bw) [5, 6, 7, 8, 9, 10, 11, 12, 13, 14, 15, 16, 4] (CH W (cmpI ao bo) (cmpI aw bw)) 0 (by kernel_rfl) (by kernel_rfl) (fun _ => rfl) (by kernel_rfl) ⟨(Below.refl _ _).drew, fun e => by cases e⟩ ?each ?fin
  case each =>
    refine ⟨h_quiet (by decide) (by simp) (.pointer (some ⟨w.heap.size, 1, none⟩)) (by rintro s _ ⟨⟩; exact dk.sets_on _ (by simp) _ rfl) (fun s W h => by simp [execOp, go_sem, Act.eval, dk.sets_get, wsH, List.lookup]), ?_⟩
    refine ⟨h_quiet (by decide) (by simp) (.int .i64 ao) (by rintro s _ ⟨⟩; exact dk.sets_on _ (by simp) _ rfl) (fun s W h => by have c : W.cell? ⟨w.heap.size, 1, none⟩ = some (.int .i64 ao) := bcell (h _ _ HA.out) rfl; simp [execOp, go_sem, Act.eval, dk.sets_get, wsH, List.lookup, c]), ?_⟩
    refine ⟨h_quiet (by decide) (by simp) (.pointer (some ⟨w.heap.size + 1, 1, none⟩)) (by rintro s _ ⟨⟩; exact dk.sets_on _ (by simp) _ rfl) (fun s W h => by simp [execOp, go_sem, Act.eval, dk.sets_get, wsH, List.lookup]), ?_⟩
    refine ⟨h_quiet (by decide) (by simp) (.int .i64 bo) (by rintro s _ ⟨⟩; exact dk.sets_on _ (by simp) _ rfl) (fun s W h => by have c : W.cell? ⟨w.heap.size + 1, 1, none⟩ = some (.int .i64 bo) := bcell (h _ _ HB.out) rfl; simp [execOp, go_sem, Act.eval, dk.sets_get, wsH, List.lookup, c]), ?_⟩
    refine ⟨h_call (by decide) (by simp) ao bo (by rintro s _ ⟨⟩; exact dk.sets_on _ (by simp) _ rfl) (fun s W => by simp [go_sem, Act.eval, dk.sets_get, wsH, List.lookup]), ?_⟩
    refine ⟨h_quiet (by decide) (by simp) (.pointer (some ⟨w.heap.size, 0, none⟩)) (by rintro s _ ⟨⟩; exact dk.sets_on _ (by simp) _ rfl) (fun s W h => by simp [execOp, go_sem, Act.eval, dk.sets_get, wsH, List.lookup]), ?_⟩
    refine ⟨h_quiet (by decide) (by simp) (.int .i64 aw) (by rintro s _ ⟨⟩; exact dk.sets_on _ (by simp) _ rfl) (fun s W h => by have c : W.cell? ⟨w.heap.size, 0, none⟩ = some (.int .i64 aw) := bcell (h _ _ HA.out) rfl; simp [execOp, go_sem, Act.eval, dk.sets_get, wsH, List.lookup, c]), ?_⟩
    refine ⟨h_quiet (by decide) (by simp) (.pointer (some ⟨w.heap.size + 1, 0, none⟩)) (by rintro s _ ⟨⟩; exact dk.sets_on _ (by simp) _ rfl) (fun s W h => by simp [execOp, go_sem, Act.eval, dk.sets_get, wsH, List.lookup]), ?_⟩
    refine ⟨h_quiet (by decide) (by simp) (.int .i64 bw) (by rintro s _ ⟨⟩; exact dk.sets_on _ (by simp) _ rfl) (fun s W h => by have c : W.cell? ⟨w.heap.size + 1, 0, none⟩ = some (.int .i64 bw) := bcell (h _ _ HB.out) rfl; simp [execOp, go_sem, Act.eval, dk.sets_get, wsH, List.lookup, c]), ?_⟩
    refine ⟨h_call (by decide) (by simp) aw bw (by rintro s _ ⟨⟩; exact dk.sets_on _ (by simp) _ rfl) (fun s W => by simp [go_sem, Act.eval, dk.sets_get, wsH, List.lookup]), ?_⟩
    refine ⟨h_build (by simp) (by simp) rfl (fun s W => by simp [execOp, go_sem, Act.eval, dk.sets_get, wsH, List.lookup]), ?_⟩
    refine ⟨h_or (by simp) (by rintro s _ ⟨⟩; exact dk.sets_on _ (by simp) _ rfl) (fun s W => by simp [go_sem, Act.eval, dk.sets_get, wsH, List.lookup]) ⟨⟨10, .data⟩, by simp, rfl, rfl⟩, ?_⟩
    exact ⟨h_quiet (by decide) (by simp) (.int .i64 (or2 (cmpI ao bo) (cmpI aw bw))) (by rintro s _ ⟨⟩; exact dk.sets_on _ (by simp) _ rfl) (fun s W h => by simp [execOp, go_sem, Act.eval, dk.sets_get, wsH, List.lookup]), trivial⟩
  case fin =>
    intro s L X hL hC
    have hBX : Below W.heap.size W X := hC.1
    clear hW hC hL
    go_wp2
    exact bodyPost_ret (v := .int .i64 (or2 (cmpI ao bo) (cmpI aw bw))) (by simp [results, Try.results34, go_sem, dk.sets_get, wsH, List.lookup]) rfl ⟨rfl, hbl.trans (hBX.mono hbl.size)⟩
set_option maxRecDepth 100000 in
set_option maxHeartbeats 1000000 in
theorem asc_off_held (l : List flH.Hd) (g off c : Nat) (w : World) (hl : l.length ≤ 1048576) (hE : RH w g off l) :
    Calls Try.prog 33 #[.slice (some ⟨g, off, none⟩) l.length c, .func (.func 34) #[] #[]] w fun r w' => (∃ b : Bool, r = .returned (.bool b) ∧ (b = true ↔ UpH l l.length)) ∧ Below w.heap.size w w' := by
  have HE : Hid (RH w g off l) := hE
  clear hE
  go_enter Try.func33, Try.ntmps33
  go_wp2
  go_loopw [5] (fun v wr => ∃ k : Nat, 1 ≤ k ∧ (k ≤ l.length ∨ k = 1) ∧ v = .int .i64 k ∧ Hid (UpH l k) ∧ Below w.heap.size w wr) (fun v _ => l.length - (intOf v).toNat)
  case atStart => exact ⟨1, Nat.le_refl _, .inr rfl, rfl, fun i a b h => by omega, Below.refl _ _⟩
  case round =>
    obtain ⟨k, hk1, hk2, rfl, hup, hbel⟩ := hrel
    have hbs := hbel.size
    by_cases hkl : k < l.length
    · obtain ⟨m, rfl⟩ : ∃ m, k = m + 1 := ⟨k - 1, by omega⟩
      have g0 : l[m]? = some l[m] := List.getElem?_eq_getElem (by omega)
      have g1 : l[m + 1]? = some l[m + 1] := List.getElem?_eq_getElem hkl
      have hE2 := HE.out.below hbel
      obtain ⟨a0, a1, a2, a3, a4, a5, a6⟩ := hE2.2 m _ g0
      obtain ⟨b0, b1, b2, b3, b4, b5, b6⟩ := hE2.2 (m + 1) _ g1
      have hgl := hE2.1
      have HG0 : Hid (l[m]? = some l[m]) := g0
      have HG1 : Hid (l[m + 1]? = some l[m + 1]) := g1
      obtain ⟨⟨aw, ao, ⟨aq, ax, ak, ad, ag⟩⟩, ha⟩ : ∃ e, l[m] = e := ⟨_, rfl⟩
      obtain ⟨⟨bw, bo, ⟨bq, bx, bk, bd, bg⟩⟩, hb⟩ : ∃ e, l[m + 1] = e := ⟨_, rfl⟩
      rw [ha] at a0 a1 a2 a3 a4 a5 a6 HG0
      rw [hb] at b0 b1 b2 b3 b4 b5 b6 HG1
      have hcmp := compare_held ⟨aw, ao, ⟨aq, ax, ak, ad, ag⟩⟩ ⟨bw, bo, ⟨bq, bx, bk, bd, bg⟩⟩ wr.drew
      obtain ⟨z, hz⟩ : ∃ z, cmpH ⟨aw, ao, ⟨aq, ax, ak, ad, ag⟩⟩ ⟨bw, bo, ⟨bq, bx, bk, bd, bg⟩⟩ = z := ⟨_, rfl⟩
      rw [hz] at hcmp
      have HZ : Hid (cmpH ⟨aw, ao, ⟨aq, ax, ak, ad, ag⟩⟩ ⟨bw, bo, ⟨bq, bx, bk, bd, bg⟩⟩ = z) := hz
      clear g0 g1 ha hb hE2 hz
      have i1 : IntKind.i64.wrap (m : Int) = (m : Int) := by rw [IntKind.wrap_i64]; omega
      have i2 : (m : Int) < (l.length : Int) := by omega
      have i3 : (m : Int) + 1 < (l.length : Int) := by omega
      have i4 : ((m : Int) + 1).toNat = m + 1 := by omega
      by_cases hneg : z < 0
      · have hup2 : Hid (UpH l (m + 1 + 1)) := fun j a b hj ha hb => by
          by_cases e : j = m
          · subst e
            rw [HG0.out] at ha
            rw [HG1.out] at hb
            cases ha
            cases hb
            show cmpH ⟨aw, ao, ⟨aq, ax, ak, ad, ag⟩⟩ ⟨bw, bo, ⟨bq, bx, bk, bd, bg⟩⟩ < 0
            rw [HZ.out]
            exact hneg
          · exact hup.out j a b (by omega) ha hb
        go_wp2
        go_region_with (go_at_call 34; refine hcmp.mono ?_; rintro e w1 ⟨rfl, hb1⟩)
        all_goals go_wp2
        all_goals go_roundw
        all_goals first | exact ⟨m + 1 + 1, by omega, .inl (by omega), by go_num, hup2, hbel.drew.trans (hb1.mono hbs)⟩ | (simp [intOf]; omega)
      · have hno : ¬ UpH l l.length := fun h => by
          have := h m _ _ (by omega) HG0.out HG1.out
          have h2 : cmpH ⟨aw, ao, ⟨aq, ax, ak, ad, ag⟩⟩ ⟨bw, bo, ⟨bq, bx, bk, bd, bg⟩⟩ < 0 := this
          rw [HZ.out] at h2
          exact hneg h2
        have HNO : Hid (¬ UpH l l.length) := hno
        have hge : (0 : Int) ≤ z := by omega
        clear hno
        go_wp2
        go_region_with (go_at_call 34; refine hcmp.mono ?_; rintro e w1 ⟨rfl, hb1⟩)
        all_goals go_wp2
        all_goals go_ret
        all_goals exact ⟨⟨false, rfl, by simp; exact HNO.out⟩, hbel.drew.trans (hb1.mono hbs)⟩
    · have hall : Hid (UpH l l.length) := fun j a b hj ha hb => hup.out j a b (by omega) ha hb
      go_wp2
      go_ret
      exact ⟨⟨true, rfl, by simp; exact hall.out⟩, hbel⟩
set_option maxRecDepth 100000 in
set_option maxHeartbeats 8000000 in
theorem asc_held (l : List flH.Hd) (a : Option Addr) (c : Nat) (w : World) (hl : l.length ≤ 1048576) (hS : Row flH.c 7 w w.heap.size a l) :
    Calls Try.prog 33 #[.slice a l.length c, .func (.func 34) #[] #[]] w fun r w' => (∃ b : Bool, r = .returned (.bool b) ∧ (b = true ↔ UpH l l.length)) ∧ Below w.heap.size w w' := by
  rcases hS with rfl | ⟨b, off, rfl, hlt, hc⟩
  · go_enter Try.func33, Try.ntmps33
    go_wp2
    refine wp_loop_rounds 1 ?_
    rw [rounds_succ]
    go_wp2
    go_ret
    exact ⟨⟨true, rfl, by simp; exact fun i a b h => by simp at h⟩, Below.refl _ _⟩
  · exact asc_off_held l b off c w hl (rh_row hlt hc)
end Go.Proofs.Ytnlcmheahihlpaa.qc

/- A growing row of messages; slices.Clone, messageOk and handOk of the program. -/
namespace Go.Proofs.Ytnlcmheahihlpaa.qa
open Go.ChangeShapes Go.WideShapes Go.ChangeAt Go.RowKit Go.Proofs.Ytnlcmheahihlpaa.fl Go.Proofs.Ytnlcmheahihlpaa.qk
set_option linter.unusedVariables false

theorem infoM : ∃ i0, Try.prog.info? 41 = some i0 ∧ i0.zero = some (.agg #[.int .i64 0, .string ByteArray.empty, .string ByteArray.empty, .string ByteArray.empty, .bool false]) ∧ i0.size = 5 ∧ i0.bytes = 64 := by
  have h := flM.info
  cases hh : Try.prog.info? 41 with
  | none => rw [hh] at h; cases h
  | some i => rw [hh] at h; simp at h; exact ⟨i, rfl, h.1, h.2.1, h.2.2⟩
/-- messages in a row of its own above B, or none -/
def All (W : World) (B : Nat) (v : Value) (l : List flM.Ms) : Prop := (l = [] ∧ ∃ ao, v = .slice ao 0 0) ∨ ∃ g cap, v = .slice (some ⟨g, 0, none⟩) l.length cap ∧ W.ownsRow B 41 5 (.slice (some ⟨g, 0, none⟩) l.length cap) l.length (l.flatMap flM.c)
theorem All.form {W : World} {B : Nat} {v : Value} {l : List flM.Ms} (h : All W B v l) : ∃ ao cap, v = .slice ao l.length cap := by
  rcases h with ⟨rfl, ao, rfl⟩ | ⟨g, cap, rfl, _⟩
  · exact ⟨ao, 0, rfl⟩
  · exact ⟨_, cap, rfl⟩
theorem All.row {W : World} {B : Nat} {ao : Option Addr} {cap : Nat} {l : List flM.Ms} (h : All W B (.slice ao l.length cap) l) : Row flM.c 5 W W.heap.size ao l := by
  rcases h with ⟨rfl, _⟩ | ⟨g, cap', e, ho⟩
  · exact .inl rfl
  · cases e
    obtain ⟨a', c', e', hr⟩ := own_row flM.c_len ho
    cases e'
    exact hr
theorem All.on {W W' : World} {B : Nat} {v : Value} {l : List flM.Ms} (h : All W B v l) (hb : Below W.heap.size W W') : All W' B v l := by
  rcases h with h | ⟨g, cap, rfl, ho⟩
  · exact .inl h
  · exact .inr ⟨g, cap, rfl, ho.kept (row := none) ⟨hb.os, hb.tape, hb.output, hb.size, fun k hk _ => hb.block k hk⟩ (by simp [Value.ownBlock])⟩
theorem add0 (g j : Nat) : (⟨g, 0, none⟩ : Addr).add j = ⟨g, j, none⟩ := by unfold Addr.add; split <;> simp_all
theorem own_all {W : World} {B : Nat} {v : Value} {l : List flM.Ms} (hl : l ≠ []) (h : W.ownsRow B 41 5 v l.length (l.flatMap flM.c)) : All W B v l := by
  have hs := h
  obtain ⟨_, ⟨_, h0⟩ | ⟨g, cap, cur, rfl, _⟩⟩ := hs
  · exact absurd (List.eq_nil_of_length_eq_zero h0) hl
  · exact .inr ⟨g, cap, rfl, h⟩
theorem below_grown {W w' : World} {B : Nat} {r : Option Nat} (h : W.grownBy w' r) (hB : B ≤ W.heap.size) (hr : ∀ b, r = some b → B ≤ b) : Below B W w' := ⟨h.os, h.tape, h.output, h.size, fun k hk => h.block k (by omega) (fun e => by have := hr k e.symm; omega)⟩
/-- one more -/
theorem app_one {W : World} {B a : Nat} {v : Value} {l : List flM.Ms} (m : flM.Ms) (h : All W B v l) (hB : B ≤ W.heap.size) (hl : l.length ≤ 1048576) (hc : W.heap[a]? = some (.cells (flM.c m).toArray 41 (0, 0))) (ty : TypeId) :
    ∃ v' w', (Builtin.append_ #[24, 24] ty #[v, .slice (some ⟨a, 0, none⟩) 1 1]).run Try.prog W = .ok v' w' ∧ All w' B v' (l ++ [m]) ∧ Below B W w' := by
  obtain ⟨i0, hi, hz0, hz1, hz2⟩ := infoM
  have hnews : ∀ j u, (flM.c m)[j]? = some u → W.cell? ((⟨a, 0, none⟩ : Addr).add j) = some u := fun j u hu => by
    rw [add0]
    exact bcell hc (by simpa using hu)
  have h1 : ∀ u ∈ flM.c m, u.oneCell' = true := fun u hu => by simp [flM.c] at hu; rcases hu with rfl | rfl | rfl | rfl | rfl <;> rfl
  have hfl : (l ++ [m]).flatMap flM.c = l.flatMap flM.c ++ flM.c m := by rw [List.flatMap_append]; simp
  have hln : (l ++ [m]).length = l.length + 1 := by simp
  rcases h with ⟨rfl, ao, rfl⟩ | ⟨g, cap, rfl, ho⟩
  · cases ao with
    | none =>
      obtain ⟨v', w', hr, ho, hg, _⟩ := run_append_own_at (P := Try.prog) W B 24 ty 41 i0 (.agg #[.int .i64 0, .string ByteArray.empty, .string ByteArray.empty, .string ByteArray.empty, .bool false]) 5 64 Try.underlying24 hi hz0 hz1 hz2 rfl (by decide) (.slice none 0 0) 0 [] (World.ownsRow_nil W _ _ _) ⟨a, 0, none⟩ 1 1 (flM.c m) rfl hnews h1 (by unfold maxLen; omega) (by omega) hB
      exact ⟨v', w', hr, own_all (by simp) (by rw [hfl, hln]; simpa using ho), below_grown hg hB (fun b e => by simp [Value.ownBlock] at e)⟩
    | some b =>
      obtain ⟨v', w', hr, ho, hg⟩ := run_append_arg_grows (P := Try.prog) W 24 ty 41 i0 (.agg #[.int .i64 0, .string ByteArray.empty, .string ByteArray.empty, .string ByteArray.empty, .bool false]) 5 64 Try.underlying24 hi hz0 hz1 hz2 rfl (by decide) b 0 0 [] rfl (fun j u hu => by simp at hu) ⟨a, 0, none⟩ 1 1 (flM.c m) rfl hnews (by omega) (by unfold maxLen; omega) (by omega)
      refine ⟨v', w', hr, own_all (by simp) ?_, below_grown hg hB (fun b e => by cases e)⟩
      rw [hfl, hln]
      obtain ⟨k1, k2 | ⟨g, cap, cur, k3, k4, k5⟩⟩ := ho
      · simp at k2
      · exact ⟨by simpa using k1, .inr ⟨g, cap, cur, by simpa using k3, by omega, by simpa using k5⟩⟩
  · obtain ⟨v', w', hr, ho', hg, _⟩ := run_append_own_at (P := Try.prog) W B 24 ty 41 i0 (.agg #[.int .i64 0, .string ByteArray.empty, .string ByteArray.empty, .string ByteArray.empty, .bool false]) 5 64 Try.underlying24 hi hz0 hz1 hz2 rfl (by decide) _ l.length _ ho ⟨a, 0, none⟩ 1 1 (flM.c m) rfl hnews h1 (by unfold maxLen; omega) (by omega) hB
    exact ⟨v', w', hr, own_all (by simp) (by rw [hfl, hln]; exact ho'), below_grown hg hB (fun b e => by have := Option.some.inj e; subst this; exact (ho.lt g rfl).1)⟩
set_option maxRecDepth 100000 in
set_option maxHeartbeats 2000000 in
theorem clone_msgs (l : List flM.Ms) (a : Option Addr) (c : Nat) (w : World) (hl : l.length ≤ 1048576) (hS : Row flM.c 5 w w.heap.size a l) :
    Calls Try.prog 35 #[.slice a l.length c] w fun e w' => (∃ v, e = .returned v ∧ All w' w.heap.size v l) ∧ Below w.heap.size w w' := by
  obtain ⟨i0, hi, hz0, hz1, hz2⟩ := infoM
  cases a with
  | none =>
    obtain rfl : l = [] := by
      rcases hS with h | ⟨b, off, e, _⟩
      · exact h
      · cases e
    have hq := fun W => Go.Lib.run_eql_slice_nil (P := Try.prog) W 24 _ none 0 c 0 0 Try.underlying24
    simp only [Option.isNone] at hq
    go_enter Try.func35, Try.ntmps35
    go_wp2
    go_ret
    exact ⟨⟨_, rfl, .inl ⟨rfl, none, rfl⟩⟩, Below.refl _ _⟩
  | some ad =>
    have hnews : ∀ j u, (l.flatMap flM.c)[j]? = some u → w.cell? (ad.add j) = some u := fun j u hu => by
      rcases hS with h | ⟨b, off, e, hlt, hc⟩
      · subst h; simp at hu
      · cases e
        obtain ⟨i, e, r, h1, h2, rfl⟩ := flat_get flM.c_len l j u hu
        have := hc i e h1 r u h2
        rw [show (⟨b, off, none⟩ : Addr).add (i * 5 + r) = ⟨b, off + (i * 5 + r), none⟩ by unfold Addr.add; split <;> simp_all]
        rw [← Nat.add_assoc]
        exact this
    have hone : ∀ u ∈ l.flatMap flM.c, u.oneCell' = true := fun u hu => by
      obtain ⟨e, _, he⟩ := List.mem_flatMap.1 hu
      simp [flM.c] at he
      rcases he with rfl | rfl | rfl | rfl | rfl <;> rfl
    have hb0 : Below w.heap.size w (w.alloc (.cells #[] 41)) := (Below.refl _ _).alloc (Nat.le_refl _) _
    have hlt : ∀ j u, (l.flatMap flM.c)[j]? = some u → (w.alloc (.cells #[] 41)).cell? (ad.add j) = some u := fun j u hu => by
      have h := hnews j u hu
      rcases hS with h0 | ⟨b, off, e, hlt, _⟩
      · subst h0; simp at hu
      · cases e
        rw [show (⟨b, off, none⟩ : Addr).add j = ⟨b, off + j, none⟩ by unfold Addr.add; split <;> simp_all] at h ⊢
        exact (hb0.cell (p := ⟨b, off + j, none⟩) hlt).trans h
    have ho0 : (w.alloc (.cells #[] 41)).ownsRow w.heap.size 41 5 (.slice (some ⟨w.heap.size, 0, none⟩) 0 0) 0 [] := World.ownsRow_made w #[] 0 (Nat.le_refl _) (by unfold maxLen; omega) (by simp)
    have HO0 : Hid ((w.alloc (.cells #[] 41)).ownsRow w.heap.size 41 5 (.slice (some ⟨w.heap.size, 0, none⟩) 0 0) 0 []) := ho0
    have HN : Hid (∀ j u, (l.flatMap flM.c)[j]? = some u → (w.alloc (.cells #[] 41)).cell? (ad.add j) = some u) := hlt
    clear hnews hS ho0 hlt
    have hq := fun W => Go.Lib.run_eql_slice_nil (P := Try.prog) W 24 _ (some ad) l.length c 0 0 Try.underlying24
    simp only [Option.isNone] at hq
    go_enter Try.func35, Try.ntmps35
    go_wp2_with (at_builtin; refine wpList_append_own _ rfl _ _ 24 rfl w.heap.size 41 i0 (.agg #[.int .i64 0, .string ByteArray.empty, .string ByteArray.empty, .string ByteArray.empty, .bool false]) 5 64 Try.underlying24 hi hz0 hz1 hz2 rfl (by decide) _ 0 [] rfl (by exact HO0.out) ad l.length c (l.flatMap flM.c) rfl (flat_len flM.c_len l) (by exact HN.out) hone (by unfold maxLen; omega) (by omega) (by simp) ?_)
    intro v1 w1 hown1 hgrow1 hnil1
    obtain ⟨g1, c1, rfl⟩ : ∃ g1 c1, v1 = .slice (some ⟨g1, 0, none⟩) l.length c1 := by
      obtain ⟨_, ⟨rfl, h0⟩ | ⟨g, cap, cur, e, _⟩⟩ := hown1
      · exfalso
        first | exact hnil1 rfl | (have := hnil1.1 rfl; cases this.1)
      · exact ⟨_, _, by simpa using e⟩
    have HW : Hid (w1.ownsRow w.heap.size 41 5 (.slice (some ⟨g1, 0, none⟩) l.length c1) l.length (l.flatMap flM.c)) := by show w1.ownsRow _ _ _ _ _ _; simpa using hown1
    have hb1 : Below w.heap.size w w1 := hb0.grown hgrow1 (by simp) (fun b hb => by simp [Value.ownBlock] at hb; omega)
    clear hown1 hgrow1 hnil1
    go_wp2
    go_ret
    exact ⟨⟨_, rfl, .inr ⟨g1, c1, rfl, HW.out⟩⟩, hb1⟩
set_option maxRecDepth 100000 in
set_option maxHeartbeats 2000000 in
theorem impl_hand (o t : Int) (w : World) : Calls Try.prog 36 #[.int .i64 o, .int .i64 t] w fun e w' => e = .returned (.bool (decide (0 ≤ o ∧ o ≤ 1000) && decide (1 ≤ t ∧ t ≤ 1000000000))) ∧ w' = w := by
  by_cases h1 : 0 ≤ o <;> by_cases h2 : o ≤ 1000 <;> by_cases h3 : 1 ≤ t <;> by_cases h4 : t ≤ 1000000000
  all_goals
    go_enter Try.func36, Try.ntmps36
    go_wp2
    go_ret
    exact ⟨by simp [h1, h2, h3, h4], rfl⟩
set_option maxRecDepth 100000 in
set_option maxHeartbeats 2000000 in
theorem impl_msg (m : flM.Ms) (nx : Int) (w : World) (hm : m.x.size ≤ 1048576 ∧ m.k.size ≤ 1048576 ∧ m.b.size ≤ 1048576) :
    Calls Try.prog 37 #[.agg #[.int .i64 m.q, .string m.x, .string m.k, .string m.b, .bool m.a], .int .i64 nx] w fun e w' => e = .returned (.bool (mOk m nx)) ∧ Below w.heap.size w w' := by
  obtain ⟨q, x, k, b, a⟩ := m
  obtain ⟨h1, h2, h3⟩ := hm
  simp only at h1 h2 h3 ⊢
  have hnm := fun W => nm.impl_name x W h1
  have hky := fun W => ky.impl_key k W h2
  unfold mOk
  simp only
  have hb : Below w.heap.size w (w.alloc (.cells #[.int .i64 q, .string x, .string k, .string b, .bool a] 41)) := (Below.refl _ _).alloc (Nat.le_refl _) _
  generalize nm.good x = b2 at hnm ⊢
  generalize ky.good k = b3 at hky ⊢
  by_cases q1 : 1 ≤ q
  case neg =>
    have e1 : decide (1 ≤ q ∧ q ≤ nx - 1) = false := decide_eq_false (fun h => q1 h.1)
    rw [e1]
    go_enter Try.func37, Try.ntmps37
    go_wp2_with (first | (go_at_call 30; refine (hnm _).mono ?_; rintro e w2 ⟨rfl, hw2⟩; obtain rfl := hw2.symm) | (go_at_call 61; refine (hky _).mono ?_; rintro e w3 ⟨rfl, hw3⟩; obtain rfl := hw3.symm))
    go_ret
    exact ⟨by simp, hb⟩
  by_cases q2 : q < nx
  case neg =>
    have e1 : decide (1 ≤ q ∧ q ≤ nx - 1) = false := decide_eq_false (fun h => q2 (by omega))
    rw [e1]
    go_enter Try.func37, Try.ntmps37
    go_wp2_with (first | (go_at_call 30; refine (hnm _).mono ?_; rintro e w2 ⟨rfl, hw2⟩; obtain rfl := hw2.symm) | (go_at_call 61; refine (hky _).mono ?_; rintro e w3 ⟨rfl, hw3⟩; obtain rfl := hw3.symm))
    go_ret
    exact ⟨by simp, hb⟩
  have e1 : decide (1 ≤ q ∧ q ≤ nx - 1) = true := decide_eq_true ⟨q1, by omega⟩
  rw [e1]
  by_cases hx : x = ⟨#[]⟩
  · subst hx
    by_cases h30 : b.size ≤ 3000
    · have g1 : (b.size : Int) ≤ 3000 := by omega
      cases b3
      all_goals
        go_enter Try.func37, Try.ntmps37
        go_wp2_with (first | (go_at_call 30; refine (hnm _).mono ?_; rintro e w2 ⟨rfl, hw2⟩; obtain rfl := hw2.symm) | (go_at_call 61; refine (hky _).mono ?_; rintro e w3 ⟨rfl, hw3⟩; obtain rfl := hw3.symm))
        go_ret
        exact ⟨by first | (simp [h30]; done) | (simp [h30, g1]; done) | (simp [h30]; omega), hb⟩
    · have g1 : ¬ (b.size : Int) ≤ 3000 := by omega
      cases b3
      all_goals
        go_enter Try.func37, Try.ntmps37
        go_wp2_with (first | (go_at_call 30; refine (hnm _).mono ?_; rintro e w2 ⟨rfl, hw2⟩; obtain rfl := hw2.symm) | (go_at_call 61; refine (hky _).mono ?_; rintro e w3 ⟨rfl, hw3⟩; obtain rfl := hw3.symm))
        go_ret
        exact ⟨by first | (simp [h30]; done) | (simp [h30, g1]; done) | (simp [h30]; omega), hb⟩
  · have hx2 : (x.toList == []) = false := by simp; exact ne_nil hx
    by_cases h30 : b.size ≤ 3000
    · have g1 : (b.size : Int) ≤ 3000 := by omega
      cases b2 <;> cases b3
      all_goals
        go_enter Try.func37, Try.ntmps37
        go_wp2_with (first | (go_at_call 30; refine (hnm _).mono ?_; rintro e w2 ⟨rfl, hw2⟩; obtain rfl := hw2.symm) | (go_at_call 61; refine (hky _).mono ?_; rintro e w3 ⟨rfl, hw3⟩; obtain rfl := hw3.symm))
        go_ret
        exact ⟨by first | (simp [h30, hx]; done) | (simp [h30, hx]; omega), hb⟩
    · have g1 : ¬ (b.size : Int) ≤ 3000 := by omega
      cases b2 <;> cases b3
      all_goals
        go_enter Try.func37, Try.ntmps37
        go_wp2_with (first | (go_at_call 30; refine (hnm _).mono ?_; rintro e w2 ⟨rfl, hw2⟩; obtain rfl := hw2.symm) | (go_at_call 61; refine (hky _).mono ?_; rintro e w3 ⟨rfl, hw3⟩; obtain rfl := hw3.symm))
        go_ret
        exact ⟨by first | (simp [h30, hx]; done) | (simp [h30, hx]; omega), hb⟩
end Go.Proofs.Ytnlcmheahihlpaa.qa

/- An open queue closed: what was in the heap, in order. -/
namespace Go.Proofs.Ytnlcmheahihlpaa.qcl
open Go.ChangeShapes Go.WideShapes Go.ChangeAt Go.RowKit Go.Proofs.Ytnlcmheahihlpaa.fl Go.Proofs.Ytnlcmheahihlpaa.qit Go.Proofs.Ytnlcmheahihlpaa.qst Go.Proofs.Ytnlcmheahihlpaa.qpu Go.Proofs.Ytnlcmheahihlpaa.qpo Go.Proofs.Ytnlcmheahihlpaa.qop
set_option linter.unusedVariables false

def Le (a b : flM.Ms) : Prop := a.q ≤ b.q
/-- what stands while the heap is emptied: the row r holds R, the heap M -/
structure St (W0 : World) (Q : Qx) (hb g cap : Nat) (L : List flM.Ms) (w : World) (B : Nat) (v : Value) (R M : List flM.Ms) (wr : World) : Prop where
  sg : SG W0 hb Q g cap M wr
  kq : Kq hb g w wr
  hp : hp.Heap less M M.length
  pm : (R ++ M).Perm L
  so : R.Pairwise Le
  lo : ∀ a ∈ R, ∀ b ∈ M, Le a b
  ow : wr.ownsRow B 41 5 v R.length (R.flatMap flM.c)
theorem St.step {W0 : World} {Q : Qx} {hb g cap B : Nat} {L R M M' : List flM.Ms} {w wr : World} {v : Value} {r : flM.Ms} (h : St W0 Q hb g cap L w B v R M wr) (h0 : M[0]? = some r) (hp' : (r :: M').Perm M) : (R ++ [r] ++ M').Perm L ∧ (R ++ [r]).Pairwise Le ∧ ∀ a ∈ R ++ [r], ∀ b ∈ M', Le a b := by
  have hr : r ∈ M := List.mem_of_getElem? h0
  have hmin : ∀ b ∈ M, Le r b := fun b hb => by
    obtain ⟨i, hi⟩ := List.mem_iff_getElem?.1 hb
    have := h.hp.head ord (Nat.le_refl _) i (List.getElem?_eq_some_iff.1 hi).1 r b h0 hi
    simp only [less, decide_eq_false_iff_not] at this
    unfold Le
    omega
  refine ⟨?_, List.pairwise_append.2 ⟨h.so, List.pairwise_singleton _ _, fun a ha b hb => by rw [List.mem_singleton] at hb; subst hb; exact h.lo a ha _ hr⟩, fun a ha b hb => ?_⟩
  · rw [List.append_assoc]
    exact (List.Perm.append_left R hp').trans h.pm
  · have hbM : b ∈ M := hp'.mem_iff.1 (List.mem_cons_of_mem _ hb)
    rcases List.mem_append.1 ha with ha | ha
    · exact h.lo a ha b hbM
    · rw [List.mem_singleton] at ha; subst ha; exact hmin b hbM
theorem made0 (w : World) (n B : Nat) (hB : B ≤ w.heap.size) (hn : n ≤ 1048576) : (w.alloc (.cells (madeCells #[.int .i64 0, .string ByteArray.empty, .string ByteArray.empty, .string ByteArray.empty, .bool false] (n * 5)) 41)).ownsRow B 41 5 (.slice (some ⟨w.heap.size, 0, none⟩) 0 n) 0 [] :=
  ⟨by simp, .inr ⟨w.heap.size, n, _, rfl, hB, bnew w _ _, Nat.zero_le _, by unfold maxLen; omega, size_madeCells _ _, by simp⟩⟩
theorem make0 (W : World) (n : Nat) (hn : n ≤ 1048576) : (Instr.makeSlice 24 (.int .i64 0) (.int .i64 (n : Int))).run Try.prog W = .ok (.slice (some ⟨W.heap.size, 0, none⟩) 0 n) (W.alloc (.cells (madeCells #[.int .i64 0, .string ByteArray.empty, .string ByteArray.empty, .string ByteArray.empty, .bool false] (n * 5)) 41)) := by
  obtain ⟨i0, hi, hz0, hz1, hz2⟩ := qa.infoM
  have hmk := run_makeSlice (P := Try.prog) W 24 41 i0 _ Try.underlying24 hi hz0 .i64 .i64 (0 : Int) (n : Int) (by omega) (by omega) (by rw [hz1]; simp; omega) (by rw [hz2]; omega) (by omega)
  rw [hz1, show ((n : Int)).toNat = n by omega] at hmk
  exact hmk

def lenOf : Value → Nat
  | .slice _ n _ => n
  | _ => 0
theorem own_block {w w' : World} {B n m : Nat} {U : TypeId} {v : Value} {xs : List Value} (h : w.ownsRow B U n v m xs) (hb : ∀ g, v.ownBlock = some g → w'.heap[g]? = w.heap[g]?) : w'.ownsRow B U n v m xs := by
  obtain ⟨h1, h2 | ⟨g, cap, cur, h3, h4, h5, h6⟩⟩ := h
  · exact ⟨h1, .inl h2⟩
  · exact ⟨h1, .inr ⟨g, cap, cur, h3, h4, (hb g (by rw [h3]; rfl)).trans h5, h6⟩⟩
theorem blk_eq {gr n c k : Nat} (h : (Value.slice (some ⟨gr, 0, none⟩) n c).ownBlock = some k) : gr = k := by simpa [Value.ownBlock] using h
theorem sg_below {W0 : World} {hb g cap B : Nat} {Q : Qx} {L : List flM.Ms} {w w' : World} (h : SG W0 hb Q g cap L w) (hb' : Below B w w') (h1 : hb < B) (h2 : g < B) (h3 : W0.heap.size ≤ B) : SG W0 hb Q g cap L w' :=
  ⟨h.bel.trans (hb'.mono h3), h.hbB, h.gB, h.ne, (hb'.block hb h1).trans h.box, h.row.below (hb'.block g h2), h.fits⟩
theorem kq_below {hb g B : Nat} {a w w' : World} (h : Kq hb g a w) (hb' : Below B w w') (h1 : a.heap.size ≤ B) : Kq hb g a w' :=
  ⟨hb'.os.trans h.os, hb'.tape.trans h.tape, hb'.output.trans h.output, Nat.le_trans h.size hb'.size, fun k hk h2 h3 => (hb'.block k (Nat.lt_of_lt_of_le hk h1)).trans (h.block k hk h2 h3)⟩

def wz (hb gr cr n : Nat) (Q : Qx) : List (Nat × Value) := [(21, .pointer (some ⟨hb, 0, none⟩)), (22, .pointer (some ⟨hb, 0, none⟩)), (23, .pointer (some ⟨hb, 1, none⟩)), (24, .string Q.nm), (25, .pointer (some ⟨hb, 0, none⟩)), (26, .pointer (some ⟨hb, 0, none⟩)), (27, .pointer (some ⟨hb, 2, none⟩)), (28, .int .i64 Q.nx), (29, .slice (some ⟨gr, 0, none⟩) n cr), (30, .pointer (some ⟨hb, 0, none⟩)), (31, .pointer (some ⟨hb, 0, none⟩)), (32, .pointer (some ⟨hb, 3, none⟩)), (33, .slice Q.ha Q.hn Q.hc), (34, .agg #[.string Q.nm, .int .i64 Q.nx, .slice (some ⟨gr, 0, none⟩) n cr, .slice Q.ha Q.hn Q.hc])]
def set4 (w : World) (b : Nat) (x0 x1 x2 x3 : Value) : World := (((w.setCell ⟨b, 0, none⟩ x0).setCell ⟨b, 1, none⟩ x1).setCell ⟨b, 2, none⟩ x2).setCell ⟨b, 3, none⟩ x3
def Dz (hb gr cr n g m cap rb : Nat) (Q : Qx) (Y : World) (b : Bool) (W : World) : Prop := W.heap[hb]? = some (.cells #[.slice (some ⟨g, 0, none⟩) m cap, .string Q.nm, .int .i64 Q.nx, .slice Q.ha Q.hn Q.hc] 82 (0, 0)) ∧ W = if b then set4 Y rb (.string Q.nm) (.int .i64 Q.nx) (.slice (some ⟨gr, 0, none⟩) n cr) (.slice Q.ha Q.hn Q.hc) else Y

set_option maxRecDepth 100000 in
set_option maxHeartbeats 2000000 in
theorem closed_run (W0 : World) (Q : Qx) (hb g cap : Nat) (L : List flM.Ms) (w : World) (hS : SG W0 hb Q g cap L w) (hl : L.length ≤ 900) (hH : hp.Heap less L L.length) :
    Calls Try.prog 25 #[.pointer (some ⟨hb, 0, none⟩)] w fun e w' => ∃ (R : List flM.Ms) (gr cr : Nat), e = .returned (.agg #[.string Q.nm, .int .i64 Q.nx, .slice (some ⟨gr, 0, none⟩) R.length cr, .slice Q.ha Q.hn Q.hc]) ∧ R.Perm L ∧ R.Pairwise Le ∧ w'.ownsRow w.heap.size 41 5 (.slice (some ⟨gr, 0, none⟩) R.length cr) R.length (R.flatMap flM.c) ∧ Kq hb g w w' := by
  have hgl : g < w.heap.size := by obtain ⟨cur, h1, _⟩ := hS.row; exact (Array.getElem?_eq_some_iff.1 h1).1
  have hbl : hb < w.heap.size := (Array.getElem?_eq_some_iff.1 hS.box).1
  have hWB : W0.heap.size ≤ w.heap.size := hS.bel.size
  have hal : Below w.heap.size w (w.alloc (.cells #[.string ⟨#[]⟩, .int .i64 0, .slice none 0 0, .slice none 0 0] 27)) := (Below.refl _ _).alloc (Nat.le_refl _) _
  have hZ := bnew w #[.string ⟨#[]⟩, .int .i64 0, .slice none 0 0, .slice none 0 0] 27
  obtain ⟨X, hX⟩ : ∃ X, w.alloc (.cells #[.string ⟨#[]⟩, .int .i64 0, .slice none 0 0, .slice none 0 0] 27) = X := ⟨_, rfl⟩
  have hXs : X.heap.size = w.heap.size + 1 := by rw [← hX]; simp
  rw [hX] at hal hZ
  have hbx : X.cell? ⟨hb, 0, none⟩ = some (.slice (some ⟨g, 0, none⟩) L.length cap) := bcell (hS.on hal).box rfl
  have hmk := make0 X L.length (by omega)
  have hal2 : Below X.heap.size X (X.alloc (.cells (madeCells #[.int .i64 0, .string ByteArray.empty, .string ByteArray.empty, .string ByteArray.empty, .bool false] (L.length * 5)) 41)) := (Below.refl _ _).alloc (Nat.le_refl _) _
  have how := made0 X L.length (w.heap.size + 1) (by omega) (by omega)
  have hZ2 := bold hZ (.cells (madeCells #[.int .i64 0, .string ByteArray.empty, .string ByteArray.empty, .string ByteArray.empty, .bool false] (L.length * 5)) 41)
  obtain ⟨Y, hY⟩ : ∃ Y, X.alloc (.cells (madeCells #[.int .i64 0, .string ByteArray.empty, .string ByteArray.empty, .string ByteArray.empty, .bool false] (L.length * 5)) 41) = Y := ⟨_, rfl⟩
  rw [hY] at hmk hal2 how hZ2
  have hwY : Below w.heap.size w Y := hal.trans (hal2.mono hal.size)
  have HS0 : Hid (St W0 Q hb g cap L w (w.heap.size + 1) (.slice (some ⟨X.heap.size, 0, none⟩) 0 L.length) [] L Y) := ⟨(hS.on hal).on hal2, ⟨hwY.os, hwY.tape, hwY.output, hwY.size, fun k hk _ _ => hwY.block k hk⟩, hH, List.Perm.refl _, List.Pairwise.nil, fun a ha => (by cases ha), how⟩
  have HZ0 : Hid (Y.heap[w.heap.size]? = some (.cells #[.string ⟨#[]⟩, .int .i64 0, .slice none 0 0, .slice none 0 0] 27 (0, 0))) := hZ2
  clear hS hH hal hal2 how hZ hZ2 hwY
  go_enter Try.func25, Try.ntmps25
  go_wp2_with (go_at_call 57; refine (len_run _ _ _ _).mono ?_; rintro e w0 ⟨rfl, hw0⟩; rw [← hw0]; clear hw0 w0)
  clear hX hY hmk hbx
  go_loopw [3] (fun v wr => ∃ (R M : List flM.Ms) (gr cr : Nat), v = .slice (some ⟨gr, 0, none⟩) R.length cr ∧ Hid (St W0 Q hb g cap L w (w.heap.size + 1) (.slice (some ⟨gr, 0, none⟩) R.length cr) R M wr ∧ wr.heap[w.heap.size]? = some (.cells #[.string ⟨#[]⟩, .int .i64 0, .slice none 0 0, .slice none 0 0] 27 (0, 0)))) (fun v _ => L.length - lenOf v)
  case atStart => exact ⟨[], L, X.heap.size, L.length, by rw [hXs]; rfl, HS0.out, HZ0.out⟩
  case round =>
    obtain ⟨R, M, gr, cr, rfl, hst⟩ := hrel
    clear HS0 HZ0
    obtain ⟨hs, hz⟩ := hst.out
    have hbx : wr.cell? ⟨hb, 0, none⟩ = some (.slice (some ⟨g, 0, none⟩) M.length cap) := bcell hs.sg.box rfl
    have hln := hs.pm.length_eq
    rw [List.length_append] at hln
    cases hM : M with
    | nil =>
      subst hM
      have b1 : wr.cell? ⟨hb, 1, none⟩ = some (.string Q.nm) := bcell hs.sg.box rfl
      have b2 : wr.cell? ⟨hb, 2, none⟩ = some (.int .i64 Q.nx) := bcell hs.sg.box rfl
      have b3 : wr.cell? ⟨hb, 3, none⟩ = some (.slice Q.ha Q.hn Q.hc) := bcell hs.sg.box rfl
      have z0 : wr.cell? ⟨w.heap.size, 0, none⟩ = some (.string ⟨#[]⟩) := bcell hz rfl
      have z1 : wr.cell? ⟨w.heap.size, 1, none⟩ = some (.int .i64 0) := bcell hz rfl
      have z2 : wr.cell? ⟨w.heap.size, 2, none⟩ = some (.slice none 0 0) := bcell hz rfl
      have z3 : wr.cell? ⟨w.heap.size, 3, none⟩ = some (.slice none 0 0) := bcell hz rfl
      have f0 := bfree hz 0
      have f1 := bfree hz 1
      have f2 := bfree hz 2
      have f3 := bfree hz 3
      have hbx : wr.cell? ⟨hb, 0, none⟩ = some (.slice (some ⟨g, 0, none⟩) 0 cap) := hbx
      have HF : Hid (R.Perm L ∧ R.Pairwise Le ∧ wr.ownsRow (w.heap.size + 1) 41 5 (.slice (some ⟨gr, 0, none⟩) R.length cr) R.length (R.flatMap flM.c) ∧ Kq hb g w wr) := ⟨by simpa using hs.pm, hs.so, hs.ow, hs.kq⟩
      have hgr : w.heap.size + 1 ≤ gr := (hs.ow.lt gr rfl).1
      have HBX : Hid (wr.heap[hb]? = some (.cells #[.slice (some ⟨g, 0, none⟩) 0 cap, .string Q.nm, .int .i64 Q.nx, .slice Q.ha Q.hn Q.hc] 82 (0, 0))) := hs.sg.box
      clear hs hz hst
      go_wp2_with (go_at_call 57; refine (len_run _ _ _ _).mono ?_; rintro e w0 ⟨rfl, hw0⟩; rw [← hw0]; clear hw0 w0)
      obtain ⟨V, hV⟩ : ∃ V, wr.drew = V := ⟨_, rfl⟩
      have e0 : V.cell? ⟨w.heap.size, 0, none⟩ = some (.string ⟨#[]⟩) := by rw [← hV]; exact z0
      have e1 : V.cell? ⟨w.heap.size, 1, none⟩ = some (.int .i64 0) := by rw [← hV]; exact z1
      have e2 : V.cell? ⟨w.heap.size, 2, none⟩ = some (.slice none 0 0) := by rw [← hV]; exact z2
      have e3 : V.cell? ⟨w.heap.size, 3, none⟩ = some (.slice none 0 0) := by rw [← hV]; exact z3
      have k0 : V.frozen? ⟨w.heap.size, 0, none⟩ = false := by rw [← hV]; exact f0
      have k1 : V.frozen? ⟨w.heap.size, 1, none⟩ = false := by rw [← hV]; exact f1
      have k2 : V.frozen? ⟨w.heap.size, 2, none⟩ = false := by rw [← hV]; exact f2
      have k3 : V.frozen? ⟨w.heap.size, 3, none⟩ = false := by rw [← hV]; exact f3
      have HVB : Hid (Below wr.heap.size wr V) := by unfold Hid; rw [← hV]; exact (Below.refl _ _).drew
      refine dk.region_sets (wz hb gr cr R.length Q) [21, 22, 23, 24, 25, 26, 27, 28, 29, 30, 31, 32, 33, 34] (dk.Cl (Dz hb gr cr R.length g 0 cap w.heap.size Q V) 14) (by kernel_rfl) (by kernel_rfl) rfl (by kernel_rfl) ⟨(by rw [hV]; exact (HVB.out.block hb (Array.getElem?_eq_some_iff.1 HBX.out).1).trans HBX.out), hV⟩ ?each ?fin
      case each =>
        refine ⟨dk.q (by decide) (Value.pointer (some ⟨hb, 0, none⟩)) (by rintro _ ⟨⟩; exact dk.sets_on _ (by simp) _ rfl) (fun b W h => by simp [execOp, go_sem, Act.eval, dk.sets_get, wz, List.lookup]), ?_⟩
        refine ⟨dk.q (by decide) (Value.pointer (some ⟨hb, 0, none⟩)) (by rintro _ ⟨⟩; exact dk.sets_on _ (by simp) _ rfl) (fun b W h => by simp [execOp, go_sem, Act.eval, dk.sets_get, wz, List.lookup]), ?_⟩
        refine ⟨dk.q (by decide) (.pointer (some ⟨hb, 1, none⟩)) (by rintro _ ⟨⟩; exact dk.sets_on _ (by simp) _ rfl) (fun b W h => by simp [execOp, go_sem, Act.eval, dk.sets_get, wz, List.lookup]), ?_⟩
        refine ⟨dk.q (by decide) (.string Q.nm) (by rintro _ ⟨⟩; exact dk.sets_on _ (by simp) _ rfl) (fun b W h => by have c : W.cell? ⟨hb, 1, none⟩ = some (.string Q.nm) := bcell h.1 rfl; simp [execOp, go_sem, Act.eval, dk.sets_get, wz, List.lookup, c]), ?_⟩
        refine ⟨dk.q (by decide) (Value.pointer (some ⟨hb, 0, none⟩)) (by rintro _ ⟨⟩; exact dk.sets_on _ (by simp) _ rfl) (fun b W h => by simp [execOp, go_sem, Act.eval, dk.sets_get, wz, List.lookup]), ?_⟩
        refine ⟨dk.q (by decide) (Value.pointer (some ⟨hb, 0, none⟩)) (by rintro _ ⟨⟩; exact dk.sets_on _ (by simp) _ rfl) (fun b W h => by simp [execOp, go_sem, Act.eval, dk.sets_get, wz, List.lookup]), ?_⟩
        refine ⟨dk.q (by decide) (.pointer (some ⟨hb, 2, none⟩)) (by rintro _ ⟨⟩; exact dk.sets_on _ (by simp) _ rfl) (fun b W h => by simp [execOp, go_sem, Act.eval, dk.sets_get, wz, List.lookup]), ?_⟩
        refine ⟨dk.q (by decide) (.int .i64 Q.nx) (by rintro _ ⟨⟩; exact dk.sets_on _ (by simp) _ rfl) (fun b W h => by have c : W.cell? ⟨hb, 2, none⟩ = some (.int .i64 Q.nx) := bcell h.1 rfl; simp [execOp, go_sem, Act.eval, dk.sets_get, wz, List.lookup, c]), ?_⟩
        refine ⟨dk.q (by decide) (.slice (some ⟨gr, 0, none⟩) R.length cr) (by rintro _ ⟨⟩; exact dk.sets_on _ (by simp) _ rfl) (fun b W h => by simp [execOp, go_sem, Act.eval, dk.sets_get, wz, List.lookup]), ?_⟩
        refine ⟨dk.q (by decide) (Value.pointer (some ⟨hb, 0, none⟩)) (by rintro _ ⟨⟩; exact dk.sets_on _ (by simp) _ rfl) (fun b W h => by simp [execOp, go_sem, Act.eval, dk.sets_get, wz, List.lookup]), ?_⟩
        refine ⟨dk.q (by decide) (Value.pointer (some ⟨hb, 0, none⟩)) (by rintro _ ⟨⟩; exact dk.sets_on _ (by simp) _ rfl) (fun b W h => by simp [execOp, go_sem, Act.eval, dk.sets_get, wz, List.lookup]), ?_⟩
        refine ⟨dk.q (by decide) (.pointer (some ⟨hb, 3, none⟩)) (by rintro _ ⟨⟩; exact dk.sets_on _ (by simp) _ rfl) (fun b W h => by simp [execOp, go_sem, Act.eval, dk.sets_get, wz, List.lookup]), ?_⟩
        refine ⟨dk.q (by decide) (.slice Q.ha Q.hn Q.hc) (by rintro _ ⟨⟩; exact dk.sets_on _ (by simp) _ rfl) (fun b W h => by have c : W.cell? ⟨hb, 3, none⟩ = some (.slice Q.ha Q.hn Q.hc) := bcell h.1 rfl; simp [execOp, go_sem, Act.eval, dk.sets_get, wz, List.lookup, c]), ?_⟩
        refine ⟨dk.q (by decide) (.agg #[.string Q.nm, .int .i64 Q.nx, .slice (some ⟨gr, 0, none⟩) R.length cr, .slice Q.ha Q.hn Q.hc]) (by rintro _ ⟨⟩; exact dk.sets_on _ (by simp) _ rfl) (fun b W h => by simp [execOp, go_sem, Act.eval, dk.sets_get, wz, List.lookup]), ?_⟩
        refine ⟨dk.last rfl (fun W h => ?_), trivial⟩
        obtain ⟨h1, h2⟩ := h
        have h2 : W = V := h2
        rw [h2] at h1 ⊢
        clear h2
        refine ⟨set4 V w.heap.size (.string Q.nm) (.int .i64 Q.nx) (.slice (some ⟨gr, 0, none⟩) R.length cr) (.slice Q.ha Q.hn Q.hc), by simp [execOp, go_sem, Act.eval, dk.sets_get, wz, List.lookup, e0, e1, e2, e3, k0, k1, k2, k3, set4], ?_, rfl⟩
        unfold set4
        exact boff (boff (boff (boff h1 _ _ _ (by omega)) _ _ _ (by omega)) _ _ _ (by omega)) _ _ _ (by omega)
      case fin =>
        intro L' W hL hC
        have hC' : W = set4 V w.heap.size (.string Q.nm) (.int .i64 Q.nx) (.slice (some ⟨gr, 0, none⟩) R.length cr) (.slice Q.ha Q.hn Q.hc) := by
          have := hL 14 (by decide)
          unfold dk.Cl at hC
          rw [this] at hC
          exact hC.2
        subst hC'
        clear hC hL
        simp only [dk.sets, wz, set4]
        go_wp2
        refine bodyPost_ret (v := .agg #[.string Q.nm, .int .i64 Q.nx, .slice (some ⟨gr, 0, none⟩) R.length cr, .slice Q.ha Q.hn Q.hc]) (by simp [results, Try.results25, go_sem, e0, e1, e2, e3]) rfl ⟨R, gr, cr, rfl, HF.out.1, HF.out.2.1, ?_, ?_⟩
        · have h1 : wr.ownsRow w.heap.size 41 5 (.slice (some ⟨gr, 0, none⟩) R.length cr) R.length (R.flatMap flM.c) := by
            obtain ⟨h1, h2 | ⟨g', cap', cur, h3, h4, h5⟩⟩ := HF.out.2.2.1
            · exact ⟨h1, .inl h2⟩
            · exact ⟨h1, .inr ⟨g', cap', cur, h3, by omega, h5⟩⟩
          have ob : ∀ (V : World) (o : Nat) (u : Value), V.ownsRow w.heap.size 41 5 (.slice (some ⟨gr, 0, none⟩) R.length cr) R.length (R.flatMap flM.c) → (V.setCell ⟨w.heap.size, o, none⟩ u).ownsRow w.heap.size 41 5 (.slice (some ⟨gr, 0, none⟩) R.length cr) R.length (R.flatMap flM.c) := fun V o u h => own_block h (fun k hk => Below.heap_setCell _ _ _ k (by have := blk_eq hk; show k ≠ w.heap.size; omega))
          have hd : V.ownsRow w.heap.size 41 5 (.slice (some ⟨gr, 0, none⟩) R.length cr) R.length (R.flatMap flM.c) := own_block h1 (fun k hk => HVB.out.block k (h1.lt k hk).2)
          exact ob _ _ _ (ob _ _ _ (ob _ _ _ (ob _ _ _ hd)))
        · exact Kq.off (Kq.off (Kq.off (Kq.off (Kq.on HF.out.2.2.2 HVB.out) _ _ (Nat.le_refl _)) _ _ (Nat.le_refl _)) _ _ (Nat.le_refl _)) _ _ (Nat.le_refl _)
    | cons r M0 =>
      rw [hM] at hs hbx hln
      have h0 : (r :: M0)[0]? = some r := rfl
      have hfi := first_run W0 Q hb g cap (r :: M0) r wr hs.sg h0 (by omega) hs.hp
      obtain ⟨ML, hML⟩ : ∃ ML, (r :: M0).length = ML := ⟨_, rfl⟩
      rw [hML] at hbx hln
      have hpos : 0 < ML := by rw [← hML]; simp
      have hpi : (0 : Int) < (ML : Int) := by omega
      have HST : Hid (St W0 Q hb g cap L w (w.heap.size + 1) (.slice (some ⟨gr, 0, none⟩) R.length cr) R (r :: M0) wr ∧ wr.heap[w.heap.size]? = some (.cells #[.string ⟨#[]⟩, .int .i64 0, .slice none 0 0, .slice none 0 0] 27 (0, 0))) := ⟨hs, hz⟩
      have hgr : w.heap.size + 1 ≤ gr ∧ gr < wr.heap.size := hs.ow.lt gr rfl
      clear hs hz hst hM hML
      go_wp2_with (first | (go_at_call 57; refine (len_run _ _ _ _).mono ?_; rintro e w0 ⟨rfl, hw0⟩; rw [← hw0]; clear hw0 w0) | (go_at_call 53; fail))
      refine hfi.mono ?_
      rintro e w1 ⟨rfl, M', hp1, hp2, hp3, hp4⟩
      obtain ⟨q1, q2, q3⟩ := St.step HST.out.1 h0 hp1
      have ow1 := own_block HST.out.1.ow (fun k hk => hp4.block k (by have := blk_eq hk; omega) (by have := blk_eq hk; omega) (by have := blk_eq hk; omega))
      have hz1 := (hp4.block w.heap.size (Array.getElem?_eq_some_iff.1 HST.out.2).1 (by omega) (by omega)).trans HST.out.2
      have hw1s : w.heap.size + 1 ≤ w1.heap.size := (Array.getElem?_eq_some_iff.1 hz1).1
      have hal : Below w1.heap.size w1 (w1.alloc (.cells #[.int .i64 r.q, .string r.x, .string r.k, .string r.b, .bool r.a] 41)) := (Below.refl _ _).alloc (Nat.le_refl _) _
      have hall : qa.All (w1.alloc (.cells #[.int .i64 r.q, .string r.x, .string r.k, .string r.b, .bool r.a] 41)) (w.heap.size + 1) (.slice (some ⟨gr, 0, none⟩) R.length cr) R := .inr ⟨gr, cr, rfl, own_block ow1 (fun k hk => hal.block k (by have := blk_eq hk; have := hp4.size; omega))⟩
      obtain ⟨v', w', hrun, hall', hbw'⟩ := qa.app_one r hall (by simp; omega) (by omega) (bnew w1 _ _) 24
      have HRUN : Hid ((Builtin.append_ #[24, 24] 24 #[.slice (some ⟨gr, 0, none⟩) R.length cr, .slice (some ⟨w1.heap.size, 0, none⟩) 1 1]).run Try.prog (w1.alloc (.cells #[.int .i64 r.q, .string r.x, .string r.k, .string r.b, .bool r.a] 41)) = .ok v' w') := hrun
      have hB : Below (w.heap.size + 1) w1 w' := (hal.mono hw1s).trans hbw'
      obtain ⟨g2, c2, hv2, ho2⟩ : ∃ g2 c2, v' = .slice (some ⟨g2, 0, none⟩) (R ++ [r]).length c2 ∧ w'.ownsRow (w.heap.size + 1) 41 5 (.slice (some ⟨g2, 0, none⟩) (R ++ [r]).length c2) (R ++ [r]).length ((R ++ [r]).flatMap flM.c) := by
        rcases hall' with ⟨h9, _⟩ | h9
        · simp at h9
        · exact h9
      subst hv2
      have HN : Hid (St W0 Q hb g cap L w (w.heap.size + 1) (.slice (some ⟨g2, 0, none⟩) (R ++ [r]).length c2) (R ++ [r]) M' w' ∧ w'.heap[w.heap.size]? = some (.cells #[.string ⟨#[]⟩, .int .i64 0, .slice none 0 0, .slice none 0 0] 27 (0, 0))) :=
        ⟨⟨sg_below hp3 hB (by omega) (by omega) (by omega), kq_below (HST.out.1.kq.trans hp4) hB (by omega), hp2, q1, q2, q3, ho2⟩, (hB.block w.heap.size (by omega)).trans hz1⟩
      have hR1 : (R ++ [r]).length = R.length + 1 := by simp
      clear hfi hp1 hp2 hp3 hp4 q1 q2 q3 ow1 hz1 hal hall hrun hall' hbw' hB ho2 HST hbx
      go_wp2_with (at_builtin; refine cpr.wpList_append_run rfl _ _ 24 24 rfl _ _ _ rfl rfl HRUN.out ?_)
      go_wp2
      go_roundw
      case rel => exact ⟨R ++ [r], M', g2, c2, by rw [hR1], HN⟩
      case measure => simp [lenOf]; omega
end Go.Proofs.Ytnlcmheahihlpaa.qcl
