/- FnExactStreamPart: at every key and number of parts the program's StreamPart answers as the specification's (which is StreamPart of the document, chapter 6); for every input, where the table sumTable holds what the program's own text lays in it (the card ties it). -/
import Derived.Test.YtpdiladohkeofabDoorCards
import Derived.Test.YtpdiladohkeofabDoorTie
import Derived.Test.YtpdiladohkeofabDoorCheckSumWalks
import Derived.Test.YtpdiladohkeofabDoorKeyWalks
import Derived.WalkKit
import Derived.ProofKit
import Derived.OpenShut
import Derived.ShutString
import Derived.Below
import Derived.OpenVars
import Derived.Deep.DeepHandedRow
import Derived.Lib.LaidTab
import Derived.Stop.LaidErr
namespace Go.Proofs.YtpdiladohkeofabDoor.fnExactStreamPart
open Go.ChangeShapes Go.WideShapes Go.ChangeAt Go.RowKit
open Go.ChangeMaps (open_string shut_string)
set_option linter.unusedVariables false

theorem own : ownKnob Tryd.prog.godebug = none := by kernel_rfl
theorem laidOut : laidOutB Tryd.prog = true := by kernel_rfl

theorem gTab : Tryd.prog.globalNamed "loop.example/g00227/impl.sumTable" = some 0 := by kernel_rfl
theorem gTabType : (Tryd.prog.globals[0]?).map (·.type) = some 29 := by kernel_rfl
theorem cellsTab : Tryd.prog.cellsOf 29 = 16 := by kernel_rfl
theorem cellsElem : Tryd.prog.cellsOf 26 = 1 := by kernel_rfl
def nums : List Int := [0, 274646895, 549293790, 820201905, 1098587580, 1361435347, 1640403810, 1905808397, 2197175160, 2460548119, 2722870694, 2987750089, 3280807620, 3553878443, 3811616794, 4084100981]
theorem table {W : World} (h : laidMetH Tryd.prog Rows.fnExactStreamPartRow.laid W) : Lib.TabIs Tryd.prog W "loop.example/g00227/impl.sumTable" .u32 nums :=
  Lib.tabIs_of_head (rest := []) gTab gTabType Tryd.underlying29 Tryd.underlying26 cellsElem cellsTab h
theorem nums_tab : ∀ r, r < 16 → nums.getD r 0 = (cs.tab r : Int) := by decide
theorem cells {W : World} (h : laidMetH Tryd.prog Rows.fnExactStreamPartRow.laid W) : ∀ r, r < 16 → W.cell? ⟨0, r, none⟩ = some (.int .u32 (cs.tab r : Int)) := fun r hr => by
  rw [(table h).cell gTab r (by simpa [nums] using hr), nums_tab r hr]
def put (vs : Array Value) : Obj → Obj
  | .cells _ t frozen => .cells vs t frozen
  | o => o
def laidIn (W : World) : World := { W with heap := W.heap.modify 0 (put (nums.map (Value.int .u32)).toArray) }
def part (k : ByteArray) (n : Int) : Int := if ky.good k = true ∧ 1 ≤ n ∧ n ≤ 1000 then (cs.sum k : Int) % n else -1
theorem sum_lt (k : ByteArray) : cs.sum k < 4294967296 := cs.xor_lt (cs.st_lt k _) (by decide)
theorem emod_lt {s : Nat} {n : Int} (h1 : 1 ≤ n) (hs : s < 4294967296) : 0 ≤ (s : Int) % n ∧ (s : Int) % n < 4294967296 := by
  have h2 : Int.tmod (s : Int) n = (s : Int) % n := Int.tmod_eq_emod_of_nonneg (by omega)
  obtain ⟨m, rfl⟩ : ∃ m : Nat, n = (m : Int) := ⟨n.toNat, by omega⟩
  have h3 : Int.tmod (s : Int) (m : Int) = ((s % m : Nat) : Int) := rfl
  have h4 := Nat.mod_le s m
  omega
theorem tmod_lt {s : Nat} {n : Int} (h1 : 1 ≤ n) (hs : s < 4294967296) : 0 ≤ Int.tmod (s : Int) n ∧ Int.tmod (s : Int) n < 4294967296 := by
  obtain ⟨m, rfl⟩ : ∃ m : Nat, n = (m : Int) := ⟨n.toNat, by omega⟩
  have h2 : Int.tmod (s : Int) (m : Int) = ((s % m : Nat) : Int) := rfl
  have h3 := Nat.mod_le s m
  omega
set_option maxHeartbeats 1000000 in
theorem spec_part (k : ByteArray) (n : Int) (w : World) (hs : k.size ≤ 1048576) : Calls Tryd.prog 4 #[.string k, .int .i64 n] w fun e w' => e = .returned (.int .i64 (part k n)) ∧ w' = w := by
  have hk := fun W => ky.spec_key k W hs
  have hc := fun W => cs.spec_sum k W hs
  have hl := sum_lt k
  obtain ⟨s, hsm⟩ : ∃ s, cs.sum k = s := ⟨_, rfl⟩
  unfold part
  rw [hsm] at hl ⊢
  simp only [hsm] at hc
  cases hg : ky.good k with
  | false =>
    simp only [hg] at hk
    rw [if_neg (by simp)]
    go_enter Tryd.func4, Tryd.ntmps4
    go_wp2_with (go_at_call 6; refine (hk _).mono ?_; rintro e w0 ⟨rfl, hw0⟩; rw [← hw0]; clear hw0 w0)
    go_ret
    exact ⟨rfl, rfl⟩
  | true =>
    simp only [hg] at hk
    by_cases hn : 1 ≤ n ∧ n ≤ 1000
    · have f0 : decide ((1 : Int) ≤ n ∧ n ≤ 1000) = true := decide_eq_true hn
      have n0 : n ≠ 0 := by omega
      have t0 := tmod_lt hn.1 hl
      have i1 : IntKind.i64.wrap (s : Int) = (s : Int) := by rw [IntKind.wrap_i64]; omega
      have t1 := emod_lt hn.1 hl
      have i3 : IntKind.i64.wrap ((s : Int) % n) = (s : Int) % n := by rw [IntKind.wrap_i64]; omega
      have i2 : IntKind.i64.wrap (Int.tmod (s : Int) n) = Int.tmod (s : Int) n := by rw [IntKind.wrap_i64]; omega
      rw [if_pos ⟨rfl, hn⟩]
      go_enter Tryd.func4, Tryd.ntmps4
      go_wp2_with (first | (go_at_call 6; refine (hk _).mono ?_; rintro e w0 ⟨rfl, hw0⟩; rw [← hw0]; clear hw0 w0) | (go_at_call 7; refine (ky.within _ _ _ _).mono ?_; rintro e w0 ⟨rfl, hw0⟩; rw [← hw0]; clear hw0 w0; try rw [f0]) | (go_at_call 8; refine (hc _).mono ?_; rintro e w0 ⟨rfl, hw0⟩; rw [← hw0]; clear hw0 w0))
      go_ret
      exact ⟨rfl, rfl⟩
    · have f0 : decide ((1 : Int) ≤ n ∧ n ≤ 1000) = false := decide_eq_false hn
      rw [if_neg (fun h => hn h.2)]
      go_enter Tryd.func4, Tryd.ntmps4
      go_wp2_with (first | (go_at_call 6; refine (hk _).mono ?_; rintro e w0 ⟨rfl, hw0⟩; rw [← hw0]; clear hw0 w0) | (go_at_call 7; refine (ky.within _ _ _ _).mono ?_; rintro e w0 ⟨rfl, hw0⟩; rw [← hw0]; clear hw0 w0; try rw [f0]))
      go_ret
      exact ⟨rfl, rfl⟩
set_option maxHeartbeats 1000000 in
theorem impl_part (k : ByteArray) (n : Int) (w : World) (hs : k.size ≤ 1048576) (htab : ∀ r, r < 16 → w.cell? ⟨0, r, none⟩ = some (.int .u32 (cs.tab r : Int))) : Calls Tryd.prog 5 #[.string k, .int .i64 n] w fun e w' => e = .returned (.int .i64 (part k n)) ∧ w' = w := by
  have hk := fun W => ky.impl_key k W hs
  have hc := cs.impl_sum k w hs htab
  have hl := sum_lt k
  obtain ⟨s, hsm⟩ : ∃ s, cs.sum k = s := ⟨_, rfl⟩
  unfold part
  rw [hsm] at hl ⊢ hc
  clear htab
  by_cases h1 : n < 1
  · have f1 : decide (n < 1) = true := decide_eq_true h1
    rw [if_neg (by omega)]
    go_enter Tryd.func5, Tryd.ntmps5
    go_wp2
    go_ret
    exact ⟨rfl, rfl⟩
  have f1 : decide (n < 1) = false := decide_eq_false h1
  by_cases h2 : 1000 < n
  · have f2 : decide ((1000 : Int) < n) = true := decide_eq_true h2
    rw [if_neg (by omega)]
    go_enter Tryd.func5, Tryd.ntmps5
    go_wp2
    go_ret
    exact ⟨rfl, rfl⟩
  have f2 : decide ((1000 : Int) < n) = false := decide_eq_false h2
  cases hg : ky.good k with
  | false =>
    simp only [hg] at hk
    rw [if_neg (by simp)]
    go_enter Tryd.func5, Tryd.ntmps5
    go_wp2_with (go_at_call 9; refine (hk _).mono ?_; rintro e w0 ⟨rfl, hw0⟩; rw [← hw0]; clear hw0 w0)
    go_ret
    exact ⟨rfl, rfl⟩
  | true =>
    simp only [hg] at hk
    have n0 : n ≠ 0 := by omega
    have t0 := tmod_lt (show 1 ≤ n by omega) hl
    have i1 : IntKind.i64.wrap (s : Int) = (s : Int) := by rw [IntKind.wrap_i64]; omega
    have t1 := emod_lt (show 1 ≤ n by omega) hl
    have i3 : IntKind.i64.wrap ((s : Int) % n) = (s : Int) % n := by rw [IntKind.wrap_i64]; omega
    have i2 : IntKind.i64.wrap (Int.tmod (s : Int) n) = Int.tmod (s : Int) n := by rw [IntKind.wrap_i64]; omega
    rw [if_pos ⟨rfl, by omega, by omega⟩]
    go_enter Tryd.func5, Tryd.ntmps5
    go_wp2_with (first | (go_at_call 9; refine (hk _).mono ?_; rintro e w0 ⟨rfl, hw0⟩; rw [← hw0]; clear hw0 w0) | (go_at_call 10; refine hc.mono ?_; rintro e w0 ⟨rfl, hw0⟩; rw [← hw0]; clear hw0 w0))
    go_ret
    exact ⟨rfl, rfl⟩

theorem walk (a0 : ByteArray) (w0 : a0.size ≤ maxLen) (a1 : Int) (w1 : (Lit.int .i64 a1).wf = true) (w : World)  (htab : ∀ r, r < 16 → w.cell? ⟨0, r, none⟩ = some (.int .u32 (cs.tab r : Int))) :
    Calls Tryd.prog 3 #[.string a0, .int .i64 a1] w fun e w' => e = .returned (.bool true) ∧ Below w.heap.size w w' := by
  by_cases hbig : (1048576 : Int) < a0.size
  · clear htab
    go_enter Tryd.func3, Tryd.ntmps3
    go_wp2
    go_ret
    exact ⟨rfl, Below.refl _ _⟩
  have hspec := spec_part a0 a1 w (by omega)
  have himpl := impl_part a0 a1 w (by omega) htab
  obtain ⟨b, hb⟩ : ∃ b, part a0 a1 = b := ⟨_, rfl⟩
  rw [hb] at hspec himpl
  clear hb htab
  go_enter Tryd.func3, Tryd.ntmps3
  go_wp2_with (first | (go_at_call 4; refine hspec.mono ?_; rintro e w1 ⟨rfl, hw1⟩; obtain rfl := hw1.symm) | (go_at_call 5; refine himpl.mono ?_; rintro e w2 ⟨rfl, hw2⟩; obtain rfl := hw2.symm))
  all_goals go_ret
  all_goals exact ⟨rfl, Below.refl _ _⟩

set_option maxRecDepth 100000 in
theorem contract (H : Type) (enc : TypeId × Value → H) (W : World) (base : Nat) (args : Array Value) (ds gs : List (DataW H)) (before : List MemPlace)
    (hval : ∀ (j : Nat) t v, Tryd.f3.params[j]? = some t → args[j]? = some v → Value.okWide Tryd.prog W .any base t v)
    (hW : DataW.Whole enc Tryd.prog Tryd.f3.params.toList Rows.fnExactStreamPartSpec.vars false W args.toList ds gs before) (hL : laidMetH Tryd.prog Rows.fnExactStreamPartRow.laid W) (hsh : W.ShapedOpen Tryd.prog) :
    Calls Tryd.prog 3 args W fun e W' => ∃ v, e = .returned v ∧ Rows.fnExactStreamPartSpec.post enc Tryd.prog Tryd.f3 false true false false W args v W' := by
  have hW' := hW
  obtain ⟨p, q, hA0, hV, hb, hfz, hnd⟩ := hW
  have hA : DataW.TrodAll enc Tryd.prog W 0 (fun _ => true) true Tryd.f3.params.toList args.toList ds p := hA0
  rw [Tryd.params3] at hA hval
  obtain ⟨v0, vs0, d0, ds0, p0, q0, hargs, rfl, rfl, h0, r0⟩ := trodAll_cons hA
  obtain ⟨v1, vs1, d1, ds1, p1, q1, rfl, rfl, rfl, h1, r1⟩ := trodAll_cons r0
  obtain ⟨rfl, rfl, rfl⟩ := trodAll_nil r1
  obtain rfl : args = #[v0, v1] := by cases args; simp_all
  have hV0 : DataW.TrodVars enc Tryd.prog W (fun _ => true) ["loop.example/g00227/impl.sumTable"] gs q := hV
  obtain ⟨dg, rfl⟩ : ∃ dg, gs = [dg] := by
    obtain ⟨g, t, cs, fuel, d, pg, hgs, _⟩ := trodVars_one hV0
    exact ⟨d, hgs⟩
  obtain ⟨a0, rfl, rfl, rfl, w0⟩ := open_string Tryd.underlying9 (hval 0 9 v0 rfl rfl) h0
  obtain ⟨a1, rfl, rfl, rfl, w1⟩ := open_int Tryd.underlying3 (hval 1 3 v1 rfl rfl) h1
  clear hA0
  refine (walk a0 w0 a1 w1 W  (cells hL)).mono fun e W' ⟨he, hg⟩ => ?_
  subst he
  exact ⟨_, rfl, _, _, _, [], [], q, hW', trodAll_cons_mk (shut_bool Tryd.underlying4 _) trodAll_mk0, trodAll_cons_mk (shut_string Tryd.underlying9 w0) (trodAll_cons_mk (shut_int Tryd.underlying3 w1) trodAll_mk0), hg.trodVars laidOut (by kernel_rfl) hV0, hg.frame _, fun h => by cases h⟩

theorem laid_met (os : Os) : laidMet Tryd.prog Rows.fnExactStreamPartRow.laid ((laidIn (World.holding Tryd.prog os ⟨#[], #[], []⟩)).forCall (fun _ _ => 0) ⟨#[], #[.string ByteArray.empty, .int .i64 0], []⟩).memory :=
  laidMet_of_run' 8 (by kernel_rfl) (by kernel_rfl)
theorem reads (os : Os) {H : Type} (enc : TypeId × Value → H) : ∃ gs places, DataW.whole enc Tryd.prog ((laidIn (World.holding Tryd.prog os ⟨#[], #[], []⟩)).forCall (fun _ _ => 0) ⟨#[], #[.string ByteArray.empty, .int .i64 0], []⟩).memory Tryd.f3.params.toList Rows.fnExactStreamPartSpec.vars false (#[.string ByteArray.empty, .int .i64 0] : Array Value).toList 8 = some ([.lit (.string []), .lit (.int .i64 0)], gs, places) :=
  ⟨[.agg (nums.map fun z => .lit (.int .u32 z))], MemPlace.row ⟨0, 0, none⟩ 16, by kernel_rfl⟩

set_option maxRecDepth 100000 in
theorem lifted (os : Os) (started : os.Started) (H : Type) (enc : TypeId × Value → H) (F : Stop.Interp) :
    ReturnsInHanded {} Tryd.checked os 3 .any ((OpenSpec.ofChange Rows.fnExactStreamPartSpec).preRow enc Tryd.prog Tryd.f3 Rows.fnExactStreamPartRow.domain false Rows.fnExactStreamPartRow.laid) (((OpenSpec.ofChange Rows.fnExactStreamPartSpec).at F).post enc Tryd.prog Tryd.f3 false true false false) := by
  obtain ⟨gs, places, hx⟩ := reads os enc
  refine returnsInHanded_of_row (C := Tryd.checked) (s := OpenSpec.ofChange Rows.fnExactStreamPartSpec) own started (by kernel_rfl) Tryd.func3
    (witness_row_at (enc := enc) (C := Tryd.checked) false (laidIn (World.holding Tryd.prog os ⟨#[], #[], []⟩)) #[.string ByteArray.empty, .int .i64 0] rfl (by kernel_rfl) (by kernel_rfl) (by kernel_rfl)
      (OpenSpec.preRow_of_cond 8 hx (by kernel_rfl) (fun k hk => by cases hk) (by kernel_rfl) (laid_met os))) ?_
  intro W base args ds gs before hval hW _ _ _ hL hsh _
  exact contract H enc W base args ds gs before hval hW hL hsh

theorem said : Rows.FnExactStreamPartSaid :=
  OpenClaim.holds_of_cond 3 Tryd.f3 rfl rfl rfl rfl rfl rfl rfl ⟨rfl, rfl, rfl, rfl, rfl⟩ rfl rfl rfl rfl rfl (by kernel_rfl) Tryd.func3 (by kernel_rfl)
    (of_decide_eq_true (by kernel_rfl)) (by unfold Func.isWrapper; first | (rw [if_pos (by decide +kernel)]; kernel_rfl) | (rw [if_neg (by decide +kernel)]; exact ⟨rfl, rfl⟩))
    (fun os started H enc _ F => by rw [OpenClaim.pre_eq_preRow]; exact lifted os started H enc F)

theorem plain (f : FuncId) (fn : Func) (hf : Tryd.pinned.checked.prog.funcNamed "loop.example/g00227/laws.FnExactStreamPart" = some f) (hfn : Tryd.pinned.checked.prog.funcs[f]? = some fn) :
    false = Tryd.pinned.checked.prog.looks [] ∧ ∀ (j : Nat) t, fn.params[j]? = some t → Tryd.pinned.checked.prog.wantsStandIn t = false := by
  obtain rfl : f = 3 := Option.some.inj ((show Tryd.prog.funcNamed "loop.example/g00227/laws.FnExactStreamPart" = some 3 by kernel_rfl).symm.trans hf) |>.symm
  obtain rfl : fn = Tryd.f3 := (Option.some.inj (Tryd.func3.symm.trans hfn)).symm
  refine ⟨by kernel_rfl, fun j t ht => ?_⟩
  rw [Tryd.params3] at ht
  have hm := Array.mem_of_getElem? ht
  simp at hm
  rcases hm with rfl | rfl
  · exact (show Tryd.prog.wantsStandIn 9 = false by kernel_rfl)
  · exact (show Tryd.prog.wantsStandIn 3 = false by kernel_rfl)

theorem card : Rows.FnExactStreamPartCardSaid :=
  Claim7.holds_tied_plain_at .later [] _ _ _ _ said (fun _ h => by cases h) (by kernel_rfl) (fun _ h => by cases h) fnExactStreamPart_row_tie rfl ⟨rfl, rfl⟩ (by kernel_rfl) rfl plain (by kernel_rfl)
#print axioms card
end Go.Proofs.YtpdiladohkeofabDoor.fnExactStreamPart
