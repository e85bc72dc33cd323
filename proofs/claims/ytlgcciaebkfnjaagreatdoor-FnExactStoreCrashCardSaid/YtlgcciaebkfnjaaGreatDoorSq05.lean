/- FnExactStoreCrash: at every store and number the program's StoreCrash answers as the specification's (which is StoreCrash of the document, chapter 9), writes into nothing of it, and its answer owns its memory; for every input, where the library's variable errors.errorType holds the handle of the type error and the table sumTable what the program's own text lays in it (the card ties both). -/
import Derived.Test.YtlgcciaebkfnjaaGreatDoorSq04
import Derived.Test.YtlgcciaebkfnjaaGreatDoorRunLib
import Derived.Test.YtlgcciaebkfnjaaGreatDoorCards
import Derived.Test.YtlgcciaebkfnjaaGreatDoorTie
import Derived.LaidHandle
import Derived.LaidSub
import Derived.WalkKit
import Derived.ProofKit
import Derived.OpenShut
import Derived.ShutString
import Derived.Below
import Derived.OpenVars
import Derived.Deep.DeepHandedRow
import Derived.Lib.LaidTab
import Derived.Stop.LaidErr

/- A table that comes in as an argument, opened: its pairs and its runs as they lie in memory. -/
namespace Go.Proofs.YtlgcciaebkfnjaaGreatDoor.ta2
open Go.ChangeShapes Go.WideShapes Go.ChangeAt Go.RowKit Go.Proofs.YtlgcciaebkfnjaaGreatDoor.fl Go.Proofs.YtlgcciaebkfnjaaGreatDoor.rn
set_option linter.unusedVariables false

instance : Inhabited flP.Pr := ⟨⟨ByteArray.empty, ByteArray.empty, false⟩⟩
instance : Inhabited Rn := ⟨⟨none, 0, []⟩⟩
theorem cS : Tryz.prog.cellsOf 9 = 1 := by kernel_rfl
theorem cB : Tryz.prog.cellsOf 4 = 1 := by kernel_rfl
theorem cP : Tryz.prog.cellsOf 165 = 3 := by kernel_rfl
theorem cPs : Tryz.prog.cellsOf 52 = 1 := by kernel_rfl
theorem cPss : Tryz.prog.cellsOf 53 = 1 := by kernel_rfl
theorem cT : Tryz.prog.cellsOf 55 = 2 := by kernel_rfl

section
variable {H : Type} {enc : TypeId × Value → H} {W : World}
set_option maxRecDepth 100000 in
theorem open_pair (cs : List Value) (k : Nat) (x : DataW H × List MemPlace) (h : DataW.trod enc Tryz.prog W 0 (fun _ => true) true k 165 cs = some x) : ∃ a : flP.Pr, cs = flP.c a ∧ flP.ok a := by
  obtain ⟨xs, m, _, _, hlen, hxl, hf⟩ := DataW.trod_struct Tryz.underlying165 h
  rw [cP] at hlen
  match xs, hxl, cs, hlen with
  | [y0, y1, y2], _, [v0, v1, v2], _ =>
    have g0 := hf 0 _ rfl
    have g1 := hf 1 _ rfl
    have g2 := hf 2 _ rfl
    simp [cB, cS] at g0 g1 g2
    obtain ⟨s0, e0, _, w0⟩ := DataW.trod_string Tryz.underlying9 g0
    obtain ⟨s1, e1, _, w1⟩ := DataW.trod_string Tryz.underlying9 g1
    obtain ⟨b2, e2, _⟩ := DataW.trod_bool Tryz.underlying4 g2
    simp at e0 e1 e2
    subst e0 e1 e2
    exact ⟨⟨s0, s1, b2⟩, rfl, w0, w1⟩
theorem open_pairs {fuel : Nat} {v : Value} {y : DataW H × List MemPlace} (h : DataW.trod enc Tryz.prog W 0 (fun _ => true) true fuel 52 [v] = some y) :
    ∃ (a : Option Addr) (l : List flP.Pr) (cap : Nat), v = .slice a l.length cap ∧ l.length ≤ maxLen ∧ (∀ e ∈ l, flP.ok e) ∧ Row flP.c 3 W W.heap.size a l := open_row flP.c_len (by omega) Tryz.underlying52 cP open_pair h
theorem open_run (cs : List Value) (k : Nat) (x : DataW H × List MemPlace) (h : DataW.trod enc Tryz.prog W 0 (fun _ => true) true k 52 cs = some x) : ∃ r : Rn, cs = cR r ∧ okR r ∧ Row flP.c 3 W W.heap.size r.a r.l := by
  have hl : ∃ v, cs = [v] := by
    rcases Deep.open_slice Tryz.underlying52 h with ⟨hcs, _⟩ | ⟨a, len, cap, m, k, D, Pl, hcs, _⟩
    · exact ⟨_, hcs⟩
    · exact ⟨_, hcs⟩
  obtain ⟨v, rfl⟩ := hl
  obtain ⟨a, l, cap, rfl, h1, h2, h3⟩ := open_pairs h
  exact ⟨⟨a, cap, l⟩, rfl, ⟨h1, h2⟩, h3⟩

set_option maxRecDepth 100000 in
theorem open_table {b0 : Nat} {v : Value} {d : DataW H} {p : List MemPlace} (hv : Value.okWide Tryz.prog W .any b0 55 v) (h : DataW.Trod enc Tryz.prog W 0 (fun _ => true) true 55 v d p) :
    ∃ (ys : List flP.Pr) (rs : List Rn) (ya ra : Option Addr) (yc rc : Nat), v = .agg #[.slice ya ys.length yc, .slice ra rs.length rc] ∧ ys.length ≤ maxLen ∧ rs.length ≤ maxLen ∧ (∀ e ∈ ys, flP.ok e) ∧ (∀ e ∈ rs, okR e) ∧ Row flP.c 3 W W.heap.size ya ys ∧ VR W W.heap.size ra rs := by
  obtain ⟨cs, rfl, hsz⟩ := okWide_struct Tryz.underlying55 hv
  have hsz' := hsz.trans cT
  obtain ⟨fuel, hf0⟩ := h
  obtain ⟨xs, m, _, _, hlen, hxl, hf⟩ := DataW.trod_struct Tryz.underlying55 hf0
  obtain ⟨l⟩ := cs
  match xs, hxl, l, hsz' with
  | [y0, y1], _, [v0, v1], _ =>
    have g0 := hf 0 _ rfl
    have g1 := hf 1 _ rfl
    simp [Value.cells, cPs, cPss] at g0 g1
    obtain ⟨ya, ys, yc, rfl, h1, h2, h3⟩ := open_pairs g0
    obtain ⟨ra, rs, rc, rfl, k1, k2, k3⟩ := open_row (c := cR) (ok := fun r => okR r ∧ Row flP.c 3 W W.heap.size r.a r.l) cR_len (by omega) Tryz.underlying53 cPs open_run g1
    exact ⟨ys, rs, ya, ra, yc, rc, rfl, h1, k1, h2, fun e he => (k2 e he).1, h3, k3, fun e he => (k2 e he).2⟩
end
end Go.Proofs.YtlgcciaebkfnjaaGreatDoor.ta2

/- A store that comes in as an argument, opened. -/
namespace Go.Proofs.YtlgcciaebkfnjaaGreatDoor.sa2
open Go.ChangeShapes Go.WideShapes Go.ChangeAt Go.RowKit Go.Proofs.YtlgcciaebkfnjaaGreatDoor.fl Go.Proofs.YtlgcciaebkfnjaaGreatDoor.rn Go.Proofs.YtlgcciaebkfnjaaGreatDoor.ta2
set_option linter.unusedVariables false

theorem cI : Tryz.prog.cellsOf 3 = 1 := by kernel_rfl
theorem cSt : Tryz.prog.cellsOf 57 = 4 := by kernel_rfl
section
variable {H : Type} {enc : TypeId × Value → H} {W : World}
set_option maxRecDepth 100000 in
theorem open_store {b0 : Nat} {v : Value} {d : DataW H} {p : List MemPlace} (hv : Value.okWide Tryz.prog W .any b0 57 v) (h : DataW.Trod enc Tryz.prog W 0 (fun _ => true) true 57 v d p) :
    ∃ (ys : List flP.Pr) (rs : List Rn) (ya ra : Option Addr) (yc rc : Nat) (lg : ByteArray) (sf : Int), v = .agg #[.slice ya ys.length yc, .slice ra rs.length rc, .string lg, .int .i64 sf] ∧ ys.length ≤ maxLen ∧ rs.length ≤ maxLen ∧ (∀ e ∈ ys, flP.ok e) ∧ (∀ e ∈ rs, okR e) ∧ lg.size ≤ maxLen ∧ (Lit.int .i64 sf).wf = true ∧ Row flP.c 3 W W.heap.size ya ys ∧ VR W W.heap.size ra rs := by
  obtain ⟨cs, rfl, hsz⟩ := okWide_struct Tryz.underlying57 hv
  have hsz' := hsz.trans cSt
  obtain ⟨fuel, hf0⟩ := h
  obtain ⟨xs, m, _, _, hlen, hxl, hf⟩ := DataW.trod_struct Tryz.underlying57 hf0
  obtain ⟨l⟩ := cs
  match xs, hxl, l, hsz' with
  | [y0, y1, y2], _, [v0, v1, v2, v3], _ =>
    have g0 := hf 0 _ rfl
    have g1 := hf 1 _ rfl
    have g2 := hf 2 _ rfl
    simp [Value.cells, cT, cS, cI] at g0 g1 g2
    obtain ⟨zs, m2, _, _, hlen2, hzl, hf2⟩ := DataW.trod_struct Tryz.underlying55 g0
    match zs, hzl with
    | [z0, z1], _ =>
      have e0 := hf2 0 _ rfl
      have e1 := hf2 1 _ rfl
      simp [cPs, cPss] at e0 e1
      obtain ⟨ya, ys, yc, rfl, h1, h2, h3⟩ := open_pairs e0
      obtain ⟨ra, rs, rc, rfl, k1, k2, k3⟩ := open_row (c := cR) (ok := fun r => okR r ∧ Row flP.c 3 W W.heap.size r.a r.l) cR_len (by omega) Tryz.underlying53 cPs open_run e1
      obtain ⟨s2, q2, _, w2⟩ := DataW.trod_string Tryz.underlying9 g1
      obtain ⟨n3, q3, _, w3⟩ := DataW.trod_int Tryz.underlying3 g2
      simp at q2 q3
      subst q2 q3
      exact ⟨ys, rs, ya, ra, yc, rc, s2, n3, rfl, h1, k1, h2, fun e he => (k2 e he).1, w2, w3, h3, k3, fun e he => (k2 e he).2⟩
end
end Go.Proofs.YtlgcciaebkfnjaaGreatDoor.sa2

/- FnExactStoreCrash: at every store and number the program's StoreCrash answers as the specification's (which is StoreCrash of the document, chapter 9), writes into nothing of it, and its answer owns its memory; for every input, where the library's variable errors.errorType holds the handle of the type error and the table sumTable what the program's own text lays in it (the card ties both). -/
namespace Go.Proofs.YtlgcciaebkfnjaaGreatDoor.fnExactStoreCrash
open Go.ChangeShapes Go.WideShapes Go.ChangeAt Go.RowKit
open Go.ChangeMaps (open_string shut_string)
set_option linter.unusedVariables false

theorem own : ownKnob Tryz.prog.godebug = none := by kernel_rfl
theorem laidOut : laidOutB Tryz.prog = true := by kernel_rfl

theorem gE : Tryz.prog.globalNamed "errors.errorType" = some 1 := by kernel_rfl
theorem rtE : (Tryz.prog.cutTypes.find? (·.1 == "internal/reflectlite.rtype")).map (·.2) = some 246 := by kernel_rfl
theorem rowE : ((List.range 287).filter fun t => Tryz.prog.rowNamed t [101, 114, 114, 111, 114]) = [173] := by kernel_rfl
theorem sizeE : Tryz.prog.types.size = 287 := by kernel_rfl
theorem hdE : typeHandle Tryz.prog 173 = .pointer (some ⟨2, 173, none⟩) := by kernel_rfl
theorem cellE {W : World} (h : laidMetH Tryz.prog Rows.fnExactStoreCrashRow.laid W) : asf.ET W := by
  obtain ⟨name, u, ty, e1, e2, e3, e4, e5⟩ := (laidMetH_iff.1 h).2 ("errors.errorType", Rows.laid_errors_errorType) (List.mem_filter.2 ⟨List.mem_cons_self .., rfl⟩)
  have en : name = [101, 114, 114, 111, 114] := (Option.some.inj e1).symm
  subst en
  obtain rfl := Option.some.inj (rtE.symm.trans e2)
  have hm : ty ∈ (List.range 287).filter fun t => Tryz.prog.rowNamed t [101, 114, 114, 111, 114] := List.mem_filter.2 ⟨List.mem_range.2 (by rw [← sizeE]; exact e3), e4⟩
  rw [rowE] at hm
  obtain rfl := List.mem_singleton.1 hm
  rw [hdE] at e5
  have h6 := World.var?_cell gE e5 0
  unfold asf.ET
  simpa using h6
theorem gTab : Tryz.prog.globalNamed "loop.example/g00227/impl.sumTable" = some 0 := by kernel_rfl
theorem gTabType : (Tryz.prog.globals[0]?).map (·.type) = some 180 := by kernel_rfl
theorem cellsTab : Tryz.prog.cellsOf 180 = 16 := by kernel_rfl
theorem cellsElem : Tryz.prog.cellsOf 124 = 1 := by kernel_rfl
def nums : List Int := [0, 274646895, 549293790, 820201905, 1098587580, 1361435347, 1640403810, 1905808397, 2197175160, 2460548119, 2722870694, 2987750089, 3280807620, 3553878443, 3811616794, 4084100981]
theorem only {W : World} (h : laidMetH Tryz.prog Rows.fnExactStoreCrashRow.laid W) : laidMetH Tryz.prog [("loop.example/g00227/impl.sumTable", Rows.laid_loop_example_g00227_impl_sumTable)] W := by
  have h2 := h.filter (fun x => x.1 == "loop.example/g00227/impl.sumTable")
  have e : (Rows.fnExactStoreCrashRow.laid.filter fun x => x.1 == "loop.example/g00227/impl.sumTable") = [("loop.example/g00227/impl.sumTable", Rows.laid_loop_example_g00227_impl_sumTable)] := by kernel_rfl
  rw [e] at h2
  exact h2
theorem table {W : World} (h : laidMetH Tryz.prog Rows.fnExactStoreCrashRow.laid W) : Lib.TabIs Tryz.prog W "loop.example/g00227/impl.sumTable" .u32 nums :=
  Lib.tabIs_of_head (rest := []) gTab gTabType Tryz.underlying180 Tryz.underlying124 cellsElem cellsTab (only h)
theorem nums_tab : ∀ r, r < 16 → nums.getD r 0 = (cs.tab r : Int) := by decide
theorem cells {W : World} (h : laidMetH Tryz.prog Rows.fnExactStoreCrashRow.laid W) : rcI.TB W := ⟨cellE h, fun r hr => by
  rw [(table h).cell gTab r (by simpa [nums] using hr), nums_tab r hr]⟩
def put (vs : Array Value) : Obj → Obj
  | .cells _ t frozen => .cells vs t frozen
  | o => o
def laidIn (W : World) : World := { W with heap := (W.heap.modify 0 (put (nums.map (Value.int .u32)).toArray)).modify 1 (put #[.iface 246 (.agg #[.pointer (some ⟨2, 173, none⟩)])]) }

theorem walk (ys0 : List flP.Pr) (rs0 : List rn.Rn) (ya0 ra0 : Option Addr) (yc0 rc0 : Nat) (lg0 : ByteArray) (sf0 : Int) (hyl0 : ys0.length ≤ maxLen) (hrl0 : rs0.length ≤ maxLen) (hyo0 : ∀ e ∈ ys0, flP.ok e) (hro0 : ∀ e ∈ rs0, rn.okR e) (hlg0 : lg0.size ≤ maxLen) (hsf0 : (Lit.int .i64 sf0).wf = true) (a1 : Int) (w1 : (Lit.int .i64 a1).wf = true) (w : World) (hY0 : fl.Row flP.c 3 w w.heap.size ya0 ys0) (hR0 : rn.VR w w.heap.size ra0 rs0) (hE : rcI.TB w) :
    Calls Tryz.prog 5 #[.agg #[.slice ya0 ys0.length yc0, .slice ra0 rs0.length rc0, .string lg0, .int .i64 sf0], .int .i64 a1] w fun e w' => e = .returned (.bool true) ∧ Below w.heap.size w w' := by
  exact lwStoreCrash.walk ys0 rs0 ya0 ra0 yc0 rc0 lg0 sf0 a1 w hE hyl0 hrl0 hyo0 hro0 hlg0 hY0 hR0

set_option maxRecDepth 100000 in
theorem contract (H : Type) (enc : TypeId × Value → H) (W : World) (base : Nat) (args : Array Value) (ds gs : List (DataW H)) (before : List MemPlace)
    (hval : ∀ (j : Nat) t v, Tryz.f5.params[j]? = some t → args[j]? = some v → Value.okWide Tryz.prog W .any base t v)
    (hW : DataW.Whole enc Tryz.prog Tryz.f5.params.toList Rows.fnExactStoreCrashSpec.vars false W args.toList ds gs before) (hL : laidMetH Tryz.prog Rows.fnExactStoreCrashRow.laid W) (hsh : W.ShapedOpen Tryz.prog) :
    Calls Tryz.prog 5 args W fun e W' => ∃ v, e = .returned v ∧ Rows.fnExactStoreCrashSpec.post enc Tryz.prog Tryz.f5 false true false false W args v W' := by
  have hW' := hW
  obtain ⟨p, q, hA0, hV, hb, hfz, hnd⟩ := hW
  have hA : DataW.TrodAll enc Tryz.prog W 0 (fun _ => true) true Tryz.f5.params.toList args.toList ds p := hA0
  rw [Tryz.params5] at hA hval
  obtain ⟨v0, vs0, d0, ds0, p0, q0, hargs, rfl, rfl, h0, r0⟩ := trodAll_cons hA
  obtain ⟨v1, vs1, d1, ds1, p1, q1, rfl, rfl, rfl, h1, r1⟩ := trodAll_cons r0
  obtain ⟨rfl, rfl, rfl⟩ := trodAll_nil r1
  obtain rfl : args = #[v0, v1] := by cases args; simp_all
  have hV0 : DataW.TrodVars enc Tryz.prog W (fun _ => true) ["loop.example/g00227/impl.sumTable"] gs q := hV
  obtain ⟨dg, rfl⟩ : ∃ dg, gs = [dg] := by
    obtain ⟨g, t, cs, fuel, d, pg, hgs, _⟩ := trodVars_one hV0
    exact ⟨d, hgs⟩
  have k0 := h0
  have lt0 : ∀ x ∈ p0, x.block < W.heap.size := by obtain ⟨m, hm⟩ := k0; exact DataW.trod_lt m _ _ _ hm
  obtain ⟨ys0, rs0, ya0, ra0, yc0, rc0, lg0, sf0, rfl, hyl0, hrl0, hyo0, hro0, hlg0, hsf0, hY0, hR0⟩ := sa2.open_store (hval 0 57 v0 rfl rfl) h0
  obtain ⟨a1, rfl, rfl, rfl, w1⟩ := open_int Tryz.underlying3 (hval 1 3 v1 rfl rfl) h1
  clear hA0
  refine (walk ys0 rs0 ya0 ra0 yc0 rc0 lg0 sf0 hyl0 hrl0 hyo0 hro0 hlg0 hsf0 a1 w1 W hY0 hR0 (cells hL)).mono fun e W' ⟨he, hg⟩ => ?_
  subst he
  exact ⟨_, rfl, _, _, _, [], _, q, hW', trodAll_cons_mk (shut_bool Tryz.underlying4 _) trodAll_mk0, trodAll_cons_mk (Below.trod laidOut (by kernel_rfl) (of_decide_eq_true (by kernel_rfl)) k0 hg lt0) (trodAll_cons_mk (shut_int Tryz.underlying3 w1) trodAll_mk0), hg.trodVars laidOut (by kernel_rfl) hV0, hg.frame _, fun h => by cases h⟩

theorem laid_met (os : Os) : laidMetH Tryz.prog Rows.fnExactStoreCrashRow.laid ((laidIn (World.holding Tryz.prog os ⟨#[], #[], []⟩)).forCall (fun _ _ => 0) ⟨#[], #[.agg #[.slice none 0 0, .slice none 0 0, .string ByteArray.empty, .int .i64 0], .int .i64 0], []⟩).memory :=
  laidMetH_of_parts3 (fuel := 8) (laidMet_of_run' 8 (by kernel_rfl) (by kernel_rfl)) (by kernel_rfl) (by kernel_rfl)
theorem reads (os : Os) {H : Type} (enc : TypeId × Value → H) : ∃ gs places, DataW.whole enc Tryz.prog ((laidIn (World.holding Tryz.prog os ⟨#[], #[], []⟩)).forCall (fun _ _ => 0) ⟨#[], #[.agg #[.slice none 0 0, .slice none 0 0, .string ByteArray.empty, .int .i64 0], .int .i64 0], []⟩).memory Tryz.f5.params.toList Rows.fnExactStoreCrashSpec.vars false (#[.agg #[.slice none 0 0, .slice none 0 0, .string ByteArray.empty, .int .i64 0], .int .i64 0] : Array Value).toList 8 = some ([.agg [.agg [.nil, .nil], .lit (.string []), .lit (.int .i64 0)], .lit (.int .i64 0)], gs, places) :=
  ⟨[.agg (nums.map fun z => .lit (.int .u32 z))], MemPlace.row ⟨0, 0, none⟩ 16, by kernel_rfl⟩

set_option maxRecDepth 100000 in
theorem lifted (os : Os) (started : os.Started) (H : Type) (enc : TypeId × Value → H) (F : Stop.Interp) :
    ReturnsInHanded {} Tryz.checked os 5 .any ((OpenSpec.ofChange Rows.fnExactStoreCrashSpec).preRow enc Tryz.prog Tryz.f5 Rows.fnExactStoreCrashRow.domain false Rows.fnExactStoreCrashRow.laid) (((OpenSpec.ofChange Rows.fnExactStoreCrashSpec).at F).post enc Tryz.prog Tryz.f5 false true false false) := by
  obtain ⟨gs, places, hx⟩ := reads os enc
  refine returnsInHanded_of_row (C := Tryz.checked) (s := OpenSpec.ofChange Rows.fnExactStoreCrashSpec) own started (by kernel_rfl) Tryz.func5
    (witness_row_at (enc := enc) (C := Tryz.checked) false (laidIn (World.holding Tryz.prog os ⟨#[], #[], []⟩)) #[.agg #[.slice none 0 0, .slice none 0 0, .string ByteArray.empty, .int .i64 0], .int .i64 0] rfl (by kernel_rfl) (by kernel_rfl) (by kernel_rfl)
      (OpenSpec.preRow_of_cond 8 hx (by kernel_rfl) (fun k hk => by cases hk) (by kernel_rfl) (laid_met os))) ?_
  intro W base args ds gs before hval hW _ _ _ hL hsh _
  exact contract H enc W base args ds gs before hval hW hL hsh

theorem said : Rows.FnExactStoreCrashSaid :=
  OpenClaim.holds_of_cond 5 Tryz.f5 rfl rfl rfl rfl rfl rfl rfl ⟨rfl, rfl, rfl, rfl, rfl⟩ rfl rfl rfl rfl rfl (by kernel_rfl) Tryz.func5 (by kernel_rfl)
    (of_decide_eq_true (by kernel_rfl)) (by unfold Func.isWrapper; first | (rw [if_pos (by decide +kernel)]; kernel_rfl) | (rw [if_neg (by decide +kernel)]; exact ⟨rfl, rfl⟩))
    (fun os started H enc _ F => by rw [OpenClaim.pre_eq_preRow]; exact lifted os started H enc F)

theorem plain (f : FuncId) (fn : Func) (hf : Tryz.pinned.checked.prog.funcNamed "loop.example/g00227/laws.FnExactStoreCrash" = some f) (hfn : Tryz.pinned.checked.prog.funcs[f]? = some fn) :
    true = Tryz.pinned.checked.prog.looks [] ∧ ∀ (j : Nat) t, fn.params[j]? = some t → Tryz.pinned.checked.prog.wantsStandIn t = false := by
  obtain rfl : f = 5 := Option.some.inj ((show Tryz.prog.funcNamed "loop.example/g00227/laws.FnExactStoreCrash" = some 5 by kernel_rfl).symm.trans hf) |>.symm
  obtain rfl : fn = Tryz.f5 := (Option.some.inj (Tryz.func5.symm.trans hfn)).symm
  refine ⟨by kernel_rfl, fun j t ht => ?_⟩
  rw [Tryz.params5] at ht
  have hm := Array.mem_of_getElem? ht
  simp at hm
  rcases hm with rfl | rfl
  · exact (show Tryz.prog.wantsStandIn 57 = false by kernel_rfl)
  · exact (show Tryz.prog.wantsStandIn 3 = false by kernel_rfl)

theorem card : Rows.FnExactStoreCrashCardSaid :=
  Claim7.holds_tied_plain_at .later [] _ _ _ _ said (fun _ h => by cases h) (by kernel_rfl) (fun _ h => by cases h) fnExactStoreCrash_row_tie rfl ⟨rfl, rfl⟩ (by kernel_rfl) rfl plain (by kernel_rfl)
#print axioms card
end Go.Proofs.YtlgcciaebkfnjaaGreatDoor.fnExactStoreCrash
