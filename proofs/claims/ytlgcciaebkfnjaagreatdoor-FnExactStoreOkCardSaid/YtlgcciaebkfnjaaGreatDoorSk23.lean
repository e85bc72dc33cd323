/- FnExactStoreOk: at every store the program's StoreOk answers as the specification's (which is StoreOk of the document, chapter 9), and writes into nothing of it; for every input, where the library's variable errors.errorType holds the handle of the type error and the table sumTable what the program's own text lays in it (the card ties both). -/
import Derived.Test.YtlgcciaebkfnjaaGreatDoorCards
import Derived.Test.YtlgcciaebkfnjaaGreatDoorTie
import Derived.Test.YtlgcciaebkfnjaaGreatDoorSk21
import Derived.Test.YtlgcciaebkfnjaaGreatDoorSk22
import Derived.LaidHandle
import Derived.LaidSub
import Derived.WalkKit
import Derived.ProofKit
import Derived.OpenShut
import Derived.ShutString
import Derived.Below
import Derived.OpenVars
import Derived.Deep.DeepHandedRow
import Derived.Lib.LaidTab
import Derived.Stop.LaidErr

/- FnExactStoreOk: at every store the program's StoreOk answers as the specification's (which is StoreOk of the document, chapter 9), and writes into nothing of it; for every input, where the library's variable errors.errorType holds the handle of the type error and the table sumTable what the program's own text lays in it (the card ties both). -/
namespace Go.Proofs.YtlgcciaebkfnjaaGreatDoor.fnExactStoreOk
open Go.ChangeShapes Go.WideShapes Go.ChangeAt Go.RowKit
open Go.ChangeMaps (open_string shut_string)
set_option linter.unusedVariables false

theorem own : ownKnob Tryz.prog.godebug = none := by kernel_rfl
theorem laidOut : laidOutB Tryz.prog = true := by kernel_rfl

theorem gE : Tryz.prog.globalNamed "errors.errorType" = some 1 := by kernel_rfl
theorem rtE : (Tryz.prog.cutTypes.find? (·.1 == "internal/reflectlite.rtype")).map (·.2) = some 246 := by kernel_rfl
theorem rowE : ((List.range 287).filter fun t => Tryz.prog.rowNamed t [101, 114, 114, 111, 114]) = [173] := by kernel_rfl
theorem sizeE : Tryz.prog.types.size = 287 := by kernel_rfl
theorem hdE : typeHandle Tryz.prog 173 = .pointer (some ⟨2, 173, none⟩) := by kernel_rfl
theorem cellE {W : World} (h : laidMetH Tryz.prog Rows.fnExactStoreOkRow.laid W) : asf.ET W := by
  obtain ⟨name, u, ty, e1, e2, e3, e4, e5⟩ := (laidMetH_iff.1 h).2 ("errors.errorType", Rows.laid_errors_errorType) (List.mem_filter.2 ⟨List.mem_cons_self .., rfl⟩)
  have en : name = [101, 114, 114, 111, 114] := (Option.some.inj e1).symm
  subst en
  obtain rfl := Option.some.inj (rtE.symm.trans e2)
  have hm : ty ∈ (List.range 287).filter fun t => Tryz.prog.rowNamed t [101, 114, 114, 111, 114] := List.mem_filter.2 ⟨List.mem_range.2 (by rw [← sizeE]; exact e3), e4⟩
  rw [rowE] at hm
  obtain rfl := List.mem_singleton.1 hm
  rw [hdE] at e5
  have h6 := World.var?_cell gE e5 0
  unfold asf.ET
  simpa using h6
theorem gTab : Tryz.prog.globalNamed "loop.example/g00227/impl.sumTable" = some 0 := by kernel_rfl
theorem gTabType : (Tryz.prog.globals[0]?).map (·.type) = some 180 := by kernel_rfl
theorem cellsTab : Tryz.prog.cellsOf 180 = 16 := by kernel_rfl
theorem cellsElem : Tryz.prog.cellsOf 124 = 1 := by kernel_rfl
def nums : List Int := [0, 274646895, 549293790, 820201905, 1098587580, 1361435347, 1640403810, 1905808397, 2197175160, 2460548119, 2722870694, 2987750089, 3280807620, 3553878443, 3811616794, 4084100981]
theorem only {W : World} (h : laidMetH Tryz.prog Rows.fnExactStoreOkRow.laid W) : laidMetH Tryz.prog [("loop.example/g00227/impl.sumTable", Rows.laid_loop_example_g00227_impl_sumTable)] W := by
  have h2 := h.filter (fun x => x.1 == "loop.example/g00227/impl.sumTable")
  have e : (Rows.fnExactStoreOkRow.laid.filter fun x => x.1 == "loop.example/g00227/impl.sumTable") = [("loop.example/g00227/impl.sumTable", Rows.laid_loop_example_g00227_impl_sumTable)] := by kernel_rfl
  rw [e] at h2
  exact h2
theorem table {W : World} (h : laidMetH Tryz.prog Rows.fnExactStoreOkRow.laid W) : Lib.TabIs Tryz.prog W "loop.example/g00227/impl.sumTable" .u32 nums :=
  Lib.tabIs_of_head (rest := []) gTab gTabType Tryz.underlying180 Tryz.underlying124 cellsElem cellsTab (only h)
theorem nums_tab : ∀ r, r < 16 → nums.getD r 0 = (cs.tab r : Int) := by decide
theorem cells {W : World} (h : laidMetH Tryz.prog Rows.fnExactStoreOkRow.laid W) : rcI.TB W := ⟨cellE h, fun r hr => by
  rw [(table h).cell gTab r (by simpa [nums] using hr), nums_tab r hr]⟩
def put (vs : Array Value) : Obj → Obj
  | .cells _ t frozen => .cells vs t frozen
  | o => o
def laidIn (W : World) : World := { W with heap := (W.heap.modify 0 (put (nums.map (Value.int .u32)).toArray)).modify 1 (put #[.iface 246 (.agg #[.pointer (some ⟨2, 173, none⟩)])]) }

theorem walk (ys0 : List flP.Pr) (rs0 : List rn.Rn) (ya0 ra0 : Option Addr) (yc0 rc0 : Nat) (lg0 : ByteArray) (sf0 : Int) (hyl0 : ys0.length ≤ maxLen) (hrl0 : rs0.length ≤ maxLen) (hyo0 : ∀ e ∈ ys0, flP.ok e) (hro0 : ∀ e ∈ rs0, rn.okR e) (hlg0 : lg0.size ≤ maxLen) (hsf0 : (Lit.int .i64 sf0).wf = true) (w : World) (hY0 : fl.Row flP.c 3 w w.heap.size ya0 ys0) (hR0 : rn.VR w w.heap.size ra0 rs0) (hE : rcI.TB w) :
    Calls Tryz.prog 4 #[.agg #[.slice ya0 ys0.length yc0, .slice ra0 rs0.length rc0, .string lg0, .int .i64 sf0]] w fun e w' => e = .returned (.bool true) ∧ Below w.heap.size w w' := by
  exact lwStoreOk.walk ys0 rs0 ya0 ra0 yc0 rc0 lg0 sf0 w hE hsf0 hyl0 hrl0 hyo0 hro0 hlg0 hY0 hR0

set_option maxRecDepth 100000 in
theorem contract (H : Type) (enc : TypeId × Value → H) (W : World) (base : Nat) (args : Array Value) (ds gs : List (DataW H)) (before : List MemPlace)
    (hval : ∀ (j : Nat) t v, Tryz.f4.params[j]? = some t → args[j]? = some v → Value.okWide Tryz.prog W .any base t v)
    (hW : DataW.Whole enc Tryz.prog Tryz.f4.params.toList Rows.fnExactStoreOkSpec.vars false W args.toList ds gs before) (hL : laidMetH Tryz.prog Rows.fnExactStoreOkRow.laid W) (hsh : W.ShapedOpen Tryz.prog) :
    Calls Tryz.prog 4 args W fun e W' => ∃ v, e = .returned v ∧ Rows.fnExactStoreOkSpec.post enc Tryz.prog Tryz.f4 false true false false W args v W' := by
  have hW' := hW
  obtain ⟨p, q, hA0, hV, hb, hfz, hnd⟩ := hW
  have hA : DataW.TrodAll enc Tryz.prog W 0 (fun _ => true) true Tryz.f4.params.toList args.toList ds p := hA0
  rw [Tryz.params4] at hA hval
  obtain ⟨v0, vs0, d0, ds0, p0, q0, hargs, rfl, rfl, h0, r0⟩ := trodAll_cons hA
  obtain ⟨rfl, rfl, rfl⟩ := trodAll_nil r0
  obtain rfl : args = #[v0] := by cases args; simp_all
  have hV0 : DataW.TrodVars enc Tryz.prog W (fun _ => true) ["loop.example/g00227/impl.sumTable"] gs q := hV
  obtain ⟨dg, rfl⟩ : ∃ dg, gs = [dg] := by
    obtain ⟨g, t, cs, fuel, d, pg, hgs, _⟩ := trodVars_one hV0
    exact ⟨d, hgs⟩
  have k0 := h0
  have lt0 : ∀ x ∈ p0, x.block < W.heap.size := by obtain ⟨m, hm⟩ := k0; exact DataW.trod_lt m _ _ _ hm
  obtain ⟨ys0, rs0, ya0, ra0, yc0, rc0, lg0, sf0, rfl, hyl0, hrl0, hyo0, hro0, hlg0, hsf0, hY0, hR0⟩ := sa2.open_store (hval 0 57 v0 rfl rfl) h0
  clear hA0
  refine (walk ys0 rs0 ya0 ra0 yc0 rc0 lg0 sf0 hyl0 hrl0 hyo0 hro0 hlg0 hsf0 W hY0 hR0 (cells hL)).mono fun e W' ⟨he, hg⟩ => ?_
  subst he
  exact ⟨_, rfl, _, _, _, [], _, q, hW', trodAll_cons_mk (shut_bool Tryz.underlying4 _) trodAll_mk0, trodAll_cons_mk (Below.trod laidOut (by kernel_rfl) (of_decide_eq_true (by kernel_rfl)) k0 hg lt0) trodAll_mk0, hg.trodVars laidOut (by kernel_rfl) hV0, hg.frame _, fun h => by cases h⟩

theorem laid_met (os : Os) : laidMetH Tryz.prog Rows.fnExactStoreOkRow.laid ((laidIn (World.holding Tryz.prog os ⟨#[], #[], []⟩)).forCall (fun _ _ => 0) ⟨#[], #[.agg #[.slice none 0 0, .slice none 0 0, .string ByteArray.empty, .int .i64 0]], []⟩).memory :=
  laidMetH_of_parts3 (fuel := 8) (laidMet_of_run' 8 (by kernel_rfl) (by kernel_rfl)) (by kernel_rfl) (by kernel_rfl)
theorem reads (os : Os) {H : Type} (enc : TypeId × Value → H) : ∃ gs places, DataW.whole enc Tryz.prog ((laidIn (World.holding Tryz.prog os ⟨#[], #[], []⟩)).forCall (fun _ _ => 0) ⟨#[], #[.agg #[.slice none 0 0, .slice none 0 0, .string ByteArray.empty, .int .i64 0]], []⟩).memory Tryz.f4.params.toList Rows.fnExactStoreOkSpec.vars false (#[.agg #[.slice none 0 0, .slice none 0 0, .string ByteArray.empty, .int .i64 0]] : Array Value).toList 8 = some ([.agg [.agg [.nil, .nil], .lit (.string []), .lit (.int .i64 0)]], gs, places) :=
  ⟨[.agg (nums.map fun z => .lit (.int .u32 z))], MemPlace.row ⟨0, 0, none⟩ 16, by kernel_rfl⟩

set_option maxRecDepth 100000 in
theorem lifted (os : Os) (started : os.Started) (H : Type) (enc : TypeId × Value → H) (F : Stop.Interp) :
    ReturnsInHanded {} Tryz.checked os 4 .any ((OpenSpec.ofChange Rows.fnExactStoreOkSpec).preRow enc Tryz.prog Tryz.f4 Rows.fnExactStoreOkRow.domain false Rows.fnExactStoreOkRow.laid) (((OpenSpec.ofChange Rows.fnExactStoreOkSpec).at F).post enc Tryz.prog Tryz.f4 false true false false) := by
  obtain ⟨gs, places, hx⟩ := reads os enc
  refine returnsInHanded_of_row (C := Tryz.checked) (s := OpenSpec.ofChange Rows.fnExactStoreOkSpec) own started (by kernel_rfl) Tryz.func4
    (witness_row_at (enc := enc) (C := Tryz.checked) false (laidIn (World.holding Tryz.prog os ⟨#[], #[], []⟩)) #[.agg #[.slice none 0 0, .slice none 0 0, .string ByteArray.empty, .int .i64 0]] rfl (by kernel_rfl) (by kernel_rfl) (by kernel_rfl)
      (OpenSpec.preRow_of_cond 8 hx (by kernel_rfl) (fun k hk => by cases hk) (by kernel_rfl) (laid_met os))) ?_
  intro W base args ds gs before hval hW _ _ _ hL hsh _
  exact contract H enc W base args ds gs before hval hW hL hsh

theorem said : Rows.FnExactStoreOkSaid :=
  OpenClaim.holds_of_cond 4 Tryz.f4 rfl rfl rfl rfl rfl rfl rfl ⟨rfl, rfl, rfl, rfl, rfl⟩ rfl rfl rfl rfl rfl (by kernel_rfl) Tryz.func4 (by kernel_rfl)
    (of_decide_eq_true (by kernel_rfl)) (by unfold Func.isWrapper; first | (rw [if_pos (by decide +kernel)]; kernel_rfl) | (rw [if_neg (by decide +kernel)]; exact ⟨rfl, rfl⟩))
    (fun os started H enc _ F => by rw [OpenClaim.pre_eq_preRow]; exact lifted os started H enc F)

theorem plain (f : FuncId) (fn : Func) (hf : Tryz.pinned.checked.prog.funcNamed "loop.example/g00227/laws.FnExactStoreOk" = some f) (hfn : Tryz.pinned.checked.prog.funcs[f]? = some fn) :
    true = Tryz.pinned.checked.prog.looks [] ∧ ∀ (j : Nat) t, fn.params[j]? = some t → Tryz.pinned.checked.prog.wantsStandIn t = false := by
  obtain rfl : f = 4 := Option.some.inj ((show Tryz.prog.funcNamed "loop.example/g00227/laws.FnExactStoreOk" = some 4 by kernel_rfl).symm.trans hf) |>.symm
  obtain rfl : fn = Tryz.f4 := (Option.some.inj (Tryz.func4.symm.trans hfn)).symm
  refine ⟨by kernel_rfl, fun j t ht => ?_⟩
  rw [Tryz.params4] at ht
  obtain rfl : t = 57 := by simpa using Array.mem_of_getElem? ht
  exact (show Tryz.prog.wantsStandIn 57 = false by kernel_rfl)

theorem card : Rows.FnExactStoreOkCardSaid :=
  Claim7.holds_tied_plain_at .later [] _ _ _ _ said (fun _ h => by cases h) (by kernel_rfl) (fun _ h => by cases h) fnExactStoreOk_row_tie rfl ⟨rfl, rfl⟩ (by kernel_rfl) rfl plain (by kernel_rfl)
#print axioms card
end Go.Proofs.YtlgcciaebkfnjaaGreatDoor.fnExactStoreOk
