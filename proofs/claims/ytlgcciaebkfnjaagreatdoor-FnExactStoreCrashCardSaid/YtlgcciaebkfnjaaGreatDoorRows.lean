/-
  NARROWER THAN 'FOR EVERY INPUT', by the rows' own cells (each row's printed sentence says how): FnStore: laid · FnExactStoreOk: laid · FnExactStoreCrash: laid.
  DERIVED. THE GIVEN ROWS OF THIS SEAT. 3 by the template 'for every input the law returns true; each argument reads behind the call as it read before'; 0 by the template 'total and deterministic' (their statements: YtlgcciaebkfnjaaGreatDoorTotals.lean).
  GIVEN WITH THE SEED: the statements are not yours to turn. If you find one false, say at which input.
  Laid BY PROGRAM, IN A SANDBOX (cutbox-rows.mjs): the forced cells as the released guide's own fill.sh prints them over the translation b02b02c046d539be… (all of the seat's roots in one cut). By AI agents, Wed Nov 11 2026. No macro, syntax, notation, axiom, sorry.
-/
import Derived.Test.YtlgcciaebkfnjaaGreatDoorChecked
import GoSem.Claim
import GoSem.ClaimJoined
import GoSem.ClaimMapViews
import Derived.JoinedTies
import Derived.KernelRfl
namespace Go.Proofs.YtlgcciaebkfnjaaGreatDoor
/- THE CELL 'sum', in the pinned program and in every row, IS THE sha256 OF THE DUMP (.gsa) THAT YtlgcciaebkfnjaaGreatDoorProg.lean LOADS. Nothing in Lean hashes anything: it is a label: what it is worth is what the hold of that sum in a sandbox is worth. -/
noncomputable def Tryz.pinned : Pinned := { name := "ytlgcciaebkfnjaagreatdoor", sum := "b02b02c046d539be3dbd1bedfd224a66eba29ba692c0521581ad17189c5d92a7", checked := Tryz.checked }
namespace Rows
def none {H : Type} : Left H := { results := [], args := [] }

/- WHAT THE LISTED PACKAGE-LEVEL VARIABLES READ AS WHEN THE CALL BEGINS. Each datum BY PROGRAM (the guide's laid-datum.mjs) off the statement by which the dump's own 'gosem.cut.vars' lays the variable. In a bare row this is a premise. The card (YtlgcciaebkfnjaaGreatDoorCards.lean) ties it to the program's text. -/
def laid_errors_errorType {H : Type} : DataW H := .iface "internal/reflectlite.rtype" (.agg [.ptr (.lit (.string [101, 114, 114, 111, 114]))])
def laid_loop_example_g00227_impl_sumTable {H : Type} : DataW H := .agg [.lit (.int .u32 0), .lit (.int .u32 274646895), .lit (.int .u32 549293790), .lit (.int .u32 820201905), .lit (.int .u32 1098587580), .lit (.int .u32 1361435347), .lit (.int .u32 1640403810), .lit (.int .u32 1905808397), .lit (.int .u32 2197175160), .lit (.int .u32 2460548119), .lit (.int .u32 2722870694), .lit (.int .u32 2987750089), .lit (.int .u32 3280807620), .lit (.int .u32 3553878443), .lit (.int .u32 3811616794), .lit (.int .u32 4084100981)]

/-- 'laws.FnStore': WHATEVER THE INPUT: true; the input reads as it did. -/
def fnStoreSpec : ChangeSpec := { name := "fnStore", vars := ["loop.example/g00227/impl.sumTable"], fn := fun _ => fun
  | [d, g1] => { results := [.lit (.bool true)], args := [d], vars := [g1] }
  | _ => none }
def fnStoreRow : OpenClaim := { program := "ytlgcciaebkfnjaagreatdoor", sum := "b02b02c046d539be3dbd1bedfd224a66eba29ba692c0521581ad17189c5d92a7", func := "loop.example/g00227/laws.FnStore", spec := "fnStore", inPlace := ["internal/abi.NoEscape", "internal/reflectlite.ValueOf", "(internal/reflectlite.Value).Type", "(internal/reflectlite.Value).IsNil", "internal/reflectlite.TypeOf", "(internal/reflectlite.Value).Elem", "(internal/reflectlite.Value).Set", "slices.overlaps[loop.example/g00227/impl.Pair]", "slices.overlaps[[]loop.example/g00227/impl.Pair]"], unfollowed := true, recurses := true, named := ["loop.example/g00227/impl.sumTable", "errors.errorType"], apart := false, laid := [("errors.errorType", laid_errors_errorType), ("loop.example/g00227/impl.sumTable", laid_loop_example_g00227_impl_sumTable)] }
def FnStoreSaid : Prop := fnStoreRow.holds Tryz.pinned (OpenSpec.ofChange fnStoreSpec)

/-- ITS FALSE NEIGHBOUR: 'it returns false'. Refute it at one input. -/
def fnStoreWrong : ChangeSpec := { name := "fnStore", vars := ["loop.example/g00227/impl.sumTable"], fn := fun _ => fun
  | [d, g1] => { results := [.lit (.bool false)], args := [d], vars := [g1] }
  | _ => none }
def FnStoreWrongFalsely : Prop := fnStoreRow.holds Tryz.pinned (OpenSpec.ofChange fnStoreWrong)

/-- 'laws.FnExactStoreOk': WHATEVER THE INPUT: true; the input reads as it did. -/
def fnExactStoreOkSpec : ChangeSpec := { name := "fnExactStoreOk", vars := ["loop.example/g00227/impl.sumTable"], fn := fun _ => fun
  | [d, g1] => { results := [.lit (.bool true)], args := [d], vars := [g1] }
  | _ => none }
def fnExactStoreOkRow : OpenClaim := { program := "ytlgcciaebkfnjaagreatdoor", sum := "b02b02c046d539be3dbd1bedfd224a66eba29ba692c0521581ad17189c5d92a7", func := "loop.example/g00227/laws.FnExactStoreOk", spec := "fnExactStoreOk", inPlace := ["internal/reflectlite.ValueOf", "(internal/reflectlite.Value).Type", "(internal/reflectlite.Value).IsNil", "internal/reflectlite.TypeOf", "(internal/reflectlite.Value).Elem", "(internal/reflectlite.Value).Set"], unfollowed := true, recurses := true, named := ["loop.example/g00227/impl.sumTable", "errors.errorType"], apart := false, laid := [("errors.errorType", laid_errors_errorType), ("loop.example/g00227/impl.sumTable", laid_loop_example_g00227_impl_sumTable)] }
def FnExactStoreOkSaid : Prop := fnExactStoreOkRow.holds Tryz.pinned (OpenSpec.ofChange fnExactStoreOkSpec)

/-- ITS FALSE NEIGHBOUR: 'it returns false'. Refute it at one input. -/
def fnExactStoreOkWrong : ChangeSpec := { name := "fnExactStoreOk", vars := ["loop.example/g00227/impl.sumTable"], fn := fun _ => fun
  | [d, g1] => { results := [.lit (.bool false)], args := [d], vars := [g1] }
  | _ => none }
def FnExactStoreOkWrongFalsely : Prop := fnExactStoreOkRow.holds Tryz.pinned (OpenSpec.ofChange fnExactStoreOkWrong)

/-- 'laws.FnExactStoreCrash': WHATEVER THE INPUT: true; the input reads as it did. -/
def fnExactStoreCrashSpec : ChangeSpec := { name := "fnExactStoreCrash", vars := ["loop.example/g00227/impl.sumTable"], fn := fun _ => fun
  | [d1, d2, g1] => { results := [.lit (.bool true)], args := [d1, d2], vars := [g1] }
  | _ => none }
def fnExactStoreCrashRow : OpenClaim := { program := "ytlgcciaebkfnjaagreatdoor", sum := "b02b02c046d539be3dbd1bedfd224a66eba29ba692c0521581ad17189c5d92a7", func := "loop.example/g00227/laws.FnExactStoreCrash", spec := "fnExactStoreCrash", inPlace := ["internal/reflectlite.ValueOf", "(internal/reflectlite.Value).Type", "(internal/reflectlite.Value).IsNil", "internal/reflectlite.TypeOf", "(internal/reflectlite.Value).Elem", "(internal/reflectlite.Value).Set"], unfollowed := true, recurses := true, named := ["loop.example/g00227/impl.sumTable", "errors.errorType"], apart := false, laid := [("errors.errorType", laid_errors_errorType), ("loop.example/g00227/impl.sumTable", laid_loop_example_g00227_impl_sumTable)] }
def FnExactStoreCrashSaid : Prop := fnExactStoreCrashRow.holds Tryz.pinned (OpenSpec.ofChange fnExactStoreCrashSpec)

/-- ITS FALSE NEIGHBOUR: 'it returns false'. Refute it at one input. -/
def fnExactStoreCrashWrong : ChangeSpec := { name := "fnExactStoreCrash", vars := ["loop.example/g00227/impl.sumTable"], fn := fun _ => fun
  | [d1, d2, g1] => { results := [.lit (.bool false)], args := [d1, d2], vars := [g1] }
  | _ => none }
def FnExactStoreCrashWrongFalsely : Prop := fnExactStoreCrashRow.holds Tryz.pinned (OpenSpec.ofChange fnExactStoreCrashWrong)

/- THE SECOND FORM. 'bulk': how many values and letters a reading holds, each counted each time it is reached (what is shared counts as often as it is met; a slice's spare places count too). A statement '..UptoSaid' is the law's where the arguments, and the package variables that the reading takes, are together of bulk at most 1048576: NARROWER than '..Said'. Prove '..Said' where nothing that the law and all that it calls make is longer than what came in: it says more and counts as full. Else prove '..UptoSaid'. A law counts once. -/
mutual
def uptoBulk {H : Type} : DataW H → Nat
  | .lit (.string bytes) => bytes.length + 1
  | .lit _ => 1
  | .nil => 1
  | .ptr d => uptoBulk d + 1
  | .slice elems spare => uptoBulkAll elems + uptoBulkAll spare + 1
  | .agg parts => uptoBulkAll parts + 1
  | .iface _ d => uptoBulk d + 1
  | .map entries => uptoBulkEntries entries + 1
  | .held _ => 1
def uptoBulkAll {H : Type} : List (DataW H) → Nat
  | [] => 0
  | d :: r => uptoBulk d + uptoBulkAll r
def uptoBulkEntries {H : Type} : List (Lit × DataW H) → Nat
  | [] => 0
  | x :: r => uptoBulkEntry x + uptoBulkEntries r
def uptoBulkEntry {H : Type} : Lit × DataW H → Nat
  | (.string bytes, d) => bytes.length + uptoBulk d + 1
  | (_, d) => uptoBulk d + 1
 end
def uptoSmall : (H : Type) → List (DataW H) → Bool := fun _ ds => decide (uptoBulkAll ds ≤ 1048576)
def OpenSpec.upto (s : _root_.Go.ChangeSpec) : _root_.Go.OpenSpec := { _root_.Go.OpenSpec.ofChange s with cond := some uptoSmall }

/-- 'laws.FnStore', WHERE WHAT IT READS IS OF BULK AT MOST 1048576: true; the input reads as it did. -/
def fnStoreUptoRow : OpenClaim := { program := "ytlgcciaebkfnjaagreatdoor", sum := "b02b02c046d539be3dbd1bedfd224a66eba29ba692c0521581ad17189c5d92a7", func := "loop.example/g00227/laws.FnStore", spec := "fnStore", inPlace := ["internal/abi.NoEscape", "internal/reflectlite.ValueOf", "(internal/reflectlite.Value).Type", "(internal/reflectlite.Value).IsNil", "internal/reflectlite.TypeOf", "(internal/reflectlite.Value).Elem", "(internal/reflectlite.Value).Set", "slices.overlaps[loop.example/g00227/impl.Pair]", "slices.overlaps[[]loop.example/g00227/impl.Pair]"], unfollowed := true, recurses := true, named := ["loop.example/g00227/impl.sumTable", "errors.errorType"], apart := false, laid := [("errors.errorType", laid_errors_errorType), ("loop.example/g00227/impl.sumTable", laid_loop_example_g00227_impl_sumTable)], narrowed := true }
def FnStoreUptoSaid : Prop := fnStoreUptoRow.holds Tryz.pinned (OpenSpec.upto fnStoreSpec)

/-- 'laws.FnExactStoreOk', WHERE WHAT IT READS IS OF BULK AT MOST 1048576: true; the input reads as it did. -/
def fnExactStoreOkUptoRow : OpenClaim := { program := "ytlgcciaebkfnjaagreatdoor", sum := "b02b02c046d539be3dbd1bedfd224a66eba29ba692c0521581ad17189c5d92a7", func := "loop.example/g00227/laws.FnExactStoreOk", spec := "fnExactStoreOk", inPlace := ["internal/reflectlite.ValueOf", "(internal/reflectlite.Value).Type", "(internal/reflectlite.Value).IsNil", "internal/reflectlite.TypeOf", "(internal/reflectlite.Value).Elem", "(internal/reflectlite.Value).Set"], unfollowed := true, recurses := true, named := ["loop.example/g00227/impl.sumTable", "errors.errorType"], apart := false, laid := [("errors.errorType", laid_errors_errorType), ("loop.example/g00227/impl.sumTable", laid_loop_example_g00227_impl_sumTable)], narrowed := true }
def FnExactStoreOkUptoSaid : Prop := fnExactStoreOkUptoRow.holds Tryz.pinned (OpenSpec.upto fnExactStoreOkSpec)

/-- 'laws.FnExactStoreCrash', WHERE WHAT IT READS IS OF BULK AT MOST 1048576: true; the input reads as it did. -/
def fnExactStoreCrashUptoRow : OpenClaim := { program := "ytlgcciaebkfnjaagreatdoor", sum := "b02b02c046d539be3dbd1bedfd224a66eba29ba692c0521581ad17189c5d92a7", func := "loop.example/g00227/laws.FnExactStoreCrash", spec := "fnExactStoreCrash", inPlace := ["internal/reflectlite.ValueOf", "(internal/reflectlite.Value).Type", "(internal/reflectlite.Value).IsNil", "internal/reflectlite.TypeOf", "(internal/reflectlite.Value).Elem", "(internal/reflectlite.Value).Set"], unfollowed := true, recurses := true, named := ["loop.example/g00227/impl.sumTable", "errors.errorType"], apart := false, laid := [("errors.errorType", laid_errors_errorType), ("loop.example/g00227/impl.sumTable", laid_loop_example_g00227_impl_sumTable)], narrowed := true }
def FnExactStoreCrashUptoSaid : Prop := fnExactStoreCrashUptoRow.holds Tryz.pinned (OpenSpec.upto fnExactStoreCrashSpec)

end Rows
end Go.Proofs.YtlgcciaebkfnjaaGreatDoor
