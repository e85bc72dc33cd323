/-
  NARROWER THAN 'FOR EVERY INPUT', by the rows' own cells (each row's printed sentence says how): FnExactGetBatch: laid · FnExactRecord: laid · FnExactRecords: laid · FnExactAppend: laid · FnExactReplay: laid.
  DERIVED. THE GIVEN ROWS OF THIS SEAT. 5 by the template 'for every input the law returns true; each argument reads behind the call as it read before'; 0 by the template 'total and deterministic' (their statements: YtadlgimfdpbmdaaDoorTotals.lean).
  GIVEN WITH THE SEED: the statements are not yours to turn. If you find one false, say at which input.
  Laid BY PROGRAM, IN A SANDBOX (cutbox-rows.mjs): the forced cells as the released guide's own fill.sh prints them over the translation 9f60bd8b76b9b8ad… (all of the seat's roots in one cut). By AI agents, Wed Nov 11 2026. No macro, syntax, notation, axiom, sorry.
-/
import Derived.Test.YtadlgimfdpbmdaaDoorChecked
import GoSem.Claim
import GoSem.ClaimJoined
import GoSem.ClaimMapViews
import Derived.JoinedTies
import Derived.KernelRfl
namespace Go.Proofs.YtadlgimfdpbmdaaDoor
/- THE CELL 'sum', in the pinned program and in every row, IS THE sha256 OF THE DUMP (.gsa) THAT YtadlgimfdpbmdaaDoorProg.lean LOADS. Nothing in Lean hashes anything: it is a label: what it is worth is what the hold of that sum in a sandbox is worth. -/
noncomputable def Tryd.pinned : Pinned := { name := "ytadlgimfdpbmdaadoor", sum := "9f60bd8b76b9b8ad5e998f34b72e0ad224db4338927c1931e4784c4ede17af1e", checked := Tryd.checked }
namespace Rows
def none {H : Type} : Left H := { results := [], args := [] }

/- WHAT THE LISTED PACKAGE-LEVEL VARIABLES READ AS WHEN THE CALL BEGINS. Each datum BY PROGRAM (the guide's laid-datum.mjs) off the statement by which the dump's own 'gosem.cut.vars' lays the variable. In a bare row this is a premise. The card (YtadlgimfdpbmdaaDoorCards.lean) ties it to the program's text. -/
def laid_errors_errorType {H : Type} : DataW H := .iface "internal/reflectlite.rtype" (.agg [.ptr (.lit (.string [101, 114, 114, 111, 114]))])
def laid_loop_example_g00227_impl_sumTable {H : Type} : DataW H := .agg [.lit (.int .u32 0), .lit (.int .u32 274646895), .lit (.int .u32 549293790), .lit (.int .u32 820201905), .lit (.int .u32 1098587580), .lit (.int .u32 1361435347), .lit (.int .u32 1640403810), .lit (.int .u32 1905808397), .lit (.int .u32 2197175160), .lit (.int .u32 2460548119), .lit (.int .u32 2722870694), .lit (.int .u32 2987750089), .lit (.int .u32 3280807620), .lit (.int .u32 3553878443), .lit (.int .u32 3811616794), .lit (.int .u32 4084100981)]

/-- 'laws.FnExactGetBatch': WHATEVER THE INPUT: true; the input reads as it did. -/
def fnExactGetBatchSpec : ChangeSpec := { name := "fnExactGetBatch", fn := fun _ => fun
  | [d] => { results := [.lit (.bool true)], args := [d] }
  | _ => none }
def fnExactGetBatchRow : OpenClaim := { program := "ytadlgimfdpbmdaadoor", sum := "9f60bd8b76b9b8ad5e998f34b72e0ad224db4338927c1931e4784c4ede17af1e", func := "loop.example/g00227/laws.FnExactGetBatch", spec := "fnExactGetBatch", inPlace := ["internal/reflectlite.ValueOf", "(internal/reflectlite.Value).Type", "(internal/reflectlite.Value).IsNil", "internal/reflectlite.TypeOf", "(internal/reflectlite.Value).Elem", "(internal/reflectlite.Value).Set"], unfollowed := true, recurses := true, named := ["errors.errorType"], apart := false, laid := [("errors.errorType", laid_errors_errorType)] }
def FnExactGetBatchSaid : Prop := fnExactGetBatchRow.holds Tryd.pinned (OpenSpec.ofChange fnExactGetBatchSpec)

/-- ITS FALSE NEIGHBOUR: 'it returns false'. Refute it at one input. -/
def fnExactGetBatchWrong : ChangeSpec := { name := "fnExactGetBatch", fn := fun _ => fun
  | [d] => { results := [.lit (.bool false)], args := [d] }
  | _ => none }
def FnExactGetBatchWrongFalsely : Prop := fnExactGetBatchRow.holds Tryd.pinned (OpenSpec.ofChange fnExactGetBatchWrong)

/-- 'laws.FnExactRecord': WHATEVER THE INPUT: true; the input reads as it did. -/
def fnExactRecordSpec : ChangeSpec := { name := "fnExactRecord", vars := ["loop.example/g00227/impl.sumTable"], fn := fun _ => fun
  | [d, g1] => { results := [.lit (.bool true)], args := [d], vars := [g1] }
  | _ => none }
def fnExactRecordRow : OpenClaim := { program := "ytadlgimfdpbmdaadoor", sum := "9f60bd8b76b9b8ad5e998f34b72e0ad224db4338927c1931e4784c4ede17af1e", func := "loop.example/g00227/laws.FnExactRecord", spec := "fnExactRecord", inPlace := ["internal/abi.NoEscape"], named := ["loop.example/g00227/impl.sumTable"], apart := false, laid := [("loop.example/g00227/impl.sumTable", laid_loop_example_g00227_impl_sumTable)] }
def FnExactRecordSaid : Prop := fnExactRecordRow.holds Tryd.pinned (OpenSpec.ofChange fnExactRecordSpec)

/-- ITS FALSE NEIGHBOUR: 'it returns false'. Refute it at one input. -/
def fnExactRecordWrong : ChangeSpec := { name := "fnExactRecord", vars := ["loop.example/g00227/impl.sumTable"], fn := fun _ => fun
  | [d, g1] => { results := [.lit (.bool false)], args := [d], vars := [g1] }
  | _ => none }
def FnExactRecordWrongFalsely : Prop := fnExactRecordRow.holds Tryd.pinned (OpenSpec.ofChange fnExactRecordWrong)

/-- 'laws.FnExactRecords': WHATEVER THE INPUT: true; the input reads as it did. -/
def fnExactRecordsSpec : ChangeSpec := { name := "fnExactRecords", vars := ["loop.example/g00227/impl.sumTable"], fn := fun _ => fun
  | [d, g1] => { results := [.lit (.bool true)], args := [d], vars := [g1] }
  | _ => none }
def fnExactRecordsRow : OpenClaim := { program := "ytadlgimfdpbmdaadoor", sum := "9f60bd8b76b9b8ad5e998f34b72e0ad224db4338927c1931e4784c4ede17af1e", func := "loop.example/g00227/laws.FnExactRecords", spec := "fnExactRecords", inPlace := ["internal/reflectlite.ValueOf", "(internal/reflectlite.Value).Type", "(internal/reflectlite.Value).IsNil", "internal/reflectlite.TypeOf", "(internal/reflectlite.Value).Elem", "(internal/reflectlite.Value).Set"], unfollowed := true, recurses := true, named := ["loop.example/g00227/impl.sumTable", "errors.errorType"], apart := false, laid := [("errors.errorType", laid_errors_errorType), ("loop.example/g00227/impl.sumTable", laid_loop_example_g00227_impl_sumTable)] }
def FnExactRecordsSaid : Prop := fnExactRecordsRow.holds Tryd.pinned (OpenSpec.ofChange fnExactRecordsSpec)

/-- ITS FALSE NEIGHBOUR: 'it returns false'. Refute it at one input. -/
def fnExactRecordsWrong : ChangeSpec := { name := "fnExactRecords", vars := ["loop.example/g00227/impl.sumTable"], fn := fun _ => fun
  | [d, g1] => { results := [.lit (.bool false)], args := [d], vars := [g1] }
  | _ => none }
def FnExactRecordsWrongFalsely : Prop := fnExactRecordsRow.holds Tryd.pinned (OpenSpec.ofChange fnExactRecordsWrong)

/-- 'laws.FnExactAppend': WHATEVER THE INPUT: true; the input reads as it did. -/
def fnExactAppendSpec : ChangeSpec := { name := "fnExactAppend", vars := ["loop.example/g00227/impl.sumTable"], fn := fun _ => fun
  | [d1, d2, g1] => { results := [.lit (.bool true)], args := [d1, d2], vars := [g1] }
  | _ => none }
def fnExactAppendRow : OpenClaim := { program := "ytadlgimfdpbmdaadoor", sum := "9f60bd8b76b9b8ad5e998f34b72e0ad224db4338927c1931e4784c4ede17af1e", func := "loop.example/g00227/laws.FnExactAppend", spec := "fnExactAppend", inPlace := ["internal/abi.NoEscape"], named := ["loop.example/g00227/impl.sumTable"], apart := false, laid := [("loop.example/g00227/impl.sumTable", laid_loop_example_g00227_impl_sumTable)] }
def FnExactAppendSaid : Prop := fnExactAppendRow.holds Tryd.pinned (OpenSpec.ofChange fnExactAppendSpec)

/-- ITS FALSE NEIGHBOUR: 'it returns false'. Refute it at one input. -/
def fnExactAppendWrong : ChangeSpec := { name := "fnExactAppend", vars := ["loop.example/g00227/impl.sumTable"], fn := fun _ => fun
  | [d1, d2, g1] => { results := [.lit (.bool false)], args := [d1, d2], vars := [g1] }
  | _ => none }
def FnExactAppendWrongFalsely : Prop := fnExactAppendRow.holds Tryd.pinned (OpenSpec.ofChange fnExactAppendWrong)

/-- 'laws.FnExactReplay': WHATEVER THE INPUT: true; the input reads as it did. -/
def fnExactReplaySpec : ChangeSpec := { name := "fnExactReplay", vars := ["loop.example/g00227/impl.sumTable"], fn := fun _ => fun
  | [d, g1] => { results := [.lit (.bool true)], args := [d], vars := [g1] }
  | _ => none }
def fnExactReplayRow : OpenClaim := { program := "ytadlgimfdpbmdaadoor", sum := "9f60bd8b76b9b8ad5e998f34b72e0ad224db4338927c1931e4784c4ede17af1e", func := "loop.example/g00227/laws.FnExactReplay", spec := "fnExactReplay", inPlace := ["internal/reflectlite.ValueOf", "(internal/reflectlite.Value).Type", "(internal/reflectlite.Value).IsNil", "internal/reflectlite.TypeOf", "(internal/reflectlite.Value).Elem", "(internal/reflectlite.Value).Set"], unfollowed := true, recurses := true, named := ["loop.example/g00227/impl.sumTable", "errors.errorType"], apart := false, laid := [("errors.errorType", laid_errors_errorType), ("loop.example/g00227/impl.sumTable", laid_loop_example_g00227_impl_sumTable)] }
def FnExactReplaySaid : Prop := fnExactReplayRow.holds Tryd.pinned (OpenSpec.ofChange fnExactReplaySpec)

/-- ITS FALSE NEIGHBOUR: 'it returns false'. Refute it at one input. -/
def fnExactReplayWrong : ChangeSpec := { name := "fnExactReplay", vars := ["loop.example/g00227/impl.sumTable"], fn := fun _ => fun
  | [d, g1] => { results := [.lit (.bool false)], args := [d], vars := [g1] }
  | _ => none }
def FnExactReplayWrongFalsely : Prop := fnExactReplayRow.holds Tryd.pinned (OpenSpec.ofChange fnExactReplayWrong)

/- THE SECOND FORM. 'bulk': how many values and letters a reading holds, each counted each time it is reached (what is shared counts as often as it is met; a slice's spare places count too). A statement '..UptoSaid' is the law's where the arguments, and the package variables that the reading takes, are together of bulk at most 1048576: NARROWER than '..Said'. Prove '..Said' where nothing that the law and all that it calls make is longer than what came in: it says more and counts as full. Else prove '..UptoSaid'. A law counts once. -/
mutual
def uptoBulk {H : Type} : DataW H → Nat
  | .lit (.string bytes) => bytes.length + 1
  | .lit _ => 1
  | .nil => 1
  | .ptr d => uptoBulk d + 1
  | .slice elems spare => uptoBulkAll elems + uptoBulkAll spare + 1
  | .agg parts => uptoBulkAll parts + 1
  | .iface _ d => uptoBulk d + 1
  | .map entries => uptoBulkEntries entries + 1
  | .held _ => 1
def uptoBulkAll {H : Type} : List (DataW H) → Nat
  | [] => 0
  | d :: r => uptoBulk d + uptoBulkAll r
def uptoBulkEntries {H : Type} : List (Lit × DataW H) → Nat
  | [] => 0
  | x :: r => uptoBulkEntry x + uptoBulkEntries r
def uptoBulkEntry {H : Type} : Lit × DataW H → Nat
  | (.string bytes, d) => bytes.length + uptoBulk d + 1
  | (_, d) => uptoBulk d + 1
 end
def uptoSmall : (H : Type) → List (DataW H) → Bool := fun _ ds => decide (uptoBulkAll ds ≤ 1048576)
def OpenSpec.upto (s : _root_.Go.ChangeSpec) : _root_.Go.OpenSpec := { _root_.Go.OpenSpec.ofChange s with cond := some uptoSmall }

/-- 'laws.FnExactGetBatch', WHERE WHAT IT READS IS OF BULK AT MOST 1048576: true; the input reads as it did. -/
def fnExactGetBatchUptoRow : OpenClaim := { program := "ytadlgimfdpbmdaadoor", sum := "9f60bd8b76b9b8ad5e998f34b72e0ad224db4338927c1931e4784c4ede17af1e", func := "loop.example/g00227/laws.FnExactGetBatch", spec := "fnExactGetBatch", inPlace := ["internal/reflectlite.ValueOf", "(internal/reflectlite.Value).Type", "(internal/reflectlite.Value).IsNil", "internal/reflectlite.TypeOf", "(internal/reflectlite.Value).Elem", "(internal/reflectlite.Value).Set"], unfollowed := true, recurses := true, named := ["errors.errorType"], apart := false, laid := [("errors.errorType", laid_errors_errorType)], narrowed := true }
def FnExactGetBatchUptoSaid : Prop := fnExactGetBatchUptoRow.holds Tryd.pinned (OpenSpec.upto fnExactGetBatchSpec)

/-- 'laws.FnExactRecord', WHERE WHAT IT READS IS OF BULK AT MOST 1048576: true; the input reads as it did. -/
def fnExactRecordUptoRow : OpenClaim := { program := "ytadlgimfdpbmdaadoor", sum := "9f60bd8b76b9b8ad5e998f34b72e0ad224db4338927c1931e4784c4ede17af1e", func := "loop.example/g00227/laws.FnExactRecord", spec := "fnExactRecord", inPlace := ["internal/abi.NoEscape"], named := ["loop.example/g00227/impl.sumTable"], apart := false, laid := [("loop.example/g00227/impl.sumTable", laid_loop_example_g00227_impl_sumTable)], narrowed := true }
def FnExactRecordUptoSaid : Prop := fnExactRecordUptoRow.holds Tryd.pinned (OpenSpec.upto fnExactRecordSpec)

/-- 'laws.FnExactRecords', WHERE WHAT IT READS IS OF BULK AT MOST 1048576: true; the input reads as it did. -/
def fnExactRecordsUptoRow : OpenClaim := { program := "ytadlgimfdpbmdaadoor", sum := "9f60bd8b76b9b8ad5e998f34b72e0ad224db4338927c1931e4784c4ede17af1e", func := "loop.example/g00227/laws.FnExactRecords", spec := "fnExactRecords", inPlace := ["internal/reflectlite.ValueOf", "(internal/reflectlite.Value).Type", "(internal/reflectlite.Value).IsNil", "internal/reflectlite.TypeOf", "(internal/reflectlite.Value).Elem", "(internal/reflectlite.Value).Set"], unfollowed := true, recurses := true, named := ["loop.example/g00227/impl.sumTable", "errors.errorType"], apart := false, laid := [("errors.errorType", laid_errors_errorType), ("loop.example/g00227/impl.sumTable", laid_loop_example_g00227_impl_sumTable)], narrowed := true }
def FnExactRecordsUptoSaid : Prop := fnExactRecordsUptoRow.holds Tryd.pinned (OpenSpec.upto fnExactRecordsSpec)

/-- 'laws.FnExactAppend', WHERE WHAT IT READS IS OF BULK AT MOST 1048576: true; the input reads as it did. -/
def fnExactAppendUptoRow : OpenClaim := { program := "ytadlgimfdpbmdaadoor", sum := "9f60bd8b76b9b8ad5e998f34b72e0ad224db4338927c1931e4784c4ede17af1e", func := "loop.example/g00227/laws.FnExactAppend", spec := "fnExactAppend", inPlace := ["internal/abi.NoEscape"], named := ["loop.example/g00227/impl.sumTable"], apart := false, laid := [("loop.example/g00227/impl.sumTable", laid_loop_example_g00227_impl_sumTable)], narrowed := true }
def FnExactAppendUptoSaid : Prop := fnExactAppendUptoRow.holds Tryd.pinned (OpenSpec.upto fnExactAppendSpec)

/-- 'laws.FnExactReplay', WHERE WHAT IT READS IS OF BULK AT MOST 1048576: true; the input reads as it did. -/
def fnExactReplayUptoRow : OpenClaim := { program := "ytadlgimfdpbmdaadoor", sum := "9f60bd8b76b9b8ad5e998f34b72e0ad224db4338927c1931e4784c4ede17af1e", func := "loop.example/g00227/laws.FnExactReplay", spec := "fnExactReplay", inPlace := ["internal/reflectlite.ValueOf", "(internal/reflectlite.Value).Type", "(internal/reflectlite.Value).IsNil", "internal/reflectlite.TypeOf", "(internal/reflectlite.Value).Elem", "(internal/reflectlite.Value).Set"], unfollowed := true, recurses := true, named := ["loop.example/g00227/impl.sumTable", "errors.errorType"], apart := false, laid := [("errors.errorType", laid_errors_errorType), ("loop.example/g00227/impl.sumTable", laid_loop_example_g00227_impl_sumTable)], narrowed := true }
def FnExactReplayUptoSaid : Prop := fnExactReplayUptoRow.holds Tryd.pinned (OpenSpec.upto fnExactReplaySpec)

end Rows
end Go.Proofs.YtadlgimfdpbmdaaDoor
