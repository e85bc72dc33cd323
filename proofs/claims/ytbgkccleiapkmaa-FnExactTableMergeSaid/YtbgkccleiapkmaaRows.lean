/-
  No cell of these rows narrows 'for every input' (looked for: loops, veiled, ifaces, maps, wideKeys, modest, calm, conditions, laid).
  DERIVED. THE GIVEN ROWS OF THIS SEAT. 10 by the template 'for every input the law returns true; each argument reads behind the call as it read before'; 0 by the template 'total and deterministic' (their statements: YtbgkccleiapkmaaTotals.lean).
  GIVEN WITH THE SEED: the statements are not yours to turn. If you find one false, say at which input.
  Laid BY PROGRAM, IN A SANDBOX (cutbox-rows.mjs): the forced cells as the released guide's own fill.sh prints them over the translation 02367b018f49f6ab… (all of the seat's roots in one cut). By AI agents, Wed Nov 11 2026. No macro, syntax, notation, axiom, sorry.
-/
import Derived.Test.YtbgkccleiapkmaaChecked
import GoSem.Claim
import GoSem.ClaimJoined
import GoSem.ClaimMapViews
import Derived.JoinedTies
import Derived.KernelRfl
namespace Go.Proofs.Ytbgkccleiapkmaa
/- THE CELL 'sum', in the pinned program and in every row, IS THE sha256 OF THE DUMP (.gsa) THAT YtbgkccleiapkmaaProg.lean LOADS. Nothing in Lean hashes anything: it is a label: what it is worth is what the hold of that sum in a sandbox is worth. -/
noncomputable def Try.pinned : Pinned := { name := "ytbgkccleiapkmaa", sum := "02367b018f49f6abb9ae0da626890fa05435567b02cfba63c555b40678197f5c", checked := Try.checked }
namespace Rows
def none {H : Type} : Left H := { results := [], args := [] }

/-- 'laws.FnTable': WHATEVER THE INPUT: true; the input reads as it did. -/
def fnTableSpec : ChangeSpec := { name := "fnTable", fn := fun _ => fun
  | [d] => { results := [.lit (.bool true)], args := [d] }
  | _ => none }
def fnTableRow : OpenClaim := { program := "ytbgkccleiapkmaa", sum := "02367b018f49f6abb9ae0da626890fa05435567b02cfba63c555b40678197f5c", func := "loop.example/g00227/laws.FnTable", spec := "fnTable", inPlace := ["slices.overlaps[loop.example/g00227/impl.Pair]"], unfollowed := true, recurses := true, apart := false }
def FnTableSaid : Prop := fnTableRow.holds Try.pinned (OpenSpec.ofChange fnTableSpec)

/-- ITS FALSE NEIGHBOUR: 'it returns false'. Refute it at one input. -/
def fnTableWrong : ChangeSpec := { name := "fnTable", fn := fun _ => fun
  | [d] => { results := [.lit (.bool false)], args := [d] }
  | _ => none }
def FnTableWrongFalsely : Prop := fnTableRow.holds Try.pinned (OpenSpec.ofChange fnTableWrong)

/-- 'laws.FnMerged': WHATEVER THE INPUT: true; the input reads as it did. -/
def fnMergedSpec : ChangeSpec := { name := "fnMerged", fn := fun _ => fun
  | [d] => { results := [.lit (.bool true)], args := [d] }
  | _ => none }
def fnMergedRow : OpenClaim := { program := "ytbgkccleiapkmaa", sum := "02367b018f49f6abb9ae0da626890fa05435567b02cfba63c555b40678197f5c", func := "loop.example/g00227/laws.FnMerged", spec := "fnMerged", inPlace := ["slices.overlaps[[]loop.example/g00227/impl.Pair]"], unfollowed := true, recurses := true, apart := false }
def FnMergedSaid : Prop := fnMergedRow.holds Try.pinned (OpenSpec.ofChange fnMergedSpec)

/-- ITS FALSE NEIGHBOUR: 'it returns false'. Refute it at one input. -/
def fnMergedWrong : ChangeSpec := { name := "fnMerged", fn := fun _ => fun
  | [d] => { results := [.lit (.bool false)], args := [d] }
  | _ => none }
def FnMergedWrongFalsely : Prop := fnMergedRow.holds Try.pinned (OpenSpec.ofChange fnMergedWrong)

/-- 'laws.FnExactTableOk': WHATEVER THE INPUT: true; the input reads as it did. -/
def fnExactTableOkSpec : ChangeSpec := { name := "fnExactTableOk", fn := fun _ => fun
  | [d] => { results := [.lit (.bool true)], args := [d] }
  | _ => none }
def fnExactTableOkRow : OpenClaim := { program := "ytbgkccleiapkmaa", sum := "02367b018f49f6abb9ae0da626890fa05435567b02cfba63c555b40678197f5c", func := "loop.example/g00227/laws.FnExactTableOk", spec := "fnExactTableOk", unfollowed := true, recurses := true, apart := false }
def FnExactTableOkSaid : Prop := fnExactTableOkRow.holds Try.pinned (OpenSpec.ofChange fnExactTableOkSpec)

/-- ITS FALSE NEIGHBOUR: 'it returns false'. Refute it at one input. -/
def fnExactTableOkWrong : ChangeSpec := { name := "fnExactTableOk", fn := fun _ => fun
  | [d] => { results := [.lit (.bool false)], args := [d] }
  | _ => none }
def FnExactTableOkWrongFalsely : Prop := fnExactTableOkRow.holds Try.pinned (OpenSpec.ofChange fnExactTableOkWrong)

/-- 'laws.FnExactTableGet': WHATEVER THE INPUT: true; the input reads as it did. -/
def fnExactTableGetSpec : ChangeSpec := { name := "fnExactTableGet", fn := fun _ => fun
  | [d1, d2] => { results := [.lit (.bool true)], args := [d1, d2] }
  | _ => none }
def fnExactTableGetRow : OpenClaim := { program := "ytbgkccleiapkmaa", sum := "02367b018f49f6abb9ae0da626890fa05435567b02cfba63c555b40678197f5c", func := "loop.example/g00227/laws.FnExactTableGet", spec := "fnExactTableGet", unfollowed := true, recurses := true, apart := false }
def FnExactTableGetSaid : Prop := fnExactTableGetRow.holds Try.pinned (OpenSpec.ofChange fnExactTableGetSpec)

/-- ITS FALSE NEIGHBOUR: 'it returns false'. Refute it at one input. -/
def fnExactTableGetWrong : ChangeSpec := { name := "fnExactTableGet", fn := fun _ => fun
  | [d1, d2] => { results := [.lit (.bool false)], args := [d1, d2] }
  | _ => none }
def FnExactTableGetWrongFalsely : Prop := fnExactTableGetRow.holds Try.pinned (OpenSpec.ofChange fnExactTableGetWrong)

/-- 'laws.FnExactTablePut': WHATEVER THE INPUT: true; the input reads as it did. -/
def fnExactTablePutSpec : ChangeSpec := { name := "fnExactTablePut", fn := fun _ => fun
  | [d1, d2, d3] => { results := [.lit (.bool true)], args := [d1, d2, d3] }
  | _ => none }
def fnExactTablePutRow : OpenClaim := { program := "ytbgkccleiapkmaa", sum := "02367b018f49f6abb9ae0da626890fa05435567b02cfba63c555b40678197f5c", func := "loop.example/g00227/laws.FnExactTablePut", spec := "fnExactTablePut", inPlace := ["slices.overlaps[loop.example/g00227/impl.Pair]"], unfollowed := true, recurses := true, apart := false }
def FnExactTablePutSaid : Prop := fnExactTablePutRow.holds Try.pinned (OpenSpec.ofChange fnExactTablePutSpec)

/-- ITS FALSE NEIGHBOUR: 'it returns false'. Refute it at one input. -/
def fnExactTablePutWrong : ChangeSpec := { name := "fnExactTablePut", fn := fun _ => fun
  | [d1, d2, d3] => { results := [.lit (.bool false)], args := [d1, d2, d3] }
  | _ => none }
def FnExactTablePutWrongFalsely : Prop := fnExactTablePutRow.holds Try.pinned (OpenSpec.ofChange fnExactTablePutWrong)

/-- 'laws.FnExactTableDrop': WHATEVER THE INPUT: true; the input reads as it did. -/
def fnExactTableDropSpec : ChangeSpec := { name := "fnExactTableDrop", fn := fun _ => fun
  | [d1, d2] => { results := [.lit (.bool true)], args := [d1, d2] }
  | _ => none }
def fnExactTableDropRow : OpenClaim := { program := "ytbgkccleiapkmaa", sum := "02367b018f49f6abb9ae0da626890fa05435567b02cfba63c555b40678197f5c", func := "loop.example/g00227/laws.FnExactTableDrop", spec := "fnExactTableDrop", inPlace := ["slices.overlaps[loop.example/g00227/impl.Pair]"], unfollowed := true, recurses := true, apart := false }
def FnExactTableDropSaid : Prop := fnExactTableDropRow.holds Try.pinned (OpenSpec.ofChange fnExactTableDropSpec)

/-- ITS FALSE NEIGHBOUR: 'it returns false'. Refute it at one input. -/
def fnExactTableDropWrong : ChangeSpec := { name := "fnExactTableDrop", fn := fun _ => fun
  | [d1, d2] => { results := [.lit (.bool false)], args := [d1, d2] }
  | _ => none }
def FnExactTableDropWrongFalsely : Prop := fnExactTableDropRow.holds Try.pinned (OpenSpec.ofChange fnExactTableDropWrong)

/-- 'laws.FnExactTableFlush': WHATEVER THE INPUT: true; the input reads as it did. -/
def fnExactTableFlushSpec : ChangeSpec := { name := "fnExactTableFlush", fn := fun _ => fun
  | [d] => { results := [.lit (.bool true)], args := [d] }
  | _ => none }
def fnExactTableFlushRow : OpenClaim := { program := "ytbgkccleiapkmaa", sum := "02367b018f49f6abb9ae0da626890fa05435567b02cfba63c555b40678197f5c", func := "loop.example/g00227/laws.FnExactTableFlush", spec := "fnExactTableFlush", inPlace := ["slices.overlaps[[]loop.example/g00227/impl.Pair]"], unfollowed := true, recurses := true, apart := false }
def FnExactTableFlushSaid : Prop := fnExactTableFlushRow.holds Try.pinned (OpenSpec.ofChange fnExactTableFlushSpec)

/-- ITS FALSE NEIGHBOUR: 'it returns false'. Refute it at one input. -/
def fnExactTableFlushWrong : ChangeSpec := { name := "fnExactTableFlush", fn := fun _ => fun
  | [d] => { results := [.lit (.bool false)], args := [d] }
  | _ => none }
def FnExactTableFlushWrongFalsely : Prop := fnExactTableFlushRow.holds Try.pinned (OpenSpec.ofChange fnExactTableFlushWrong)

/-- 'laws.FnExactTableMerge': WHATEVER THE INPUT: true; the input reads as it did. -/
def fnExactTableMergeSpec : ChangeSpec := { name := "fnExactTableMerge", fn := fun _ => fun
  | [d1, d2] => { results := [.lit (.bool true)], args := [d1, d2] }
  | _ => none }
def fnExactTableMergeRow : OpenClaim := { program := "ytbgkccleiapkmaa", sum := "02367b018f49f6abb9ae0da626890fa05435567b02cfba63c555b40678197f5c", func := "loop.example/g00227/laws.FnExactTableMerge", spec := "fnExactTableMerge", inPlace := ["slices.overlaps[[]loop.example/g00227/impl.Pair]"], unfollowed := true, recurses := true, apart := false }
def FnExactTableMergeSaid : Prop := fnExactTableMergeRow.holds Try.pinned (OpenSpec.ofChange fnExactTableMergeSpec)

/-- ITS FALSE NEIGHBOUR: 'it returns false'. Refute it at one input. -/
def fnExactTableMergeWrong : ChangeSpec := { name := "fnExactTableMerge", fn := fun _ => fun
  | [d1, d2] => { results := [.lit (.bool false)], args := [d1, d2] }
  | _ => none }
def FnExactTableMergeWrongFalsely : Prop := fnExactTableMergeRow.holds Try.pinned (OpenSpec.ofChange fnExactTableMergeWrong)

/-- 'laws.FnExactTableScan': WHATEVER THE INPUT: true; the input reads as it did. -/
def fnExactTableScanSpec : ChangeSpec := { name := "fnExactTableScan", fn := fun _ => fun
  | [d1, d2, d3] => { results := [.lit (.bool true)], args := [d1, d2, d3] }
  | _ => none }
def fnExactTableScanRow : OpenClaim := { program := "ytbgkccleiapkmaa", sum := "02367b018f49f6abb9ae0da626890fa05435567b02cfba63c555b40678197f5c", func := "loop.example/g00227/laws.FnExactTableScan", spec := "fnExactTableScan", unfollowed := true, recurses := true, apart := false }
def FnExactTableScanSaid : Prop := fnExactTableScanRow.holds Try.pinned (OpenSpec.ofChange fnExactTableScanSpec)

/-- ITS FALSE NEIGHBOUR: 'it returns false'. Refute it at one input. -/
def fnExactTableScanWrong : ChangeSpec := { name := "fnExactTableScan", fn := fun _ => fun
  | [d1, d2, d3] => { results := [.lit (.bool false)], args := [d1, d2, d3] }
  | _ => none }
def FnExactTableScanWrongFalsely : Prop := fnExactTableScanRow.holds Try.pinned (OpenSpec.ofChange fnExactTableScanWrong)

/-- 'laws.FnExactTableSize': WHATEVER THE INPUT: true; the input reads as it did. -/
def fnExactTableSizeSpec : ChangeSpec := { name := "fnExactTableSize", fn := fun _ => fun
  | [d] => { results := [.lit (.bool true)], args := [d] }
  | _ => none }
def fnExactTableSizeRow : OpenClaim := { program := "ytbgkccleiapkmaa", sum := "02367b018f49f6abb9ae0da626890fa05435567b02cfba63c555b40678197f5c", func := "loop.example/g00227/laws.FnExactTableSize", spec := "fnExactTableSize", apart := false }
def FnExactTableSizeSaid : Prop := fnExactTableSizeRow.holds Try.pinned (OpenSpec.ofChange fnExactTableSizeSpec)

/-- ITS FALSE NEIGHBOUR: 'it returns false'. Refute it at one input. -/
def fnExactTableSizeWrong : ChangeSpec := { name := "fnExactTableSize", fn := fun _ => fun
  | [d] => { results := [.lit (.bool false)], args := [d] }
  | _ => none }
def FnExactTableSizeWrongFalsely : Prop := fnExactTableSizeRow.holds Try.pinned (OpenSpec.ofChange fnExactTableSizeWrong)

/- THE SECOND FORM. 'bulk': how many values and letters a reading holds, each counted each time it is reached (what is shared counts as often as it is met; a slice's spare places count too). A statement '..UptoSaid' is the law's where the arguments, and the package variables that the reading takes, are together of bulk at most 1048576: NARROWER than '..Said'. Prove '..Said' where nothing that the law and all that it calls make is longer than what came in: it says more and counts as full. Else prove '..UptoSaid'. A law counts once. -/
mutual
def uptoBulk {H : Type} : DataW H → Nat
  | .lit (.string bytes) => bytes.length + 1
  | .lit _ => 1
  | .nil => 1
  | .ptr d => uptoBulk d + 1
  | .slice elems spare => uptoBulkAll elems + uptoBulkAll spare + 1
  | .agg parts => uptoBulkAll parts + 1
  | .iface _ d => uptoBulk d + 1
  | .map entries => uptoBulkEntries entries + 1
  | .held _ => 1
def uptoBulkAll {H : Type} : List (DataW H) → Nat
  | [] => 0
  | d :: r => uptoBulk d + uptoBulkAll r
def uptoBulkEntries {H : Type} : List (Lit × DataW H) → Nat
  | [] => 0
  | x :: r => uptoBulkEntry x + uptoBulkEntries r
def uptoBulkEntry {H : Type} : Lit × DataW H → Nat
  | (.string bytes, d) => bytes.length + uptoBulk d + 1
  | (_, d) => uptoBulk d + 1
 end
def uptoSmall : (H : Type) → List (DataW H) → Bool := fun _ ds => decide (uptoBulkAll ds ≤ 1048576)
def OpenSpec.upto (s : _root_.Go.ChangeSpec) : _root_.Go.OpenSpec := { _root_.Go.OpenSpec.ofChange s with cond := some uptoSmall }

/-- 'laws.FnTable', WHERE WHAT IT READS IS OF BULK AT MOST 1048576: true; the input reads as it did. -/
def fnTableUptoRow : OpenClaim := { program := "ytbgkccleiapkmaa", sum := "02367b018f49f6abb9ae0da626890fa05435567b02cfba63c555b40678197f5c", func := "loop.example/g00227/laws.FnTable", spec := "fnTable", inPlace := ["slices.overlaps[loop.example/g00227/impl.Pair]"], unfollowed := true, recurses := true, apart := false, narrowed := true }
def FnTableUptoSaid : Prop := fnTableUptoRow.holds Try.pinned (OpenSpec.upto fnTableSpec)

/-- 'laws.FnMerged', WHERE WHAT IT READS IS OF BULK AT MOST 1048576: true; the input reads as it did. -/
def fnMergedUptoRow : OpenClaim := { program := "ytbgkccleiapkmaa", sum := "02367b018f49f6abb9ae0da626890fa05435567b02cfba63c555b40678197f5c", func := "loop.example/g00227/laws.FnMerged", spec := "fnMerged", inPlace := ["slices.overlaps[[]loop.example/g00227/impl.Pair]"], unfollowed := true, recurses := true, apart := false, narrowed := true }
def FnMergedUptoSaid : Prop := fnMergedUptoRow.holds Try.pinned (OpenSpec.upto fnMergedSpec)

/-- 'laws.FnExactTableOk', WHERE WHAT IT READS IS OF BULK AT MOST 1048576: true; the input reads as it did. -/
def fnExactTableOkUptoRow : OpenClaim := { program := "ytbgkccleiapkmaa", sum := "02367b018f49f6abb9ae0da626890fa05435567b02cfba63c555b40678197f5c", func := "loop.example/g00227/laws.FnExactTableOk", spec := "fnExactTableOk", unfollowed := true, recurses := true, apart := false, narrowed := true }
def FnExactTableOkUptoSaid : Prop := fnExactTableOkUptoRow.holds Try.pinned (OpenSpec.upto fnExactTableOkSpec)

/-- 'laws.FnExactTableGet', WHERE WHAT IT READS IS OF BULK AT MOST 1048576: true; the input reads as it did. -/
def fnExactTableGetUptoRow : OpenClaim := { program := "ytbgkccleiapkmaa", sum := "02367b018f49f6abb9ae0da626890fa05435567b02cfba63c555b40678197f5c", func := "loop.example/g00227/laws.FnExactTableGet", spec := "fnExactTableGet", unfollowed := true, recurses := true, apart := false, narrowed := true }
def FnExactTableGetUptoSaid : Prop := fnExactTableGetUptoRow.holds Try.pinned (OpenSpec.upto fnExactTableGetSpec)

/-- 'laws.FnExactTablePut', WHERE WHAT IT READS IS OF BULK AT MOST 1048576: true; the input reads as it did. -/
def fnExactTablePutUptoRow : OpenClaim := { program := "ytbgkccleiapkmaa", sum := "02367b018f49f6abb9ae0da626890fa05435567b02cfba63c555b40678197f5c", func := "loop.example/g00227/laws.FnExactTablePut", spec := "fnExactTablePut", inPlace := ["slices.overlaps[loop.example/g00227/impl.Pair]"], unfollowed := true, recurses := true, apart := false, narrowed := true }
def FnExactTablePutUptoSaid : Prop := fnExactTablePutUptoRow.holds Try.pinned (OpenSpec.upto fnExactTablePutSpec)

/-- 'laws.FnExactTableDrop', WHERE WHAT IT READS IS OF BULK AT MOST 1048576: true; the input reads as it did. -/
def fnExactTableDropUptoRow : OpenClaim := { program := "ytbgkccleiapkmaa", sum := "02367b018f49f6abb9ae0da626890fa05435567b02cfba63c555b40678197f5c", func := "loop.example/g00227/laws.FnExactTableDrop", spec := "fnExactTableDrop", inPlace := ["slices.overlaps[loop.example/g00227/impl.Pair]"], unfollowed := true, recurses := true, apart := false, narrowed := true }
def FnExactTableDropUptoSaid : Prop := fnExactTableDropUptoRow.holds Try.pinned (OpenSpec.upto fnExactTableDropSpec)

/-- 'laws.FnExactTableFlush', WHERE WHAT IT READS IS OF BULK AT MOST 1048576: true; the input reads as it did. -/
def fnExactTableFlushUptoRow : OpenClaim := { program := "ytbgkccleiapkmaa", sum := "02367b018f49f6abb9ae0da626890fa05435567b02cfba63c555b40678197f5c", func := "loop.example/g00227/laws.FnExactTableFlush", spec := "fnExactTableFlush", inPlace := ["slices.overlaps[[]loop.example/g00227/impl.Pair]"], unfollowed := true, recurses := true, apart := false, narrowed := true }
def FnExactTableFlushUptoSaid : Prop := fnExactTableFlushUptoRow.holds Try.pinned (OpenSpec.upto fnExactTableFlushSpec)

/-- 'laws.FnExactTableMerge', WHERE WHAT IT READS IS OF BULK AT MOST 1048576: true; the input reads as it did. -/
def fnExactTableMergeUptoRow : OpenClaim := { program := "ytbgkccleiapkmaa", sum := "02367b018f49f6abb9ae0da626890fa05435567b02cfba63c555b40678197f5c", func := "loop.example/g00227/laws.FnExactTableMerge", spec := "fnExactTableMerge", inPlace := ["slices.overlaps[[]loop.example/g00227/impl.Pair]"], unfollowed := true, recurses := true, apart := false, narrowed := true }
def FnExactTableMergeUptoSaid : Prop := fnExactTableMergeUptoRow.holds Try.pinned (OpenSpec.upto fnExactTableMergeSpec)

/-- 'laws.FnExactTableScan', WHERE WHAT IT READS IS OF BULK AT MOST 1048576: true; the input reads as it did. -/
def fnExactTableScanUptoRow : OpenClaim := { program := "ytbgkccleiapkmaa", sum := "02367b018f49f6abb9ae0da626890fa05435567b02cfba63c555b40678197f5c", func := "loop.example/g00227/laws.FnExactTableScan", spec := "fnExactTableScan", unfollowed := true, recurses := true, apart := false, narrowed := true }
def FnExactTableScanUptoSaid : Prop := fnExactTableScanUptoRow.holds Try.pinned (OpenSpec.upto fnExactTableScanSpec)

/-- 'laws.FnExactTableSize', WHERE WHAT IT READS IS OF BULK AT MOST 1048576: true; the input reads as it did. -/
def fnExactTableSizeUptoRow : OpenClaim := { program := "ytbgkccleiapkmaa", sum := "02367b018f49f6abb9ae0da626890fa05435567b02cfba63c555b40678197f5c", func := "loop.example/g00227/laws.FnExactTableSize", spec := "fnExactTableSize", apart := false, narrowed := true }
def FnExactTableSizeUptoSaid : Prop := fnExactTableSizeUptoRow.holds Try.pinned (OpenSpec.upto fnExactTableSizeSpec)

end Rows
end Go.Proofs.Ytbgkccleiapkmaa
