/-
  No cell of these rows narrows 'for every input' (looked for: loops, veiled, ifaces, maps, wideKeys, modest, calm, conditions, laid).
  DERIVED. THE GIVEN ROWS OF THIS SEAT. 8 by the template 'for every input the law returns true; each argument reads behind the call as it read before'; 0 by the template 'total and deterministic' (their statements: YtffpempklkkfaaaTotals.lean).
  GIVEN WITH THE SEED: the statements are not yours to turn. If you find one false, say at which input.
  Laid BY PROGRAM, IN A SANDBOX (cutbox-rows.mjs): the forced cells as the released guide's own fill.sh prints them over the translation 5ad2d58b9eac504e… (all of the seat's roots in one cut). By AI agents, Wed Nov 11 2026. No macro, syntax, notation, axiom, sorry.
-/
import Derived.Test.YtffpempklkkfaaaChecked
import GoSem.Claim
import GoSem.ClaimJoined
import GoSem.ClaimMapViews
import Derived.JoinedTies
import Derived.KernelRfl
namespace Go.Proofs.Ytffpempklkkfaaa
/- THE CELL 'sum', in the pinned program and in every row, IS THE sha256 OF THE DUMP (.gsa) THAT YtffpempklkkfaaaProg.lean LOADS. Nothing in Lean hashes anything: it is a label: what it is worth is what the hold of that sum in a sandbox is worth. -/
noncomputable def Try.pinned : Pinned := { name := "ytffpempklkkfaaa", sum := "5ad2d58b9eac504e5a8b4c4b731272ce014cfd90ef43fdcebc1ebd8a4498ab76", checked := Try.checked }
namespace Rows
def none {H : Type} : Left H := { results := [], args := [] }

/-- 'laws.FnStream': WHATEVER THE INPUT: true; the input reads as it did. -/
def fnStreamSpec : ChangeSpec := { name := "fnStream", fn := fun _ => fun
  | [d] => { results := [.lit (.bool true)], args := [d] }
  | _ => none }
def fnStreamRow : OpenClaim := { program := "ytffpempklkkfaaa", sum := "5ad2d58b9eac504e5a8b4c4b731272ce014cfd90ef43fdcebc1ebd8a4498ab76", func := "loop.example/g00227/laws.FnStream", spec := "fnStream", unfollowed := true, recurses := true, apart := false }
def FnStreamSaid : Prop := fnStreamRow.holds Try.pinned (OpenSpec.ofChange fnStreamSpec)

/-- ITS FALSE NEIGHBOUR: 'it returns false'. Refute it at one input. -/
def fnStreamWrong : ChangeSpec := { name := "fnStream", fn := fun _ => fun
  | [d] => { results := [.lit (.bool false)], args := [d] }
  | _ => none }
def FnStreamWrongFalsely : Prop := fnStreamRow.holds Try.pinned (OpenSpec.ofChange fnStreamWrong)

/-- 'laws.FnExactStreamOk': WHATEVER THE INPUT: true; the input reads as it did. -/
def fnExactStreamOkSpec : ChangeSpec := { name := "fnExactStreamOk", fn := fun _ => fun
  | [d] => { results := [.lit (.bool true)], args := [d] }
  | _ => none }
def fnExactStreamOkRow : OpenClaim := { program := "ytffpempklkkfaaa", sum := "5ad2d58b9eac504e5a8b4c4b731272ce014cfd90ef43fdcebc1ebd8a4498ab76", func := "loop.example/g00227/laws.FnExactStreamOk", spec := "fnExactStreamOk", unfollowed := true, recurses := true, apart := false }
def FnExactStreamOkSaid : Prop := fnExactStreamOkRow.holds Try.pinned (OpenSpec.ofChange fnExactStreamOkSpec)

/-- ITS FALSE NEIGHBOUR: 'it returns false'. Refute it at one input. -/
def fnExactStreamOkWrong : ChangeSpec := { name := "fnExactStreamOk", fn := fun _ => fun
  | [d] => { results := [.lit (.bool false)], args := [d] }
  | _ => none }
def FnExactStreamOkWrongFalsely : Prop := fnExactStreamOkRow.holds Try.pinned (OpenSpec.ofChange fnExactStreamOkWrong)

/-- 'laws.FnExactStreamPut': WHATEVER THE INPUT: true; the input reads as it did. -/
def fnExactStreamPutSpec : ChangeSpec := { name := "fnExactStreamPut", fn := fun _ => fun
  | [d1, d2, d3] => { results := [.lit (.bool true)], args := [d1, d2, d3] }
  | _ => none }
def fnExactStreamPutRow : OpenClaim := { program := "ytffpempklkkfaaa", sum := "5ad2d58b9eac504e5a8b4c4b731272ce014cfd90ef43fdcebc1ebd8a4498ab76", func := "loop.example/g00227/laws.FnExactStreamPut", spec := "fnExactStreamPut", unfollowed := true, recurses := true, apart := false }
def FnExactStreamPutSaid : Prop := fnExactStreamPutRow.holds Try.pinned (OpenSpec.ofChange fnExactStreamPutSpec)

/-- ITS FALSE NEIGHBOUR: 'it returns false'. Refute it at one input. -/
def fnExactStreamPutWrong : ChangeSpec := { name := "fnExactStreamPut", fn := fun _ => fun
  | [d1, d2, d3] => { results := [.lit (.bool false)], args := [d1, d2, d3] }
  | _ => none }
def FnExactStreamPutWrongFalsely : Prop := fnExactStreamPutRow.holds Try.pinned (OpenSpec.ofChange fnExactStreamPutWrong)

/-- 'laws.FnExactStreamTrim': WHATEVER THE INPUT: true; the input reads as it did. -/
def fnExactStreamTrimSpec : ChangeSpec := { name := "fnExactStreamTrim", fn := fun _ => fun
  | [d1, d2, d3] => { results := [.lit (.bool true)], args := [d1, d2, d3] }
  | _ => none }
def fnExactStreamTrimRow : OpenClaim := { program := "ytffpempklkkfaaa", sum := "5ad2d58b9eac504e5a8b4c4b731272ce014cfd90ef43fdcebc1ebd8a4498ab76", func := "loop.example/g00227/laws.FnExactStreamTrim", spec := "fnExactStreamTrim", unfollowed := true, recurses := true, apart := false }
def FnExactStreamTrimSaid : Prop := fnExactStreamTrimRow.holds Try.pinned (OpenSpec.ofChange fnExactStreamTrimSpec)

/-- ITS FALSE NEIGHBOUR: 'it returns false'. Refute it at one input. -/
def fnExactStreamTrimWrong : ChangeSpec := { name := "fnExactStreamTrim", fn := fun _ => fun
  | [d1, d2, d3] => { results := [.lit (.bool false)], args := [d1, d2, d3] }
  | _ => none }
def FnExactStreamTrimWrongFalsely : Prop := fnExactStreamTrimRow.holds Try.pinned (OpenSpec.ofChange fnExactStreamTrimWrong)

/-- 'laws.FnExactStreamRead': WHATEVER THE INPUT: true; the input reads as it did. -/
def fnExactStreamReadSpec : ChangeSpec := { name := "fnExactStreamRead", fn := fun _ => fun
  | [d1, d2, d3] => { results := [.lit (.bool true)], args := [d1, d2, d3] }
  | _ => none }
def fnExactStreamReadRow : OpenClaim := { program := "ytffpempklkkfaaa", sum := "5ad2d58b9eac504e5a8b4c4b731272ce014cfd90ef43fdcebc1ebd8a4498ab76", func := "loop.example/g00227/laws.FnExactStreamRead", spec := "fnExactStreamRead", unfollowed := true, recurses := true, apart := false }
def FnExactStreamReadSaid : Prop := fnExactStreamReadRow.holds Try.pinned (OpenSpec.ofChange fnExactStreamReadSpec)

/-- ITS FALSE NEIGHBOUR: 'it returns false'. Refute it at one input. -/
def fnExactStreamReadWrong : ChangeSpec := { name := "fnExactStreamRead", fn := fun _ => fun
  | [d1, d2, d3] => { results := [.lit (.bool false)], args := [d1, d2, d3] }
  | _ => none }
def FnExactStreamReadWrongFalsely : Prop := fnExactStreamReadRow.holds Try.pinned (OpenSpec.ofChange fnExactStreamReadWrong)

/-- 'laws.FnExactStreamSeek': WHATEVER THE INPUT: true; the input reads as it did. -/
def fnExactStreamSeekSpec : ChangeSpec := { name := "fnExactStreamSeek", fn := fun _ => fun
  | [d1, d2] => { results := [.lit (.bool true)], args := [d1, d2] }
  | _ => none }
def fnExactStreamSeekRow : OpenClaim := { program := "ytffpempklkkfaaa", sum := "5ad2d58b9eac504e5a8b4c4b731272ce014cfd90ef43fdcebc1ebd8a4498ab76", func := "loop.example/g00227/laws.FnExactStreamSeek", spec := "fnExactStreamSeek", unfollowed := true, recurses := true, apart := false }
def FnExactStreamSeekSaid : Prop := fnExactStreamSeekRow.holds Try.pinned (OpenSpec.ofChange fnExactStreamSeekSpec)

/-- ITS FALSE NEIGHBOUR: 'it returns false'. Refute it at one input. -/
def fnExactStreamSeekWrong : ChangeSpec := { name := "fnExactStreamSeek", fn := fun _ => fun
  | [d1, d2] => { results := [.lit (.bool false)], args := [d1, d2] }
  | _ => none }
def FnExactStreamSeekWrongFalsely : Prop := fnExactStreamSeekRow.holds Try.pinned (OpenSpec.ofChange fnExactStreamSeekWrong)

/-- 'laws.FnExactStreamMark': WHATEVER THE INPUT: true; the input reads as it did. -/
def fnExactStreamMarkSpec : ChangeSpec := { name := "fnExactStreamMark", fn := fun _ => fun
  | [d1, d2, d3] => { results := [.lit (.bool true)], args := [d1, d2, d3] }
  | _ => none }
def fnExactStreamMarkRow : OpenClaim := { program := "ytffpempklkkfaaa", sum := "5ad2d58b9eac504e5a8b4c4b731272ce014cfd90ef43fdcebc1ebd8a4498ab76", func := "loop.example/g00227/laws.FnExactStreamMark", spec := "fnExactStreamMark", inPlace := ["slices.overlaps[loop.example/g00227/impl.Mark]"], unfollowed := true, recurses := true, apart := false }
def FnExactStreamMarkSaid : Prop := fnExactStreamMarkRow.holds Try.pinned (OpenSpec.ofChange fnExactStreamMarkSpec)

/-- ITS FALSE NEIGHBOUR: 'it returns false'. Refute it at one input. -/
def fnExactStreamMarkWrong : ChangeSpec := { name := "fnExactStreamMark", fn := fun _ => fun
  | [d1, d2, d3] => { results := [.lit (.bool false)], args := [d1, d2, d3] }
  | _ => none }
def FnExactStreamMarkWrongFalsely : Prop := fnExactStreamMarkRow.holds Try.pinned (OpenSpec.ofChange fnExactStreamMarkWrong)

/-- 'laws.FnExactStreamMarked': WHATEVER THE INPUT: true; the input reads as it did. -/
def fnExactStreamMarkedSpec : ChangeSpec := { name := "fnExactStreamMarked", fn := fun _ => fun
  | [d1, d2] => { results := [.lit (.bool true)], args := [d1, d2] }
  | _ => none }
def fnExactStreamMarkedRow : OpenClaim := { program := "ytffpempklkkfaaa", sum := "5ad2d58b9eac504e5a8b4c4b731272ce014cfd90ef43fdcebc1ebd8a4498ab76", func := "loop.example/g00227/laws.FnExactStreamMarked", spec := "fnExactStreamMarked", apart := false }
def FnExactStreamMarkedSaid : Prop := fnExactStreamMarkedRow.holds Try.pinned (OpenSpec.ofChange fnExactStreamMarkedSpec)

/-- ITS FALSE NEIGHBOUR: 'it returns false'. Refute it at one input. -/
def fnExactStreamMarkedWrong : ChangeSpec := { name := "fnExactStreamMarked", fn := fun _ => fun
  | [d1, d2] => { results := [.lit (.bool false)], args := [d1, d2] }
  | _ => none }
def FnExactStreamMarkedWrongFalsely : Prop := fnExactStreamMarkedRow.holds Try.pinned (OpenSpec.ofChange fnExactStreamMarkedWrong)

/- THE SECOND FORM. 'bulk': how many values and letters a reading holds, each counted each time it is reached (what is shared counts as often as it is met; a slice's spare places count too). A statement '..UptoSaid' is the law's where the arguments, and the package variables that the reading takes, are together of bulk at most 1048576: NARROWER than '..Said'. Prove '..Said' where nothing that the law and all that it calls make is longer than what came in: it says more and counts as full. Else prove '..UptoSaid'. A law counts once. -/
mutual
def uptoBulk {H : Type} : DataW H → Nat
  | .lit (.string bytes) => bytes.length + 1
  | .lit _ => 1
  | .nil => 1
  | .ptr d => uptoBulk d + 1
  | .slice elems spare => uptoBulkAll elems + uptoBulkAll spare + 1
  | .agg parts => uptoBulkAll parts + 1
  | .iface _ d => uptoBulk d + 1
  | .map entries => uptoBulkEntries entries + 1
  | .held _ => 1
def uptoBulkAll {H : Type} : List (DataW H) → Nat
  | [] => 0
  | d :: r => uptoBulk d + uptoBulkAll r
def uptoBulkEntries {H : Type} : List (Lit × DataW H) → Nat
  | [] => 0
  | x :: r => uptoBulkEntry x + uptoBulkEntries r
def uptoBulkEntry {H : Type} : Lit × DataW H → Nat
  | (.string bytes, d) => bytes.length + uptoBulk d + 1
  | (_, d) => uptoBulk d + 1
 end
def uptoSmall : (H : Type) → List (DataW H) → Bool := fun _ ds => decide (uptoBulkAll ds ≤ 1048576)
def OpenSpec.upto (s : _root_.Go.ChangeSpec) : _root_.Go.OpenSpec := { _root_.Go.OpenSpec.ofChange s with cond := some uptoSmall }

/-- 'laws.FnStream', WHERE WHAT IT READS IS OF BULK AT MOST 1048576: true; the input reads as it did. -/
def fnStreamUptoRow : OpenClaim := { program := "ytffpempklkkfaaa", sum := "5ad2d58b9eac504e5a8b4c4b731272ce014cfd90ef43fdcebc1ebd8a4498ab76", func := "loop.example/g00227/laws.FnStream", spec := "fnStream", unfollowed := true, recurses := true, apart := false, narrowed := true }
def FnStreamUptoSaid : Prop := fnStreamUptoRow.holds Try.pinned (OpenSpec.upto fnStreamSpec)

/-- 'laws.FnExactStreamOk', WHERE WHAT IT READS IS OF BULK AT MOST 1048576: true; the input reads as it did. -/
def fnExactStreamOkUptoRow : OpenClaim := { program := "ytffpempklkkfaaa", sum := "5ad2d58b9eac504e5a8b4c4b731272ce014cfd90ef43fdcebc1ebd8a4498ab76", func := "loop.example/g00227/laws.FnExactStreamOk", spec := "fnExactStreamOk", unfollowed := true, recurses := true, apart := false, narrowed := true }
def FnExactStreamOkUptoSaid : Prop := fnExactStreamOkUptoRow.holds Try.pinned (OpenSpec.upto fnExactStreamOkSpec)

/-- 'laws.FnExactStreamPut', WHERE WHAT IT READS IS OF BULK AT MOST 1048576: true; the input reads as it did. -/
def fnExactStreamPutUptoRow : OpenClaim := { program := "ytffpempklkkfaaa", sum := "5ad2d58b9eac504e5a8b4c4b731272ce014cfd90ef43fdcebc1ebd8a4498ab76", func := "loop.example/g00227/laws.FnExactStreamPut", spec := "fnExactStreamPut", unfollowed := true, recurses := true, apart := false, narrowed := true }
def FnExactStreamPutUptoSaid : Prop := fnExactStreamPutUptoRow.holds Try.pinned (OpenSpec.upto fnExactStreamPutSpec)

/-- 'laws.FnExactStreamTrim', WHERE WHAT IT READS IS OF BULK AT MOST 1048576: true; the input reads as it did. -/
def fnExactStreamTrimUptoRow : OpenClaim := { program := "ytffpempklkkfaaa", sum := "5ad2d58b9eac504e5a8b4c4b731272ce014cfd90ef43fdcebc1ebd8a4498ab76", func := "loop.example/g00227/laws.FnExactStreamTrim", spec := "fnExactStreamTrim", unfollowed := true, recurses := true, apart := false, narrowed := true }
def FnExactStreamTrimUptoSaid : Prop := fnExactStreamTrimUptoRow.holds Try.pinned (OpenSpec.upto fnExactStreamTrimSpec)

/-- 'laws.FnExactStreamRead', WHERE WHAT IT READS IS OF BULK AT MOST 1048576: true; the input reads as it did. -/
def fnExactStreamReadUptoRow : OpenClaim := { program := "ytffpempklkkfaaa", sum := "5ad2d58b9eac504e5a8b4c4b731272ce014cfd90ef43fdcebc1ebd8a4498ab76", func := "loop.example/g00227/laws.FnExactStreamRead", spec := "fnExactStreamRead", unfollowed := true, recurses := true, apart := false, narrowed := true }
def FnExactStreamReadUptoSaid : Prop := fnExactStreamReadUptoRow.holds Try.pinned (OpenSpec.upto fnExactStreamReadSpec)

/-- 'laws.FnExactStreamSeek', WHERE WHAT IT READS IS OF BULK AT MOST 1048576: true; the input reads as it did. -/
def fnExactStreamSeekUptoRow : OpenClaim := { program := "ytffpempklkkfaaa", sum := "5ad2d58b9eac504e5a8b4c4b731272ce014cfd90ef43fdcebc1ebd8a4498ab76", func := "loop.example/g00227/laws.FnExactStreamSeek", spec := "fnExactStreamSeek", unfollowed := true, recurses := true, apart := false, narrowed := true }
def FnExactStreamSeekUptoSaid : Prop := fnExactStreamSeekUptoRow.holds Try.pinned (OpenSpec.upto fnExactStreamSeekSpec)

/-- 'laws.FnExactStreamMark', WHERE WHAT IT READS IS OF BULK AT MOST 1048576: true; the input reads as it did. -/
def fnExactStreamMarkUptoRow : OpenClaim := { program := "ytffpempklkkfaaa", sum := "5ad2d58b9eac504e5a8b4c4b731272ce014cfd90ef43fdcebc1ebd8a4498ab76", func := "loop.example/g00227/laws.FnExactStreamMark", spec := "fnExactStreamMark", inPlace := ["slices.overlaps[loop.example/g00227/impl.Mark]"], unfollowed := true, recurses := true, apart := false, narrowed := true }
def FnExactStreamMarkUptoSaid : Prop := fnExactStreamMarkUptoRow.holds Try.pinned (OpenSpec.upto fnExactStreamMarkSpec)

/-- 'laws.FnExactStreamMarked', WHERE WHAT IT READS IS OF BULK AT MOST 1048576: true; the input reads as it did. -/
def fnExactStreamMarkedUptoRow : OpenClaim := { program := "ytffpempklkkfaaa", sum := "5ad2d58b9eac504e5a8b4c4b731272ce014cfd90ef43fdcebc1ebd8a4498ab76", func := "loop.example/g00227/laws.FnExactStreamMarked", spec := "fnExactStreamMarked", apart := false, narrowed := true }
def FnExactStreamMarkedUptoSaid : Prop := fnExactStreamMarkedUptoRow.holds Try.pinned (OpenSpec.upto fnExactStreamMarkedSpec)

end Rows
end Go.Proofs.Ytffpempklkkfaaa
